/- The library's contract for strconv.Itoa, laid at this program. The writer: chains. The writer: templates. -/
import Derived.Shelf.Strconv.Itoa0
import Derived.Shelf.Strconv.Itoa1
import Derived.Shelf.Strconv.Itoa2
import Derived.Shelf.Strconv.Itoa3
import Derived.Shelf.LaysM
import Derived.Test.YtcpakcffiopfjaaGreatDoorProg
import Derived.Test.YtcpakcffiopfjaaGreatDoorF3
import Derived.Test.YtcpakcffiopfjaaGreatDoorA1
import Derived.Lib.AppendIntMem
namespace Go.Proofs.YtcpakcffiopfjaaGreatDoor
open Go.RowKit
set_option linter.unusedVariables false
set_option linter.unusedSimpArgs false
set_option maxRecDepth 100000
set_option maxHeartbeats 16000000
set_option linter.unusedVariables false
set_option linter.unusedSimpArgs false
set_option maxRecDepth 100000
set_option maxHeartbeats 16000000
section
open Go.Shelf Go.RowKit Go.Lib
def laysM171_ren:Go.Shelf.Ren:=⟨fun | 171=>124 | 243=>172 | 246=>195 | 283=>209 | 284=>210 | 285=>211 | 286=>212 | 129=>225 | 317=>224 | 318=>226 | 319=>227 | 320=>228 | 337=>230 | 338=>231 | n=>n,fun | 3=>3 | 9=>9 | 2=>2 | 4=>4 | 171=>213 | 0=>0 | 53=>47 | 37=>67 | 5=>5 | 173=>216 | 212=>226 | 51=>227 | 20=>20 | 213=>228 | 46=>188 | 232=>233 | 233=>234 | n=>n,fun | 17=>1 | 18=>2 | 19=>3 | n=>n⟩
theorem laysM171:Go.Proofs.LaysM.n171 Tryz.prog laysM171_ren:={
 mixed:=by kernel_rfl
 f129:=Tryz.func225.trans (congrArg some (by kernel_rfl))
 f171:=Tryz.func124.trans (congrArg some (by kernel_rfl))
 f243:=Tryz.func172.trans (congrArg some (by kernel_rfl))
 f246:=Tryz.func195.trans (congrArg some (by kernel_rfl))
 f283:=Tryz.func209.trans (congrArg some (by kernel_rfl))
 f284:=Tryz.func210.trans (congrArg some (by kernel_rfl))
 f285:=Tryz.func211.trans (congrArg some (by kernel_rfl))
 f286:=Tryz.func212.trans (congrArg some (by kernel_rfl))
 f317:=Tryz.func224.trans (congrArg some (by kernel_rfl))
 f318:=Tryz.func226.trans (congrArg some (by kernel_rfl))
 f319:=Tryz.func227.trans (congrArg some (by kernel_rfl))
 f320:=Tryz.func228.trans (congrArg some (by kernel_rfl))
 f337:=Tryz.func230.trans (congrArg some (by kernel_rfl))
 f338:=Tryz.func231.trans (congrArg some (by kernel_rfl))
 t0:=Tryz.underlying0
 a0:=Tryz.isAgg0
 z0:=Tryz.sizeOf0
 v0:=Tryz.zeroValue0
 t2:=Tryz.underlying2
 a2:=Tryz.isAgg2
 z2:=Tryz.sizeOf2
 v2:=Tryz.zeroValue2
 t3:=Tryz.underlying3
 a3:=Tryz.isAgg3
 z3:=Tryz.sizeOf3
 v3:=Tryz.zeroValue3
 t4:=Tryz.underlying4
 a4:=Tryz.isAgg4
 z4:=Tryz.sizeOf4
 v4:=Tryz.zeroValue4
 t5:=Tryz.underlying5
 a5:=Tryz.isAgg5
 z5:=Tryz.sizeOf5
 v5:=Tryz.zeroValue5
 t9:=Tryz.underlying9
 a9:=Tryz.isAgg9
 z9:=Tryz.sizeOf9
 v9:=Tryz.zeroValue9
 t20:=Tryz.underlying20
 a20:=Tryz.isAgg20
 z20:=Tryz.sizeOf20
 v20:=Tryz.zeroValue20
 t37:=Tryz.underlying67
 a37:=Tryz.isAgg67
 z37:=Tryz.sizeOf67
 v37:=Tryz.zeroValue67
 t46:=Tryz.underlying188
 a46:=Tryz.isAgg188
 z46:=Tryz.sizeOf188
 v46:=Tryz.zeroValue188
 t51:=Tryz.underlying227
 a51:=Tryz.isAgg227
 z51:=Tryz.sizeOf227
 v51:=Tryz.zeroValue227
 t53:=Tryz.underlying47
 a53:=Tryz.isAgg47
 z53:=Tryz.sizeOf47
 v53:=Tryz.zeroValue47
 t171:=Tryz.underlying213
 a171:=Tryz.isAgg213
 z171:=Tryz.sizeOf213
 v171:=Tryz.zeroValue213
 t173:=Tryz.underlying216
 a173:=Tryz.isAgg216
 z173:=Tryz.sizeOf216
 v173:=Tryz.zeroValue216
 t212:=Tryz.underlying226
 a212:=Tryz.isAgg226
 z212:=Tryz.sizeOf226
 v212:=Tryz.zeroValue226
 t213:=Tryz.underlying228
 a213:=Tryz.isAgg228
 z213:=Tryz.sizeOf228
 t232:=Tryz.underlying233
 a232:=Tryz.isAgg233
 z232:=Tryz.sizeOf233
 v232:=Tryz.zeroValue233
 t233:=Tryz.underlying234
 a233:=Tryz.isAgg234
 z233:=Tryz.sizeOf234
 v233:=Tryz.zeroValue234
 g17:=by kernel_rfl
 g18:=by kernel_rfl
 g19:=by kernel_rfl
 i0:=by kernel_rfl
 i2:=by kernel_rfl
 i3:=by kernel_rfl
 i4:=by kernel_rfl
 i5:=by kernel_rfl
 i9:=by kernel_rfl
 i20:=by kernel_rfl
 i37:=by kernel_rfl
 i46:=by kernel_rfl
 i51:=by kernel_rfl
 i53:=by kernel_rfl
 i171:=by kernel_rfl
 i173:=by kernel_rfl
 i212:=by kernel_rfl
 i232:=by kernel_rfl
 i233:=by kernel_rfl
 m17:=by kernel_rfl
 m18:=by kernel_rfl
 m19:=by kernel_rfl }
open Go.RowKit Go.Sort Go.Lib in
theorem itoa_any (n : Int) (h0 : -9223372036854775808 ≤ n) (h1 : n ≤ 9223372036854775807) (w : World) (htab : Lib.TabIs Tryz.prog w "internal/strconv.uint64pow10" .u64 Lib.pow10Tab) :
  Calls Tryz.prog 124 #[.int .i64 n] w fun e w'=>e=.returned (.string ⟨(Lib.itoa n).toArray⟩)∧∃k os,w'=grow (w.drewN k) os:=Any.strconv_Itoa laysM171 n h0 h1 w htab
end
theorem SA.of {w:World} {B:Nat} {l:List ByteArray} {v:Value} (h:Sl w B 1 StrV l v) (hB:B≤w.heap.size):SA w B (l.map fun s=>s.data.toList) v:=by
 obtain⟨a,c,e,h1,h2,h3⟩:=h
 refine⟨a,c,by rw[List.length_map];exact e,by rw[List.length_map];exact h1,by rw[List.length_map];exact h2,fun j s hj=>?_⟩
 rw[List.getElem?_map,Option.map_eq_some_iff] at hj
 obtain⟨y,hy,rfl⟩:=hj
 obtain⟨b,o,us,hab,hb,rfl,hc⟩:=h3 j y hy
 refine⟨b,o,hab,Nat.lt_of_lt_of_le hb hB,Nat.ne_of_lt hb,.inr hb,?_⟩
 have:=hc 0 _ rfl
 rw[strB_list]
 simpa using this
def tailK:List Gr→List Tk
 | []=>[]
 | g::l=>sgT [62]::chainK (g::l)
theorem chainK_cons (g:Gr) (l:List Gr):chainK (g::l)=groupK g++tailK l:=by
 cases l with
 | nil=>rw[chainK,tailK,List.append_nil]
 | cons h l=>rw[chainK,tailK]
def chR (c:List Gr) (k:Nat):List Tk:=if k=0 then chainK c else tailK (c.drop k)
theorem chR_step {c:List Gr} {k:Nat} {g:Gr} (h:c[k]?=some g):txs (chR c k)=(if k=0 then [] else [[62]])++(txs (assocK g.assoc)++(g.cons.map (fun s=>s.data.toList)++txs (chR c (k+1)))):=by
 have hg:=List.getElem?_eq_some_iff.1 h
 have e:c.drop k=g::c.drop (k+1):=by rw[List.drop_eq_getElem_cons hg.1,hg.2]
 have e2:txs (chainK (g::c.drop (k+1)))=txs (assocK g.assoc)++(g.cons.map (fun s=>s.data.toList)++txs (tailK (c.drop (k+1)))):=by
  rw[chainK_cons,txs_app]
  unfold groupK
  rw[txs_app,List.append_assoc]
  congr 1
  congr 1
  unfold txs
  rw[List.map_map];rfl
 unfold chR
 rw[if_neg (Nat.succ_ne_zero k)]
 by_cases h0:k=0
 ·subst h0
  rw[if_pos rfl,if_pos rfl]
  rw[List.drop_zero] at e
  rw[e,e2];rfl
 ·rw[if_neg h0,if_neg h0,e,tailK]
  show [62]::txs (chainK (g::c.drop (k+1)))=_
  rw[e2];rfl
theorem chR_end (c:List Gr) (k:Nat) (h:c.length≤k) (h1:1≤c.length):chR c k=[]:=by
 unfold chR
 rw[if_neg (by omega),List.drop_eq_nil_of_le h];rfl
theorem names_small {l:List ByteArray} (h:∀s∈l,nm s=true):∀s∈l.map (fun s=>s.data.toList),s.length≤4000:=fun s hs=>by
 obtain⟨y,hy,rfl⟩:=List.mem_map.1 hs
 rw[list_len]
 have:=nm_size (h y hy);omega
theorem wchain_any (B:Nat) (t l:List UInt8) (c:List Gr) (v:Value) (w:World) (hW:Wr w B t l) (hc:chainB c=true) (hs:Sl w B 2 (GrV w B) c v) (ht:t.length≤7000000) :
  Calls Tryz.prog 69 #[.pointer (some ⟨B,0,none⟩),v] w (WP B w (finW (putW (t,l) (txs (prioK c))))):=by
 unfold chainB btw at hc
 simp only[Bool.and_eq_true,List.all_eq_true,decide_eq_true_eq] at hc
 obtain⟨⟨hc1,_⟩,hgs⟩:=hc
 have HG:Hid (∀g∈c,groupB g=true):=hgs
 have HC1:Hid (1≤c.length):=by show _≤_;omega
 obtain⟨a,cc,rfl,hcc,hln,hr⟩:=hs
 obtain⟨n,hn⟩:∃n,c.length=n:=⟨_,rfl⟩
 have HNN:Hid (c.length=n):=hn
 have HR:=hHi hr
 rw[hn] at hcc hln ⊢
 clear hc1 hgs hr hn
 have HW0:Hid (Wr w B t l):=hW
 have HF0:Hid (FrW w w B):=FrW.refl _ _
 have HL0:Hid (t.length≤7000000):=ht
 have HBS:Hid (B<w.heap.size):=hW.lt
 clear hW ht
 have HLE:Hid (∀k g,c[k]?=some g→∃b o ga gc,a=some ⟨b,o,none⟩∧g.cons.length≤gc∧g.cons.length≤140737488355328∧∀W,FrW w W B→W.cell? ⟨b,o+k*2,none⟩=some (.int .i64 g.assoc)∧W.cell? ⟨b,o+k*2+1,none⟩=some (.slice ga g.cons.length gc)∧SA W B (g.cons.map fun s=>s.data.toList) (.slice ga g.cons.length gc)):=fun k g hg=>by
  obtain⟨b,o,us,hab,hblt,⟨v2,rfl,hv2⟩,hc⟩:=HR.out k g hg
  have hsa:=SA.of hv2 (Nat.le_of_lt HBS.out)
  obtain⟨ga,gc,e,h1,h2,_⟩:=hv2
  subst e
  exact⟨b,o,ga,gc,hab,h1,h2,fun W hf=>⟨((hf.below (Nat.le_of_lt HBS.out)).cell (p:=⟨b,o+k*2+0,none⟩) hblt).trans (hc 0 _ rfl),((hf.below (Nat.le_of_lt HBS.out)).cell (p:=⟨b,o+k*2+1,none⟩) hblt).trans (hc 1 _ rfl),hsa.keep hf⟩⟩
 clear HR
 go_enter Tryz.func69,Tryz.ntmps69
 have HP1:=hU (wput1 (⟨#[112,114,105,111]⟩) HW0.out (by have:=HL0.out;omega) (by decide))
 go_wp2_with fail
 refine hMo HP1 ?_
 rintro e a1 ⟨rfl,hw,hf⟩
 obtain⟨s1,HS1,HL1,HW1,HN1,HF1⟩:=wnx HF0 (S:=putW (t,l) [(⟨#[112,114,105,111]⟩:ByteArray).data.toList]) hw hf (putW_bd1 HL0.out (by rw[list_len];exact by decide) (by decide))
 clear hw hf
 have HPR:Hid (putW (t,l) (txs (prioK c))=putW s1 (txs (chainK c))):=by
  show _=_
  rw[←HS1.out,←putW_app];rfl
 go_wp2
 go_loopw[11] (fun iv W=>∃(k:Nat) (st:List UInt8×List UInt8),k≤n∧iv=.int .i64 k∧putW s1 (txs (chainK c))=putW st (txs (chR c k))∧Wr W B st.1 st.2∧FrW w W B∧st.1.length≤7000000) (fun iv _=>n-(intOf iv).toNat)
 case atStart=>exact⟨0,s1,Nat.zero_le _,rfl,rfl,HW1.out,HF1.out,HL1.out⟩
 case round=>
  obtain⟨k,st,hk,rfl,he,hwr,hfr,hlen⟩:=hrel
  have HE:Hid (putW s1 (txs (chainK c))=putW st (txs (chR c k))):=he
  have HW50:Hid (Wr wr B st.1 st.2):=hwr
  have HF50:Hid (FrW w wr B):=hfr
  have HL50:Hid (st.1.length≤7000000):=hlen
  clear he hwr hfr hlen
  by_cases hlt:k<n
  case neg=>
   obtain rfl:n=k:=by omega
   have HS99:Hid (putW (t,l) (txs (prioK c))=st):=by
    show _=_
    rw[HPR.out,HE.out,chR_end c n (by rw[HNN.out];exact Nat.le_refl _) HC1.out];rfl
   have HP61:=hU (end_any B st.1 st.2 wr HW50.out (by have:=HL50.out;omega))
   go_wp2_with fail
   refine hMo HP61 ?_
   rintro e a61 ⟨rfl,hw,hf⟩
   obtain⟨s61,HS61,HL61,HW61,HN61,HF61⟩:=wnx9 HF50 (S:=finW st) (n:=9000000) hw hf (Nat.le_trans (finW_len st) (by have h2:=HL50.out;omega))
   clear hw hf
   go_wp2
   go_end0
   have hfin:finW (putW (t,l) (txs (prioK c)))=s61:=by rw[HS99.out];exact HS61.out
   show WP B w (finW (putW (t,l) (txs (prioK c)))) _ _
   rw[hfin]
   exact⟨rfl,HW61.out,HF61.out⟩
  obtain⟨g,hg⟩:∃g,c[k]?=some g:=⟨c[k]'(by rw[HNN.out];exact hlt),by simp⟩
  have HGG:=hHi hg
  obtain⟨b,o,ga,gc,hab,hg1,hg2,hall⟩:=HLE.out k g hg
  subst hab
  have HALL:=hHi hall
  obtain⟨e0,e1,_⟩:=hall wr HF50.out
  have hltI:(k:Int)<n:=by omega
  have HGB:Hid (groupB g=true):=HG.out g (List.mem_of_getElem? hg)
  have HNMS:Hid (∀s∈g.cons.map (fun s=>s.data.toList),s.length≤4000):=names_small (fun s hs=>by
   have:=HGB.out
   unfold groupB at this
   simp only[Bool.and_eq_true,List.all_eq_true] at this
   exact this.2 s hs)
  have HST:Hid _:=chR_step HGG.out
  have HAS:Hid (0≤g.assoc∧g.assoc≤3):=by
   have:=HGB.out
   unfold groupB at this
   simp only[Bool.and_eq_true,decide_eq_true_eq] at this
   exact this.1.1
  clear hg hall
  by_cases hk0:k=0
  ·skip
   have HK0:=hHi hk0
   have hkI:¬(k:Int)>0:=by omega
   clear hk0
   obtain⟨a51,ha51⟩:∃qW,wr.alloc (.cells #[.int .i64 g.assoc,.slice ga g.cons.length gc] 61)=qW:=⟨_,rfl⟩
   have HN51:=kB ha51
   have HXg:=kN ha51
   have HNEg:Hid (wr.heap.size≠B):=by have:=HW50.out.lt;show _≠_;omega
   have HW51:=hHi (HW50.out.below HN51.out)
   have HF51:=hHi (HF50.out.tr (FrW.bel HN51.out))
   obtain⟨cg0_52,cg1_52⟩:=HXg.out.c2
   by_cases ha1:g.assoc=1
   case pos=>
    have HA1:=hHi ha1
    have hqa1:(g.assoc==1)=true:=by simpa using ha1
    clear ha1
    have HP53:=hU (wput1 (⟨#[108,101,102,116]⟩) HW51.out (by have:=HL50.out;omega) (by decide))
    go_wp2_with fail
    refine hMo HP53 ?_
    rintro e a53 ⟨rfl,hw,hf⟩
    obtain⟨s53,HS53,HL53,HW53,HN53,HF53⟩:=wnx HF51 (S:=putW st [(⟨#[108,101,102,116]⟩:ByteArray).data.toList]) hw hf (putW_bd1 HL50.out (by rw[list_len];exact by decide) (by decide))
    clear hw hf
    have HXg_53:=kF HN53 HXg HNEg
    have cg1_54:=HXg_53.out.cell 1 rfl
    have HASK:Hid (txs (assocK g.assoc)=[[108,101,102,116]]):=by show _=_;unfold assocK;rw[if_pos HA1.out];rfl
    have HP55:=hU (put_any B s53.1 s53.2 (g.cons.map fun s=>s.data.toList) (.slice ga g.cons.length gc) a53 HW53.out (HALL.out a53 HF53.out).2.2 HNMS.out (by have:=HL53.out;omega))
    go_wp2_with fail
    refine hMo HP55 ?_
    rintro e a55 ⟨rfl,hw,hf⟩
    obtain⟨s55,HS55,HL55,HW55,HN55,HF55⟩:=wnx HF53 (S:=putW s53 (g.cons.map fun s=>s.data.toList)) hw hf (putW_bd HL53.out HNMS.out (by decide))
    clear hw hf
    have HXg_55:=kF HN55 HXg_53 HNEg
    clear e0 e1
    go_wp2
    go_roundw
    case rel=>exact⟨k+1,s55,by omega,by go_num,by rw[HE.out,HST.out,HASK.out,if_pos HK0.out,putW_app,show putW st []=st from rfl,putW_app,HS53.out,putW_app,HS55.out],HW55.out,HF55.out,HL55.out⟩
    case measure=>simp[intOf];omega
   have HA1:=hHi ha1
   have hqa1:(g.assoc==1)=false:=by simpa using ha1
   clear ha1
   by_cases ha2:g.assoc=2
   case pos=>
    have HA2:=hHi ha2
    have hqa2:(g.assoc==2)=true:=by simpa using ha2
    clear ha2
    have HP53:=hU (wput1 (⟨#[114,105,103,104,116]⟩) HW51.out (by have:=HL50.out;omega) (by decide))
    go_wp2_with fail
    refine hMo HP53 ?_
    rintro e a53 ⟨rfl,hw,hf⟩
    obtain⟨s53,HS53,HL53,HW53,HN53,HF53⟩:=wnx HF51 (S:=putW st [(⟨#[114,105,103,104,116]⟩:ByteArray).data.toList]) hw hf (putW_bd1 HL50.out (by rw[list_len];exact by decide) (by decide))
    clear hw hf
    have HXg_53:=kF HN53 HXg HNEg
    have cg1_54:=HXg_53.out.cell 1 rfl
    have HASK:Hid (txs (assocK g.assoc)=[[114,105,103,104,116]]):=by show _=_;unfold assocK;rw[if_neg HA1.out,if_pos HA2.out];rfl
    have HP55:=hU (put_any B s53.1 s53.2 (g.cons.map fun s=>s.data.toList) (.slice ga g.cons.length gc) a53 HW53.out (HALL.out a53 HF53.out).2.2 HNMS.out (by have:=HL53.out;omega))
    go_wp2_with fail
    refine hMo HP55 ?_
    rintro e a55 ⟨rfl,hw,hf⟩
    obtain⟨s55,HS55,HL55,HW55,HN55,HF55⟩:=wnx HF53 (S:=putW s53 (g.cons.map fun s=>s.data.toList)) hw hf (putW_bd HL53.out HNMS.out (by decide))
    clear hw hf
    have HXg_55:=kF HN55 HXg_53 HNEg
    clear e0 e1
    go_wp2
    go_roundw
    case rel=>exact⟨k+1,s55,by omega,by go_num,by rw[HE.out,HST.out,HASK.out,if_pos HK0.out,putW_app,show putW st []=st from rfl,putW_app,HS53.out,putW_app,HS55.out],HW55.out,HF55.out,HL55.out⟩
    case measure=>simp[intOf];omega
   have HA2:=hHi ha2
   have hqa2:(g.assoc==2)=false:=by simpa using ha2
   clear ha2
   by_cases ha3:g.assoc=3
   case pos=>
    have HA3:=hHi ha3
    have hqa3:(g.assoc==3)=true:=by simpa using ha3
    clear ha3
    have HP53:=hU (wput1 (⟨#[110,111,110]⟩) HW51.out (by have:=HL50.out;omega) (by decide))
    go_wp2_with fail
    refine hMo HP53 ?_
    rintro e a53 ⟨rfl,hw,hf⟩
    obtain⟨s53,HS53,HL53,HW53,HN53,HF53⟩:=wnx HF51 (S:=putW st [(⟨#[110,111,110]⟩:ByteArray).data.toList]) hw hf (putW_bd1 HL50.out (by rw[list_len];exact by decide) (by decide))
    clear hw hf
    have HXg_53:=kF HN53 HXg HNEg
    have cg1_54:=HXg_53.out.cell 1 rfl
    have HASK:Hid (txs (assocK g.assoc)=[[110,111,110]]):=by show _=_;unfold assocK;rw[if_neg HA1.out,if_neg HA2.out,if_pos HA3.out];rfl
    have HP55:=hU (put_any B s53.1 s53.2 (g.cons.map fun s=>s.data.toList) (.slice ga g.cons.length gc) a53 HW53.out (HALL.out a53 HF53.out).2.2 HNMS.out (by have:=HL53.out;omega))
    go_wp2_with fail
    refine hMo HP55 ?_
    rintro e a55 ⟨rfl,hw,hf⟩
    obtain⟨s55,HS55,HL55,HW55,HN55,HF55⟩:=wnx HF53 (S:=putW s53 (g.cons.map fun s=>s.data.toList)) hw hf (putW_bd HL53.out HNMS.out (by decide))
    clear hw hf
    have HXg_55:=kF HN55 HXg_53 HNEg
    clear e0 e1
    go_wp2
    go_roundw
    case rel=>exact⟨k+1,s55,by omega,by go_num,by rw[HE.out,HST.out,HASK.out,if_pos HK0.out,putW_app,show putW st []=st from rfl,putW_app,HS53.out,putW_app,HS55.out],HW55.out,HF55.out,HL55.out⟩
    case measure=>simp[intOf];omega
   have HA3:=hHi ha3
   have hqa3:(g.assoc==3)=false:=by simpa using ha3
   clear ha3
   skip
   have HASK:Hid (txs (assocK g.assoc)=[]):=by show _=_;unfold assocK;rw[if_neg HA1.out,if_neg HA2.out,if_neg HA3.out];rfl
   have HP53:=hU (put_any B st.1 st.2 (g.cons.map fun s=>s.data.toList) (.slice ga g.cons.length gc) a51 HW51.out (HALL.out a51 HF51.out).2.2 HNMS.out (by have:=HL50.out;omega))
   go_wp2_with fail
   refine hMo HP53 ?_
   rintro e a53 ⟨rfl,hw,hf⟩
   obtain⟨s53,HS53,HL53,HW53,HN53,HF53⟩:=wnx HF51 (S:=putW st (g.cons.map fun s=>s.data.toList)) hw hf (putW_bd HL50.out HNMS.out (by decide))
   clear hw hf
   have HXg_53:=kF HN53 HXg HNEg
   clear e0 e1
   go_wp2
   go_roundw
   case rel=>exact⟨k+1,s53,by omega,by go_num,by rw[HE.out,HST.out,HASK.out,if_pos HK0.out,putW_app,show putW st []=st from rfl,putW_app,show ∀q,putW q []=q from fun _=>rfl,putW_app,HS53.out],HW53.out,HF53.out,HL53.out⟩
   case measure=>simp[intOf];omega
  have HK0:=hHi hk0
  have hkI:(k:Int)>0:=by omega
  clear hk0
  obtain⟨a51,ha51⟩:∃qW,wr.alloc (.cells #[.int .i64 g.assoc,.slice ga g.cons.length gc] 61)=qW:=⟨_,rfl⟩
  have HN51:=kB ha51
  have HXg:=kN ha51
  have HNEg:Hid (wr.heap.size≠B):=by have:=HW50.out.lt;show _≠_;omega
  have HW51:=hHi (HW50.out.below HN51.out)
  have HF51:=hHi (HF50.out.tr (FrW.bel HN51.out))
  obtain⟨cg0_52,cg1_52⟩:=HXg.out.c2
  have HP53:=hU (wput1 (⟨#[62]⟩) HW51.out (by have:=HL50.out;omega) (by decide))
  go_wp2_with fail
  refine hMo HP53 ?_
  rintro e a53 ⟨rfl,hw,hf⟩
  obtain⟨s53,HS53,HL53,HW53,HN53,HF53⟩:=wnx HF51 (S:=putW st [(⟨#[62]⟩:ByteArray).data.toList]) hw hf (putW_bd1 HL50.out (by rw[list_len];exact by decide) (by decide))
  clear hw hf
  have HXg_53:=kF HN53 HXg HNEg
  obtain⟨cg0_54,cg1_54⟩:=HXg_53.out.c2
  by_cases ha1:g.assoc=1
  case pos=>
   have HA1:=hHi ha1
   have hqa1:(g.assoc==1)=true:=by simpa using ha1
   clear ha1
   have HP55:=hU (wput1 (⟨#[108,101,102,116]⟩) HW53.out (by have:=HL53.out;omega) (by decide))
   go_wp2_with fail
   refine hMo HP55 ?_
   rintro e a55 ⟨rfl,hw,hf⟩
   obtain⟨s55,HS55,HL55,HW55,HN55,HF55⟩:=wnx HF53 (S:=putW s53 [(⟨#[108,101,102,116]⟩:ByteArray).data.toList]) hw hf (putW_bd1 HL53.out (by rw[list_len];exact by decide) (by decide))
   clear hw hf
   have HXg_55:=kF HN55 HXg_53 HNEg
   have cg1_56:=HXg_55.out.cell 1 rfl
   have HASK:Hid (txs (assocK g.assoc)=[[108,101,102,116]]):=by show _=_;unfold assocK;rw[if_pos HA1.out];rfl
   have HP57:=hU (put_any B s55.1 s55.2 (g.cons.map fun s=>s.data.toList) (.slice ga g.cons.length gc) a55 HW55.out (HALL.out a55 HF55.out).2.2 HNMS.out (by have:=HL55.out;omega))
   go_wp2_with fail
   refine hMo HP57 ?_
   rintro e a57 ⟨rfl,hw,hf⟩
   obtain⟨s57,HS57,HL57,HW57,HN57,HF57⟩:=wnx HF55 (S:=putW s55 (g.cons.map fun s=>s.data.toList)) hw hf (putW_bd HL55.out HNMS.out (by decide))
   clear hw hf
   have HXg_57:=kF HN57 HXg_55 HNEg
   clear e0 e1
   go_wp2
   go_roundw
   case rel=>exact⟨k+1,s57,by omega,by go_num,by rw[HE.out,HST.out,HASK.out,if_neg HK0.out,putW_app,HS53.out,putW_app,HS55.out,putW_app,HS57.out],HW57.out,HF57.out,HL57.out⟩
   case measure=>simp[intOf];omega
  have HA1:=hHi ha1
  have hqa1:(g.assoc==1)=false:=by simpa using ha1
  clear ha1
  by_cases ha2:g.assoc=2
  case pos=>
   have HA2:=hHi ha2
   have hqa2:(g.assoc==2)=true:=by simpa using ha2
   clear ha2
   have HP55:=hU (wput1 (⟨#[114,105,103,104,116]⟩) HW53.out (by have:=HL53.out;omega) (by decide))
   go_wp2_with fail
   refine hMo HP55 ?_
   rintro e a55 ⟨rfl,hw,hf⟩
   obtain⟨s55,HS55,HL55,HW55,HN55,HF55⟩:=wnx HF53 (S:=putW s53 [(⟨#[114,105,103,104,116]⟩:ByteArray).data.toList]) hw hf (putW_bd1 HL53.out (by rw[list_len];exact by decide) (by decide))
   clear hw hf
   have HXg_55:=kF HN55 HXg_53 HNEg
   have cg1_56:=HXg_55.out.cell 1 rfl
   have HASK:Hid (txs (assocK g.assoc)=[[114,105,103,104,116]]):=by show _=_;unfold assocK;rw[if_neg HA1.out,if_pos HA2.out];rfl
   have HP57:=hU (put_any B s55.1 s55.2 (g.cons.map fun s=>s.data.toList) (.slice ga g.cons.length gc) a55 HW55.out (HALL.out a55 HF55.out).2.2 HNMS.out (by have:=HL55.out;omega))
   go_wp2_with fail
   refine hMo HP57 ?_
   rintro e a57 ⟨rfl,hw,hf⟩
   obtain⟨s57,HS57,HL57,HW57,HN57,HF57⟩:=wnx HF55 (S:=putW s55 (g.cons.map fun s=>s.data.toList)) hw hf (putW_bd HL55.out HNMS.out (by decide))
   clear hw hf
   have HXg_57:=kF HN57 HXg_55 HNEg
   clear e0 e1
   go_wp2
   go_roundw
   case rel=>exact⟨k+1,s57,by omega,by go_num,by rw[HE.out,HST.out,HASK.out,if_neg HK0.out,putW_app,HS53.out,putW_app,HS55.out,putW_app,HS57.out],HW57.out,HF57.out,HL57.out⟩
   case measure=>simp[intOf];omega
  have HA2:=hHi ha2
  have hqa2:(g.assoc==2)=false:=by simpa using ha2
  clear ha2
  by_cases ha3:g.assoc=3
  case pos=>
   have HA3:=hHi ha3
   have hqa3:(g.assoc==3)=true:=by simpa using ha3
   clear ha3
   have HP55:=hU (wput1 (⟨#[110,111,110]⟩) HW53.out (by have:=HL53.out;omega) (by decide))
   go_wp2_with fail
   refine hMo HP55 ?_
   rintro e a55 ⟨rfl,hw,hf⟩
   obtain⟨s55,HS55,HL55,HW55,HN55,HF55⟩:=wnx HF53 (S:=putW s53 [(⟨#[110,111,110]⟩:ByteArray).data.toList]) hw hf (putW_bd1 HL53.out (by rw[list_len];exact by decide) (by decide))
   clear hw hf
   have HXg_55:=kF HN55 HXg_53 HNEg
   have cg1_56:=HXg_55.out.cell 1 rfl
   have HASK:Hid (txs (assocK g.assoc)=[[110,111,110]]):=by show _=_;unfold assocK;rw[if_neg HA1.out,if_neg HA2.out,if_pos HA3.out];rfl
   have HP57:=hU (put_any B s55.1 s55.2 (g.cons.map fun s=>s.data.toList) (.slice ga g.cons.length gc) a55 HW55.out (HALL.out a55 HF55.out).2.2 HNMS.out (by have:=HL55.out;omega))
   go_wp2_with fail
   refine hMo HP57 ?_
   rintro e a57 ⟨rfl,hw,hf⟩
   obtain⟨s57,HS57,HL57,HW57,HN57,HF57⟩:=wnx HF55 (S:=putW s55 (g.cons.map fun s=>s.data.toList)) hw hf (putW_bd HL55.out HNMS.out (by decide))
   clear hw hf
   have HXg_57:=kF HN57 HXg_55 HNEg
   clear e0 e1
   go_wp2
   go_roundw
   case rel=>exact⟨k+1,s57,by omega,by go_num,by rw[HE.out,HST.out,HASK.out,if_neg HK0.out,putW_app,HS53.out,putW_app,HS55.out,putW_app,HS57.out],HW57.out,HF57.out,HL57.out⟩
   case measure=>simp[intOf];omega
  have HA3:=hHi ha3
  have hqa3:(g.assoc==3)=false:=by simpa using ha3
  clear ha3
  skip
  have HASK:Hid (txs (assocK g.assoc)=[]):=by show _=_;unfold assocK;rw[if_neg HA1.out,if_neg HA2.out,if_neg HA3.out];rfl
  have HP55:=hU (put_any B s53.1 s53.2 (g.cons.map fun s=>s.data.toList) (.slice ga g.cons.length gc) a53 HW53.out (HALL.out a53 HF53.out).2.2 HNMS.out (by have:=HL53.out;omega))
  go_wp2_with fail
  refine hMo HP55 ?_
  rintro e a55 ⟨rfl,hw,hf⟩
  obtain⟨s55,HS55,HL55,HW55,HN55,HF55⟩:=wnx HF53 (S:=putW s53 (g.cons.map fun s=>s.data.toList)) hw hf (putW_bd HL53.out HNMS.out (by decide))
  clear hw hf
  have HXg_55:=kF HN55 HXg_53 HNEg
  clear e0 e1
  go_wp2
  go_roundw
  case rel=>exact⟨k+1,s55,by omega,by go_num,by rw[HE.out,HST.out,HASK.out,if_neg HK0.out,putW_app,HS53.out,putW_app,show ∀q,putW q []=q from fun _=>rfl,putW_app,HS55.out],HW55.out,HF55.out,HL55.out⟩
  case measure=>simp[intOf];omega
section
open Go.RowKit Go.Shelf
def Tab (B : Nat) (w : World) : Prop := Lib.TabBelow Tryz.prog B w "internal/strconv.uint64pow10" .u64 Lib.pow10Tab
theorem Tab.on {B:Nat} {w w':World} (h:Tab B w) (hb:Below B w w'):Tab B w':=Lib.TabBelow.on h hb
theorem Tab.mono {B B':Nat} {w:World} (h:Tab B w) (hB:B≤B'):Tab B' w:=fun w' hb=>h w' (hb.mono hB)
theorem Tab.nx {w w':World} (h:Tab w.heap.size w) (hb:Below w.heap.size w w'):Tab w'.heap.size w':=(h.on hb).mono hb.size
theorem Tab.fr {w w':World} {B:Nat} (h:Tab B w) (hf:FrW w w' B) (hB:B≤w.heap.size):Tab B w':=h.on (hf.below hB)
theorem Below.of_grow {w:World} (k:Nat) (os:Array Obj):Below w.heap.size w (Sort.grow (w.drewN k) os):=by
 refine⟨rfl,rfl,rfl,by simp[Sort.grow,World.drewN],fun b hb=>?_⟩
 show (w.heap++os)[b]?=w.heap[b]?
 rw[Array.getElem?_append_left hb]
theorem itoa_tab (n:Int) (h0:0≤n) (h1:n≤999999) (w:World) (h:Tab w.heap.size w):Calls Tryz.prog 124 #[.int .i64 n] w fun e w'=>e=.returned (.string (strB (Lib.decDigits n.toNat)))∧Below w.heap.size w w':=by
 refine (itoa_any n (by omega) (by omega) w h.here).mono ?_
 rintro e w' ⟨rfl,k,os,rfl⟩
 have e:Lib.itoa n=Lib.decDigits n.toNat:=by unfold Lib.itoa;rw[if_neg (by omega)]
 exact⟨by rw[e];rfl,Below.of_grow k os⟩
theorem dec_len:∀(k u:Nat),u<10 ^ (k+1)→(Lib.decDigits u).length≤k+1:=by
 intro k
 induction k with
 | zero=>intro u h;rw[Lib.decDigits,dif_pos (by simpa using h)];simp
 | succ k ih=>
  intro u h
  rw[Lib.decDigits]
  split
  ·simp
  ·rw[List.length_append]
   have:=ih (u/10) (by rw[Nat.div_lt_iff_lt_mul (by omega)];rw[Nat.pow_succ] at h;exact h)
   simp;omega
theorem dec_size {n:Int} (h:numB n=true):(strB (Lib.decDigits n.toNat)).size≤4000:=by
 unfold numB at h
 simp only[Bool.and_eq_true,decide_eq_true_eq] at h
 rw[strB_size]
 have:=dec_len 5 n.toNat (by rw[show (10:Nat) ^ (5+1)=1000000 by decide];omega)
 omega
theorem itemK_eq (x:It):itemK x=if x.kind=1 then [quoT x.text] else if x.kind=2 then [numT x.n.toNat] else if x.kind=3 then [sgT [95]] else if x.kind=4 then [sgT [47]] else if x.kind=5 then keyT [110,101,115,116]::numT x.n.toNat::sgT [40]::(itemsK x.items++[sgT [41]]) else if x.kind=6 then keyT [103,114,111,117,112]::sgT [40]::(itemsK x.items++[sgT [41]]) else []:=by
 cases x;rw[itemK];rfl
theorem itemsK_step {its:List It} {k:Nat} {x:It} (h:its[k]?=some x):txs (itemsK (its.drop k))=txs (itemK x)++txs (itemsK (its.drop (k+1))):=by
 have hg:=List.getElem?_eq_some_iff.1 h
 rw[List.drop_eq_getElem_cons hg.1,hg.2,itemsK,txs_app]
theorem itsR_at {c:Nat} {x:It} {l:List It} (h:(itsR c (x::l)).2=true):itemB x=true∧(∃c',(itsR c' x.items).2=true)∧∃c',(itsR c' l).2=true:=by
 rw[itsR] at h
 split at h
 ·rename_i hq
  refine⟨?_,?_,_,h⟩
  ·rw[itR_eq] at hq
   split at hq
   ·rename_i hc;exact hc.2
   ·cases hq
  ·rw[itR_eq] at hq
   split at hq
   ·exact⟨_,hq⟩
   ·cases hq
 ·cases h
def ItW (B f:Nat) (its:List It):Prop:=∀(c:Nat) (t l:List UInt8) (v:Value) (w:World),Wr w B t l→(itsR c its).2=true→Sl w B 4 (ItV w B f) its v→Tab B w→t.length≤7000000→Calls Tryz.prog 72 #[.pointer (some ⟨B,0,none⟩),v] w (fun e w'=>WP B w (putW (t,l) (txs (itemsK its))) e w'∧(putW (t,l) (txs (itemsK its))).1.length≤7000000)
theorem sl_keep {w w':World} {B f:Nat} {l:List It} {v:Value} (h:Sl w B 4 (ItV w B f) l v) (hf:FrW w w' B) (hB:B≤w.heap.size):Sl w' B 4 (ItV w' B f) l v:=h.keep (hf.below hB) (Nat.le_refl _) (fun _ _ _ h=>h.keep (hf.below hB) (Nat.le_refl _))
theorem within_any (B f:Nat) (its:List It) (ih:ItW B f its) (c:Nat) (t l:List UInt8) (v:Value) (w:World) (hW:Wr w B t l) (hr:(itsR c its).2=true) (hs:Sl w B 4 (ItV w B f) its v) (hTab:Tab B w) (ht:t.length≤7000000) :
  Calls Tryz.prog 125 #[.pointer (some ⟨B,0,none⟩),v] w (fun e w'=>WP B w (putW (t,l) ([40]::(txs (itemsK its)++[[41]]))) e w'∧(putW (t,l) ([40]::(txs (itemsK its)++[[41]]))).1.length≤7000000):=by
 have HIH:Hid (∀t l W,FrW w W B→Wr W B t l→t.length≤7000000→Calls Tryz.prog 72 #[.pointer (some ⟨B,0,none⟩),v] W (fun e w'=>WP B W (putW (t,l) (txs (itemsK its))) e w'∧(putW (t,l) (txs (itemsK its))).1.length≤7000000)):=fun t l W hf hw ht=>ih c t l v W hw hr (sl_keep hs hf (Nat.le_of_lt hW.lt)) (hTab.fr hf (Nat.le_of_lt hW.lt)) ht
 obtain⟨sa,sc,rfl,_,_,_⟩:=hs
 clear hr hTab ih
 have HW0:Hid (Wr w B t l):=hW
 have HF0:Hid (FrW w w B):=FrW.refl _ _
 have HL0:Hid (t.length≤7000000):=ht
 clear hW ht
 go_enter Tryz.func125,Tryz.ntmps125
 have HP1:=hU (wput1 (⟨#[40]⟩) HW0.out (by have:=HL0.out;omega) (by decide))
 go_wp2_with fail
 refine hMo HP1 ?_
 rintro e a1 ⟨rfl,hw,hf⟩
 obtain⟨s1,HS1,HL1,HW1,HN1,HF1⟩:=wnx HF0 (S:=putW (t,l) [(⟨#[40]⟩:ByteArray).data.toList]) hw hf (putW_bd1 HL0.out (by rw[list_len];exact by decide) (by decide))
 clear hw hf
 have HP2:=hU (HIH.out s1.1 s1.2 a1 HF1.out HW1.out HL1.out)
 go_wp2_with fail
 refine hMo HP2 ?_
 rintro e a2 ⟨⟨rfl,hw,hf⟩,hl⟩
 have HLX:=hHi hl
 replace hw:Wr a2 B (putW s1 (txs (itemsK its))).1 (putW s1 (txs (itemsK its))).2:=hw
 clear hl
 obtain⟨s2,hs2⟩:∃q,putW s1 (txs (itemsK its))=q:=⟨_,rfl⟩
 rw[hs2] at hw
 have HS2:Hid (putW s1 (txs (itemsK its))=s2):=hs2
 have HL2:Hid (s2.1.length≤7000000):=by rw[←hs2];exact HLX.out
 clear hs2
 have HW2:=hHi hw
 have HF2:=hHi (HF1.out.tr hf)
 clear hw hf
 have HP3:=hU (wput1 (⟨#[41]⟩) HW2.out (by have:=HL2.out;omega) (by decide))
 go_wp2_with fail
 refine hMo HP3 ?_
 rintro e a3 ⟨rfl,hw,hf⟩
 obtain⟨s3,HS3,HL3,HW3,HN3,HF3⟩:=wnx HF2 (S:=putW s2 [(⟨#[41]⟩:ByteArray).data.toList]) hw hf (putW_bd1 HL2.out (by rw[list_len];exact by decide) (by decide))
 clear hw hf
 go_wp2
 go_end0
 have hfin:putW (t,l) ([40]::(txs (itemsK its)++[[41]]))=s3:=by rw[show ([40]::(txs (itemsK its)++[[41]]):List (List UInt8))=[[40]]++(txs (itemsK its)++[[41]]) from rfl,putW_app,HS1.out,putW_app,HS2.out,HS3.out]
 show WP B w (putW (t,l) ([40]::(txs (itemsK its)++[[41]]))) _ _∧_
 rw[hfin]
 exact⟨⟨rfl,HW3.out,HF3.out⟩,HL3.out⟩
theorem items_step_any (B f:Nat) (its:List It) (ih:∀x∈its,ItW B f x.items):ItW B (f+1) its:=fun c t l v w hW hr hs hTab ht=>by
 have HIH:Hid (∀x∈its,ItW B f x.items):=ih
 have HRT:=hHi hr
 have HTB:Hid (Tab B w):=hTab
 obtain⟨a,cc,rfl,hcc,hln,hrow⟩:=hs
 obtain⟨n,hn⟩:∃n,its.length=n:=⟨_,rfl⟩
 have HNN:Hid (its.length=n):=hn
 have HR:=hHi hrow
 rw[hn] at hcc hln ⊢
 clear ih hr hTab hrow hn
 have HW0:Hid (Wr w B t l):=hW
 have HF0:Hid (FrW w w B):=FrW.refl _ _
 have HL0:Hid (t.length≤7000000):=ht
 have HBS:Hid (B<w.heap.size):=hW.lt
 clear hW ht
 have HLE:Hid (∀k x,its[k]?=some x→∃b o ga gc,a=some ⟨b,o,none⟩∧x.items.length≤gc∧x.items.length≤140737488355328∧∀W,FrW w W B→W.cell? ⟨b,o+k*4,none⟩=some (.int .i64 x.kind)∧W.cell? ⟨b,o+k*4+1,none⟩=some (.string x.text)∧W.cell? ⟨b,o+k*4+2,none⟩=some (.int .i64 x.n)∧W.cell? ⟨b,o+k*4+3,none⟩=some (.slice ga x.items.length gc)∧Sl W B 4 (ItV W B f) x.items (.slice ga x.items.length gc)):=fun k x hx=>by
  obtain⟨b,o,us,hab,hblt,⟨v2,rfl,hv2⟩,hc⟩:=HR.out k x hx
  have hk:=fun W hf=>sl_keep (w':=W) hv2 hf (Nat.le_of_lt HBS.out)
  obtain⟨ga,gc,e,h1,h2,_⟩:=hv2
  subst e
  exact⟨b,o,ga,gc,hab,h1,h2,fun W hf=>⟨((hf.below (Nat.le_of_lt HBS.out)).cell (p:=⟨b,o+k*4+0,none⟩) hblt).trans (hc 0 _ rfl),((hf.below (Nat.le_of_lt HBS.out)).cell (p:=⟨b,o+k*4+1,none⟩) hblt).trans (hc 1 _ rfl),((hf.below (Nat.le_of_lt HBS.out)).cell (p:=⟨b,o+k*4+2,none⟩) hblt).trans (hc 2 _ rfl),((hf.below (Nat.le_of_lt HBS.out)).cell (p:=⟨b,o+k*4+3,none⟩) hblt).trans (hc 3 _ rfl),hk W hf⟩⟩
 clear HR
 go_enter Tryz.func72,Tryz.ntmps72
 go_wp2
 go_loopw[8] (fun iv W=>∃(k:Nat) (st:List UInt8×List UInt8) (c':Nat),k≤n∧iv=.int .i64 k∧putW (t,l) (txs (itemsK its))=putW st (txs (itemsK (its.drop k)))∧(itsR c' (its.drop k)).2=true∧Wr W B st.1 st.2∧FrW w W B∧st.1.length≤7000000) (fun iv _=>n-(intOf iv).toNat)
 case atStart=>exact⟨0,(t,l),c,Nat.zero_le _,rfl,rfl,HRT.out,HW0.out,HF0.out,HL0.out⟩
 case round=>
  obtain⟨k,st,c',hk,rfl,he,hrt,hwr,hfr,hlen⟩:=hrel
  have HE:Hid (putW (t,l) (txs (itemsK its))=putW st (txs (itemsK (its.drop k)))):=he
  have HRT2:Hid ((itsR c' (its.drop k)).2=true):=hrt
  have HW50:Hid (Wr wr B st.1 st.2):=hwr
  have HF50:Hid (FrW w wr B):=hfr
  have HL50:Hid (st.1.length≤7000000):=hlen
  clear he hrt hwr hfr hlen
  by_cases hlt:k<n
  case neg=>
   have hkI:¬(k:Int)<(n:Int):=by omega
   have hfin:putW (t,l) (txs (itemsK its))=st:=by rw[HE.out,List.drop_eq_nil_of_le (by rw[HNN.out];omega)];rfl
   have HFI:=hHi hfin
   clear hfin
   go_wp2
   go_end0
   show WP B w (putW (t,l) (txs (itemsK its))) _ _∧_
   rw[HFI.out]
   exact⟨⟨rfl,HW50.out,HF50.out⟩,HL50.out⟩
  obtain⟨x,hx⟩:∃x,its[k]?=some x:=⟨its[k]'(by rw[HNN.out];exact hlt),by simp⟩
  have HXX:=hHi hx
  obtain⟨b,o,ga,gc,hab,hg1,hg2,hall⟩:=HLE.out k x hx
  subst hab
  have HALL:=hHi hall
  obtain⟨e0,e1,e2,e3,_⟩:=hall wr HF50.out
  have hltI:(k:Int)<n:=by omega
  have hdr:its.drop k=x::its.drop (k+1):=by
   have hg:=List.getElem?_eq_some_iff.1 hx
   rw[List.drop_eq_getElem_cons hg.1,hg.2]
  have hrr:=HRT2.out
  rw[hdr] at hrr
  obtain⟨hib,⟨c1,hc1⟩,c2,hc2⟩:=itsR_at hrr
  have HIB:Hid (itemB x=true):=hib
  have HC1:Hid ((itsR c1 x.items).2=true):=hc1
  have HC2:Hid ((itsR c2 (its.drop (k+1))).2=true):=hc2
  have HST:Hid _:=itemsK_step HXX.out
  clear hx hall hdr hrr hib hc1 hc2
  obtain⟨a51,ha51⟩:∃qW,wr.alloc (.cells #[.int .i64 x.kind,.string x.text,.int .i64 x.n,.slice ga x.items.length gc] 124)=qW:=⟨_,rfl⟩
  have HN51:=kB ha51
  have HXx:=kN ha51
  have HNEx:Hid (wr.heap.size≠B):=by have:=HW50.out.lt;show _≠_;omega
  have HW51:=hHi (HW50.out.below HN51.out)
  have HF51:=hHi (HF50.out.tr (FrW.bel HN51.out))
  obtain⟨cx0_52,cx1_52,cx2_52,cx3_52⟩:=HXx.out.c4
  by_cases hk1:x.kind=1
  case pos=>
   have HK1:=hHi hk1
   have hqk1:(x.kind==1)=true:=by simpa using hk1
   have hibq:=HIB.out
   unfold itemB at hibq
   rw[if_pos HK1.out] at hibq
   simp only[Bool.and_eq_true] at hibq
   have HSZ:Hid (x.text.size≤32):=by have:=hibq.1.1;show _≤_;simpa using this
   clear hibq hk1
   have HP53:=hU (quoted_any x.text a51 (by have:=HSZ.out;omega))
   go_wp2_with fail
   refine hMo HP53 ?_
   rintro e a53 ⟨rfl,hb⟩
   have HN53:Hid (Below a51.heap.size a51 a53):=hb
   clear hb
   have HW53:=hHi (HW51.out.below HN53.out)
   have HF53:=hHi (HF51.out.tr (FrW.bel HN53.out))
   have HXx_53:=kA HXx HN53
   have HP54:=hU (wput1 (strB (quoteL (bysN x.text))) HW53.out (by have:=HL50.out;omega) (quo_size HSZ.out))
   go_wp2_with fail
   refine hMo HP54 ?_
   rintro e a54 ⟨rfl,hw,hf⟩
   obtain⟨s54,HS54,HL54,HW54,HN54,HF54⟩:=wnx HF53 (S:=putW st [(strB (quoteL (bysN x.text)):ByteArray).data.toList]) hw hf (putW_bd1 HL50.out (by rw[list_len];exact quo_size HSZ.out) (by decide))
   clear hw hf
   have HXx_54:=kF HN54 HXx_53 HNEx
   have HQ:Hid ((strB (quoteL (bysN x.text))).data.toList=quoteL (bysN x.text)):=by show _=_;simp[strB]
   clear e0 e1 e2 e3
   go_wp2
   go_roundw
   case rel=>exact⟨k+1,s54,c2,by omega,by go_num,by rw[HE.out,HST.out];rw[itemK_eq,if_pos HK1.out];rw[show txs [quoT x.text]=[quoteL (bysN x.text)] from rfl,putW_app,←HQ.out,HS54.out],HC2.out,HW54.out,HF54.out,HL54.out⟩
   case measure=>simp[intOf];omega
  have HK1:=hHi hk1
  have hqk1:(x.kind==1)=false:=by simpa using hk1
  clear hk1
  by_cases hk2:x.kind=2
  case pos=>
   have HK2:=hHi hk2
   have hqk2:(x.kind==2)=true:=by simpa using hk2
   have hibq:=HIB.out
   unfold itemB at hibq
   rw[if_neg HK1.out,if_pos HK2.out] at hibq
   simp only[Bool.and_eq_true] at hibq
   have HNU:Hid (numB x.n=true):=hibq.1.2
   have HNN2:Hid (0≤x.n∧x.n≤999999):=by
    have:=HNU.out
    unfold numB at this
    show _∧_
    simpa using this
   clear hibq hk2
   have HP53:=hU (itoa_tab x.n HNN2.out.1 HNN2.out.2 a51 ((HTB.out.fr HF51.out (Nat.le_of_lt HBS.out)).mono (Nat.le_of_lt HW51.out.lt)))
   go_wp2_with fail
   refine hMo HP53 ?_
   rintro e a53 ⟨rfl,hb⟩
   have HN53:Hid (Below a51.heap.size a51 a53):=hb
   clear hb
   have HW53:=hHi (HW51.out.below HN53.out)
   have HF53:=hHi (HF51.out.tr (FrW.bel HN53.out))
   have HXx_53:=kA HXx HN53
   have HP54:=hU (wput1 (strB (Lib.decDigits x.n.toNat)) HW53.out (by have:=HL50.out;omega) (dec_size HNU.out))
   go_wp2_with fail
   refine hMo HP54 ?_
   rintro e a54 ⟨rfl,hw,hf⟩
   obtain⟨s54,HS54,HL54,HW54,HN54,HF54⟩:=wnx HF53 (S:=putW st [(strB (Lib.decDigits x.n.toNat):ByteArray).data.toList]) hw hf (putW_bd1 HL50.out (by rw[list_len];exact dec_size HNU.out) (by decide))
   clear hw hf
   have HXx_54:=kF HN54 HXx_53 HNEx
   have HQ:Hid ((strB (Lib.decDigits x.n.toNat)).data.toList=Lib.decDigits x.n.toNat):=by show _=_;simp[strB]
   clear e0 e1 e2 e3
   go_wp2
   go_roundw
   case rel=>exact⟨k+1,s54,c2,by omega,by go_num,by rw[HE.out,HST.out];rw[itemK_eq,if_neg HK1.out,if_pos HK2.out];rw[show txs [numT x.n.toNat]=[Lib.decDigits x.n.toNat] from rfl,putW_app,←HQ.out,HS54.out],HC2.out,HW54.out,HF54.out,HL54.out⟩
   case measure=>simp[intOf];omega
  have HK2:=hHi hk2
  have hqk2:(x.kind==2)=false:=by simpa using hk2
  clear hk2
  by_cases hk3:x.kind=3
  case pos=>
   have HK3:=hHi hk3
   have hqk3:(x.kind==3)=true:=by simpa using hk3
   have hibq:=HIB.out
   unfold itemB at hibq
   rw[if_neg HK1.out,if_neg HK2.out,if_pos HK3.out] at hibq
   simp only[Bool.and_eq_true] at hibq
   clear hibq hk3
   have HP53:=hU (wput1 (⟨#[95]⟩) HW51.out (by have:=HL50.out;omega) (by decide))
   go_wp2_with fail
   refine hMo HP53 ?_
   rintro e a53 ⟨rfl,hw,hf⟩
   obtain⟨s53,HS53,HL53,HW53,HN53,HF53⟩:=wnx HF51 (S:=putW st [(⟨#[95]⟩:ByteArray).data.toList]) hw hf (putW_bd1 HL50.out (by rw[list_len];exact by decide) (by decide))
   clear hw hf
   have HXx_53:=kF HN53 HXx HNEx
   clear e0 e1 e2 e3
   go_wp2
   go_roundw
   case rel=>exact⟨k+1,s53,c2,by omega,by go_num,by rw[HE.out,HST.out];rw[itemK_eq,if_neg HK1.out,if_neg HK2.out,if_pos HK3.out];rw[show txs [sgT [95]]=[[95]] from rfl,putW_app,HS53.out],HC2.out,HW53.out,HF53.out,HL53.out⟩
   case measure=>simp[intOf];omega
  have HK3:=hHi hk3
  have hqk3:(x.kind==3)=false:=by simpa using hk3
  clear hk3
  by_cases hk4:x.kind=4
  case pos=>
   have HK4:=hHi hk4
   have hqk4:(x.kind==4)=true:=by simpa using hk4
   have hibq:=HIB.out
   unfold itemB at hibq
   rw[if_neg HK1.out,if_neg HK2.out,if_neg HK3.out,if_pos HK4.out] at hibq
   simp only[Bool.and_eq_true] at hibq
   clear hibq hk4
   have HP53:=hU (wput1 (⟨#[47]⟩) HW51.out (by have:=HL50.out;omega) (by decide))
   go_wp2_with fail
   refine hMo HP53 ?_
   rintro e a53 ⟨rfl,hw,hf⟩
   obtain⟨s53,HS53,HL53,HW53,HN53,HF53⟩:=wnx HF51 (S:=putW st [(⟨#[47]⟩:ByteArray).data.toList]) hw hf (putW_bd1 HL50.out (by rw[list_len];exact by decide) (by decide))
   clear hw hf
   have HXx_53:=kF HN53 HXx HNEx
   clear e0 e1 e2 e3
   go_wp2
   go_roundw
   case rel=>exact⟨k+1,s53,c2,by omega,by go_num,by rw[HE.out,HST.out];rw[itemK_eq,if_neg HK1.out,if_neg HK2.out,if_neg HK3.out,if_pos HK4.out];rw[show txs [sgT [47]]=[[47]] from rfl,putW_app,HS53.out],HC2.out,HW53.out,HF53.out,HL53.out⟩
   case measure=>simp[intOf];omega
  have HK4:=hHi hk4
  have hqk4:(x.kind==4)=false:=by simpa using hk4
  clear hk4
  by_cases hk5:x.kind=5
  case pos=>
   have HK5:=hHi hk5
   have hqk5:(x.kind==5)=true:=by simpa using hk5
   have hibq:=HIB.out
   unfold itemB at hibq
   rw[if_neg HK1.out,if_neg HK2.out,if_neg HK3.out,if_neg HK4.out,if_pos HK5.out] at hibq
   simp only[Bool.and_eq_true] at hibq
   have HNU:Hid (numB x.n=true):=hibq.2
   have HNN2:Hid (0≤x.n∧x.n≤999999):=by
    have:=HNU.out
    unfold numB at this
    show _∧_
    simpa using this
   clear hibq hk5
   have HP53:=hU (itoa_tab x.n HNN2.out.1 HNN2.out.2 a51 ((HTB.out.fr HF51.out (Nat.le_of_lt HBS.out)).mono (Nat.le_of_lt HW51.out.lt)))
   go_wp2_with fail
   refine hMo HP53 ?_
   rintro e a53 ⟨rfl,hb⟩
   have HN53:Hid (Below a51.heap.size a51 a53):=hb
   clear hb
   have HW53:=hHi (HW51.out.below HN53.out)
   have HF53:=hHi (HF51.out.tr (FrW.bel HN53.out))
   have HXx_53:=kA HXx HN53
   have HP54:=hU (wput2 (⟨#[110,101,115,116]⟩) (strB (Lib.decDigits x.n.toNat)) HW53.out (by have:=HL50.out;omega) (by decide) (dec_size HNU.out))
   go_wp2_with fail
   refine hMo HP54 ?_
   rintro e a54 ⟨rfl,hw,hf⟩
   obtain⟨s54,HS54,HL54,HW54,HN54,HF54⟩:=wnx HF53 (S:=putW st [(⟨#[110,101,115,116]⟩:ByteArray).data.toList,(strB (Lib.decDigits x.n.toNat):ByteArray).data.toList]) hw hf (putW_bd2 HL50.out (by rw[list_len];exact by decide) (by rw[list_len];exact dec_size HNU.out) (by decide))
   clear hw hf
   have HXx_54:=kF HN54 HXx_53 HNEx
   have HQ:Hid ((strB (Lib.decDigits x.n.toNat)).data.toList=Lib.decDigits x.n.toNat):=by show _=_;simp[strB]
   have cx3_55:=HXx_54.out.cell 3 rfl
   have HP56:=hU (within_any B f x.items (HIH.out x (List.mem_of_getElem? HXX.out)) c1 s54.1 s54.2 (.slice ga x.items.length gc) a54 HW54.out HC1.out (HALL.out a54 HF54.out).2.2.2.2 (HTB.out.fr HF54.out (Nat.le_of_lt HBS.out)) HL54.out)
   go_wp2_with fail
   refine hMo HP56 ?_
   rintro e a56 ⟨⟨rfl,hw,hf⟩,hl⟩
   have HLX56:=hHi hl
   replace hw:Wr a56 B (putW s54 ([40]::(txs (itemsK x.items)++[[41]]))).1 (putW s54 ([40]::(txs (itemsK x.items)++[[41]]))).2:=hw
   clear hl
   obtain⟨s56,hs56⟩:∃q,putW s54 ([40]::(txs (itemsK x.items)++[[41]]))=q:=⟨_,rfl⟩
   rw[hs56] at hw
   have HS56:Hid (putW s54 ([40]::(txs (itemsK x.items)++[[41]]))=s56):=hs56
   have HL56:Hid (s56.1.length≤7000000):=by rw[←hs56];exact HLX56.out
   clear hs56
   have HW56:=hHi hw
   have HF56:=hHi (HF54.out.tr hf)
   clear hw hf
   clear e0 e1 e2 e3
   go_wp2
   go_roundw
   case rel=>exact⟨k+1,s56,c2,by omega,by go_num,by rw[HE.out,HST.out];rw[itemK_eq,if_neg HK1.out,if_neg HK2.out,if_neg HK3.out,if_neg HK4.out,if_pos HK5.out];rw[show txs (keyT [110,101,115,116]::numT x.n.toNat::sgT [40]::(itemsK x.items++[sgT [41]]))=[[110,101,115,116],Lib.decDigits x.n.toNat]++([40]::(txs (itemsK x.items)++[[41]])) from by rw[show ∀q,txs (keyT [110,101,115,116]::numT x.n.toNat::sgT [40]::q)=[[110,101,115,116],Lib.decDigits x.n.toNat]++([40]::txs q) from fun _=>rfl,txs_app];rfl,putW_app,putW_app,←HQ.out,HS54.out,HS56.out],HC2.out,HW56.out,HF56.out,HL56.out⟩
   case measure=>simp[intOf];omega
  have HK5:=hHi hk5
  have hqk5:(x.kind==5)=false:=by simpa using hk5
  clear hk5
  have hk6:x.kind=6:=by
   have:=HIB.out
   unfold itemB at this
   rw[if_neg HK1.out,if_neg HK2.out,if_neg HK3.out,if_neg HK4.out,if_neg HK5.out] at this
   split at this
   ·assumption
   ·cases this
  have HK6:=hHi hk6
  have hqk6:(x.kind==6)=true:=by simpa using hk6
  have hibq:=HIB.out
  unfold itemB at hibq
  rw[if_neg HK1.out,if_neg HK2.out,if_neg HK3.out,if_neg HK4.out,if_neg HK5.out,if_pos HK6.out] at hibq
  simp only[Bool.and_eq_true] at hibq
  clear hibq hk6
  have HP53:=hU (wput1 (⟨#[103,114,111,117,112]⟩) HW51.out (by have:=HL50.out;omega) (by decide))
  go_wp2_with fail
  refine hMo HP53 ?_
  rintro e a53 ⟨rfl,hw,hf⟩
  obtain⟨s53,HS53,HL53,HW53,HN53,HF53⟩:=wnx HF51 (S:=putW st [(⟨#[103,114,111,117,112]⟩:ByteArray).data.toList]) hw hf (putW_bd1 HL50.out (by rw[list_len];exact by decide) (by decide))
  clear hw hf
  have HXx_53:=kF HN53 HXx HNEx
  have cx3_54:=HXx_53.out.cell 3 rfl
  have HP55:=hU (within_any B f x.items (HIH.out x (List.mem_of_getElem? HXX.out)) c1 s53.1 s53.2 (.slice ga x.items.length gc) a53 HW53.out HC1.out (HALL.out a53 HF53.out).2.2.2.2 (HTB.out.fr HF53.out (Nat.le_of_lt HBS.out)) HL53.out)
  go_wp2_with fail
  refine hMo HP55 ?_
  rintro e a55 ⟨⟨rfl,hw,hf⟩,hl⟩
  have HLX55:=hHi hl
  replace hw:Wr a55 B (putW s53 ([40]::(txs (itemsK x.items)++[[41]]))).1 (putW s53 ([40]::(txs (itemsK x.items)++[[41]]))).2:=hw
  clear hl
  obtain⟨s55,hs55⟩:∃q,putW s53 ([40]::(txs (itemsK x.items)++[[41]]))=q:=⟨_,rfl⟩
  rw[hs55] at hw
  have HS55:Hid (putW s53 ([40]::(txs (itemsK x.items)++[[41]]))=s55):=hs55
  have HL55:Hid (s55.1.length≤7000000):=by rw[←hs55];exact HLX55.out
  clear hs55
  have HW55:=hHi hw
  have HF55:=hHi (HF53.out.tr hf)
  clear hw hf
  clear e0 e1 e2 e3
  go_wp2
  go_roundw
  case rel=>exact⟨k+1,s55,c2,by omega,by go_num,by rw[HE.out,HST.out];rw[itemK_eq,if_neg HK1.out,if_neg HK2.out,if_neg HK3.out,if_neg HK4.out,if_neg HK5.out,if_pos HK6.out];rw[show txs (keyT [103,114,111,117,112]::sgT [40]::(itemsK x.items++[sgT [41]]))=[[103,114,111,117,112]]++([40]::(txs (itemsK x.items)++[[41]])) from by rw[show ∀q,txs (keyT [103,114,111,117,112]::sgT [40]::q)=[[103,114,111,117,112]]++([40]::txs q) from fun _=>rfl,txs_app];rfl,putW_app,putW_app,HS53.out,HS55.out],HC2.out,HW55.out,HF55.out,HL55.out⟩
  case measure=>simp[intOf];omega
theorem witems_any (B:Nat):∀(f:Nat) (its:List It),ItW B f its
 | 0,its=>fun c t l v w hW hr hs hTab ht=>by
  have h:its=[]:=by
   cases its with
   | nil=>rfl
   | cons x l=>
    obtain⟨a,cc,_,_,_,hrow⟩:=hs
    obtain⟨_,_,_,_,_,hv,_⟩:=hrow 0 x rfl
    exact hv.elim
  subst h
  exact items_step_any B 0 [] (fun x hx=>by cases hx) c t l v w hW hr (by obtain⟨a,cc,h1,h2,h3,_⟩:=hs;exact⟨a,cc,h1,h2,h3,fun j x hj=>by cases hj⟩) hTab ht
 | f+1,its=>items_step_any B f its (fun x _=>witems_any B f x.items)
end
end Go.Proofs.YtcpakcffiopfjaaGreatDoor
