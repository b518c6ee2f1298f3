/- The sorts for which something holds, by their first productions: the program's list. -/
import Derived.Test.YtilpgpcgcpedjaaGreatKc
import Derived.Test.YtilpgpcgcpedjaaGreatKd
namespace Go.Proofs.YtilpgpcgcpedjaaGreat
open Go.RowKit
set_option linter.unusedVariables false
set_option linter.unusedSimpArgs false
set_option maxRecDepth 100000
set_option maxHeartbeats 16000000
def cntF (l:List Pr) (s:ByteArray):Option Value:=if (∃p∈l,p.sort=s) then some (.int .i64 ((l.filter fun p=>decide (p.sort=s)).length:Nat)) else none
theorem cntF_get (l:List Pr) (s:ByteArray):(cntF l s).getD (.int .i64 0)=.int .i64 ((l.filter fun p=>decide (p.sort=s)).length:Nat):=by
 unfold cntF
 split
 ·rfl
 ·rename_i h
  rw[List.filter_eq_nil_iff.2 (fun p hp hq=>h ⟨p,hp,by simpa using hq⟩)]
  rfl
theorem cntF_snoc (l:List Pr) (p:Pr):cntF (l++[p])=upd (cntF l) p.sort (.int .i64 (((l.filter fun q=>decide (q.sort=p.sort)).length:Int)+1)):=by
 funext s
 unfold upd
 by_cases h:s=p.sort
 ·subst h
  rw[if_pos rfl]
  unfold cntF
  rw[if_pos ⟨p,by simp,rfl⟩]
  simp
 ·rw[if_neg h]
  have hs:¬p.sort=s:=fun e=>h e.symm
  unfold cntF
  have e1:(l++[p]).filter (fun p=>decide (p.sort=s))=l.filter fun p=>decide (p.sort=s):=by simp[hs]
  rw[e1]
  have e3:(∃q∈l++[p],q.sort=s)↔∃q∈l,q.sort=s:=by
   constructor
   ·rintro⟨q,hq,e⟩
    rcases List.mem_append.1 hq with h1|h1
    ·exact ⟨q,h1,e⟩
    ·simp at h1
     subst h1
     exact absurd e hs
   ·rintro⟨q,hq,e⟩
    exact ⟨q,by simp[hq],e⟩
  simp only[e3]
theorem upd_same (f:ByteArray→Option Value) (s:ByteArray) (v:Value):upd f s v s=some v:=by simp[upd]
def newS (l:List Pr) (s:ByteArray):Bool:=decide (s∉srt l)
theorem cnt_new (l:List Pr) (s:ByteArray):((l.filter fun q=>decide (q.sort=s)).length+1=1)↔newS l s=true:=by
 unfold newS
 rw[decide_eq_true_iff,mem_srt]
 constructor
 ·intro h
  have h0:(l.filter fun q=>decide (q.sort=s)).length=0:=by omega
  rintro⟨p,hp,e⟩
  have:=List.filter_eq_nil_iff.1 (List.length_eq_zero_iff.1 h0) p hp
  simp[e] at this
 ·intro h
  rw[List.filter_eq_nil_iff.2 (fun p hp hq=>h ⟨p,hp,by simpa using hq⟩)]
  rfl
def sthat (f:ByteArray→Bool) (l:List Pr):List ByteArray:=(srt l).filter f
theorem sthat_snoc (f:ByteArray→Bool) (l:List Pr) (p:Pr):sthat f (l++[p])=if newS l p.sort=true∧f p.sort=true then sthat f l++[p.sort] else sthat f l:=by
 unfold sthat
 rw[srt_snoc]
 unfold addN newS
 by_cases h:p.sort∈srt l
 ·rw[if_pos h,if_neg]
  simp[h]
 ·rw[if_neg h,List.filter_append]
  cases hf:f p.sort
  ·simp[hf]
  ·simp[hf,h]
theorem srt_len (l:List Pr):(srt l).length≤l.length:=by
 have:∀k (q:List Pr),q.length=k→(srt q).length≤k:=by
  intro k
  induction k with
  | zero=>
   intro q hq
   rw[List.length_eq_zero_iff] at hq
   subst hq
   simp[srt]
  | succ k ih=>
   intro q hq
   obtain⟨r,x,rfl⟩:∃r x,q=r++[x]:=⟨q.dropLast,q.getLast (by intro h;simp[h] at hq),(List.dropLast_concat_getLast _).symm⟩
   have:=ih r (by simp at hq;exact hq)
   rw[srt_snoc]
   unfold addN
   split
   ·omega
   ·simp;omega
 exact this _ l rfl
theorem sthat_len (f:ByteArray→Bool) (l:List Pr):(sthat f l).length≤l.length:=Nat.le_trans (List.length_filter_le _ _) (srt_len l)
theorem sortsThat_any (n:Nat) (bs cs:Array Value) (f:ByteArray→Bool) (d:Df) (a2:Option Addr) (p2:Nat) (v3 v4 v5 v6:Value) (w:World) (hr:Row w w.heap.size 5 (PrV w w.heap.size) a2 d.prods) (hl:d.prods.length*72≤140737488355328) (hN:∀p∈d.prods,NmP p)
  (hen:∀(args:Array Value) (W:World),(callFunc n args).run Tryz.prog W=.ok (.enter n args) W)
  (hF:∀(s:ByteArray) (W:World),s.size≤maxLen→Below w.heap.size w W→Calls Tryz.prog n (bs.push (.string s)++cs) W fun e W'=>e=.returned (.bool (f s))∧Below W.heap.size W W'):
  Calls Tryz.prog 58 #[.agg #[.string d.start,.string d.layout,.slice a2 d.prods.length p2,v3,v4,v5,v6],.func (.func n) bs cs] w fun e w'=>(∃va vc,e=.returned (.slice va (sthat f d.prods).length vc)∧NamesAt w' w.heap.size (sthat f d.prods) (.slice va (sthat f d.prods).length vc))∧Below w.heap.size w w':=by
 obtain⟨i0,hi,hz0,hz1,hz2⟩:=info_parts info9
 obtain⟨L,hL⟩:∃L,d.prods=L:=⟨_,rfl⟩
 rw[hL] at hr hl hN ⊢
 clear hL
 obtain⟨N,hLN⟩:∃N,L.length=N:=⟨_,rfl⟩
 have HR1:=hHi hr
 have HLN:=hHi hLN
 have HNM:=hHi hN
 have HF:=hU hF
 rw[hLN] at hl ⊢
 clear hr hLN hN hF
 have hmm:=@run_makeMap Tryz.prog
 go_enter Tryz.func58,Tryz.ntmps58
 obtain⟨w1,hw1⟩:∃qW,w.alloc (.cells #[.string d.start,.string d.layout,.slice a2 N p2,v3,v4,v5,v6] 28)=qW:=⟨_,rfl⟩
 have HX1:=kN hw1
 have HB1:=kB hw1
 have HS1:Hid (w1.heap.size=w.heap.size+1):=by show _=_;rw[←hw1];simp
 obtain⟨w2,hw2⟩:∃qW,w1.alloc (.map #[] 0)=qW:=⟨_,rfl⟩
 have HM2:Hid (Mp w2 w1.heap.size 0 (fun _=>none)):=by show Mp _ _ _ _;rw[←hw2];exact Mp.made w1
 have HN2:=kB hw2
 have HX2:=kA HX1 HN2
 have HB2:Hid (Below w.heap.size w w2):=below_tr HB1.out HN2.out
 obtain⟨d0,d1,d2,d3,d4,d5,d6⟩:=HX2.out.c7
 go_wp2
 go_loopw[5,13] (fun lv iv W=>∃(k n:Nat) (va:Option Addr) (vc:Nat),k≤N∧n≤k∧iv=.int .i64 k∧lv=.slice va (sthat f (L.take k)).length vc∧Mp W w1.heap.size n (cntF (L.take k))∧NamesAt W (w1.heap.size+1) (sthat f (L.take k)) (.slice va (sthat f (L.take k)).length vc)∧Below w.heap.size w W) (fun _ iv _=>N-(intOf iv).toNat)
 case atStart=>exact ⟨0,0,none,0,Nat.zero_le _,Nat.le_refl _,rfl,rfl,by have e:cntF (L.take 0)=fun _=>none:=(by funext s;simp[cntF]);rw[e];exact HM2.out,⟨World.ownsRow_nil _ _ _ _⟩,HB2.out⟩
 case round=>
  obtain⟨k,m,va,vc,hk,hn,rfl,rfl,hM,hNA,hB⟩:=hrel
  have HM:=hHi hM
  have HB:=hHi hB
  have HNA:=hHi hNA
  clear hM hB hNA d0 d1 d2 d3 d4 d5 d6
  by_cases hlt:k<N
  case pos=>
   obtain⟨x,hx⟩:∃x,L[k]?=some x:=⟨L[k]'(by rw[HLN.out];exact hlt),by simp⟩
   obtain⟨b,o,us,hb,hlb,hus,hc⟩:=HR1.out k x hx
   obtain⟨v,rfl,a3,p3,rfl,_⟩:=hus
   subst hb
   have HT:Hid (L.take (k+1)=L.take k++[x]):=take_snoc' hx
   have hsz:=(HNM.out x (List.mem_of_getElem? hx)).sort
   have hq_:=hcb HB.out hlb hc
   have s0:=hq_ 0 _ rfl
   have s1:=hq_ 1 _ rfl
   have s2:=hq_ 2 _ rfl
   have s3:=hq_ 3 _ rfl
   have s4:=hq_ 4 _ rfl
   rw[Nat.add_zero] at s0
   have hltI:(k:Int)<N:=by omega
   clear hq_ hc hx
   obtain⟨w3,hw3⟩:∃qW,wr.alloc (.cells #[.bool x.lex,.string x.sort,.string x.cons,.bool x.bracket,.slice a3 x.syms.length p3] 44)=qW:=⟨_,rfl⟩
   have HN3:=kB hw3
   have HX3:=kN hw3
   have HM3:=Mp.below HM HN3
   have HB3:Hid (Below w.heap.size w w3):=below_tr HB.out HN3.out
   have HNA3:=hHi (HNA.out.after HN3.out)
   have hlk:=HM3.out.look Tryz.underlying72 (zero3 w3) hsz
   rw[cntF_get] at hlk
   have HKS:=hHi (cntF_snoc (L.take k) x)
   have HSS:=hHi (sthat_snoc f (L.take k) x)
   rw[←HT.out] at HKS HSS
   have HCN:=hHi (cnt_new (L.take k) x.sort)
   obtain⟨c,hc⟩:∃c,((L.take k).filter fun q=>decide (q.sort=x.sort)).length=c:=⟨_,rfl⟩
   rw[hc] at hlk HKS HCN
   have hcl:c≤k:=by rw[←hc];exact Nat.le_trans (List.length_filter_le _ _) (by rw[List.length_take];exact Nat.min_le_left _ _)
   obtain⟨e0,e1,e2,e3,e4⟩:=HX3.out.c5
   go_wp2_with (first | (at_mapUpdate;refine wpList_mapUpdate_mp rfl _ _ _ 72 rfl 3 Tryz.underlying72 HM3 rfl (by have:=hl;unfold maxLen;omega) x.sort (.int .i64 ((c:Int)+1)) rfl rfl hsz ?_) | go_in)
   intro w4 HM4 HG4
   have HML:=hHi HM.out.lt
   have HWB:=hHi HB1.out.size
   have HX4:=kG HX3 HG4 (by have:=HML.out;omega)
   have HB4:Hid (Below w.heap.size w w4):=HB3.out.trans (belG HG4.out HWB.out HB3.out.size)
   have HNA4:Hid (NamesAt w4 (w1.heap.size+1) (sthat f (L.take k)) (.slice va (sthat f (L.take k)).length vc)):=HNA3.out.kept HG4.out (by omega)
   have hl2:=HM4.out.look Tryz.underlying72 (zero3 w4) hsz
   rw[upd_same,Option.getD_some] at hl2
   rw[←HKS.out] at HM4
   obtain⟨f0,f1,f2,f3,f4⟩:=HX4.out.c5
   clear e0 e1 e2 e3 e4 s0 s1 s2 s3 s4 hlk
   by_cases hnew:c=0
   ·subst hnew
    have hnw:=HCN.out.1 rfl
    have HNW:=hHi hnw
    clear hnw
    have HC:=hU (HF.out () x.sort w4 hsz HB4.out)
    go_wp2_with fail
    refine hMo HC ?_
    rintro e w5 ⟨rfl,hb5⟩
    have HB5:=hHi hb5
    have HX5:=kA HX4 HB5
    have HM5:=Mp.below HM4 HB5
    have HB5':Hid (Below w.heap.size w w5):=below_tr HB4.out HB5.out
    have HNA5:=hHi (HNA4.out.after HB5.out)
    clear f0 f1 f2 f3 f4 hb5 HC
    obtain⟨f0,f1,f2,f3,f4⟩:=HX5.out.c5
    cases hf:f x.sort
    ·rw[if_neg (fun h=>by rw[hf] at h;cases h.2)] at HSS
     go_wp2
     go_roundw
     case rel=>exact ⟨k+1,m+1,va,vc,by omega,by omega,by go_num,by rw[HSS.out],HM5.out,by rw[HSS.out];exact HNA5.out,HB5'.out⟩
     case measure=>simp[intOf];omega
    ·rw[if_pos ⟨HNW.out,hf⟩] at HSS
     have HLE:=hHi (sthat_len f (L.take k))
     have HTL:Hid ((L.take k).length=k):=by show _=_;rw[List.length_take,HLN.out];omega
     have h16:((sthat f (L.take k)).length+1)*16≤140737488355328:=by have:=HLE.out;have:=HTL.out;omega
     have HROW:=hU HNA5.out.row
     have HOB:Hid (∀b,(Value.slice va (sthat f (L.take k)).length vc).ownBlock=some b→w1.heap.size+1≤b∧b<w5.heap.size):=fun b hb=>by have:=HNA5.out.row.lt b hb;omega
     go_wp2_with (at_builtin;refine wpList_append_lies _ rfl _ _ 36 rfl (w1.heap.size+1) 9 i0 _ 1 16 Tryz.underlying36 hi hz0 hz1 hz2 rfl (by decide) (.slice va (sthat f (L.take k)).length vc) (sthat f (L.take k)).length (ncells (sthat f (L.take k))) rfl ((HROW.out ()).alloc _) ⟨w5.heap.size,0,none⟩ 1 1 [.string x.sort] rfl rfl ?ca1 ?ca2 (by decide) ?ca3 ?ca4 ?ca5 (w5.heap.size+1) (by simp) ?_)
     case ca1=>exact new_cells _ _ [.string x.sort]
     case ca2=>intro u hu;simp at hu;subst hu;rfl
     case ca3=>unfold maxLen;omega
     case ca4=>exact h16
     case ca5=>have:=HM5.out.lt;simp;omega
     intro g1 cap1 w7 hown hgrow hat hlt7
     have HI5:Hid (NamesAt w7 (w1.heap.size+1) (sthat f (L.take (k+1))) (.slice (some ⟨g1,0,none⟩) (sthat f (L.take (k+1))).length cap1)):=by show NamesAt _ _ _ _;rw[HSS.out,List.length_append];exact ⟨by simpa [ncells] using hown⟩
     have HB7:Hid (Below w.heap.size w w7):=HB5'.out.trans (((Below.refl _ _).alloc HB5'.out.size _).trans (belO hgrow (fun b hb=>by have:=(HOB.out b hb).1;have:=HWB.out;omega) (by have:=HB5'.out.size;simp;omega)))
     have HM7:Hid (Mp w7 w1.heap.size (m+1) (cntF (L.take (k+1)))):=(HM5.out.keep (World.grownBy_alloc _ _ none) (by simp)).keep hgrow (fun e=>by have:=(HOB.out _ e.symm).1;omega)
     clear hown hgrow hat hlt7 f0 f1 f2 f3 f4
     go_wp2
     go_roundw
     case rel=>exact ⟨k+1,m+1,_,_,by omega,by omega,by go_num,by rw[HSS.out,List.length_append];rfl,HM7.out,HI5.out,HB7.out⟩
     case measure=>simp[intOf];omega
   ·have hnw:=HCN.out
    rw[if_neg (fun h=>by have:=hnw.2 h.1;omega)] at HSS
    clear hnw
    have hc1:¬((c:Int)+1=1):=by omega
    clear hnew
    go_wp2
    go_roundw
    case rel=>exact ⟨k+1,m+1,va,vc,by omega,by omega,by go_num,by rw[HSS.out],HM4.out,by rw[HSS.out];exact HNA4.out,HB4.out⟩
    case measure=>simp[intOf];omega
  obtain rfl:k=N:=by omega
  go_wp2
  go_ret
  have e:L.take k=L:=List.take_of_length_le (by rw[HLN.out];exact Nat.le_refl _)
  rw[e] at HNA ⊢
  exact ⟨⟨va,vc,rfl,⟨row_mono HNA.out.row (by have:=HB1.out.size;omega)⟩⟩,HB.out⟩
end Go.Proofs.YtilpgpcgcpedjaaGreat
