/- The names that a definition leads to, as the document has them: far. -/
import Derived.Test.YtilpgpcgcpedjaaGreatOa
namespace Go.Proofs.YtilpgpcgcpedjaaGreat
open Go.RowKit
set_option linter.unusedVariables false
set_option linter.unusedSimpArgs false
set_option maxRecDepth 100000
set_option maxHeartbeats 16000000
structure FJ (w1 W:World) (L:List Pr) (F:Pr→List ByteArray) (fr:ByteArray) (M:List ByteArray) (va:Option Addr) (vc:Nat):Prop where
 nm:NamesAt W w1.heap.size M (.slice va M.length vc)
 bel:Below w1.heap.size w1 W
 ri:RI F L fr M
theorem FJ.nx {w1 W W':World} {L:List Pr} {F:Pr→List ByteArray} {fr:ByteArray} {M:List ByteArray} {va:Option Addr} {vc:Nat} (h:FJ w1 W L F fr M va vc) (hb:Below W.heap.size W W'):FJ w1 W' L F fr M va vc:=⟨h.nm.after hb,below_tr h.bel hb,h.ri⟩
theorem far_mem {L:List Pr} {F:Pr→List ByteArray} {fr:ByteArray} {M:List ByteArray} (h:RI F L fr M) (hc:∀a∈fr::M,∀b,Step L F a b→b∈M) (x:ByteArray):x∈M↔Far L F fr x:=by
 constructor
 ·exact h.sound x
 ·intro hf
  exact hf.mem (fun x=>x∈M) (fun x hx=>hc fr (by simp) x hx) (fun x y hx hy=>hc x (by simp[hx]) y hy)
theorem rfar_any (d:Df) (vs:List Value) (fr:ByteArray) (w:World) (h:DO w d vs) (hfew:symsN d.prods≤1000000):
  Calls Tryz.prog 67 #[.agg ⟨vs⟩,.string fr,.bool false] w fun e w'=>(∃va vc M,e=.returned (.slice va M.length vc)∧NamesAt w' w.heap.size M (.slice va M.length vc)∧(∀x,x∈M↔Far d.prods leadsN fr x)∧M.length≤1000000)∧Below w.heap.size w w':=by
 obtain⟨i0,hi,hz0,hz1,hz2⟩:=info_parts info9
 obtain⟨a2,p2,a3,p3,a4,p4,a5,p5,a6,p6,rfl,r2,_⟩:=h.form
 obtain⟨f,hf⟩:=h.sz
 have hz:=hf.p
 have hN:=h.nm.prods
 obtain⟨L,hL⟩:∃L,d.prods=L:=⟨_,rfl⟩
 rw[hL] at r2 hz hN ⊢
 obtain⟨N,hLN⟩:∃N,L.length=N:=⟨_,rfl⟩
 have HR1:=hHi r2
 have HLN:=hHi hLN
 have HNM:=hHi hN
 rw[hLN] at hz ⊢
 obtain⟨w1,hw1⟩:∃qW,w.alloc (.cells #[.string d.start,.string d.layout,.slice a2 N p2,.slice a3 d.chains.length p3,.slice a4 d.follows.length p4,.slice a5 d.rejects.length p5,.slice a6 d.boxes.length p6] 28)=qW:=⟨_,rfl⟩
 have HX1:=kN hw1
 have HB1:=kB hw1
 have HS1:Hid (w1.heap.size=w.heap.size+1):=by show _=_;rw[←hw1];simp
 rw[hL] at hfew
 obtain⟨T,hT⟩:∃T,(univ leadsN L).length=T:=⟨_,rfl⟩
 have HTB:Hid (T≤1000000):=by show _≤_;rw[←hT];exact Nat.le_trans (univ_len leadsN_len L) hfew
 have HUL:Hid (∀M,RI leadsN L fr M→M.length≤T):=fun M h=>by rw[←hT];exact h.len
 clear r2 hf h hN hL hLN hfew hT
 go_enter Tryz.func67,Tryz.ntmps67
 obtain⟨d0,d1,d2,d3,d4,d5,d6⟩:=HX1.out.c7
 go_wp2
 go_loopw[7,8] (fun lv av W=>∃(t:Nat) (M:List ByteArray) (va:Option Addr) (vc:Nat),t≤M.length+1∧av=.int .i64 ((t:Int)-1)∧lv=.slice va M.length vc∧FJ w1 W L leadsN fr M va vc∧(∀a∈(fr::M).take t,∀b,Step L leadsN a b→b∈M)) (fun _ av _=>T+1-(intOf av+1).toNat)
 case atStart=>exact ⟨0,[],none,0,by simp,rfl,rfl,⟨⟨World.ownsRow_nil _ _ _ _⟩,Below.refl _ _,⟨List.nodup_nil,nofun⟩⟩,nofun⟩
 case round=>
  obtain⟨t,M0,va,vc,ht,rfl,rfl,hF,hC⟩:=hrel
  have HF0:=hHi hF
  have HC0:=hHi hC
  have HX:=kA HX1 (hHi hF.bel)
  have HMT:=hHi (HUL.out M0 hF.ri)
  have HML:Hid (M0.length≤1000000):=Nat.le_trans HMT.out HTB.out
  obtain⟨m,hm⟩:∃m,M0.length=m:=⟨_,rfl⟩
  have HM0:=hHi hm
  have hml:m≤1000000:=by have:=HML.out;omega
  rw[hm] at ht ⊢
  clear hF hC d0 d1 d2 d3 d4 d5 d6 hm
  obtain⟨d0,d1,d2,d3,d4,d5,d6⟩:=HX.out.c7
  by_cases hlt:t<m+1
  case pos=>
   have hltI:(t:Int)-1<m:=by omega
   obtain⟨s,hs⟩:∃s,(fr::M0)[t]?=some s:=⟨(fr::M0)[t]'(by rw[List.length_cons,HM0.out];exact hlt),by simp⟩
   have HSS:Hid (∀b,Step L leadsN s b→Far L leadsN fr b):=fun b hb=>by
    have hm:=List.mem_of_getElem? hs
    rcases List.mem_cons.1 hm with rfl|hm
    ·exact .one hb
    ·exact .more (HF0.out.ri.sound s hm) hb
   have HTK:Hid ((fr::M0).take (t+1)=(fr::M0).take t++[s]):=take_snoc' hs
   have HCASE:Hid (t=0∧s=fr∨∃j g,t=j+1∧va=some ⟨g,0,none⟩∧wr.cell? ⟨g,j,none⟩=some (.string s)):=by
    rcases Nat.eq_zero_or_pos t with h0|h0
    ·subst h0
     simp at hs
     exact .inl ⟨rfl,hs.symm⟩
    ·right
     obtain⟨j,rfl⟩:∃j,t=j+1:=⟨t-1,by omega⟩
     rw[List.getElem?_cons_succ] at hs
     obtain⟨g,cap,e,_,_,hc⟩:=names_cell HF0.out.nm hs
     injection e with e1 _ _
     exact ⟨j,g,rfl,e1,hc⟩
   clear hs
   rcases HCASE.out with ⟨h0,hsf⟩|⟨j,g,h0,hva,hce⟩
   ·have HT0:Hid ((t:Int)-1=-1):=by show _=_;omega
    have hsf:=hsf.symm
    subst hsf
    rw[HT0.out] at hltI ⊢
    clear h0
    go_wp2
    go_loopw[7,10] (fun lv iv W=>∃(k:Nat) (M:List ByteArray) (va:Option Addr) (vc:Nat),k≤N∧iv=.int .i64 k∧lv=.slice va M.length vc∧FJ w1 W L leadsN fr M va vc∧(∃ex,M=M0++ex)∧(∀p∈L.take k,p.sort=fr→∀b∈leadsN p,b∈M)) (fun _ iv _=>N-(intOf iv).toNat)
    case atStart=>exact ⟨0,M0,_,vc,Nat.zero_le _,rfl,by rw[HM0.out],HF0.out,⟨[],by simp⟩,by simp⟩
    case round=>
     obtain⟨k,M1,va1,vc1,hk,rfl,rfl,hF,hE,hC⟩:=hrel
     obtain⟨wo,hwo⟩:∃q,q=wr:=⟨_,rfl⟩
     subst hwo
     have HF1:=hHi hF
     have HE1:=hHi hE
     have HC1:=hHi hC
     have HX:=kA HX1 (hHi hF.bel)
     clear hF hE hC d0 d1 d2 d3 d4 d5 d6
     obtain⟨d0,d1,d2,d3,d4,d5,d6⟩:=HX.out.c7
     by_cases hlt:k<N
     case pos=>
      obtain⟨x,hx⟩:∃x,L[k]?=some x:=⟨L[k]'(by rw[HLN.out];exact hlt),by simp⟩
      obtain⟨b,o,us,hb,hlb,hus,hc⟩:=HR1.out k x hx
      obtain⟨v,rfl,a7,p7,rfl,_,hl7,hv7⟩:=hus
      subst hb
      have HT:Hid (L.take (k+1)=L.take k++[x]):=take_snoc' hx
      have HME:=hHi (List.mem_of_getElem? hx)
      have HXX:=hHi hx
      have hq_:=hcb (below_tr HB1.out HF1.out.bel) hlb hc
      have s0:=hq_ 0 _ rfl
      have s1:=hq_ 1 _ rfl
      have s2:=hq_ 2 _ rfl
      have s3:=hq_ 3 _ rfl
      have s4:=hq_ 4 _ rfl
      rw[Nat.add_zero] at s0
      have hltI:(k:Int)<N:=by omega
      clear hq_ hc hx
      obtain⟨w2,hw2⟩:∃qW,wo.alloc (.cells #[.bool x.lex,.string x.sort,.string x.cons,.bool x.bracket,.slice a7 x.syms.length p7] 44)=qW:=⟨_,rfl⟩
      have HX2:=kN hw2
      have HB2:=kB hw2
      have HF2:=hHi (HF1.out.nx HB2.out)
      obtain⟨e0,e1,e2,e3,e4⟩:=HX2.out.c5
      by_cases hps:x.sort=fr
      ·have hnb:(x.sort.toList==fr.toList)=true:=by rw[tl_beq];simp[hps]
       have HPS:=hHi hps
       obtain⟨K,hK⟩:∃K,x.syms.length=K:=⟨_,rfl⟩
       have HK:=hHi hK
       have HSY:=hHi hv7
       have hKb:K≤140737488355328:=by omega
       rw[hK] at HX2 e4 hw2 s4
       clear hps hK hv7
       go_wp2
       clear hnb s0 s1 s2 s3 s4
       go_loopw[7,13] (fun lv jv W=>∃(j:Nat) (M:List ByteArray) (va:Option Addr) (vc:Nat),j≤K∧jv=.int .i64 j∧lv=.slice va M.length vc∧FJ w1 W L leadsN fr M va vc∧Blk W wo.heap.size 44 #[.bool x.lex,.string x.sort,.string x.cons,.bool x.bracket,.slice a7 K p7]∧(∃ex,M=M1++ex)∧(∀y∈x.syms.take j,y.name≠no→y.name∈M)) (fun _ jv _=>K-(intOf jv).toNat)
       case atStart=>exact ⟨0,M1,va1,vc1,Nat.zero_le _,rfl,rfl,HF2.out,HX2.out,⟨[],by simp⟩,by simp⟩
       case round=>
        obtain⟨j,M2,va2,vc2,hj,rfl,rfl,hF,hX,hE,hC⟩:=hrel
        have HF3:=hHi hF
        have HX3:=hHi hX
        have HE3:=hHi hE
        have HC3:=hHi hC
        have HX:=kA HX1 (hHi hF.bel)
        have HMN:Hid (M2.length≤1000000):=Nat.le_trans (HUL.out M2 hF.ri) HTB.out
        clear hF hX hE hC d0 d1 d2 d3 d4 d5 d6 e0 e1 e2 e3 e4
        obtain⟨d0,d1,d2,d3,d4,d5,d6⟩:=HX.out.c7
        obtain⟨e0,e1,e2,e3,e4⟩:=HX3.out.c5
        by_cases hjl:j<K
        ·obtain⟨y,hy⟩:∃y,x.syms[j]?=some y:=⟨x.syms[j]'(by rw[HK.out];exact hjl),by simp⟩
         obtain⟨by',oy,uy,hby,hlby,⟨_,rfl⟩,hcy⟩:=HSY.out j y hy
         subst hby
         have HTY:Hid (x.syms.take (j+1)=x.syms.take j++[y]):=take_snoc' hy
         have HMY:=hHi (List.mem_of_getElem? hy)
         have s6:=hcb (below_tr HB1.out HF3.out.bel) hlby hcy 6 _ rfl
         have hjI:(j:Int)<K:=by omega
         have HNX:Hid (∀M:List ByteArray,(∀z∈M2,z∈M)→(y.name≠no→y.name∈M)→∀z∈x.syms.take (j+1),z.name≠no→z.name∈M):=fun M hs hy z hz hn=>by
          rw[HTY.out] at hz
          rcases List.mem_append.1 hz with h|h
          ·exact hs _ (HC3.out z h hn)
          ·simp at h
           subst h
           exact hy hn
         clear hcy hy
         rcases emp_no y.name with ⟨hne,hd⟩|⟨hne,hd⟩
         ·have HNE:=hHi hne
          clear hne
          go_wp2
          go_roundw
          case rel=>exact ⟨j+1,M2,va2,vc2,by omega,by go_num,rfl,HF3.out,HX3.out,HE3.out,HNX.out M2 (fun _ h=>h) (fun h=>absurd HNE.out h)⟩
          case measure=>simp[intOf];omega
         ·have HNE:=hHi hne
          clear hne
          have HCI:=hU (in60_any M2 _ y.name _ wr HF3.out.nm (by have:=HMN.out;omega))
          by_cases hin:y.name∈M2
          ·rw[decide_eq_true hin] at HCI
           have HIN:=hHi hin
           clear hin
           go_wp2_with fail
           refine hMo HCI ?_
           rintro e w5 ⟨rfl,hw⟩
           have hw:=hw.symm
           subst hw
           clear HCI
           go_wp2
           go_roundw
           case rel=>exact ⟨j+1,M2,va2,vc2,by omega,by go_num,rfl,HF3.out,HX3.out,HE3.out,HNX.out M2 (fun _ h=>h) (fun _=>HIN.out)⟩
           case measure=>simp[intOf];omega
          ·rw[decide_eq_false hin] at HCI
           have HIN:=hHi hin
           clear hin
           go_wp2_with fail
           refine hMo HCI ?_
           rintro e w5 ⟨rfl,hw⟩
           have hw:=hw.symm
           subst hw
           clear HCI
           have HFN:=hHi HF3.out.nm
           have HFB:=hHi HF3.out.bel
           have HROW:=hU HFN.out.row
           have HOB:Hid (∀b,(Value.slice va2 (M2).length vc2).ownBlock=some b→w1.heap.size≤b∧b<wr.heap.size):=fun b hb=>by have:=HFN.out.row.lt b hb;omega
           have h16:((M2).length+1)*16≤140737488355328:=by have:=HMN.out;omega
           go_wp2_with (at_builtin;refine wpList_append_lies _ rfl _ _ 36 rfl (w1.heap.size) 9 i0 _ 1 16 Tryz.underlying36 hi hz0 hz1 hz2 rfl (by decide) (.slice va2 (M2).length vc2) (M2).length (ncells (M2)) rfl ((HROW.out ()).alloc _) ⟨wr.heap.size,0,none⟩ 1 1 [.string y.name] rfl rfl ?ca1 ?ca2 (by decide) ?ca3 ?ca4 ?ca5 (wr.heap.size+1) (by simp) ?_)
           case ca1=>exact new_cells _ _ [.string y.name]
           case ca2=>intro u hu;simp at hu;subst hu;rfl
           case ca3=>unfold maxLen;omega
           case ca4=>exact h16
           case ca5=>have:=HFB.out.size;simp;omega
           intro g1 cap1 w7 hown hgrow hat hlt7
           have HI5:Hid (NamesAt w7 (w1.heap.size) (M2++[y.name]) (.slice (some ⟨g1,0,none⟩) (M2++[y.name]).length cap1)):=by show NamesAt _ _ _ _;rw[List.length_append];exact ⟨by simpa [ncells] using hown⟩
           have HB7:Hid (Below w1.heap.size w1 w7):=HFB.out.trans (((Below.refl _ _).alloc HFB.out.size _).trans (belO hgrow (fun b hb=>(HOB.out b hb).1) (by have:=HFB.out.size;simp;omega)))
           have HGR:=hHi hgrow
           clear hown hgrow hat hlt7
           have HSTEP:Hid (Far L leadsN fr y.name):=HSS.out _ ⟨x,HME.out,HPS.out,by
            unfold leadsN
            exact List.mem_filter.2 ⟨List.mem_map.2 ⟨y,HMY.out,rfl⟩,by simpa using HNE.out⟩⟩
           have HX7:Hid (Blk w7 wo.heap.size 44 #[.bool x.lex,.string x.sort,.string x.cons,.bool x.bracket,.slice (some ⟨by',oy,none⟩) K p7]):=(HX3.out.alloc _).kept HGR.out (Blk.not_row HX3.out (by decide) (HROW.out ()))
           have HF7:Hid (FJ w1 w7 L leadsN fr (M2++[y.name]) (some ⟨g1,0,none⟩) cap1):=⟨HI5.out,HB7.out,HF3.out.ri.push HIN.out HSTEP.out⟩
           clear HGR s6 d0 d1 d2 d3 d4 d5 d6 e0 e1 e2 e3 e4
           go_wp2
           go_roundw
           case rel=>exact ⟨j+1,M2++[y.name],_,_,by omega,by go_num,by rw[List.length_append];rfl,HF7.out,HX7.out,by obtain⟨ex,he⟩:=HE3.out;exact ⟨ex++[y.name],by rw[he,List.append_assoc]⟩,HNX.out _ (fun z hz=>by simp[hz]) (fun _=>by simp)⟩
           case measure=>simp[intOf];omega
        ·obtain rfl:j=K:=by omega
         have HLD:Hid (∀b∈leadsN x,b∈M2):=fun b hb=>by
          unfold leadsN at hb
          obtain⟨h1,h2⟩:=List.mem_filter.1 hb
          obtain⟨y,hy,rfl⟩:=List.mem_map.1 h1
          exact HC3.out y (by rw[List.take_of_length_le (by rw[HK.out];exact Nat.le_refl _)];exact hy) (by simpa using h2)
         go_wp2
         go_roundw
         case rel=>
          obtain⟨ex1,he1⟩:=HE1.out
          obtain⟨ex3,he3⟩:=HE3.out
          refine ⟨k+1,M2,va2,vc2,by omega,by go_num,rfl,HF3.out,⟨ex1++ex3,by rw[he3,he1,List.append_assoc]⟩,?_⟩
          intro p hp hs b hb
          rw[HT.out] at hp
          rcases List.mem_append.1 hp with h|h
          ·rw[he3]
           exact List.mem_append.2 (.inl (HC1.out p h hs b hb))
          ·simp at h
           subst h
           exact HLD.out b hb
         case measure=>simp[intOf];omega
      ·have hnb:(x.sort.toList==fr.toList)=false:=by rw[tl_beq];simp[hps]
       have HPS:=hHi hps
       clear hps hv7
       go_wp2
       go_roundw
       case rel=>
        refine ⟨k+1,M1,va1,vc1,by omega,by go_num,rfl,HF2.out,HE1.out,?_⟩
        intro p hp hs b hb
        rw[HT.out] at hp
        rcases List.mem_append.1 hp with h|h
        ·exact HC1.out p h hs b hb
        ·simp at h
         subst h
         exact absurd hs HPS.out
       case measure=>simp[intOf];omega
     obtain rfl:k=N:=by omega
     have HNT:Hid (∀a∈(fr::M1).take (t+1),∀b,Step L leadsN a b→b∈M1):=fun a ha b hb=>by
      obtain⟨ex,he⟩:=HE1.out
      have h1:(fr::M1).take (t+1)=(fr::M0).take (t+1):=by
       rw[he,←List.cons_append,List.take_append_of_le_length (by rw[List.length_cons,HM0.out];omega)]
      rw[h1,HTK.out] at ha
      rcases List.mem_append.1 ha with h|h
      ·rw[he]
       exact List.mem_append.2 (.inl (HC0.out a h b hb))
      ·simp at h
       subst h
       obtain⟨p,hp,hs,hb⟩:=hb
       exact HC1.out p (by rw[List.take_of_length_le (by rw[HLN.out];exact Nat.le_refl _)];exact hp) hs b hb
     have HLL:Hid (m≤M1.length):=by obtain⟨ex,he⟩:=HE1.out;show _≤_;rw[he,List.length_append,HM0.out];omega
     have HMT1:=hHi (HUL.out M1 HF1.out.ri)
     go_wp2
     go_roundw
     case rel=>exact ⟨t+1,M1,va1,vc1,by have:=HLL.out;omega,by have:=HT0.out;congr 1;omega,rfl,HF1.out,HNT.out⟩
     case measure=>simp[intOf] <;> (have:=HMT.out;have:=HM0.out;have:=HT0.out;omega)
   ·have HT0:Hid ((t:Int)-1=(j:Int)):=by show _=_;omega
    subst hva
    rw[HT0.out] at hltI ⊢
    clear h0
    go_wp2
    go_loopw[7,10] (fun lv iv W=>∃(k:Nat) (M:List ByteArray) (va:Option Addr) (vc:Nat),k≤N∧iv=.int .i64 k∧lv=.slice va M.length vc∧FJ w1 W L leadsN fr M va vc∧(∃ex,M=M0++ex)∧(∀p∈L.take k,p.sort=s→∀b∈leadsN p,b∈M)) (fun _ iv _=>N-(intOf iv).toNat)
    case atStart=>exact ⟨0,M0,_,vc,Nat.zero_le _,rfl,by rw[HM0.out],HF0.out,⟨[],by simp⟩,by simp⟩
    case round=>
     obtain⟨k,M1,va1,vc1,hk,rfl,rfl,hF,hE,hC⟩:=hrel
     obtain⟨wo,hwo⟩:∃q,q=wr:=⟨_,rfl⟩
     subst hwo
     have HF1:=hHi hF
     have HE1:=hHi hE
     have HC1:=hHi hC
     have HX:=kA HX1 (hHi hF.bel)
     clear hF hE hC d0 d1 d2 d3 d4 d5 d6
     obtain⟨d0,d1,d2,d3,d4,d5,d6⟩:=HX.out.c7
     by_cases hlt:k<N
     case pos=>
      obtain⟨x,hx⟩:∃x,L[k]?=some x:=⟨L[k]'(by rw[HLN.out];exact hlt),by simp⟩
      obtain⟨b,o,us,hb,hlb,hus,hc⟩:=HR1.out k x hx
      obtain⟨v,rfl,a7,p7,rfl,_,hl7,hv7⟩:=hus
      subst hb
      have HT:Hid (L.take (k+1)=L.take k++[x]):=take_snoc' hx
      have HME:=hHi (List.mem_of_getElem? hx)
      have HXX:=hHi hx
      have hq_:=hcb (below_tr HB1.out HF1.out.bel) hlb hc
      have s0:=hq_ 0 _ rfl
      have s1:=hq_ 1 _ rfl
      have s2:=hq_ 2 _ rfl
      have s3:=hq_ 3 _ rfl
      have s4:=hq_ 4 _ rfl
      rw[Nat.add_zero] at s0
      have hltI:(k:Int)<N:=by omega
      clear hq_ hc hx
      obtain⟨w2,hw2⟩:∃qW,wo.alloc (.cells #[.bool x.lex,.string x.sort,.string x.cons,.bool x.bracket,.slice a7 x.syms.length p7] 44)=qW:=⟨_,rfl⟩
      have HX2:=kN hw2
      have HB2:=kB hw2
      have HF2:=hHi (HF1.out.nx HB2.out)
      obtain⟨e0,e1,e2,e3,e4⟩:=HX2.out.c5
      by_cases hps:x.sort=s
      ·have hnb:(x.sort.toList==s.toList)=true:=by rw[tl_beq];simp[hps]
       have HPS:=hHi hps
       obtain⟨K,hK⟩:∃K,x.syms.length=K:=⟨_,rfl⟩
       have HK:=hHi hK
       have HSY:=hHi hv7
       have hKb:K≤140737488355328:=by omega
       rw[hK] at HX2 e4 hw2 s4
       clear hps hK hv7
       go_wp2
       clear hnb s0 s1 s2 s3 s4
       go_loopw[7,13] (fun lv jv W=>∃(j:Nat) (M:List ByteArray) (va:Option Addr) (vc:Nat),j≤K∧jv=.int .i64 j∧lv=.slice va M.length vc∧FJ w1 W L leadsN fr M va vc∧Blk W wo.heap.size 44 #[.bool x.lex,.string x.sort,.string x.cons,.bool x.bracket,.slice a7 K p7]∧(∃ex,M=M1++ex)∧(∀y∈x.syms.take j,y.name≠no→y.name∈M)) (fun _ jv _=>K-(intOf jv).toNat)
       case atStart=>exact ⟨0,M1,va1,vc1,Nat.zero_le _,rfl,rfl,HF2.out,HX2.out,⟨[],by simp⟩,by simp⟩
       case round=>
        obtain⟨j,M2,va2,vc2,hj,rfl,rfl,hF,hX,hE,hC⟩:=hrel
        have HF3:=hHi hF
        have HX3:=hHi hX
        have HE3:=hHi hE
        have HC3:=hHi hC
        have HX:=kA HX1 (hHi hF.bel)
        have HMN:Hid (M2.length≤1000000):=Nat.le_trans (HUL.out M2 hF.ri) HTB.out
        clear hF hX hE hC d0 d1 d2 d3 d4 d5 d6 e0 e1 e2 e3 e4
        obtain⟨d0,d1,d2,d3,d4,d5,d6⟩:=HX.out.c7
        obtain⟨e0,e1,e2,e3,e4⟩:=HX3.out.c5
        by_cases hjl:j<K
        ·obtain⟨y,hy⟩:∃y,x.syms[j]?=some y:=⟨x.syms[j]'(by rw[HK.out];exact hjl),by simp⟩
         obtain⟨by',oy,uy,hby,hlby,⟨_,rfl⟩,hcy⟩:=HSY.out j y hy
         subst hby
         have HTY:Hid (x.syms.take (j+1)=x.syms.take j++[y]):=take_snoc' hy
         have HMY:=hHi (List.mem_of_getElem? hy)
         have s6:=hcb (below_tr HB1.out HF3.out.bel) hlby hcy 6 _ rfl
         have hjI:(j:Int)<K:=by omega
         have HNX:Hid (∀M:List ByteArray,(∀z∈M2,z∈M)→(y.name≠no→y.name∈M)→∀z∈x.syms.take (j+1),z.name≠no→z.name∈M):=fun M hs hy z hz hn=>by
          rw[HTY.out] at hz
          rcases List.mem_append.1 hz with h|h
          ·exact hs _ (HC3.out z h hn)
          ·simp at h
           subst h
           exact hy hn
         clear hcy hy
         rcases emp_no y.name with ⟨hne,hd⟩|⟨hne,hd⟩
         ·have HNE:=hHi hne
          clear hne
          go_wp2
          go_roundw
          case rel=>exact ⟨j+1,M2,va2,vc2,by omega,by go_num,rfl,HF3.out,HX3.out,HE3.out,HNX.out M2 (fun _ h=>h) (fun h=>absurd HNE.out h)⟩
          case measure=>simp[intOf];omega
         ·have HNE:=hHi hne
          clear hne
          have HCI:=hU (in60_any M2 _ y.name _ wr HF3.out.nm (by have:=HMN.out;omega))
          by_cases hin:y.name∈M2
          ·rw[decide_eq_true hin] at HCI
           have HIN:=hHi hin
           clear hin
           go_wp2_with fail
           refine hMo HCI ?_
           rintro e w5 ⟨rfl,hw⟩
           have hw:=hw.symm
           subst hw
           clear HCI
           go_wp2
           go_roundw
           case rel=>exact ⟨j+1,M2,va2,vc2,by omega,by go_num,rfl,HF3.out,HX3.out,HE3.out,HNX.out M2 (fun _ h=>h) (fun _=>HIN.out)⟩
           case measure=>simp[intOf];omega
          ·rw[decide_eq_false hin] at HCI
           have HIN:=hHi hin
           clear hin
           go_wp2_with fail
           refine hMo HCI ?_
           rintro e w5 ⟨rfl,hw⟩
           have hw:=hw.symm
           subst hw
           clear HCI
           have HFN:=hHi HF3.out.nm
           have HFB:=hHi HF3.out.bel
           have HROW:=hU HFN.out.row
           have HOB:Hid (∀b,(Value.slice va2 (M2).length vc2).ownBlock=some b→w1.heap.size≤b∧b<wr.heap.size):=fun b hb=>by have:=HFN.out.row.lt b hb;omega
           have h16:((M2).length+1)*16≤140737488355328:=by have:=HMN.out;omega
           go_wp2_with (at_builtin;refine wpList_append_lies _ rfl _ _ 36 rfl (w1.heap.size) 9 i0 _ 1 16 Tryz.underlying36 hi hz0 hz1 hz2 rfl (by decide) (.slice va2 (M2).length vc2) (M2).length (ncells (M2)) rfl ((HROW.out ()).alloc _) ⟨wr.heap.size,0,none⟩ 1 1 [.string y.name] rfl rfl ?ca1 ?ca2 (by decide) ?ca3 ?ca4 ?ca5 (wr.heap.size+1) (by simp) ?_)
           case ca1=>exact new_cells _ _ [.string y.name]
           case ca2=>intro u hu;simp at hu;subst hu;rfl
           case ca3=>unfold maxLen;omega
           case ca4=>exact h16
           case ca5=>have:=HFB.out.size;simp;omega
           intro g1 cap1 w7 hown hgrow hat hlt7
           have HI5:Hid (NamesAt w7 (w1.heap.size) (M2++[y.name]) (.slice (some ⟨g1,0,none⟩) (M2++[y.name]).length cap1)):=by show NamesAt _ _ _ _;rw[List.length_append];exact ⟨by simpa [ncells] using hown⟩
           have HB7:Hid (Below w1.heap.size w1 w7):=HFB.out.trans (((Below.refl _ _).alloc HFB.out.size _).trans (belO hgrow (fun b hb=>(HOB.out b hb).1) (by have:=HFB.out.size;simp;omega)))
           have HGR:=hHi hgrow
           clear hown hgrow hat hlt7
           have HSTEP:Hid (Far L leadsN fr y.name):=HSS.out _ ⟨x,HME.out,HPS.out,by
            unfold leadsN
            exact List.mem_filter.2 ⟨List.mem_map.2 ⟨y,HMY.out,rfl⟩,by simpa using HNE.out⟩⟩
           have HX7:Hid (Blk w7 wo.heap.size 44 #[.bool x.lex,.string x.sort,.string x.cons,.bool x.bracket,.slice (some ⟨by',oy,none⟩) K p7]):=(HX3.out.alloc _).kept HGR.out (Blk.not_row HX3.out (by decide) (HROW.out ()))
           have HF7:Hid (FJ w1 w7 L leadsN fr (M2++[y.name]) (some ⟨g1,0,none⟩) cap1):=⟨HI5.out,HB7.out,HF3.out.ri.push HIN.out HSTEP.out⟩
           clear HGR s6 d0 d1 d2 d3 d4 d5 d6 e0 e1 e2 e3 e4
           go_wp2
           go_roundw
           case rel=>exact ⟨j+1,M2++[y.name],_,_,by omega,by go_num,by rw[List.length_append];rfl,HF7.out,HX7.out,by obtain⟨ex,he⟩:=HE3.out;exact ⟨ex++[y.name],by rw[he,List.append_assoc]⟩,HNX.out _ (fun z hz=>by simp[hz]) (fun _=>by simp)⟩
           case measure=>simp[intOf];omega
        ·obtain rfl:j=K:=by omega
         have HLD:Hid (∀b∈leadsN x,b∈M2):=fun b hb=>by
          unfold leadsN at hb
          obtain⟨h1,h2⟩:=List.mem_filter.1 hb
          obtain⟨y,hy,rfl⟩:=List.mem_map.1 h1
          exact HC3.out y (by rw[List.take_of_length_le (by rw[HK.out];exact Nat.le_refl _)];exact hy) (by simpa using h2)
         go_wp2
         go_roundw
         case rel=>
          obtain⟨ex1,he1⟩:=HE1.out
          obtain⟨ex3,he3⟩:=HE3.out
          refine ⟨k+1,M2,va2,vc2,by omega,by go_num,rfl,HF3.out,⟨ex1++ex3,by rw[he3,he1,List.append_assoc]⟩,?_⟩
          intro p hp hs b hb
          rw[HT.out] at hp
          rcases List.mem_append.1 hp with h|h
          ·rw[he3]
           exact List.mem_append.2 (.inl (HC1.out p h hs b hb))
          ·simp at h
           subst h
           exact HLD.out b hb
         case measure=>simp[intOf];omega
      ·have hnb:(x.sort.toList==s.toList)=false:=by rw[tl_beq];simp[hps]
       have HPS:=hHi hps
       clear hps hv7
       go_wp2
       go_roundw
       case rel=>
        refine ⟨k+1,M1,va1,vc1,by omega,by go_num,rfl,HF2.out,HE1.out,?_⟩
        intro p hp hs b hb
        rw[HT.out] at hp
        rcases List.mem_append.1 hp with h|h
        ·exact HC1.out p h hs b hb
        ·simp at h
         subst h
         exact absurd hs HPS.out
       case measure=>simp[intOf];omega
     obtain rfl:k=N:=by omega
     have HNT:Hid (∀a∈(fr::M1).take (t+1),∀b,Step L leadsN a b→b∈M1):=fun a ha b hb=>by
      obtain⟨ex,he⟩:=HE1.out
      have h1:(fr::M1).take (t+1)=(fr::M0).take (t+1):=by
       rw[he,←List.cons_append,List.take_append_of_le_length (by rw[List.length_cons,HM0.out];omega)]
      rw[h1,HTK.out] at ha
      rcases List.mem_append.1 ha with h|h
      ·rw[he]
       exact List.mem_append.2 (.inl (HC0.out a h b hb))
      ·simp at h
       subst h
       obtain⟨p,hp,hs,hb⟩:=hb
       exact HC1.out p (by rw[List.take_of_length_le (by rw[HLN.out];exact Nat.le_refl _)];exact hp) hs b hb
     have HLL:Hid (m≤M1.length):=by obtain⟨ex,he⟩:=HE1.out;show _≤_;rw[he,List.length_append,HM0.out];omega
     have HMT1:=hHi (HUL.out M1 HF1.out.ri)
     go_wp2
     go_roundw
     case rel=>exact ⟨t+1,M1,va1,vc1,by have:=HLL.out;omega,by have:=HT0.out;congr 1;omega,rfl,HF1.out,HNT.out⟩
     case measure=>simp[intOf] <;> (have:=HMT.out;have:=HM0.out;have:=HT0.out;omega)
  obtain rfl:t=m+1:=by omega
  have HEND:Hid (∀a∈fr::M0,∀b,Step L leadsN a b→b∈M0):=fun a ha b hb=>HC0.out a (by rw[List.take_of_length_le (by rw[List.length_cons,HM0.out];exact Nat.le_refl _)];exact ha) b hb
  have hge:¬(((m+1:Nat):Int)-1<m):=by omega
  go_wp2
  go_ret
  exact ⟨⟨va,vc,M0,by rw[HM0.out];rfl,⟨row_mono HF0.out.nm.row HB1.out.size⟩,far_mem HF0.out.ri HEND.out,HML.out⟩,below_tr HB1.out HF0.out.bel⟩
end Go.Proofs.YtilpgpcgcpedjaaGreat
