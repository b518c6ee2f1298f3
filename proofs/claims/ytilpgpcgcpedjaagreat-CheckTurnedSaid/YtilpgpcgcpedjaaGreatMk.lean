/- Templates: the line. -/
import Derived.Test.YtilpgpcgcpedjaaGreatMj
namespace Go.Proofs.YtilpgpcgcpedjaaGreat
open Go.RowKit
set_option linter.unusedVariables false
set_option linter.unusedSimpArgs false
set_option maxRecDepth 100000
set_option maxHeartbeats 16000000
def bS (l:List Bo):List ByteArray:=l.map (·.cons)
theorem bS_snoc (l:List Bo) (x:Bo):bS (l++[x])=bS l++[x.cons]:=by simp[bS]
theorem any_cntB (b:List Bo) (s:ByteArray):b.any (fun q=>decide (q.cons=s))=decide (cntN (bS b) s≠0):=by
 rw[Bool.eq_iff_iff]
 simp only[List.any_eq_true,decide_eq_true_eq,ne_eq,cntN_zero,Classical.not_not]
 unfold bS
 simp[List.mem_map]
theorem firstCons_at {l:List Pr} {s:ByteArray} {j:Nat} (h:firstCons l s=some j):∃p,l[j]?=some p∧j<l.length:=by
 unfold firstCons at h
 obtain⟨h1,_⟩:=List.findIdx?_eq_some_iff_getElem.1 h
 exact ⟨l[j],by simp,h1⟩
theorem hcbL {w W:World} {B b m:Nat} {l:List Value} (hB:Below B w W) (hlt:b<B) (hc:∀i u,l[i]?=some u→w.cell? ⟨b,m+i,none⟩=some u) (i:Nat) (u:Value) (h:l[i]?=some u):W.cell? ⟨b,m+i,none⟩=some u:=(hB.cell (p:=⟨b,m+i,none⟩) hlt).trans (hc i u h)
theorem box_line (d:Df) (a2:Option Addr) (p2:Nat) (a3:Option Addr) (p3:Nat) (a4:Option Addr) (p4:Nat) (a5:Option Addr) (p5:Nat) (a6:Option Addr) (p6 B1 B2:Nat) (w:World) (h:LK w d [.string d.start,.string d.layout,.slice a2 d.prods.length p2,.slice a3 d.chains.length p3,.slice a4 d.follows.length p4,.slice a5 d.rejects.length p5,.slice a6 d.boxes.length p6] B1 B2) (hlv:∀b∈d.boxes,(lvIts b.items).length≤1000000):
  Calls Tryz.prog 50 #[.agg #[.string d.start,.string d.layout,.slice a2 d.prods.length p2,.slice a3 d.chains.length p3,.slice a4 d.follows.length p4,.slice a5 d.rejects.length p5,.slice a6 d.boxes.length p6,.map (some B1),.map (some B2)]] w fun e w'=>Tl e (line d 13)∧Below w.heap.size w w':=by
 obtain⟨n,hm⟩:=h.m2
 have hmm:=@run_makeMap Tryz.prog
 obtain⟨w1,hw1⟩:∃qW,w.alloc (.cells #[.string d.start,.string d.layout,.slice a2 d.prods.length p2,.slice a3 d.chains.length p3,.slice a4 d.follows.length p4,.slice a5 d.rejects.length p5,.slice a6 d.boxes.length p6,.map (some B1),.map (some B2)] 75)=qW:=⟨_,rfl⟩
 have HX1:=kN hw1
 have HB1:=kB hw1
 have HM:=hHi hm
 have HIC:Hid (∀s,s.size≤maxLen→∀W,Below w.heap.size w W→Calls Tryz.prog 101 #[.agg #[.string d.start,.string d.layout,.slice a2 d.prods.length p2,.slice a3 d.chains.length p3,.slice a4 d.follows.length p4,.slice a5 d.rejects.length p5,.slice a6 d.boxes.length p6,.map (some B1),.map (some B2)],.string s] W fun e w'=>e=.returned (.bool (isCons d s))∧Below W.heap.size W w'):=fun s hs W hb=>isCons_any d _ _ _ _ _ _ _ _ B2 n s W (Mp.below HM (hHi hb)).out hs
 obtain⟨f,HRW⟩:∃f,Hid (Row w w.heap.size 5 (PrV w w.heap.size) a2 d.prods∧Row w w.heap.size 2 (BoV w w.heap.size f) a6 d.boxes):=by
  obtain⟨b2,q2,b3,q3,b4,q4,b5,q5,b6,q6,e,r2,_,_,_,f,r6⟩:=h.df.form
  simp only[List.cons.injEq,Value.slice.injEq] at e
  obtain⟨_,_,⟨rfl,_,_⟩,_,_,_,⟨rfl,_,_⟩,_⟩:=e
  exact ⟨f,r2,r6⟩
 have HNB:=hHi h.df.nm.boxes
 have HLV:=hHi hlv
 have HSY:Hid (∀p∈d.prods,p.syms.length≤1000000):=fun p hp=>Nat.le_trans (symsN_mem hp) h.few
 have hbl:=h.bl
 have HLN:Hid (line d 13=tell 52 ((firstWith (boxBad d) [] d.boxes).map (·.cons))):=rfl
 generalize line d 13=ln at HLN ⊢
 have HDB:Hid (d.prods.length≤140737488355328):=by
  obtain⟨g,hg⟩:=h.df.sz
  have:=hg.p
  show _≤_
  omega
 clear h hm hlv
 obtain⟨LB,hLB⟩:∃L,d.boxes=L:=⟨_,rfl⟩
 rw[hLB] at HRW HLN HX1 hw1 HIC HNB HLV hbl ⊢
 clear hLB
 obtain⟨NB,hNB⟩:∃N,LB.length=N:=⟨_,rfl⟩
 rw[hNB] at HX1 hw1 HIC hbl ⊢
 have HNN:=hHi hNB
 clear hNB
 go_enter Tryz.func50,Tryz.ntmps50
 obtain⟨w2,hw2⟩:∃qW,w1.alloc (.map #[] 0)=qW:=⟨_,rfl⟩
 have HM2:Hid (Mp w2 w1.heap.size 0 (cntL [])):=by
  have e:cntL []=fun _=>none:=(by funext s;simp[cntL])
  show Mp _ _ _ _
  rw[←hw2,e]
  exact Mp.made w1
 have HN2:=kB hw2
 have HX2:=kA HX1 HN2
 obtain⟨BM,hBM⟩:∃B,w1.heap.size=B:=⟨_,rfl⟩
 have HBM:Hid (w1.heap.size≤BM):=by show _≤_;rw[hBM];exact Nat.le_refl _
 rw[hBM] at HM2
 obtain⟨c0,c1,c2,c3,c4,c5,c6,c7,c8⟩:=HX2.out.c9
 go_wp2
 go_loopw[12] (fun iv W=>∃(k:Nat),k≤NB∧iv=.int .i64 k∧Mp W BM k (cntL (bS (LB.take k)))∧firstWith (boxBad d) [] (LB.take k)=none∧Below w1.heap.size w1 W) (fun iv _=>NB-(intOf iv).toNat)
 case atStart=>exact ⟨0,Nat.zero_le _,rfl,HM2.out,rfl,HN2.out⟩
 case round=>
  obtain⟨k,hk,rfl,hM,hf,hB'⟩:=hrel
  have HMk:=hHi hM
  have HFN:=hHi hf
  have HB':=hHi hB'
  have HB:=hHi (below_tr HB1.out hB')
  clear hM hf hB' c0 c1 c2 c3 c4 c5 c6 c7 c8
  by_cases hlt:k<NB
  case pos=>
   obtain⟨x,hx⟩:∃x,LB[k]?=some x:=⟨LB[k]'(by rw[HNN.out];exact hlt),by simp⟩
   obtain⟨b,o,us,hb,hlb,hus,hc⟩:=HRW.out.2 k x hx
   obtain⟨iv,rfl,hsi⟩:=hus
   have HSI:=hHi hsi
   obtain⟨ai,pi,rfl,_⟩:=hsi
   subst hb
   have hq_:=hcb HB.out hlb hc
   have s0:=hq_ 0 _ rfl
   have s1:=hq_ 1 _ rfl
   rw[Nat.add_zero] at s0
   have hltI:(k:Int)<NB:=by omega
   have hsz:=HNB.out x (List.mem_of_getElem? hx)
   have HLX:=hHi (HLV.out x (List.mem_of_getElem? hx))
   have HT:Hid (bS (LB.take (k+1))=bS (LB.take k)++[x.cons]):=by show _=_;rw[take_snoc' hx,bS_snoc]
   have HAC:=hHi (any_cntB (LB.take k) x.cons)
   have hcb:cntN (bS (LB.take k)) x.cons≤1000000:=Nat.le_trans (cntN_le _ _) (by unfold bS;rw[List.length_map,List.length_take];omega)
   have HFW:Hid (boxBad d (LB.take k) x=true→firstWith (boxBad d) [] LB=some x):=fun hb=>fw_take hx HFN.out hb
   have HFE:Hid (boxBad d (LB.take k) x=false→firstWith (boxBad d) [] (LB.take (k+1))=none):=fun hb=>by rw[take_snoc' hx];exact fw_snoc HFN.out hb
   have HRB:Hid (boxBad d (LB.take k) x=(decide (cntN (bS (LB.take k)) x.cons≠0)||match firstCons d.prods x.cons with
    | none=>true
    | some i=>match d.prods[i]? with
     | some p=>!fitsB x p
     | none=>true)):=by show _=_;rw[←HAC.out];rfl
   generalize boxBad d (LB.take k) x=rb at HFW HFE HRB
   clear hq_ hc hx HAC
   obtain⟨w3,hw3⟩:∃qW,wr.alloc (.cells #[.string x.cons,.slice ai x.items.length pi] 59)=qW:=⟨_,rfl⟩
   have HN3:=kB hw3
   have HX3:=kN hw3
   have HM3:=Mp.below HMk HN3
   have HB3:Hid (Below w1.heap.size w1 w3):=below_tr HB'.out HN3.out
   have hlk:=HM3.out.look Tryz.underlying72 (zero3 w3) hsz
   rw[cntL_get] at hlk
   have HKS:=hHi (cntL_snoc (bS (LB.take k)) x.cons)
   rw[←HT.out] at HKS
   generalize cntN (bS (LB.take k)) x.cons=c at hlk HKS hcb HRB
   obtain⟨e0,e1⟩:=HX3.out.c2
   have HNE:Hid (wr.heap.size≠BM):=by show _≠_;have:=HMk.out.lt;omega
   go_wp2_with (first | (at_mapUpdate;refine wpList_mapUpdate_mp rfl _ _ _ 72 rfl 3 Tryz.underlying72 HM3 rfl (by unfold maxLen;omega) x.cons (.int .i64 ((c:Int)+1)) rfl rfl hsz ?_) | go_in)
   intro w4 HM4 HG4
   have HB4:Hid (Below w1.heap.size w1 w4):=HB3.out.trans (belG HG4.out HBM.out HB3.out.size)
   have HBB4:=hHi (below_tr HB1.out HB4.out)
   have HX4:=kG HX3 HG4 HNE.out
   have HXL4:=kA HX1 HB4
   have T:Below w4.heap.size w4 w4:=Below.refl _ _
   have HLM:Hid (∀W,Below w4.heap.size w4 W→(Instr.lookup 72 (.map (some BM)) (.string x.cons) false).run Tryz.prog W=.ok (.int .i64 ((c:Int)+1)) W):=fun W hb=>by
    have h:=(Mp.below HM4 (hHi hb)).out.look Tryz.underlying72 (zero3 W) hsz
    rw[upd_same,Option.getD_some] at h
    exact h
   rw[←HKS.out] at HM4
   clear s0 s1 e0 e1 hlk
   go_wp2
   by_cases hc0:c=0
   ·have HRB2:Hid (rb=match firstCons d.prods x.cons with
     | none=>true
     | some i=>match d.prods[i]? with
      | some p=>!fitsB x p
      | none=>true):=by show _=_;rw[HRB.out];simp[hc0]
    subst hc0
    have HIX:Hid (isCons d x.cons=(firstCons d.prods x.cons).isSome):=rfl
    have HPM:Hid (∀W,Below w.heap.size w W→(Instr.lookup 72 (.map (some B2)) (.string x.cons) false).run Tryz.prog W=.ok ((placeF d.prods x.cons).getD (.int .i64 0)) W):=fun W hb=>(Mp.below HM (hHi hb)).out.look Tryz.underlying72 (zero3 W) hsz
    cases hfc:firstCons d.prods x.cons with
    | none=>
     have HFS:=hHi (HFW.out (by rw[HRB2.out,hfc]))
     have HC:Hid (∀W,Below w4.heap.size w4 W→Calls Tryz.prog 101 #[.agg #[.string d.start,.string d.layout,.slice a2 d.prods.length p2,.slice a3 d.chains.length p3,.slice a4 d.follows.length p4,.slice a5 d.rejects.length p5,.slice (some ⟨b,o,none⟩) NB p6,.map (some B1),.map (some B2)],.string x.cons] W fun e w'=>e=.returned (.bool false)∧Below W.heap.size W w'):=fun W hb=>by
      have h:=HIC.out x.cons hsz W (HBB4.out.trans (hb.mono HBB4.out.size))
      rw[HIX.out,hfc] at h
      exact h
     have HSW:Hid (∀W,Below w4.heap.size w4 W→(W.cell? ⟨w.heap.size,0,none⟩=some (.string d.start)∧W.cell? ⟨w.heap.size,1,none⟩=some (.string d.layout)∧W.cell? ⟨w.heap.size,2,none⟩=some (.slice a2 d.prods.length p2)∧W.cell? ⟨w.heap.size,3,none⟩=some (.slice a3 d.chains.length p3)∧W.cell? ⟨w.heap.size,4,none⟩=some (.slice a4 d.follows.length p4)∧W.cell? ⟨w.heap.size,5,none⟩=some (.slice a5 d.rejects.length p5)∧W.cell? ⟨w.heap.size,6,none⟩=some (.slice (some ⟨b,o,none⟩) NB p6)∧W.cell? ⟨w.heap.size,7,none⟩=some (.map (some B1))∧W.cell? ⟨w.heap.size,8,none⟩=some (.map (some B2)))∧(W.cell? ⟨wr.heap.size,0,none⟩=some (.string x.cons)∧W.cell? ⟨wr.heap.size,1,none⟩=some (.slice ai x.items.length pi))∧(Instr.lookup 72 (.map (some BM)) (.string x.cons) false).run Tryz.prog W=.ok (.int .i64 1) W):=fun W hb=>⟨(HXL4.out.after hb).c9,(HX4.out.after hb).c2,by have h:=HLM.out W hb;simpa using h⟩
     clear hfc
     refine wp_region_held_drew (S:=fun W=>(W.cell? ⟨w.heap.size,0,none⟩=some (.string d.start)∧W.cell? ⟨w.heap.size,1,none⟩=some (.string d.layout)∧W.cell? ⟨w.heap.size,2,none⟩=some (.slice a2 d.prods.length p2)∧W.cell? ⟨w.heap.size,3,none⟩=some (.slice a3 d.chains.length p3)∧W.cell? ⟨w.heap.size,4,none⟩=some (.slice a4 d.follows.length p4)∧W.cell? ⟨w.heap.size,5,none⟩=some (.slice a5 d.rejects.length p5)∧W.cell? ⟨w.heap.size,6,none⟩=some (.slice (some ⟨b,o,none⟩) NB p6)∧W.cell? ⟨w.heap.size,7,none⟩=some (.map (some B1))∧W.cell? ⟨w.heap.size,8,none⟩=some (.map (some B2)))∧(W.cell? ⟨wr.heap.size,0,none⟩=some (.string x.cons)∧W.cell? ⟨wr.heap.size,1,none⟩=some (.slice ai x.items.length pi))∧(Instr.lookup 72 (.map (some BM)) (.string x.cons) false).run Tryz.prog W=.ok (.int .i64 1) W) (by kernel_rfl) (HSW.out _ T.drew) (fun hHeld=>?_)
     refine tk 0 rfl (by assumption) ?_
     try simp only[Act.put,List.getElem_toArray,List.getElem_cons_zero,List.getElem_cons_succ,List.setIfInBounds_toArray,List.set_cons_zero,List.set_cons_succ]
     refine tk 1 rfl (by assumption) ?_
     try simp only[Act.put,List.getElem_toArray,List.getElem_cons_zero,List.getElem_cons_succ,List.setIfInBounds_toArray,List.set_cons_zero,List.set_cons_succ]
     refine tk 2 rfl (by assumption) ?_
     try simp only[Act.put,List.getElem_toArray,List.getElem_cons_zero,List.getElem_cons_succ,List.setIfInBounds_toArray,List.set_cons_zero,List.set_cons_succ]
     refine tk 3 rfl (by assumption) ?_
     try simp only[Act.put,List.getElem_toArray,List.getElem_cons_zero,List.getElem_cons_succ,List.setIfInBounds_toArray,List.set_cons_zero,List.set_cons_succ]
     refine tk 4 rfl (by assumption) ?_
     try simp only[Act.put,List.getElem_toArray,List.getElem_cons_zero,List.getElem_cons_succ,List.setIfInBounds_toArray,List.set_cons_zero,List.set_cons_succ]
     refine tk 5 rfl (by assumption) ?_
     try simp only[Act.put,List.getElem_toArray,List.getElem_cons_zero,List.getElem_cons_succ,List.setIfInBounds_toArray,List.set_cons_zero,List.set_cons_succ]
     refine tk 6 rfl (by assumption) ?_
     try simp only[Act.put,List.getElem_toArray,List.getElem_cons_zero,List.getElem_cons_succ,List.setIfInBounds_toArray,List.set_cons_zero,List.set_cons_succ]
     refine tk 7 rfl (by assumption) ?_
     try simp only[Act.put,List.getElem_toArray,List.getElem_cons_zero,List.getElem_cons_succ,List.setIfInBounds_toArray,List.set_cons_zero,List.set_cons_succ]
     refine tk 8 rfl (by assumption) ?_
     try simp only[Act.put,List.getElem_toArray,List.getElem_cons_zero,List.getElem_cons_succ,List.setIfInBounds_toArray,List.set_cons_zero,List.set_cons_succ]
     refine rd1 9 rfl (fun K hK=>?_)
     go_simp
     refine (HC.out _ T.drew).mono ?_
     rintro e w5 ⟨rfl,hb5⟩
     replace T:Below w4.heap.size w4 w5:=below_tr T.drew hb5
     refine hK.out _ _ (HSW.out _ T) (fun hHeld=>?_)
     clear hK K hb5
     refine tk 10 rfl (by assumption) ?_
     try simp only[Act.put,List.getElem_toArray,List.getElem_cons_zero,List.getElem_cons_succ,List.setIfInBounds_toArray,List.set_cons_zero,List.set_cons_succ]
     refine tk 11 rfl (by assumption) ?_
     try simp only[Act.put,List.getElem_toArray,List.getElem_cons_zero,List.getElem_cons_succ,List.setIfInBounds_toArray,List.set_cons_zero,List.set_cons_succ]
     refine tk 12 rfl (by assumption) ?_
     try simp only[Act.put,List.getElem_toArray,List.getElem_cons_zero,List.getElem_cons_succ,List.setIfInBounds_toArray,List.set_cons_zero,List.set_cons_succ]
     refine tkn 13 rfl (by assumption) ?_
     try simp only[Act.put,List.getElem_toArray,List.getElem_cons_zero,List.getElem_cons_succ,List.setIfInBounds_toArray,List.set_cons_zero,List.set_cons_succ]
     refine tkn 14 rfl (by assumption) ?_
     try simp only[Act.put,List.getElem_toArray,List.getElem_cons_zero,List.getElem_cons_succ,List.setIfInBounds_toArray,List.set_cons_zero,List.set_cons_succ]
     refine tkn 15 rfl (by assumption) ?_
     try simp only[Act.put,List.getElem_toArray,List.getElem_cons_zero,List.getElem_cons_succ,List.setIfInBounds_toArray,List.set_cons_zero,List.set_cons_succ]
     refine tkn 16 rfl (by assumption) ?_
     try simp only[Act.put,List.getElem_toArray,List.getElem_cons_zero,List.getElem_cons_succ,List.setIfInBounds_toArray,List.set_cons_zero,List.set_cons_succ]
     refine tkn 17 rfl (by assumption) ?_
     try simp only[Act.put,List.getElem_toArray,List.getElem_cons_zero,List.getElem_cons_succ,List.setIfInBounds_toArray,List.set_cons_zero,List.set_cons_succ]
     refine tkn 18 rfl (by assumption) ?_
     try simp only[Act.put,List.getElem_toArray,List.getElem_cons_zero,List.getElem_cons_succ,List.setIfInBounds_toArray,List.set_cons_zero,List.set_cons_succ]
     refine tkn 19 rfl (by assumption) ?_
     try simp only[Act.put,List.getElem_toArray,List.getElem_cons_zero,List.getElem_cons_succ,List.setIfInBounds_toArray,List.set_cons_zero,List.set_cons_succ]
     refine tkn 20 rfl (by assumption) ?_
     try simp only[Act.put,List.getElem_toArray,List.getElem_cons_zero,List.getElem_cons_succ,List.setIfInBounds_toArray,List.set_cons_zero,List.set_cons_succ]
     refine tkn 21 rfl (by assumption) ?_
     try simp only[Act.put,List.getElem_toArray,List.getElem_cons_zero,List.getElem_cons_succ,List.setIfInBounds_toArray,List.set_cons_zero,List.set_cons_succ]
     refine tkn 22 rfl (by assumption) ?_
     try simp only[Act.put,List.getElem_toArray,List.getElem_cons_zero,List.getElem_cons_succ,List.setIfInBounds_toArray,List.set_cons_zero,List.set_cons_succ]
     refine tkn 23 rfl (by assumption) ?_
     try simp only[Act.put,List.getElem_toArray,List.getElem_cons_zero,List.getElem_cons_succ,List.setIfInBounds_toArray,List.set_cons_zero,List.set_cons_succ]
     refine tkn 24 rfl (by assumption) ?_
     try simp only[Act.put,List.getElem_toArray,List.getElem_cons_zero,List.getElem_cons_succ,List.setIfInBounds_toArray,List.set_cons_zero,List.set_cons_succ]
     refine tkn 25 rfl (by assumption) ?_
     try simp only[Act.put,List.getElem_toArray,List.getElem_cons_zero,List.getElem_cons_succ,List.setIfInBounds_toArray,List.set_cons_zero,List.set_cons_succ]
     refine tk 26 rfl (by assumption) ?_
     try simp only[Act.put,List.getElem_toArray,List.getElem_cons_zero,List.getElem_cons_succ,List.setIfInBounds_toArray,List.set_cons_zero,List.set_cons_succ]
     refine wpAnyH_done (by kernel_rfl) ?_ _
     obtain⟨e0,e1⟩:=(HX4.out.after T).c2
     go_wp2
     go_quiet (fail)
     go_wp2
     go_ret2
     exact ⟨⟨52,x.cons,rfl,by rw[HLN.out,HFS.out];rfl⟩,bel_dn _ (HBB4.out.trans (T.mono HBB4.out.size))⟩
    | some j=>
     obtain⟨p,hpj,hjl⟩:=firstCons_at hfc
     obtain⟨b9,o9,us9,hb9,hl9,hus9,hc9⟩:=HRW.out.1 j p hpj
     obtain⟨sv,rfl,hss⟩:=hus9
     have HSS:=hHi hss
     obtain⟨asl,ps,rfl,_⟩:=hss
     subst hb9
     have HRB3:Hid (rb=!fitsB x p):=by show _=_;rw[HRB2.out,hfc];simp only[hpj]
     have HC:Hid (∀W,Below w4.heap.size w4 W→Calls Tryz.prog 101 #[.agg #[.string d.start,.string d.layout,.slice (some ⟨b9,o9,none⟩) d.prods.length p2,.slice a3 d.chains.length p3,.slice a4 d.follows.length p4,.slice a5 d.rejects.length p5,.slice (some ⟨b,o,none⟩) NB p6,.map (some B1),.map (some B2)],.string x.cons] W fun e w'=>e=.returned (.bool true)∧Below W.heap.size W w'):=fun W hb=>by
      have h:=HIC.out x.cons hsz W (HBB4.out.trans (hb.mono HBB4.out.size))
      rw[HIX.out,hfc] at h
      exact h
     have HFI:Hid (∀W,Below w4.heap.size w4 W→Calls Tryz.prog 102 #[.agg #[.string x.cons,.slice ai x.items.length pi],.agg #[.bool p.lex,.string p.sort,.string p.cons,.bool p.bracket,.slice asl p.syms.length ps]] W fun e w'=>e=.returned (.bool (fitsB x p))∧Below W.heap.size W w'):=fun W hb=>by
      have hb0:=HBB4.out.trans (hb.mono HBB4.out.size)
      exact fits_any f x p _ _ W (HSI.out.keep hb0 hb0.size (fun _ _ _ h=>h.keep hb0 hb0.size)) (HSS.out.keep hb0 hb0.size (fun _ _ _ h=>h)) (HSY.out p (List.mem_of_getElem? hpj)) HLX.out
     have HSW:Hid (∀W,Below w4.heap.size w4 W→(W.cell? ⟨w.heap.size,0,none⟩=some (.string d.start)∧W.cell? ⟨w.heap.size,1,none⟩=some (.string d.layout)∧W.cell? ⟨w.heap.size,2,none⟩=some (.slice (some ⟨b9,o9,none⟩) d.prods.length p2)∧W.cell? ⟨w.heap.size,3,none⟩=some (.slice a3 d.chains.length p3)∧W.cell? ⟨w.heap.size,4,none⟩=some (.slice a4 d.follows.length p4)∧W.cell? ⟨w.heap.size,5,none⟩=some (.slice a5 d.rejects.length p5)∧W.cell? ⟨w.heap.size,6,none⟩=some (.slice (some ⟨b,o,none⟩) NB p6)∧W.cell? ⟨w.heap.size,7,none⟩=some (.map (some B1))∧W.cell? ⟨w.heap.size,8,none⟩=some (.map (some B2)))∧(W.cell? ⟨wr.heap.size,0,none⟩=some (.string x.cons)∧W.cell? ⟨wr.heap.size,1,none⟩=some (.slice ai x.items.length pi))∧(Instr.lookup 72 (.map (some BM)) (.string x.cons) false).run Tryz.prog W=.ok (.int .i64 1) W∧(W.cell? ⟨b9,o9+j*5,none⟩=some (.bool p.lex)∧W.cell? ⟨b9,o9+j*5+1,none⟩=some (.string p.sort)∧W.cell? ⟨b9,o9+j*5+2,none⟩=some (.string p.cons)∧W.cell? ⟨b9,o9+j*5+3,none⟩=some (.bool p.bracket)∧W.cell? ⟨b9,o9+j*5+4,none⟩=some (.slice asl p.syms.length ps))∧(Instr.lookup 72 (.map (some B2)) (.string x.cons) false).run Tryz.prog W=.ok (.int .i64 (j:Nat)) W):=fun W hb=>by
      have hb0:=HBB4.out.trans (hb.mono HBB4.out.size)
      have hq:=hcbL hb0 hl9 hc9
      refine ⟨(HXL4.out.after hb).c9,(HX4.out.after hb).c2,by have h:=HLM.out W hb;simpa using h,⟨by have h:=hq 0 _ rfl;rw[Nat.add_zero] at h;exact h,hq 1 _ rfl,hq 2 _ rfl,hq 3 _ rfl,hq 4 _ rfl⟩,?_⟩
      have h:=HPM.out W hb0
      unfold placeF at h
      rw[hfc] at h
      exact h
     have hj1:(0:Int)≤(j:Int):=by omega
     have hj2:(j:Int)<(d.prods.length:Int):=by omega
     generalize fitsB x p=qf at HFI HRB3
     clear hfc hpj hc9
     refine wp_region_held_drew (S:=fun W=>(W.cell? ⟨w.heap.size,0,none⟩=some (.string d.start)∧W.cell? ⟨w.heap.size,1,none⟩=some (.string d.layout)∧W.cell? ⟨w.heap.size,2,none⟩=some (.slice (some ⟨b9,o9,none⟩) d.prods.length p2)∧W.cell? ⟨w.heap.size,3,none⟩=some (.slice a3 d.chains.length p3)∧W.cell? ⟨w.heap.size,4,none⟩=some (.slice a4 d.follows.length p4)∧W.cell? ⟨w.heap.size,5,none⟩=some (.slice a5 d.rejects.length p5)∧W.cell? ⟨w.heap.size,6,none⟩=some (.slice (some ⟨b,o,none⟩) NB p6)∧W.cell? ⟨w.heap.size,7,none⟩=some (.map (some B1))∧W.cell? ⟨w.heap.size,8,none⟩=some (.map (some B2)))∧(W.cell? ⟨wr.heap.size,0,none⟩=some (.string x.cons)∧W.cell? ⟨wr.heap.size,1,none⟩=some (.slice ai x.items.length pi))∧(Instr.lookup 72 (.map (some BM)) (.string x.cons) false).run Tryz.prog W=.ok (.int .i64 1) W∧(W.cell? ⟨b9,o9+j*5,none⟩=some (.bool p.lex)∧W.cell? ⟨b9,o9+j*5+1,none⟩=some (.string p.sort)∧W.cell? ⟨b9,o9+j*5+2,none⟩=some (.string p.cons)∧W.cell? ⟨b9,o9+j*5+3,none⟩=some (.bool p.bracket)∧W.cell? ⟨b9,o9+j*5+4,none⟩=some (.slice asl p.syms.length ps))∧(Instr.lookup 72 (.map (some B2)) (.string x.cons) false).run Tryz.prog W=.ok (.int .i64 (j:Nat)) W) (by kernel_rfl) (HSW.out _ T.drew) (fun hHeld=>?_)
     refine tk 0 rfl (by assumption) ?_
     try simp only[Act.put,List.getElem_toArray,List.getElem_cons_zero,List.getElem_cons_succ,List.setIfInBounds_toArray,List.set_cons_zero,List.set_cons_succ]
     refine tk 1 rfl (by assumption) ?_
     try simp only[Act.put,List.getElem_toArray,List.getElem_cons_zero,List.getElem_cons_succ,List.setIfInBounds_toArray,List.set_cons_zero,List.set_cons_succ]
     refine tk 2 rfl (by assumption) ?_
     try simp only[Act.put,List.getElem_toArray,List.getElem_cons_zero,List.getElem_cons_succ,List.setIfInBounds_toArray,List.set_cons_zero,List.set_cons_succ]
     refine tk 3 rfl (by assumption) ?_
     try simp only[Act.put,List.getElem_toArray,List.getElem_cons_zero,List.getElem_cons_succ,List.setIfInBounds_toArray,List.set_cons_zero,List.set_cons_succ]
     refine tk 4 rfl (by assumption) ?_
     try simp only[Act.put,List.getElem_toArray,List.getElem_cons_zero,List.getElem_cons_succ,List.setIfInBounds_toArray,List.set_cons_zero,List.set_cons_succ]
     refine tk 5 rfl (by assumption) ?_
     try simp only[Act.put,List.getElem_toArray,List.getElem_cons_zero,List.getElem_cons_succ,List.setIfInBounds_toArray,List.set_cons_zero,List.set_cons_succ]
     refine tk 6 rfl (by assumption) ?_
     try simp only[Act.put,List.getElem_toArray,List.getElem_cons_zero,List.getElem_cons_succ,List.setIfInBounds_toArray,List.set_cons_zero,List.set_cons_succ]
     refine tk 7 rfl (by assumption) ?_
     try simp only[Act.put,List.getElem_toArray,List.getElem_cons_zero,List.getElem_cons_succ,List.setIfInBounds_toArray,List.set_cons_zero,List.set_cons_succ]
     refine tk 8 rfl (by assumption) ?_
     try simp only[Act.put,List.getElem_toArray,List.getElem_cons_zero,List.getElem_cons_succ,List.setIfInBounds_toArray,List.set_cons_zero,List.set_cons_succ]
     refine rd1 9 rfl (fun K hK=>?_)
     go_simp
     refine (HC.out _ T.drew).mono ?_
     rintro e w5 ⟨rfl,hb5⟩
     replace T:Below w4.heap.size w4 w5:=below_tr T.drew hb5
     refine hK.out _ _ (HSW.out _ T) (fun hHeld=>?_)
     clear hK K hb5
     refine tk 10 rfl (by assumption) ?_
     try simp only[Act.put,List.getElem_toArray,List.getElem_cons_zero,List.getElem_cons_succ,List.setIfInBounds_toArray,List.set_cons_zero,List.set_cons_succ]
     refine tk 11 rfl (by assumption) ?_
     try simp only[Act.put,List.getElem_toArray,List.getElem_cons_zero,List.getElem_cons_succ,List.setIfInBounds_toArray,List.set_cons_zero,List.set_cons_succ]
     refine tk 12 rfl (by assumption) ?_
     try simp only[Act.put,List.getElem_toArray,List.getElem_cons_zero,List.getElem_cons_succ,List.setIfInBounds_toArray,List.set_cons_zero,List.set_cons_succ]
     refine tk 13 rfl (by assumption) ?_
     try simp only[Act.put,List.getElem_toArray,List.getElem_cons_zero,List.getElem_cons_succ,List.setIfInBounds_toArray,List.set_cons_zero,List.set_cons_succ]
     refine tk 14 rfl (by assumption) ?_
     try simp only[Act.put,List.getElem_toArray,List.getElem_cons_zero,List.getElem_cons_succ,List.setIfInBounds_toArray,List.set_cons_zero,List.set_cons_succ]
     refine tk 15 rfl (by assumption) ?_
     try simp only[Act.put,List.getElem_toArray,List.getElem_cons_zero,List.getElem_cons_succ,List.setIfInBounds_toArray,List.set_cons_zero,List.set_cons_succ]
     refine tk 16 rfl (by assumption) ?_
     try simp only[Act.put,List.getElem_toArray,List.getElem_cons_zero,List.getElem_cons_succ,List.setIfInBounds_toArray,List.set_cons_zero,List.set_cons_succ]
     refine tk 17 rfl (by assumption) ?_
     try simp only[Act.put,List.getElem_toArray,List.getElem_cons_zero,List.getElem_cons_succ,List.setIfInBounds_toArray,List.set_cons_zero,List.set_cons_succ]
     refine tk 18 rfl (by assumption) ?_
     try simp only[Act.put,List.getElem_toArray,List.getElem_cons_zero,List.getElem_cons_succ,List.setIfInBounds_toArray,List.set_cons_zero,List.set_cons_succ]
     refine tk 19 rfl (by assumption) ?_
     try simp only[Act.put,List.getElem_toArray,List.getElem_cons_zero,List.getElem_cons_succ,List.setIfInBounds_toArray,List.set_cons_zero,List.set_cons_succ]
     refine tk 20 rfl (by assumption) ?_
     try simp only[Act.put,List.getElem_toArray,List.getElem_cons_zero,List.getElem_cons_succ,List.setIfInBounds_toArray,List.set_cons_zero,List.set_cons_succ]
     refine tk 21 rfl (by assumption) ?_
     try simp only[Act.put,List.getElem_toArray,List.getElem_cons_zero,List.getElem_cons_succ,List.setIfInBounds_toArray,List.set_cons_zero,List.set_cons_succ]
     refine tk 22 rfl (by assumption) ?_
     try simp only[Act.put,List.getElem_toArray,List.getElem_cons_zero,List.getElem_cons_succ,List.setIfInBounds_toArray,List.set_cons_zero,List.set_cons_succ]
     refine tk 23 rfl (by assumption) ?_
     try simp only[Act.put,List.getElem_toArray,List.getElem_cons_zero,List.getElem_cons_succ,List.setIfInBounds_toArray,List.set_cons_zero,List.set_cons_succ]
     refine rd1 24 rfl (fun K hK=>?_)
     go_simp
     refine (HFI.out _ T).mono ?_
     rintro e w6 ⟨rfl,hb6⟩
     replace T:Below w4.heap.size w4 w6:=below_tr T hb6
     refine hK.out _ _ (HSW.out _ T) (fun hHeld=>?_)
     clear hK K hb6
     refine tk 25 rfl (by assumption) ?_
     try simp only[Act.put,List.getElem_toArray,List.getElem_cons_zero,List.getElem_cons_succ,List.setIfInBounds_toArray,List.set_cons_zero,List.set_cons_succ]
     refine tk 26 rfl (by assumption) ?_
     try simp only[Act.put,List.getElem_toArray,List.getElem_cons_zero,List.getElem_cons_succ,List.setIfInBounds_toArray,List.set_cons_zero,List.set_cons_succ]
     refine wpAnyH_done (by kernel_rfl) ?_ _
     obtain⟨e0,e1⟩:=(HX4.out.after T).c2
     cases qf with
     | false=>
      have HFS:=hHi (HFW.out HRB3.out)
      go_wp2
      go_quiet (fail)
      go_wp2
      go_ret2
      exact ⟨⟨52,x.cons,rfl,by rw[HLN.out,HFS.out];rfl⟩,bel_dn _ (HBB4.out.trans (T.mono HBB4.out.size))⟩
     | true=>
      have HFX:=hHi (HFE.out HRB3.out)
      have HM9:=Mp.below HM4 (hHi T)
      have HB9:=hHi (HB4.out.trans (T.mono HB4.out.size))
      go_wp2
      go_roundw
      case rel=>exact ⟨k+1,by omega,by go_num,HM9.out,HFX.out,HB9.out⟩
      case measure=>simp[intOf];omega
   ·have HFS:=hHi (HFW.out (by rw[HRB.out];simp[hc0]))
    have hc1:(1:Int)<(c:Int)+1:=by omega
    have hc2:0<c:=by omega
    have HSW:Hid (∀W,Below w4.heap.size w4 W→(W.cell? ⟨w.heap.size,0,none⟩=some (.string d.start)∧W.cell? ⟨w.heap.size,1,none⟩=some (.string d.layout)∧W.cell? ⟨w.heap.size,2,none⟩=some (.slice a2 d.prods.length p2)∧W.cell? ⟨w.heap.size,3,none⟩=some (.slice a3 d.chains.length p3)∧W.cell? ⟨w.heap.size,4,none⟩=some (.slice a4 d.follows.length p4)∧W.cell? ⟨w.heap.size,5,none⟩=some (.slice a5 d.rejects.length p5)∧W.cell? ⟨w.heap.size,6,none⟩=some (.slice (some ⟨b,o,none⟩) NB p6)∧W.cell? ⟨w.heap.size,7,none⟩=some (.map (some B1))∧W.cell? ⟨w.heap.size,8,none⟩=some (.map (some B2)))∧(W.cell? ⟨wr.heap.size,0,none⟩=some (.string x.cons)∧W.cell? ⟨wr.heap.size,1,none⟩=some (.slice ai x.items.length pi))∧(Instr.lookup 72 (.map (some BM)) (.string x.cons) false).run Tryz.prog W=.ok (.int .i64 ((c:Int)+1)) W):=fun W hb=>⟨(HXL4.out.after hb).c9,(HX4.out.after hb).c2,HLM.out W hb⟩
    clear hc0
    refine wp_region_held_drew (S:=fun W=>(W.cell? ⟨w.heap.size,0,none⟩=some (.string d.start)∧W.cell? ⟨w.heap.size,1,none⟩=some (.string d.layout)∧W.cell? ⟨w.heap.size,2,none⟩=some (.slice a2 d.prods.length p2)∧W.cell? ⟨w.heap.size,3,none⟩=some (.slice a3 d.chains.length p3)∧W.cell? ⟨w.heap.size,4,none⟩=some (.slice a4 d.follows.length p4)∧W.cell? ⟨w.heap.size,5,none⟩=some (.slice a5 d.rejects.length p5)∧W.cell? ⟨w.heap.size,6,none⟩=some (.slice (some ⟨b,o,none⟩) NB p6)∧W.cell? ⟨w.heap.size,7,none⟩=some (.map (some B1))∧W.cell? ⟨w.heap.size,8,none⟩=some (.map (some B2)))∧(W.cell? ⟨wr.heap.size,0,none⟩=some (.string x.cons)∧W.cell? ⟨wr.heap.size,1,none⟩=some (.slice ai x.items.length pi))∧(Instr.lookup 72 (.map (some BM)) (.string x.cons) false).run Tryz.prog W=.ok (.int .i64 ((c:Int)+1)) W) (by kernel_rfl) (HSW.out _ T.drew) (fun hHeld=>?_)
    replace T:=T.drew
    refine tk 0 rfl (by assumption) ?_
    try simp only[Act.put,List.getElem_toArray,List.getElem_cons_zero,List.getElem_cons_succ,List.setIfInBounds_toArray,List.set_cons_zero,List.set_cons_succ]
    refine tk 1 rfl (by assumption) ?_
    try simp only[Act.put,List.getElem_toArray,List.getElem_cons_zero,List.getElem_cons_succ,List.setIfInBounds_toArray,List.set_cons_zero,List.set_cons_succ]
    refine tk 2 rfl (by assumption) ?_
    try simp only[Act.put,List.getElem_toArray,List.getElem_cons_zero,List.getElem_cons_succ,List.setIfInBounds_toArray,List.set_cons_zero,List.set_cons_succ]
    refine tk 3 rfl (by assumption) ?_
    try simp only[Act.put,List.getElem_toArray,List.getElem_cons_zero,List.getElem_cons_succ,List.setIfInBounds_toArray,List.set_cons_zero,List.set_cons_succ]
    refine tk 4 rfl (by assumption) ?_
    try simp only[Act.put,List.getElem_toArray,List.getElem_cons_zero,List.getElem_cons_succ,List.setIfInBounds_toArray,List.set_cons_zero,List.set_cons_succ]
    refine tk 5 rfl (by assumption) ?_
    try simp only[Act.put,List.getElem_toArray,List.getElem_cons_zero,List.getElem_cons_succ,List.setIfInBounds_toArray,List.set_cons_zero,List.set_cons_succ]
    refine tkn 6 rfl (by assumption) ?_
    try simp only[Act.put,List.getElem_toArray,List.getElem_cons_zero,List.getElem_cons_succ,List.setIfInBounds_toArray,List.set_cons_zero,List.set_cons_succ]
    refine tkn 7 rfl (by assumption) ?_
    try simp only[Act.put,List.getElem_toArray,List.getElem_cons_zero,List.getElem_cons_succ,List.setIfInBounds_toArray,List.set_cons_zero,List.set_cons_succ]
    refine tkn 8 rfl (by assumption) ?_
    try simp only[Act.put,List.getElem_toArray,List.getElem_cons_zero,List.getElem_cons_succ,List.setIfInBounds_toArray,List.set_cons_zero,List.set_cons_succ]
    refine tkn 9 rfl (by assumption) ?_
    try simp only[Act.put,List.getElem_toArray,List.getElem_cons_zero,List.getElem_cons_succ,List.setIfInBounds_toArray,List.set_cons_zero,List.set_cons_succ]
    refine tkn 10 rfl (by assumption) ?_
    try simp only[Act.put,List.getElem_toArray,List.getElem_cons_zero,List.getElem_cons_succ,List.setIfInBounds_toArray,List.set_cons_zero,List.set_cons_succ]
    refine tk 11 rfl (by assumption) ?_
    try simp only[Act.put,List.getElem_toArray,List.getElem_cons_zero,List.getElem_cons_succ,List.setIfInBounds_toArray,List.set_cons_zero,List.set_cons_succ]
    refine tk 12 rfl (by assumption) ?_
    try simp only[Act.put,List.getElem_toArray,List.getElem_cons_zero,List.getElem_cons_succ,List.setIfInBounds_toArray,List.set_cons_zero,List.set_cons_succ]
    refine tkn 13 rfl (by assumption) ?_
    try simp only[Act.put,List.getElem_toArray,List.getElem_cons_zero,List.getElem_cons_succ,List.setIfInBounds_toArray,List.set_cons_zero,List.set_cons_succ]
    refine tkn 14 rfl (by assumption) ?_
    try simp only[Act.put,List.getElem_toArray,List.getElem_cons_zero,List.getElem_cons_succ,List.setIfInBounds_toArray,List.set_cons_zero,List.set_cons_succ]
    refine tkn 15 rfl (by assumption) ?_
    try simp only[Act.put,List.getElem_toArray,List.getElem_cons_zero,List.getElem_cons_succ,List.setIfInBounds_toArray,List.set_cons_zero,List.set_cons_succ]
    refine tkn 16 rfl (by assumption) ?_
    try simp only[Act.put,List.getElem_toArray,List.getElem_cons_zero,List.getElem_cons_succ,List.setIfInBounds_toArray,List.set_cons_zero,List.set_cons_succ]
    refine tkn 17 rfl (by assumption) ?_
    try simp only[Act.put,List.getElem_toArray,List.getElem_cons_zero,List.getElem_cons_succ,List.setIfInBounds_toArray,List.set_cons_zero,List.set_cons_succ]
    refine tkn 18 rfl (by assumption) ?_
    try simp only[Act.put,List.getElem_toArray,List.getElem_cons_zero,List.getElem_cons_succ,List.setIfInBounds_toArray,List.set_cons_zero,List.set_cons_succ]
    refine tkn 19 rfl (by assumption) ?_
    try simp only[Act.put,List.getElem_toArray,List.getElem_cons_zero,List.getElem_cons_succ,List.setIfInBounds_toArray,List.set_cons_zero,List.set_cons_succ]
    refine tkn 20 rfl (by assumption) ?_
    try simp only[Act.put,List.getElem_toArray,List.getElem_cons_zero,List.getElem_cons_succ,List.setIfInBounds_toArray,List.set_cons_zero,List.set_cons_succ]
    refine tkn 21 rfl (by assumption) ?_
    try simp only[Act.put,List.getElem_toArray,List.getElem_cons_zero,List.getElem_cons_succ,List.setIfInBounds_toArray,List.set_cons_zero,List.set_cons_succ]
    refine tkn 22 rfl (by assumption) ?_
    try simp only[Act.put,List.getElem_toArray,List.getElem_cons_zero,List.getElem_cons_succ,List.setIfInBounds_toArray,List.set_cons_zero,List.set_cons_succ]
    refine tkn 23 rfl (by assumption) ?_
    try simp only[Act.put,List.getElem_toArray,List.getElem_cons_zero,List.getElem_cons_succ,List.setIfInBounds_toArray,List.set_cons_zero,List.set_cons_succ]
    refine tkn 24 rfl (by assumption) ?_
    try simp only[Act.put,List.getElem_toArray,List.getElem_cons_zero,List.getElem_cons_succ,List.setIfInBounds_toArray,List.set_cons_zero,List.set_cons_succ]
    refine tkn 25 rfl (by assumption) ?_
    try simp only[Act.put,List.getElem_toArray,List.getElem_cons_zero,List.getElem_cons_succ,List.setIfInBounds_toArray,List.set_cons_zero,List.set_cons_succ]
    refine tk 26 rfl (by assumption) ?_
    try simp only[Act.put,List.getElem_toArray,List.getElem_cons_zero,List.getElem_cons_succ,List.setIfInBounds_toArray,List.set_cons_zero,List.set_cons_succ]
    refine wpAnyH_done (by kernel_rfl) ?_ _
    obtain⟨e0,e1⟩:=HX4.out.c2
    go_wp2
    go_quiet (fail)
    go_wp2
    go_ret2
    exact ⟨⟨52,x.cons,rfl,by rw[HLN.out,HFS.out];rfl⟩,bel_dn _ (HBB4.out.trans (T.mono HBB4.out.size))⟩
  obtain rfl:k=NB:=by omega
  have HNX:Hid (firstWith (boxBad d) [] LB=none):=by have h:=HFN.out;rw[List.take_of_length_le (by rw[HNN.out];exact Nat.le_refl _)] at h;exact h
  go_wp2
  go_ret2
  exact ⟨⟨0,no,rfl,by rw[HLN.out,HNX.out];rfl⟩,HB.out⟩
end Go.Proofs.YtilpgpcgcpedjaaGreat
