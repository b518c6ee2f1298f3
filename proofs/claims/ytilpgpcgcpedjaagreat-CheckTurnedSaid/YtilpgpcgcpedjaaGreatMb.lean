/- Constructors that stand twice: the line. -/
import Derived.Test.YtilpgpcgcpedjaaGreatMa
namespace Go.Proofs.YtilpgpcgcpedjaaGreat
open Go.RowKit
set_option linter.unusedVariables false
set_option linter.unusedSimpArgs false
set_option maxRecDepth 100000
set_option maxHeartbeats 16000000
theorem findIdx_take {α:Type} {f:α→Bool}:∀{l:List α} {k:Nat} {x:α},l[k]?=some x→f x=true→∃j,l.findIdx? f=some j∧(j=k↔(l.take k).any f=false)
 | [],_,_,h,_=>by cases h
 | y::l,0,x,h,hf=>by
  simp at h
  subst h
  exact ⟨0,by simp[List.findIdx?_cons,hf],by simp⟩
 | y::l,k+1,x,h,hf=>by
  rw[List.getElem?_cons_succ] at h
  cases hy:f y
  ·obtain⟨j,h1,h2⟩:=findIdx_take h hf
   refine ⟨j+1,by simp[List.findIdx?_cons,hy,h1],?_⟩
   rw[List.take_succ_cons,List.any_cons,hy,Bool.false_or,←h2]
   omega
  ·refine ⟨0,by simp[List.findIdx?_cons,hy],?_⟩
   rw[List.take_succ_cons,List.any_cons,hy]
   simp
def cbad (b:List Pr) (p:Pr):Bool:=decide (consOf p≠no)&&b.any fun q=>decide (consOf q=consOf p)
theorem cons_at {L:List Pr} {k:Nat} {x:Pr} (hx:L[k]?=some x) (hn:consOf x≠no):∃j,firstCons L (consOf x)=some j∧(j≠k↔cbad (L.take k) x=true):=by
 obtain⟨j,h1,h2⟩:=findIdx_take (f:=fun p=>decide (consOf p=consOf x∧consOf x≠no)) hx (by simp[hn])
 refine ⟨j,h1,?_⟩
 unfold cbad
 rw[decide_eq_true hn,Bool.true_and]
 have e:(fun p=>decide (consOf p=consOf x∧consOf x≠no))=fun q=>decide (consOf q=consOf x):=by funext q;simp[hn]
 rw[e] at h2
 cases hb:(L.take k).any fun q=>decide (consOf q=consOf x)
 ·have:=h2.2 hb
  simp[this]
 ·simp only[iff_true]
  intro hj
  have:=h2.1 hj
  rw[hb] at this
  cases this
theorem cons_line (d:Df) (a2:Option Addr) (p2:Nat) (a3:Option Addr) (p3:Nat) (a4:Option Addr) (p4:Nat) (a5:Option Addr) (p5:Nat) (a6:Option Addr) (p6 B1 B2:Nat) (w:World) (h:LK w d [.string d.start,.string d.layout,.slice a2 d.prods.length p2,.slice a3 d.chains.length p3,.slice a4 d.follows.length p4,.slice a5 d.rejects.length p5,.slice a6 d.boxes.length p6] B1 B2):
  Calls Tryz.prog 42 #[.agg #[.string d.start,.string d.layout,.slice a2 d.prods.length p2,.slice a3 d.chains.length p3,.slice a4 d.follows.length p4,.slice a5 d.rejects.length p5,.slice a6 d.boxes.length p6,.map (some B1),.map (some B2)]] w fun e w'=>Tl e (line d 5)∧Below w.heap.size w w':=by
 obtain⟨n,hm⟩:=h.m2
 obtain⟨w1,hw1⟩:∃qW,w.alloc (.cells #[.string d.start,.string d.layout,.slice a2 d.prods.length p2,.slice a3 d.chains.length p3,.slice a4 d.follows.length p4,.slice a5 d.rejects.length p5,.slice a6 d.boxes.length p6,.map (some B1),.map (some B2)] 75)=qW:=⟨_,rfl⟩
 have HX1:=kN hw1
 have HB1:=kB hw1
 have HM1:=Mp.below (hHi hm) HB1
 have HNM:=hHi h.df.nm.prods
 have HR1:Hid (Row w w.heap.size 5 (PrV w w.heap.size) a2 d.prods):=by
  obtain⟨b2,q2,b3,q3,b4,q4,b5,q5,b6,q6,e,r2,_⟩:=h.df.form
  simp only[List.cons.injEq,Value.slice.injEq] at e
  obtain⟨_,_,⟨rfl,_,_⟩,_⟩:=e
  exact r2
 have HLL:Hid (d.prods.length≤140737488355328):=by
  obtain⟨g,hg⟩:=h.df.sz
  have:=hg.p
  show _≤_
  omega
 have HLN:Hid (line d 5=tell 45 ((firstWith cbad [] d.prods).map (·.cons))):=rfl
 generalize line d 5=ln at HLN ⊢
 clear h hm
 obtain⟨L,hL⟩:∃L,d.prods=L:=⟨_,rfl⟩
 rw[hL] at HR1 HLL HLN HX1 hw1 HM1 HNM ⊢
 clear hL
 obtain⟨N,hN⟩:∃N,L.length=N:=⟨_,rfl⟩
 rw[hN] at HLL HX1 hw1 ⊢
 have HN:=hHi hN
 have hNb:=HLL.out
 clear hN
 go_enter Tryz.func42,Tryz.ntmps42
 obtain⟨c0,c1,c2,c3,c4,c5,c6,c7,c8⟩:=HX1.out.c9
 go_wp2
 go_loopw[11] (fun iv W=>∃(k:Nat),k≤N∧iv=.int .i64 k∧firstWith cbad [] (L.take k)=none∧Below w1.heap.size w1 W) (fun iv _=>N-(intOf iv).toNat)
 case atStart=>exact ⟨0,Nat.zero_le _,rfl,rfl,Below.refl _ _⟩
 case round=>
  obtain⟨k,hk,rfl,hf,hB'⟩:=hrel
  have HFN:=hHi hf
  have HB':=hHi hB'
  have HB:=hHi (below_tr HB1.out hB')
  clear hf hB' c0 c1 c2 c3 c4 c5 c6 c7 c8
  by_cases hlt:k<N
  case pos=>
   obtain⟨x,hx⟩:∃x,L[k]?=some x:=⟨L[k]'(by rw[HN.out];exact hlt),by simp⟩
   obtain⟨b,o,us,hb,hlb,hus,hc⟩:=HR1.out k x hx
   obtain⟨v,rfl,a3',p3',rfl,_⟩:=hus
   subst hb
   have hsz:(consOf x).size≤maxLen:=by
    have:=(HNM.out x (List.mem_of_getElem? hx)).cons
    unfold consOf
    split
    ·exact Nat.zero_le _
    ·exact this
   have hq_:=hcb HB.out hlb hc
   have s0:=hq_ 0 _ rfl
   have s1:=hq_ 1 _ rfl
   have s2:=hq_ 2 _ rfl
   have s3:=hq_ 3 _ rfl
   have s4:=hq_ 4 _ rfl
   rw[Nat.add_zero] at s0
   have hltI:(k:Int)<N:=by omega
   have HX:=hHi hx
   clear hq_ hc hx
   obtain⟨w3,hw3⟩:∃qW,wr.alloc (.cells #[.bool x.lex,.string x.sort,.string x.cons,.bool x.bracket,.slice a3' x.syms.length p3'] 44)=qW:=⟨_,rfl⟩
   have HN3:=kB hw3
   have HX3:=kN hw3
   have HB3:Hid (Below w1.heap.size w1 w3):=below_tr HB'.out HN3.out
   have HC:=hU (constructor_any x (.slice a3' x.syms.length p3') w3)
   obtain⟨e0,e1,e2,e3,e4⟩:=HX3.out.c5
   go_wp2_with fail
   refine hMo HC ?_
   rintro e w4 ⟨rfl,hb⟩
   have HB4:=hHi (below_tr HB3.out hb)
   have HX4:=kA HX1 HB4
   have HM4:=Mp.below HM1 HB4
   clear hb HC s0 s1 s2 s3 s4 e0 e1 e2 e3 e4
   obtain⟨c0,c1,c2,c3,c4,c5,c6,c7,c8⟩:=HX4.out.c9
   have hlk:=HM4.out.look Tryz.underlying72 (zero3 w4) hsz
   have HCA:=hHi (cons_at HX.out)
   have HCC:Hid (consOf x≠no→consOf x=x.cons):=fun h=>by
    unfold consOf at h ⊢
    split
    ·rename_i hl
     rw[if_pos hl] at h
     exact absurd rfl h
    ·rfl
   have HCN:Hid (consOf x=no→cbad (L.take k) x=false):=fun h=>by unfold cbad;rw[h];simp
   obtain⟨nm,hnm⟩:∃s,consOf x=s:=⟨_,rfl⟩
   rw[hnm] at hsz hlk HCA HCC HCN ⊢
   have HBB:=hHi (below_tr HB1.out HB4.out)
   clear hnm
   rcases emp_no nm with ⟨hne,hd⟩|⟨hne,hd⟩
   ·have HNX:Hid (firstWith cbad [] (L.take (k+1))=none):=by show _=_;rw[take_snoc' HX.out];exact fw_snoc HFN.out (HCN.out hne)
    clear hne
    go_wp2
    go_roundw
    case rel=>exact ⟨k+1,by omega,by go_num,HNX.out,HB4.out⟩
    case measure=>simp[intOf];omega
   obtain⟨j,hj,hji⟩:=HCA.out hne
   have HNC:=hHi (HCC.out hne)
   have hpl:(placeF L nm).getD (.int .i64 0)=.int .i64 (j:Nat):=by unfold placeF;rw[hj];rfl
   rw[hpl] at hlk
   clear hne hpl hj HCN
   by_cases hjk:j=k
   ·have HNX:Hid (firstWith cbad [] (L.take (k+1))=none):=by
     show _=_
     rw[take_snoc' HX.out]
     refine fw_snoc HFN.out ?_
     cases hq:cbad (L.take k) x
     ·rfl
     ·exact absurd hjk (hji.2 hq)
    clear hji
    subst hjk
    go_wp2
    go_roundw
    case rel=>exact ⟨j+1,by omega,by go_num,HNX.out,HB4.out⟩
    case measure=>simp[intOf];omega
   ·have HNX:Hid (firstWith cbad [] L=some x):=fw_take HX.out HFN.out (hji.1 hjk)
    have hjb:((j:Int)!=(k:Int))=true:=by simp;omega
    clear hji
    go_wp2
    go_ret2
    exact ⟨⟨45,nm,rfl,by rw[HLN.out,HNX.out,HNC.out];rfl⟩,HBB.out⟩
  obtain rfl:k=N:=by omega
  have HNX:Hid (firstWith cbad [] L=none):=by have h:=HFN.out;rw[List.take_of_length_le (by rw[HN.out];exact Nat.le_refl _)] at h;exact h
  go_wp2
  go_ret2
  exact ⟨⟨0,no,rfl,by rw[HLN.out,HNX.out];rfl⟩,HB.out⟩
end Go.Proofs.YtilpgpcgcpedjaaGreat
