/- Empty texts, and cycles: the lines. -/
import Derived.Test.YtilpgpcgcpedjaaGreatKt
import Derived.Deep.RegionHeld3
import Derived.Deep.RegionWith
namespace Go.Proofs.YtilpgpcgcpedjaaGreat
open Go.RowKit
set_option linter.unusedVariables false
set_option linter.unusedSimpArgs false
set_option maxRecDepth 100000
set_option maxHeartbeats 16000000
structure BX (w W:World) (P:Nat) (t:TypeId) (us:Array Value):Prop where
 bel:Below w.heap.size w W
 box:Blk W P t us
theorem BX.nx {w W W':World} {P:Nat} {t:TypeId} {us:Array Value} (h:BX w W P t us) (hb:Below W.heap.size W W'):BX w W' P t us:=⟨below_tr h.bel hb,h.box.after hb⟩
theorem BX.drew {w W:World} {P:Nat} {t:TypeId} {us:Array Value} (h:BX w W P t us):BX w W.drew P t us:=h.nx (below_dr _)
def nullS (s:Sy):Bool:=decide (s.kind=1∧s.text=no)
theorem nullSC_any (x:Sy) (w:World):Calls Tryz.prog 97 #[.agg #[.int .i64 x.kind,.string x.text,.int .u64 x.set.a,.int .u64 x.set.b,.int .u64 x.set.c,.int .u64 x.set.d,.string x.name,.string x.sep]] w fun e w'=>e=.returned (.bool (nullS x))∧Below w.heap.size w w':=by
 unfold nullS
 obtain⟨w1,hw1⟩:∃qW,w.alloc (.cells #[.int .i64 x.kind,.string x.text,.int .u64 x.set.a,.int .u64 x.set.b,.int .u64 x.set.c,.int .u64 x.set.d,.string x.name,.string x.sep] 62)=qW:=⟨_,rfl⟩
 have HX1:=kN hw1
 have HB1:=kB hw1
 obtain⟨e0,e1,e2,e3,e4,e5,e6,e7⟩:=c8 HX1.out
 obtain⟨r,hr⟩:∃r,decide (x.kind=1∧x.text=no)=r:=⟨_,rfl⟩
 rw[hr]
 have HR:=hHi hr
 obtain⟨kd,hkd⟩:∃z,x.kind=z:=⟨_,rfl⟩
 have HKD:=hHi hkd
 rw[hkd] at e0 hw1
 rw[hkd]
 clear hkd HX1 hr
 go_enter Tryz.func97,Tryz.ntmps97
 by_cases hk1:kd=1
 ·subst hk1
  rcases emp_no x.text with ⟨hne,hd⟩|⟨hne,hd⟩
  ·have HRR:Hid (r=true):=by show _=_;rw[←HR.out];simp[HKD.out,hne]
   clear hne
   go_wp2
   go_ret
   exact ⟨by rw[HRR.out];rfl,HB1.out⟩
  ·have HRR:Hid (r=false):=by show _=_;rw[←HR.out];simp[hne]
   clear hne
   go_wp2
   go_ret
   exact ⟨by rw[HRR.out];rfl,HB1.out⟩
 ·have HRR:Hid (r=false):=by show _=_;rw[←HR.out];simp[HKD.out,hk1]
  have hkb:(kd==1)=false:=by simp[hk1]
  go_wp2
  go_ret
  exact ⟨by rw[HRR.out];simp[hk1],HB1.out⟩
section
variable {P:Program} {md:_} {ops:Array Oper} {Q:_} {S:World→Prop}
theorem tkn (i:Nat) {oi:Oper} {fuel:Nat} {listed:Array Bool} {a:Act} {w:World} (hi:ops[i]?=some oi) (hS:S w)
  (h:wpAnyH P md ops Q S fuel (listed.setIfInBounds i true) (a.put oi.dst undef) w)
  (hs:Region.noSelect ops=true:=by kernel_rfl) (hf:Region.free md ops listed i=true:=by kernel_rfl) (hr:(Region.ready md ops listed).contains i=true:=by kernel_rfl)
  (hQ:∀c a w,Q (.panic c) (a.put oi.dst undef) w→Q (.panic c) a w:=by exact fun _ _ _ h=>h) (hw:Region.wanted oi (yielded ops a.tmps)=false:=by rfl):wpAnyH P md ops Q S (fuel+1) listed a w:=
 wpAnyH_take hi hs hf hr hQ (.inr ⟨hw,rfl⟩) hS h
end
theorem nullC_any (p:Pr) (v:Value) (w:World) (hv:Sl w w.heap.size 8 SyV p.syms v) (hz:p.syms.length≤1000000):
  Calls Tryz.prog 96 #[.agg #[.bool p.lex,.string p.sort,.string p.cons,.bool p.bracket,v]] w fun e w'=>e=.returned (.bool (nullBad p))∧Below w.heap.size w w':=by
 obtain⟨a1,p1,rfl,hl0,hl1,hr1⟩:=id hv
 obtain⟨N,hN⟩:∃N,p.syms.length=N:=⟨_,rfl⟩
 have HNB:Hid (nullBad p=(decide (omitN p=N)||p.syms.any nullS)):=by show _=_;rw[←hN];rfl
 have HOM:Hid (omitN p≤N):=by show _≤_;rw[←hN];exact List.length_filter_le _ _
 rw[hN] at hv hz ⊢
 clear hl0 hl1 hr1 hN
 obtain⟨w1,hw1⟩:∃qW,w.alloc (.cells #[.bool p.lex,.string p.sort,.string p.cons,.bool p.bracket,.slice a1 N p1] 44)=qW:=⟨_,rfl⟩
 have HX1:=kN hw1
 have HB1:=kB hw1
 have HC1:Hid (∀W,Below w.heap.size w W→Calls Tryz.prog 94 #[.agg #[.bool p.lex,.string p.sort,.string p.cons,.bool p.bracket,.slice a1 N p1]] W fun e w'=>e=.returned (.int .i64 (omitN p))∧Below W.heap.size W w'):=fun W hb=>leftOut_any p _ W (hv.keep hb hb.size (fun _ _ _ h=>h))
 have HC2:Hid (∀W,Below w.heap.size w W→Calls Tryz.prog 88 #[.slice a1 N p1,.func (.func 97) #[] #[]] W fun e w'=>e=.returned (.bool (p.syms.any nullS))∧Below W.heap.size W w'):=fun W hb=>contains_n 97 #[] nullS p.syms _ W (hv.keep hb hb.size (fun _ _ _ h=>h)) enter97 (fun x _ _ W' _=>nullSC_any x W')
 clear hv
 generalize nullBad p=r at HNB ⊢
 generalize omitN p=q at HC1 HNB HOM
 generalize p.syms.any nullS=b at HC2 HNB
 have T:BX w w1 w.heap.size 44 #[.bool p.lex,.string p.sort,.string p.cons,.bool p.bracket,.slice a1 N p1]:=⟨HB1.out,HX1.out⟩
 have hqN:=HOM.out
 obtain⟨d0,d1,d2,d3,d4⟩:=HX1.out.c5
 go_enter Tryz.func96,Tryz.ntmps96
 go_wp2
 clear d0 d1 d2 d3 d4
 by_cases hq:q=N
 ·have HR:Hid (r=true):=by show _=_;rw[HNB.out];simp[hq]
  subst hq
  refine wp_region_held_drew (S:=(fun W=>W.cell? ⟨w.heap.size,0,none⟩=some (.bool p.lex)∧W.cell? ⟨w.heap.size,1,none⟩=some (.string p.sort)∧W.cell? ⟨w.heap.size,2,none⟩=some (.string p.cons)∧W.cell? ⟨w.heap.size,3,none⟩=some (.bool p.bracket)∧W.cell? ⟨w.heap.size,4,none⟩=some (.slice a1 q p1))) (by kernel_rfl) T.drew.box.c5 (fun hHeld=>?_)
  refine tk 0 rfl (by assumption) ?_
  refine tk 2 rfl (by assumption) ?_
  refine tk 3 rfl (by assumption) ?_
  refine tk 4 rfl (by assumption) ?_
  refine rd1 1 rfl (fun K hK=>?_)
  go_simp
  refine (HC1.out _ T.drew.bel).mono ?_
  rintro e w5 ⟨rfl,hb5⟩
  replace T:=T.drew.nx hb5
  clear hb5
  refine hK.out _ _ T.box.c5 (fun hHeld=>?_)
  clear hK K
  refine tk 5 rfl (by assumption) ?_
  refine tk 6 rfl (by assumption) ?_
  refine tkn 7 rfl (by assumption) ?_
  refine tkn 8 rfl (by assumption) ?_
  refine tkn 9 rfl (by assumption) ?_
  refine tk 10 rfl (by assumption) ?_
  refine tk 11 rfl (by assumption) ?_
  refine wpAnyH_done (by kernel_rfl) ?_ _
  go_wp2
  go_ret
  exact ⟨by rw[HR.out];rfl,T.bel⟩
 ·have HR:Hid (r=b):=by show _=_;rw[HNB.out];simp[hq]
  have hqi:((q:Int)==(N:Int))=false:=by simp;omega
  refine wp_region_held_drew (S:=(fun W=>W.cell? ⟨w.heap.size,0,none⟩=some (.bool p.lex)∧W.cell? ⟨w.heap.size,1,none⟩=some (.string p.sort)∧W.cell? ⟨w.heap.size,2,none⟩=some (.string p.cons)∧W.cell? ⟨w.heap.size,3,none⟩=some (.bool p.bracket)∧W.cell? ⟨w.heap.size,4,none⟩=some (.slice a1 N p1))) (by kernel_rfl) T.drew.box.c5 (fun hHeld=>?_)
  refine tk 0 rfl (by assumption) ?_
  refine tk 2 rfl (by assumption) ?_
  refine tk 3 rfl (by assumption) ?_
  refine tk 4 rfl (by assumption) ?_
  refine rd1 1 rfl (fun K hK=>?_)
  go_simp
  refine (HC1.out _ T.drew.bel).mono ?_
  rintro e w5 ⟨rfl,hb5⟩
  replace T:=T.drew.nx hb5
  clear hb5
  refine hK.out _ _ T.box.c5 (fun hHeld=>?_)
  clear hK K
  refine tk 5 rfl (by assumption) ?_
  refine tk 6 rfl (by assumption) ?_
  refine tk 7 rfl (by assumption) ?_
  refine tk 8 rfl (by assumption) ?_
  refine rd1 9 rfl (fun K hK=>?_)
  go_simp
  refine (HC2.out _ T.bel).mono ?_
  rintro e w6 ⟨rfl,hb6⟩
  replace T:=T.nx hb6
  clear hb6
  refine hK.out _ _ T.box.c5 (fun hHeld=>?_)
  clear hK K
  refine tk 10 rfl (by assumption) ?_
  refine tk 11 rfl (by assumption) ?_
  refine wpAnyH_done (by kernel_rfl) ?_ _
  go_wp2
  go_ret
  exact ⟨by rw[HR.out];rfl,T.bel⟩
end Go.Proofs.YtilpgpcgcpedjaaGreat
