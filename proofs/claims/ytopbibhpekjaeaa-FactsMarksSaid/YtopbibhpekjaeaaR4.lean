/- The document's own marks of any grammar. -/
import Derived.Test.YtopbibhpekjaeaaR3
import Derived.Test.YtopbibhpekjaeaaP3
namespace Go.Proofs.Ytopbibhpekjaeaa
open Go.RowKit

set_option maxRecDepth 100000 in
set_option maxHeartbeats 1000000 in
theorem refNullable_row (G : Gm) (a : Option Addr) (c : Nat) (w : World) (hR : RAt w w.heap.size a G.rules) :
    Calls Try.prog 20 #[.agg #[.int .i64 G.nts, .int .i64 G.start, .slice a G.rules.length c]] w fun e w' => (∃ v l, e = .returned (.tuple #[v, .int .i64 G.code]) ∧ w'.ownsRow w.heap.size 4 1 v l.length (boolsV l) ∧ MarkIs pN G l) ∧ Below w.heap.size w w' := by
  obtain ⟨W0, hW0⟩ : ∃ W0, w.alloc (.cells #[.int .i64 G.nts, .int .i64 G.start, .slice a G.rules.length c] 24) = W0 := ⟨_, rfl⟩
  have hs0 : W0.heap.size = w.heap.size + 1 := by rw [← hW0]; simp
  have hB0 : Below w.heap.size w W0 := by rw [← hW0]; exact (Below.refl _ _).alloc (Nat.le_refl _) _
  have gG : GB w.heap.size G a c W0 := ⟨by rw [← hW0]; exact cell_new 0 rfl, by rw [← hW0]; exact cell_new 1 rfl, by rw [← hW0]; exact cell_new 2 rfl, (hR.keep hB0).mono (by omega), by omega⟩
  have c0 := gG.c0
  have c1 := gG.c1
  have c2 := gG.c2
  cases hok : G.okB with
  | false =>
    have H15 : Hid _ := fun (_ : Unit) => refRight_any G a c W0 gG.rat
    rw [hok] at H15
    simp only [Bool.false_eq_true, if_false] at H15
    go_enter Try.func20, Try.ntmps20
    go_wp2_with (go_at_call 15; refine (H15.out ()).mono ?_)
    rintro e W1 ⟨rfl, hb1⟩
    replace gG := gG.below hb1
    have hB1 := below_of hB0 hb1
    have d0 := gG.c0
    have d1 := gG.c1
    have d2 := gG.c2
    clear c0 c1 c2 H15 hW0
    go_wp2
    go_ret2
    exact ⟨⟨.slice none 0 0, [], by rw [← code_no hok]; rfl, World.ownsRow_nil _ _ _ _, .inl ⟨hok, rfl⟩⟩, hB1⟩
  | true =>
    have H15 : Hid _ := fun (_ : Unit) => refRight_any G a c W0 gG.rat
    rw [hok] at H15
    simp only [if_true] at H15
    go_enter Try.func20, Try.ntmps20
    go_wp2_with (go_at_call 15; refine (H15.out ()).mono ?_)
    rintro e W1 ⟨rfl, hb1⟩
    replace gG := gG.below hb1
    have hB1 := below_of hB0 hb1
    have d0 := gG.c0
    have d1 := gG.c1
    have d2 := gG.c2
    clear c0 c1 c2 H15 hW0
    obtain ⟨N, S, hN, hS, _, hOk⟩ := ok_of hok
    have H44 : Hid _ := fun (_ : Unit) => marks_any N G.start G.rules a c true W1 hOk gG.rat
    rw [← hN] at H44
    have hNt : G.nts.toNat = N := by rw [hN, Int.toNat_natCast]
    have HN : Hid _ := hN
    have HNt : Hid _ := hNt
    clear hN hS hNt
    go_wp2_with (go_at_call 44; refine (H44.out ()).mono ?_)
    rintro e W2 ⟨⟨v, rfl, l, hr, hl, hm⟩, hb2⟩
    go_wp2
    go_ret2
    exact ⟨⟨v, l, by rw [← code_ok hok]; rfl, by rw [hl]; exact row_mono hr hB1.size, .inr ⟨hok, hl.trans HNt.out.symm, hm⟩⟩, below_of hB1 hb2⟩
set_option maxRecDepth 100000 in
set_option maxHeartbeats 1000000 in
theorem refProductive_row (G : Gm) (a : Option Addr) (c : Nat) (w : World) (hR : RAt w w.heap.size a G.rules) :
    Calls Try.prog 22 #[.agg #[.int .i64 G.nts, .int .i64 G.start, .slice a G.rules.length c]] w fun e w' => (∃ v l, e = .returned (.tuple #[v, .int .i64 G.code]) ∧ w'.ownsRow w.heap.size 4 1 v l.length (boolsV l) ∧ MarkIs pP G l) ∧ Below w.heap.size w w' := by
  obtain ⟨W0, hW0⟩ : ∃ W0, w.alloc (.cells #[.int .i64 G.nts, .int .i64 G.start, .slice a G.rules.length c] 24) = W0 := ⟨_, rfl⟩
  have hs0 : W0.heap.size = w.heap.size + 1 := by rw [← hW0]; simp
  have hB0 : Below w.heap.size w W0 := by rw [← hW0]; exact (Below.refl _ _).alloc (Nat.le_refl _) _
  have gG : GB w.heap.size G a c W0 := ⟨by rw [← hW0]; exact cell_new 0 rfl, by rw [← hW0]; exact cell_new 1 rfl, by rw [← hW0]; exact cell_new 2 rfl, (hR.keep hB0).mono (by omega), by omega⟩
  have c0 := gG.c0
  have c1 := gG.c1
  have c2 := gG.c2
  cases hok : G.okB with
  | false =>
    have H15 : Hid _ := fun (_ : Unit) => refRight_any G a c W0 gG.rat
    rw [hok] at H15
    simp only [Bool.false_eq_true, if_false] at H15
    go_enter Try.func22, Try.ntmps22
    go_wp2_with (go_at_call 15; refine (H15.out ()).mono ?_)
    rintro e W1 ⟨rfl, hb1⟩
    replace gG := gG.below hb1
    have hB1 := below_of hB0 hb1
    have d0 := gG.c0
    have d1 := gG.c1
    have d2 := gG.c2
    clear c0 c1 c2 H15 hW0
    go_wp2
    go_ret2
    exact ⟨⟨.slice none 0 0, [], by rw [← code_no hok]; rfl, World.ownsRow_nil _ _ _ _, .inl ⟨hok, rfl⟩⟩, hB1⟩
  | true =>
    have H15 : Hid _ := fun (_ : Unit) => refRight_any G a c W0 gG.rat
    rw [hok] at H15
    simp only [if_true] at H15
    go_enter Try.func22, Try.ntmps22
    go_wp2_with (go_at_call 15; refine (H15.out ()).mono ?_)
    rintro e W1 ⟨rfl, hb1⟩
    replace gG := gG.below hb1
    have hB1 := below_of hB0 hb1
    have d0 := gG.c0
    have d1 := gG.c1
    have d2 := gG.c2
    clear c0 c1 c2 H15 hW0
    obtain ⟨N, S, hN, hS, _, hOk⟩ := ok_of hok
    have H44 : Hid _ := fun (_ : Unit) => marks_any N G.start G.rules a c false W1 hOk gG.rat
    rw [← hN] at H44
    have hNt : G.nts.toNat = N := by rw [hN, Int.toNat_natCast]
    have HN : Hid _ := hN
    have HNt : Hid _ := hNt
    clear hN hS hNt
    go_wp2_with (go_at_call 44; refine (H44.out ()).mono ?_)
    rintro e W2 ⟨⟨v, rfl, l, hr, hl, hm⟩, hb2⟩
    go_wp2
    go_ret2
    exact ⟨⟨v, l, by rw [← code_ok hok]; rfl, by rw [hl]; exact row_mono hr hB1.size, .inr ⟨hok, hl.trans HNt.out.symm, hm⟩⟩, below_of hB1 hb2⟩
end Go.Proofs.Ytopbibhpekjaeaa
