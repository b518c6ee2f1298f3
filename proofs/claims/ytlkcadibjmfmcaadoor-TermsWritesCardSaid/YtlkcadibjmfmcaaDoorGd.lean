/- The law TermsWrites, walked. -/
import Derived.Test.YtlkcadibjmfmcaaDoorGc
import Derived.Test.YtlkcadibjmfmcaaDoorWb
namespace Go.Proofs.YtlkcadibjmfmcaaDoor
open Go.RowKit

set_option maxRecDepth 100000 in
set_option maxHeartbeats 8000000 in
theorem termsWrites_walk (t : Tm) (ta : Option Addr) (tc : Nat) (sa : Option Addr) (sc : Nat) (w : World) (hka : TA w t ta tc sa sc) :
    Calls Tryd.prog 6 #[.agg #[.int .i64 t.kind, .string t.cons, .slice ta t.text.length tc, .slice sa t.kids.length sc]] w fun e w' => e = .returned (.bool true) ∧ Below w.heap.size w w' := by
  obtain ⟨w2, hw2⟩ : ∃ w2, w.alloc (.cells #[.int .i64 t.kind, .string t.cons, .slice ta t.text.length tc, .slice sa t.kids.length sc] 25) = w2 := ⟨_, rfl⟩
  have T0 := To.first hka w2 hw2
  obtain ⟨e0, e1, e2, e3⟩ := T0.facts
  have HT0 : Hid _ := T0
  clear hka T0
  have HALV : Hid (∀ W, Calls Tryd.prog 13 #[] W fun e w' => e = .returned (.bool true) ∧ Below W.heap.size W w') := fun W => alive_any W
  have HHA : Hid (∀ W, To w t ta tc sa sc W → Calls Tryd.prog 12 #[.agg #[.int .i64 t.kind, .string t.cons, .slice ta t.text.length tc, .slice sa t.kids.length sc]] W fun e w' => e = .returned (.bool (decide (1000 < wt t))) ∧ Below W.heap.size W w') := fun W h => heavy_t t ta tc sa sc W h.ka
  by_cases ha : 1000 < wt t
  · rw [decide_eq_true ha] at HHA
    clear ha
    go_enter Tryd.func6, Tryd.ntmps6
    go_wp2_with (go_at_call 12; refine (HHA.out _ HT0.out).mono ?_; rintro e w3 ⟨rfl, hb3⟩; have HT3 : Hid _ := HT0.out.nx hb3; clear hb3)
    refine (HALV.out _).mono ?_
    rintro e w4 ⟨rfl, hb4⟩
    have HT4 : Hid _ := HT3.out.nx hb4
    clear hb4
    go_wp2
    go_ret
    exact ⟨rfl, HT4.out.bel⟩
  · rw [decide_eq_false ha] at HHA
    have hsz := sz_wt t
    have HP1 : Hid (∀ W, To w t ta tc sa sc W → Calls Tryd.prog 28 #[.agg #[.int .i64 t.kind, .string t.cons, .slice ta t.text.length tc, .slice sa t.kids.length sc]] W fun e w' => e = .returned (.tuple #[.string (prt t).1, .int .i64 (prt t).2]) ∧ Below W.heap.size W w') := fun W h => print_t t ta tc sa sc W h.ka (by omega)
    have HP2 : Hid (∀ W, To w t ta tc sa sc W → Calls Tryd.prog 29 #[.agg #[.int .i64 t.kind, .string t.cons, .slice ta t.text.length tc, .slice sa t.kids.length sc]] W fun e w' => e = .returned (.tuple #[.string (prt t).1, .int .i64 (prt t).2]) ∧ Below W.heap.size W w') := fun W h => refPrint_t t ta tc sa sc W h.ka (by omega)
    generalize (prt t).1 = X at HP1 HP2
    generalize (prt t).2 = c at HP1 HP2
    have hx : (X.toList == X.toList) = true := by simp
    have hc : (c == c) = true := by simp
    clear ha hsz
    go_enter Tryd.func6, Tryd.ntmps6
    go_wp2_with (go_at_call 12; refine (HHA.out _ HT0.out).mono ?_; rintro e w3 ⟨rfl, hb3⟩; have HT3 : Hid _ := HT0.out.nx hb3; clear hb3; clear e0 e1 e2 e3; obtain ⟨e0, e1, e2, e3⟩ := HT3.out.facts; refine hold_it ?_)
    unfold Held
    go_wp2_with (go_at_call 28; refine (HP1.out _ HT3.out).mono ?_; rintro e w4 ⟨rfl, hb4⟩; have HT4 : Hid _ := HT3.out.nx hb4; clear hb4; clear e0 e1 e2 e3; obtain ⟨e0, e1, e2, e3⟩ := HT4.out.facts; refine hold_it ?_)
    unfold Held
    go_wp2_with (go_at_call 29; refine (HP2.out _ HT4.out).mono ?_; rintro e w5 ⟨rfl, hb5⟩; have HT5 : Hid _ := HT4.out.nx hb5; clear hb5; refine hold_it ?_)
    unfold Held
    go_wp2_with (go_at_call 13; refine (HALV.out _).mono ?_; rintro e w6 ⟨rfl, hb6⟩; have HT6 : Hid _ := HT5.out.nx hb6; clear hb6)
    go_ret
    exact ⟨rfl, HT6.out.bel⟩
end Go.Proofs.YtlkcadibjmfmcaaDoor
