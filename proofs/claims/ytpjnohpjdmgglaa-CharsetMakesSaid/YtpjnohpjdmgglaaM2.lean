/- The law CharsetMakes, walked: at every list, range and byte the call returns true, and turns nothing that was there. -/
import Derived.Test.YtpjnohpjdmgglaaM1
import Derived.Deep.RegionHeld3
import Derived.Deep.DrawnRows
namespace Go.Proofs.Ytpjnohpjdmgglaa
open Go.RowKit

set_option maxRecDepth 100000 in
set_option maxHeartbeats 8000000 in
theorem makes_nil (lo hi : Int) (n : Nat) (w : World) (hn : n < 256) :
    Calls Try.prog 3 #[.slice none 0 0, .int .i64 lo, .int .i64 hi, .int .u8 n] w fun e w' => e = .returned (.bool true) ∧ Below w.heap.size w w' := by
  obtain ⟨L, hL⟩ : ∃ L : List Nat, L = [] := ⟨_, rfl⟩
  have rv1 : RV (.slice none 0 0) L w := .inl ⟨none, 0, rfl, hL⟩
  have rvz := rv1
  have hsm : ∀ x ∈ L, x < 256 := by rw [hL]; intro x hx; simp at hx
  have hlen : L.length ≤ maxLen := by rw [hL]; simp
  clear hL
  obtain ⟨X, hX⟩ : ∃ X, strOfNums (L.map (fun n : Nat => (n : Int))) = X := ⟨_, rfl⟩
  have HX : Hid _ := hX
  clear hX
  obtain ⟨q, ec, hq, hr1, hr2⟩ := both_range lo hi
  have HR1 : Hid _ := hr1
  have HR2 : Hid _ := hr2
  clear hr1 hr2
  obtain ⟨p, hpe⟩ : ∃ p, ofL L = p := ⟨_, rfl⟩
  have hp : p.ok := by rw [← hpe]; exact ofL_ok L
  have HL : Hid _ := fun w => alive_any w
  have HP14 : Hid _ := fun w => has_any p n w hp hn
  have HP15 : Hid _ := fun w => rhas_any p n w hp hn
  have HQ14 : Hid _ := fun w => has_any q n w hq hn
  have HQ15 : Hid _ := fun w => rhas_any q n w hq hn
  have E0 : ∀ w, (Op.equalIn 10000 26 (.agg #[.int .u64 p.a, .int .u64 p.b, .int .u64 p.c, .int .u64 p.d]) (.agg #[.int .u64 p.a, .int .u64 p.b, .int .u64 p.c, .int .u64 p.d])).run Try.prog w = .ok true w := fun w => by rw [eq26, (St.same_eq _ _).2 rfl]
  have E1 : ∀ w, (Op.equalIn 10000 26 (.agg #[.int .u64 q.a, .int .u64 q.b, .int .u64 q.c, .int .u64 q.d]) (.agg #[.int .u64 q.a, .int .u64 q.b, .int .u64 q.c, .int .u64 q.d])).run Try.prog w = .ok true w := fun w => by rw [eq26, (St.same_eq _ _).2 rfl]
  have hwv : IntKind.i64.wrap (n : Int) = (n : Int) := by simp [IntKind.wrap, IntKind.bits, IntKind.signed]; omega
  have HOF : Hid (∀ (v : Value) (W : World), RV v L W → Calls Try.prog 10 #[v] W fun e w' => e = .returned (.agg #[.int .u64 p.a, .int .u64 p.b, .int .u64 p.c, .int .u64 p.d]) ∧ Below W.heap.size W w') := fun v W h => by rw [← hpe]; exact of_rv h hsm hlen
  have HRF : Hid (∀ (v : Value) (W : World), RV v L W → Calls Try.prog 13 #[v] W fun e w' => e = .returned (.agg #[.int .u64 p.a, .int .u64 p.b, .int .u64 p.c, .int .u64 p.d]) ∧ Below W.heap.size W w') := fun v W h => by rw [← hpe]; exact rof_rv h hsm hlen
  clear hpe hlen
  generalize p.has n = bp at *
  generalize q.has n = bq at *
  clear hsm
  have hB1 := Below.refl w.heap.size w
  go_enter Try.func3, Try.ntmps3
  go_wp2_with (go_at_call 10; refine (HOF.out _ _ rv1).mono ?_)
  rintro e w2 ⟨rfl, hb2⟩
  have B1 := SBox.new p w2
  have rv2 := (rv1.below hb2).below ((Below.refl _ _).alloc (Nat.le_refl _) (.cells #[.int .u64 p.a, .int .u64 p.b, .int .u64 p.c, .int .u64 p.d] 26))
  have rw2 := (rvz.below hb2).below ((Below.refl _ _).alloc (Nat.le_refl _) (.cells #[.int .u64 p.a, .int .u64 p.b, .int .u64 p.c, .int .u64 p.d] 26))
  have hB2 := (below_of hB1 hb2).alloc (below_of hB1 hb2).size (.cells #[.int .u64 p.a, .int .u64 p.b, .int .u64 p.c, .int .u64 p.d] 26)
  clear hb2 rv1 rvz hB1
  go_wp2_with (go_at_call 11; refine (HR1.out _).mono ?_)
  rintro e w3 ⟨rfl, hb3⟩
  have C1 := (B1.below hb3).alloc (.cells #[.int .u64 q.a, .int .u64 q.b, .int .u64 q.c, .int .u64 q.d] 26)
  have B2 := SBox.new q w3
  have rv3 := (rv2.below hb3).below ((Below.refl _ _).alloc (Nat.le_refl _) (.cells #[.int .u64 q.a, .int .u64 q.b, .int .u64 q.c, .int .u64 q.d] 26))
  have rw3 := (rw2.below hb3).below ((Below.refl _ _).alloc (Nat.le_refl _) (.cells #[.int .u64 q.a, .int .u64 q.b, .int .u64 q.c, .int .u64 q.d] 26))
  have hB3 := (below_of hB2 hb3).alloc (below_of hB2 hb3).size (.cells #[.int .u64 q.a, .int .u64 q.b, .int .u64 q.c, .int .u64 q.d] 26)
  clear hb3 B1 rv2 rw2 hB2
  go_wp2_with (go_at_call 12; refine (HR2.out _).mono ?_)
  rintro e w4 ⟨rfl, hb4⟩
  have D1 := (C1.below hb4).alloc (.cells #[.int .u64 q.a, .int .u64 q.b, .int .u64 q.c, .int .u64 q.d] 26)
  have D2 := (B2.below hb4).alloc (.cells #[.int .u64 q.a, .int .u64 q.b, .int .u64 q.c, .int .u64 q.d] 26)
  have D3 := SBox.new q w4
  have rv4 := (rv3.below hb4).below ((Below.refl _ _).alloc (Nat.le_refl _) (.cells #[.int .u64 q.a, .int .u64 q.b, .int .u64 q.c, .int .u64 q.d] 26))
  have rw4 := (rw3.below hb4).below ((Below.refl _ _).alloc (Nat.le_refl _) (.cells #[.int .u64 q.a, .int .u64 q.b, .int .u64 q.c, .int .u64 q.d] 26))
  have hB4 := (below_of hB3 hb4).alloc (below_of hB3 hb4).size (.cells #[.int .u64 q.a, .int .u64 q.b, .int .u64 q.c, .int .u64 q.d] 26)
  have T : Mk w p q w2.heap.size w3.heap.size w4.heap.size (.slice none 0 0) (.slice none 0 0) L (w4.alloc (.cells #[.int .u64 q.a, .int .u64 q.b, .int .u64 q.c, .int .u64 q.d] 26)) := ⟨D1, D2, D3, rv4, rw4, hB4⟩
  clear hb4 C1 B2 rv3 rw3 hB3 D1 D2 D3 rv4 rw4 hB4
  go_wp2
  obtain ⟨W0, hW0⟩ : ∃ W0, w4.alloc (.cells #[.int .u64 q.a, .int .u64 q.b, .int .u64 q.c, .int .u64 q.d] 26) = W0 := ⟨_, rfl⟩
  rw [hW0] at T ⊢
  clear hW0
  have TC := T.cells HX.out
  go_region_held3 (fun W' => W'.cell? ⟨w2.heap.size, 0, none⟩ = some (.int .u64 p.a) ∧ W'.cell? ⟨w2.heap.size, 1, none⟩ = some (.int .u64 p.b) ∧ W'.cell? ⟨w2.heap.size, 2, none⟩ = some (.int .u64 p.c) ∧ W'.cell? ⟨w2.heap.size, 3, none⟩ = some (.int .u64 p.d) ∧ W'.cell? ⟨w3.heap.size, 0, none⟩ = some (.int .u64 q.a) ∧ W'.cell? ⟨w3.heap.size, 1, none⟩ = some (.int .u64 q.b) ∧ W'.cell? ⟨w3.heap.size, 2, none⟩ = some (.int .u64 q.c) ∧ W'.cell? ⟨w3.heap.size, 3, none⟩ = some (.int .u64 q.d) ∧ W'.cell? ⟨w4.heap.size, 0, none⟩ = some (.int .u64 q.a) ∧ W'.cell? ⟨w4.heap.size, 1, none⟩ = some (.int .u64 q.b) ∧ W'.cell? ⟨w4.heap.size, 2, none⟩ = some (.int .u64 q.c) ∧ W'.cell? ⟨w4.heap.size, 3, none⟩ = some (.int .u64 q.d) ∧ (convert 22 9 (.slice none 0 0)).run Try.prog W' = .ok (.string X) W' ∧ (convert 22 9 (.slice none 0 0)).run Try.prog W' = .ok (.string X) W') (first | exact T.cells HX.out | exact T.drew.cells HX.out) (first | (go_at_call 9; refine (HL.out _).mono ?_; rintro e w5 ⟨rfl, hb5⟩; replace T : Mk w p q w2.heap.size w3.heap.size w4.heap.size (.slice none 0 0) (.slice none 0 0) L w5 := (by first | exact Mk.nx hb5 T | exact Mk.nx hb5 T.drew); clear hb5) | (go_at_call 13; refine (HRF.out _ _ T.2.2.2.2.1).mono ?_; rintro e w5 ⟨rfl, hb5⟩; replace T : Mk w p q w2.heap.size w3.heap.size w4.heap.size (.slice none 0 0) (.slice none 0 0) L w5 := (by first | exact Mk.nx hb5 T | exact Mk.nx hb5 T.drew); clear hb5) | (go_at_call_of 14 p.a; refine (HP14.out _).mono ?_; rintro e w5 ⟨rfl, hb5⟩; replace T : Mk w p q w2.heap.size w3.heap.size w4.heap.size (.slice none 0 0) (.slice none 0 0) L w5 := (by first | exact Mk.nx hb5 T | exact Mk.nx hb5 T.drew); clear hb5) | (go_at_call_of 15 p.a; refine (HP15.out _).mono ?_; rintro e w5 ⟨rfl, hb5⟩; replace T : Mk w p q w2.heap.size w3.heap.size w4.heap.size (.slice none 0 0) (.slice none 0 0) L w5 := (by first | exact Mk.nx hb5 T | exact Mk.nx hb5 T.drew); clear hb5) | (go_at_call_of 14 q.a; refine (HQ14.out _).mono ?_; rintro e w5 ⟨rfl, hb5⟩; replace T : Mk w p q w2.heap.size w3.heap.size w4.heap.size (.slice none 0 0) (.slice none 0 0) L w5 := (by first | exact Mk.nx hb5 T | exact Mk.nx hb5 T.drew); clear hb5) | (go_at_call_of 15 q.a; refine (HQ15.out _).mono ?_; rintro e w5 ⟨rfl, hb5⟩; replace T : Mk w p q w2.heap.size w3.heap.size w4.heap.size (.slice none 0 0) (.slice none 0 0) L w5 := (by first | exact Mk.nx hb5 T | exact Mk.nx hb5 T.drew); clear hb5))
  go_wp2
  go_ret
  exact ⟨rfl, T.2.2.2.2.2⟩

set_option maxHeartbeats 1000000 in
theorem makes_long (a : Option Addr) (m c : Nat) (lo hi n : Int) (w : World) (h : 4096 < m) (hm : m ≤ maxLen) :
    Calls Try.prog 3 #[.slice a m c, .int .i64 lo, .int .i64 hi, .int .u8 n] w fun e w' => e = .returned (.bool true) ∧ Below w.heap.size w w' := by
  unfold maxLen at hm
  have HL : Hid _ := fun w => alive_any w
  go_enter Try.func3, Try.ntmps3
  go_wp2_with (go_at_call 9; refine (HL.out _).mono ?_; rintro e w1 ⟨rfl, hb1⟩)
  go_ret
  exact ⟨rfl, hb1⟩

end Go.Proofs.Ytpjnohpjdmgglaa
