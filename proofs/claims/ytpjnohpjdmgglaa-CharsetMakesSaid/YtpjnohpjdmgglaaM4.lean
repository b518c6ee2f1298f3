/- The law CharsetMakes, walked at a slice of one byte or more: at every list, range and byte the call returns true, and turns nothing that was there. -/
import Derived.Test.YtpjnohpjdmgglaaM1
import Derived.Deep.RegionHeld3
import Derived.Deep.DrawnRows
namespace Go.Proofs.Ytpjnohpjdmgglaa
open Go.RowKit

set_option maxRecDepth 100000 in
set_option maxHeartbeats 8000000 in
theorem makes_some (bk o c : Nat) (L : List Nat) (lo hi : Int) (n : Nat) (w : World) (hn : n < 256) (h0 : 0 < L.length) (h4 : L.length ≤ 4096) (hsm : ∀ x ∈ L, x < 256) (hbk : bk < w.heap.size)
    (hc : ∀ i, i < L.length → w.cell? ⟨bk, o + i, none⟩ = some (.int .u8 (L.getD i 0 : Nat))) :
    Calls Try.prog 3 #[.slice (some ⟨bk, o, none⟩) L.length c, .int .i64 lo, .int .i64 hi, .int .u8 n] w fun e w' => e = .returned (.bool true) ∧ Below w.heap.size w w' := by
  have hlen : L.length ≤ maxLen := by unfold maxLen; omega
  have HC : Hid (∀ j u, (L.map fun k : Nat => Value.int .u8 (k : Int))[j]? = some u → w.cell? ((⟨bk, o, none⟩ : Addr).add j) = some u) := by
    intro j u hj
    have hjl : j < L.length := by
      rcases Nat.lt_or_ge j L.length with h | h
      · exact h
      · simp [List.getElem?_eq_none h] at hj
    have hplain : (⟨bk, o, none⟩ : Addr).add j = ⟨bk, o + j, none⟩ := by unfold Addr.add; split <;> simp_all
    rw [hplain, hc j hjl]
    simp [List.getElem?_eq_getElem hjl] at hj
    simp [List.getD_eq_getElem?_getD, List.getElem?_eq_getElem hjl, hj]
  have RO : Hid (RV (.slice (some ⟨bk, o, none⟩) L.length c) L w) := .inr ⟨bk, o, c, rfl, hbk, h0, hc⟩
  have HM : Hid ((L.map fun k : Nat => Value.int .u8 (k : Int)).length = L.length * 1) := by show _ = _; simp
  have HO1 : Hid (∀ u ∈ (L.map fun k : Nat => Value.int .u8 (k : Int)), u.oneCell' = true) := by
    intro u hu; obtain ⟨k, _, rfl⟩ := List.mem_map.1 hu; rfl
  have HG : Hid (∀ j, j < L.length → (L.map fun k : Nat => Value.int .u8 (k : Int))[j]? = some (.int .u8 (L.getD j 0 : Nat))) := by
    intro j hj; simp [List.getD_eq_getElem?_getD, List.getElem?_eq_getElem hj]
  clear hc hbk
  obtain ⟨X, hX⟩ : ∃ X, strOfNums (L.map (fun n : Nat => (n : Int))) = X := ⟨_, rfl⟩
  have HX : Hid _ := hX
  clear hX
  obtain ⟨q, ec, hq, hr1, hr2⟩ := both_range lo hi
  have HR1 : Hid _ := hr1
  have HR2 : Hid _ := hr2
  clear hr1 hr2
  obtain ⟨p, hpe⟩ : ∃ p, ofL L = p := ⟨_, rfl⟩
  have hp : p.ok := by rw [← hpe]; exact ofL_ok L
  have HL : Hid _ := fun w => alive_any w
  have HP14 : Hid _ := fun w => has_any p n w hp hn
  have HP15 : Hid _ := fun w => rhas_any p n w hp hn
  have HQ14 : Hid _ := fun w => has_any q n w hq hn
  have HQ15 : Hid _ := fun w => rhas_any q n w hq hn
  have E0 : ∀ w, (Op.equalIn 10000 26 (.agg #[.int .u64 p.a, .int .u64 p.b, .int .u64 p.c, .int .u64 p.d]) (.agg #[.int .u64 p.a, .int .u64 p.b, .int .u64 p.c, .int .u64 p.d])).run Try.prog w = .ok true w := fun w => by rw [eq26, (St.same_eq _ _).2 rfl]
  have E1 : ∀ w, (Op.equalIn 10000 26 (.agg #[.int .u64 q.a, .int .u64 q.b, .int .u64 q.c, .int .u64 q.d]) (.agg #[.int .u64 q.a, .int .u64 q.b, .int .u64 q.c, .int .u64 q.d])).run Try.prog w = .ok true w := fun w => by rw [eq26, (St.same_eq _ _).2 rfl]
  have hwv : IntKind.i64.wrap (n : Int) = (n : Int) := by simp [IntKind.wrap, IntKind.bits, IntKind.signed]; omega
  have HOF : Hid (∀ (v : Value) (W : World), RV v L W → Calls Try.prog 10 #[v] W fun e w' => e = .returned (.agg #[.int .u64 p.a, .int .u64 p.b, .int .u64 p.c, .int .u64 p.d]) ∧ Below W.heap.size W w') := fun v W h => by rw [← hpe]; exact of_rv h hsm hlen
  have HRF : Hid (∀ (v : Value) (W : World), RV v L W → Calls Try.prog 13 #[v] W fun e w' => e = .returned (.agg #[.int .u64 p.a, .int .u64 p.b, .int .u64 p.c, .int .u64 p.d]) ∧ Below W.heap.size W w') := fun v W h => by rw [← hpe]; exact rof_rv h hsm hlen
  clear hpe hlen
  generalize p.has n = bp at *
  generalize q.has n = bq at *
  clear hsm
  generalize (L.map fun k : Nat => Value.int .u8 (k : Int)) = news at *
  obtain ⟨i0, hi0, hz0, hz1, hz2⟩ := info_parts info5
  go_enter Try.func3, Try.ntmps3
  go_wp2_with (at_builtin; refine wpList_append_own _ rfl _ _ 22 rfl w.heap.size 5 i0 (.int .u8 0) 1 1 Try.underlying22 hi0 hz0 hz1 hz2 rfl (by decide) _ _ _ rfl (World.ownsRow_nil _ _ _ _) ⟨bk, o, none⟩ L.length c news rfl HM.out HC.out HO1.out (by unfold maxLen; omega) (by omega) (Nat.le_refl _) ?_)
  intro v' w1 hown hgrow _
  have hB1 := (Below.refl w.heap.size w).grown hgrow (Nat.le_refl _) (fun k hk => by simp [Value.ownBlock] at hk)
  have rvz := RO.out.below hB1
  obtain ⟨g, cap, rfl⟩ : ∃ g cap, v' = .slice (some ⟨g, 0, none⟩) L.length cap := by
    rcases hown.2 with ⟨_, h⟩ | ⟨g, cap, cur, hv, _⟩
    · omega
    · exact ⟨g, cap, hv⟩
  have rv1 : RV (.slice (some ⟨g, 0, none⟩) L.length cap) L w1 := .inr ⟨g, 0, cap, rfl, (hown.lt g rfl).2, h0, fun i hi => by
    rw [Nat.zero_add, hown.cellAt i (by omega)]; exact HG.out i hi⟩
  clear hgrow hown HC HG HM HO1 RO
  go_wp2_with (go_at_call 10; refine (HOF.out _ _ rv1).mono ?_)
  rintro e w2 ⟨rfl, hb2⟩
  have B1 := SBox.new p w2
  have rv2 := (rv1.below hb2).below ((Below.refl _ _).alloc (Nat.le_refl _) (.cells #[.int .u64 p.a, .int .u64 p.b, .int .u64 p.c, .int .u64 p.d] 26))
  have rw2 := (rvz.below hb2).below ((Below.refl _ _).alloc (Nat.le_refl _) (.cells #[.int .u64 p.a, .int .u64 p.b, .int .u64 p.c, .int .u64 p.d] 26))
  have hB2 := (below_of hB1 hb2).alloc (below_of hB1 hb2).size (.cells #[.int .u64 p.a, .int .u64 p.b, .int .u64 p.c, .int .u64 p.d] 26)
  clear hb2 rv1 rvz hB1
  go_wp2_with (go_at_call 11; refine (HR1.out _).mono ?_)
  rintro e w3 ⟨rfl, hb3⟩
  have C1 := (B1.below hb3).alloc (.cells #[.int .u64 q.a, .int .u64 q.b, .int .u64 q.c, .int .u64 q.d] 26)
  have B2 := SBox.new q w3
  have rv3 := (rv2.below hb3).below ((Below.refl _ _).alloc (Nat.le_refl _) (.cells #[.int .u64 q.a, .int .u64 q.b, .int .u64 q.c, .int .u64 q.d] 26))
  have rw3 := (rw2.below hb3).below ((Below.refl _ _).alloc (Nat.le_refl _) (.cells #[.int .u64 q.a, .int .u64 q.b, .int .u64 q.c, .int .u64 q.d] 26))
  have hB3 := (below_of hB2 hb3).alloc (below_of hB2 hb3).size (.cells #[.int .u64 q.a, .int .u64 q.b, .int .u64 q.c, .int .u64 q.d] 26)
  clear hb3 B1 rv2 rw2 hB2
  go_wp2_with (go_at_call 12; refine (HR2.out _).mono ?_)
  rintro e w4 ⟨rfl, hb4⟩
  have D1 := (C1.below hb4).alloc (.cells #[.int .u64 q.a, .int .u64 q.b, .int .u64 q.c, .int .u64 q.d] 26)
  have D2 := (B2.below hb4).alloc (.cells #[.int .u64 q.a, .int .u64 q.b, .int .u64 q.c, .int .u64 q.d] 26)
  have D3 := SBox.new q w4
  have rv4 := (rv3.below hb4).below ((Below.refl _ _).alloc (Nat.le_refl _) (.cells #[.int .u64 q.a, .int .u64 q.b, .int .u64 q.c, .int .u64 q.d] 26))
  have rw4 := (rw3.below hb4).below ((Below.refl _ _).alloc (Nat.le_refl _) (.cells #[.int .u64 q.a, .int .u64 q.b, .int .u64 q.c, .int .u64 q.d] 26))
  have hB4 := (below_of hB3 hb4).alloc (below_of hB3 hb4).size (.cells #[.int .u64 q.a, .int .u64 q.b, .int .u64 q.c, .int .u64 q.d] 26)
  have T : Mk w p q w2.heap.size w3.heap.size w4.heap.size (.slice (some ⟨g, 0, none⟩) L.length cap) (.slice (some ⟨bk, o, none⟩) L.length c) L (w4.alloc (.cells #[.int .u64 q.a, .int .u64 q.b, .int .u64 q.c, .int .u64 q.d] 26)) := ⟨D1, D2, D3, rv4, rw4, hB4⟩
  clear hb4 C1 B2 rv3 rw3 hB3 D1 D2 D3 rv4 rw4 hB4
  go_wp2
  obtain ⟨W0, hW0⟩ : ∃ W0, w4.alloc (.cells #[.int .u64 q.a, .int .u64 q.b, .int .u64 q.c, .int .u64 q.d] 26) = W0 := ⟨_, rfl⟩
  rw [hW0] at T ⊢
  clear hW0
  have TC := T.cells HX.out
  go_region_held3 (fun W' => W'.cell? ⟨w2.heap.size, 0, none⟩ = some (.int .u64 p.a) ∧ W'.cell? ⟨w2.heap.size, 1, none⟩ = some (.int .u64 p.b) ∧ W'.cell? ⟨w2.heap.size, 2, none⟩ = some (.int .u64 p.c) ∧ W'.cell? ⟨w2.heap.size, 3, none⟩ = some (.int .u64 p.d) ∧ W'.cell? ⟨w3.heap.size, 0, none⟩ = some (.int .u64 q.a) ∧ W'.cell? ⟨w3.heap.size, 1, none⟩ = some (.int .u64 q.b) ∧ W'.cell? ⟨w3.heap.size, 2, none⟩ = some (.int .u64 q.c) ∧ W'.cell? ⟨w3.heap.size, 3, none⟩ = some (.int .u64 q.d) ∧ W'.cell? ⟨w4.heap.size, 0, none⟩ = some (.int .u64 q.a) ∧ W'.cell? ⟨w4.heap.size, 1, none⟩ = some (.int .u64 q.b) ∧ W'.cell? ⟨w4.heap.size, 2, none⟩ = some (.int .u64 q.c) ∧ W'.cell? ⟨w4.heap.size, 3, none⟩ = some (.int .u64 q.d) ∧ (convert 22 9 (.slice (some ⟨g, 0, none⟩) L.length cap)).run Try.prog W' = .ok (.string X) W' ∧ (convert 22 9 (.slice (some ⟨bk, o, none⟩) L.length c)).run Try.prog W' = .ok (.string X) W') (first | exact T.cells HX.out | exact T.drew.cells HX.out) (first | (go_at_call 9; refine (HL.out _).mono ?_; rintro e w5 ⟨rfl, hb5⟩; replace T : Mk w p q w2.heap.size w3.heap.size w4.heap.size (.slice (some ⟨g, 0, none⟩) L.length cap) (.slice (some ⟨bk, o, none⟩) L.length c) L w5 := (by first | exact Mk.nx hb5 T | exact Mk.nx hb5 T.drew); clear hb5) | (go_at_call 13; refine (HRF.out _ _ T.2.2.2.2.1).mono ?_; rintro e w5 ⟨rfl, hb5⟩; replace T : Mk w p q w2.heap.size w3.heap.size w4.heap.size (.slice (some ⟨g, 0, none⟩) L.length cap) (.slice (some ⟨bk, o, none⟩) L.length c) L w5 := (by first | exact Mk.nx hb5 T | exact Mk.nx hb5 T.drew); clear hb5) | (go_at_call_of 14 p.a; refine (HP14.out _).mono ?_; rintro e w5 ⟨rfl, hb5⟩; replace T : Mk w p q w2.heap.size w3.heap.size w4.heap.size (.slice (some ⟨g, 0, none⟩) L.length cap) (.slice (some ⟨bk, o, none⟩) L.length c) L w5 := (by first | exact Mk.nx hb5 T | exact Mk.nx hb5 T.drew); clear hb5) | (go_at_call_of 15 p.a; refine (HP15.out _).mono ?_; rintro e w5 ⟨rfl, hb5⟩; replace T : Mk w p q w2.heap.size w3.heap.size w4.heap.size (.slice (some ⟨g, 0, none⟩) L.length cap) (.slice (some ⟨bk, o, none⟩) L.length c) L w5 := (by first | exact Mk.nx hb5 T | exact Mk.nx hb5 T.drew); clear hb5) | (go_at_call_of 14 q.a; refine (HQ14.out _).mono ?_; rintro e w5 ⟨rfl, hb5⟩; replace T : Mk w p q w2.heap.size w3.heap.size w4.heap.size (.slice (some ⟨g, 0, none⟩) L.length cap) (.slice (some ⟨bk, o, none⟩) L.length c) L w5 := (by first | exact Mk.nx hb5 T | exact Mk.nx hb5 T.drew); clear hb5) | (go_at_call_of 15 q.a; refine (HQ15.out _).mono ?_; rintro e w5 ⟨rfl, hb5⟩; replace T : Mk w p q w2.heap.size w3.heap.size w4.heap.size (.slice (some ⟨g, 0, none⟩) L.length cap) (.slice (some ⟨bk, o, none⟩) L.length c) L w5 := (by first | exact Mk.nx hb5 T | exact Mk.nx hb5 T.drew); clear hb5))
  go_wp2
  go_ret
  exact ⟨rfl, T.2.2.2.2.2⟩

end Go.Proofs.Ytpjnohpjdmgglaa
