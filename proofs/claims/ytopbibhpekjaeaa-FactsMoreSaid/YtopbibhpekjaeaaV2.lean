/- The fixed calls. -/
import Derived.Test.YtopbibhpekjaeaaV1
import Derived.Deep.RegionHeld3
namespace Go.Proofs.Ytopbibhpekjaeaa
open Go.RowKit

theorem sum29 (b : Nat) (W : World) (hR : RAt W W.heap.size (some ⟨b, 0, none⟩) sumR) : Calls Try.prog 29 #[.agg #[.int .i64 2, .int .i64 0, .slice (some ⟨b, 0, none⟩) 3 3]] W fun e w' => (∃ g c, e = .returned (.tuple #[.slice (some ⟨g, 0, none⟩) 2 c, .int .i64 0]) ∧ g < w'.heap.size ∧ w'.cell? ⟨g, 0, none⟩ = some (.int .i64 1)) ∧ Below W.heap.size W w' :=
  (Shortest_any ⟨2, 0, sumR⟩ (some ⟨b, 0, none⟩) 3 W hR).mono (by
    rintro e w' ⟨⟨h, _⟩ | ⟨_, v, rfl, sh, hv, hs⟩, hb⟩
    · rw [sum_ok] at h; cases h
    · obtain ⟨g, c, rfl, _, hg⟩ := row_at hv (by decide)
      have := z_cell hv (m := 0) (by decide)
      rw [sum_short hs] at this
      exact ⟨⟨g, c, rfl, hg, this⟩, hb⟩)
theorem sum26 (b : Nat) (W : World) (hR : RAt W W.heap.size (some ⟨b, 0, none⟩) sumR) : Calls Try.prog 26 #[.agg #[.int .i64 2, .int .i64 0, .slice (some ⟨b, 0, none⟩) 3 3]] W fun e w' => (∃ g c, e = .returned (.tuple #[.slice (some ⟨g, 0, none⟩) 2 c, .int .i64 0]) ∧ g < w'.heap.size ∧ w'.cell? ⟨g, 0, none⟩ = some (.int .u64 287948901175001088) ∧ w'.cell? ⟨g, 1, none⟩ = some (.int .u64 0) ∧ w'.cell? ⟨g, 2, none⟩ = some (.int .u64 0) ∧ w'.cell? ⟨g, 3, none⟩ = some (.int .u64 0)) ∧ Below W.heap.size W w' :=
  (First_any ⟨2, 0, sumR⟩ (some ⟨b, 0, none⟩) 3 W hR).mono (by
    rintro e w' ⟨⟨h, _⟩ | ⟨_, v, rfl, sets, hv, hl, hs, hf⟩, hb⟩
    · rw [sum_ok] at h; cases h
    · obtain ⟨g, c, rfl, _, hg⟩ := row_at hv (by decide)
      have := set_cells hv hl (m := 0) (by decide)
      rw [sum_first (hs 0) (fun b hb => hf 0 b (by decide) hb)] at this
      exact ⟨⟨g, c, rfl, hg, this.1, this.2.1, this.2.2.1, this.2.2.2⟩, hb⟩)
theorem sum21 (b : Nat) (W : World) (hR : RAt W W.heap.size (some ⟨b, 0, none⟩) sumR) : Calls Try.prog 21 #[.agg #[.int .i64 2, .int .i64 0, .slice (some ⟨b, 0, none⟩) 3 3]] W fun e w' => (∃ g c, e = .returned (.tuple #[.slice (some ⟨g, 0, none⟩) 2 c, .int .i64 0]) ∧ g < w'.heap.size ∧ w'.cell? ⟨g, 0, none⟩ = some (.bool true)) ∧ Below W.heap.size W w' :=
  (Productive_any ⟨2, 0, sumR⟩ (some ⟨b, 0, none⟩) 3 W hR).mono (by
    rintro e w' ⟨⟨h, _⟩ | ⟨_, v, rfl, so, hv, hl, hs⟩, hb⟩
    · rw [sum_ok] at h; cases h
    · obtain ⟨g, c, rfl, _, hg⟩ := row_at hv (by decide)
      have h1 := hv.cellAt 0 (by first | decide | omega)
      have h2 := (hs 0).2 sum_lf
      have h3 : (boolsV so)[0]? = some (.bool true) := by
        cases so with
        | nil => cases hl
        | cons x l => simp at h2; subst h2; rfl
      rw [h3] at h1
      exact ⟨⟨g, c, rfl, hg, h1⟩, hb⟩)
theorem sum16 (b : Nat) (W : World) (hR : RAt W W.heap.size (some ⟨b, 0, none⟩) sumR) : Calls Try.prog 16 #[.agg #[.int .i64 2, .int .i64 0, .slice (some ⟨b, 0, none⟩) 3 3]] W fun e w' => e = .returned (.int .i64 8) ∧ Below W.heap.size W w' :=
  (size_any ⟨2, 0, sumR⟩ (some ⟨b, 0, none⟩) 3 W hR (by rw [sum_size]; decide)).mono (by
    rintro e w' ⟨rfl, hb⟩
    refine ⟨?_, hb⟩
    show Ending.returned (.int .i64 (szs sumR)) = _
    rw [sum_size]; rfl)
theorem none13 (W : World) : Calls Try.prog 13 #[.agg #[.int .i64 0, .int .i64 0, .slice none 0 0]] W fun e w' => e = .returned (.int .i64 3) ∧ Below W.heap.size W w' :=
  (right_any ⟨0, 0, []⟩ none 0 W ⟨by decide, fun j r hj => by cases hj⟩).mono (by
    rintro e w' ⟨rfl, hb⟩
    refine ⟨?_, hb⟩
    rw [none_ok]; rfl)
theorem loop_at (W : World) : RAt ((W.alloc (.cells #[.int .i64 0, .int .u64 0, .int .u64 0, .int .u64 0, .int .u64 0] 56)).alloc (.cells #[.int .i64 0, .slice (some ⟨W.heap.size, 0, none⟩) 1 1] 52)) (W.heap.size + 1 + 1) (some ⟨W.heap.size + 1, 0, none⟩) loopR := by
  obtain ⟨A, hA⟩ : ∃ A, W.alloc (.cells #[.int .i64 0, .int .u64 0, .int .u64 0, .int .u64 0, .int .u64 0] 56) = A := ⟨_, rfl⟩
  have a0 := blk_new W #[.int .i64 0, .int .u64 0, .int .u64 0, .int .u64 0, .int .u64 0] 56
  rw [hA] at a0 ⊢
  have sA : A.heap.size = W.heap.size + 1 := by rw [← hA]; simp
  obtain ⟨R, hR⟩ : ∃ R : Array Value, #[.int .i64 0, .slice (some ⟨W.heap.size, 0, none⟩) 1 1] = R := ⟨_, rfl⟩
  rw [hR]
  have d0 := blk_new A R 52
  have d1 := (old_blk A (.cells R 52) (b := W.heap.size) (by omega)).trans a0
  rw [sA] at d0
  refine ⟨by decide, fun j r hj => ?_⟩
  have hj3 : j < 1 := (List.getElem?_eq_some_iff.1 hj).1
  obtain rfl : j = 0 := by omega
  obtain rfl : (⟨0, [⟨0, St.zero⟩]⟩ : Rl) = r := by simpa [loopR] using hj
  refine ⟨W.heap.size + 1, 0, some ⟨W.heap.size, 0, none⟩, 1, rfl, by omega, kat_of (by simp) (by omega) d1 ?_, blk_cell d0 (by rw [← hR]; rfl), blk_cell d0 (by rw [← hR]; rfl)⟩
  intro j s hj
  have hj3 : j < 1 := (List.getElem?_eq_some_iff.1 hj).1
  obtain rfl : j = 0 := by omega
  simp at hj; subst hj; exact ⟨by unfold St.ok; decide, rfl, rfl, rfl, rfl, rfl⟩
theorem loop33 (b : Nat) (W : World) (hR : RAt W W.heap.size (some ⟨b, 0, none⟩) loopR) : Calls Try.prog 33 #[.agg #[.int .i64 1, .int .i64 0, .slice (some ⟨b, 0, none⟩) 1 1]] W fun e w' => e = .returned (.tuple #[.bool true, .int .i64 0]) ∧ Below W.heap.size W w' :=
  (Cyclic_any ⟨1, 0, loopR⟩ (some ⟨b, 0, none⟩) 1 W hR).mono (by
    rintro e w' ⟨⟨h, _⟩ | ⟨_, v, rfl, x, rfl, hx⟩, hb⟩
    · rw [loop_ok] at h; cases h
    · rw [hx.2 loop_cyc]; exact ⟨rfl, hb⟩)
/-- What stands while the last line is reckoned. -/
structure Ta (w : World) (l f p : Nat) (W : World) : Prop where
  ll : l < W.heap.size
  lf : f < W.heap.size
  lp : p < W.heap.size
  l0 : W.cell? ⟨l, 0, none⟩ = some (.int .i64 1)
  f0 : W.cell? ⟨f, 0, none⟩ = some (.int .u64 287948901175001088)
  f1 : W.cell? ⟨f, 1, none⟩ = some (.int .u64 0)
  f2 : W.cell? ⟨f, 2, none⟩ = some (.int .u64 0)
  f3 : W.cell? ⟨f, 3, none⟩ = some (.int .u64 0)
  p0 : W.cell? ⟨p, 0, none⟩ = some (.bool true)
  bel : Below w.heap.size w W
theorem Ta.drew {w W : World} {l f p : Nat} (h : Ta w l f p W) : Ta w l f p W.drew := ⟨h.ll, h.lf, h.lp, h.l0, h.f0, h.f1, h.f2, h.f3, h.p0, h.bel.drew⟩
theorem Ta.nx {w W W' : World} {l f p : Nat} (hb : Below W.heap.size W W') (h : Ta w l f p W) : Ta w l f p W' :=
  ⟨Nat.lt_of_lt_of_le h.ll hb.size, Nat.lt_of_lt_of_le h.lf hb.size, Nat.lt_of_lt_of_le h.lp hb.size, (hb.cell (p := ⟨l, 0, none⟩) h.ll).trans h.l0, (hb.cell (p := ⟨f, 0, none⟩) h.lf).trans h.f0, (hb.cell (p := ⟨f, 1, none⟩) h.lf).trans h.f1, (hb.cell (p := ⟨f, 2, none⟩) h.lf).trans h.f2, (hb.cell (p := ⟨f, 3, none⟩) h.lf).trans h.f3, (hb.cell (p := ⟨p, 0, none⟩) h.lp).trans h.p0, below_of h.bel hb⟩
theorem Ta.facts {w W : World} {l f p : Nat} (h : Ta w l f p W) : W.cell? ⟨l, 0, none⟩ = some (.int .i64 1) ∧ W.cell? ⟨f, 0, none⟩ = some (.int .u64 287948901175001088) ∧ W.cell? ⟨f, 1, none⟩ = some (.int .u64 0) ∧ W.cell? ⟨f, 2, none⟩ = some (.int .u64 0) ∧ W.cell? ⟨f, 3, none⟩ = some (.int .u64 0) ∧ W.cell? ⟨p, 0, none⟩ = some (.bool true) :=
  ⟨h.l0, h.f0, h.f1, h.f2, h.f3, h.p0⟩
set_option maxRecDepth 100000 in
set_option maxHeartbeats 4000000 in
theorem alive_any (w : World) : Calls Try.prog 12 #[] w fun e w' => e = .returned (.bool true) ∧ Below w.heap.size w w' := by
  have HS : Hid _ := fun W => sum_any W
  have H29 : Hid _ := fun b W hR => sum29 b W hR
  have H26 : Hid _ := fun b W hR => sum26 b W hR
  have H21 : Hid _ := fun b W hR => sum21 b W hR
  have H33 : Hid _ := fun b W hR => loop33 b W hR
  have H16 : Hid _ := fun b W hR => sum16 b W hR
  have H13 : Hid _ := fun W => none13 W
  go_enter Try.func12, Try.ntmps12
  go_wp2_with (go_at_call 37; refine (HS.out _).mono ?_)
  rintro e w1 ⟨⟨b1, rfl, hR1⟩, hb1⟩
  go_wp2_with (go_at_call 29; refine (H29.out b1 _ hR1).mono ?_)
  rintro e w2 ⟨⟨l, c2, rfl, hl2, hl0⟩, hb2⟩
  have B2 := below_of hb1 hb2
  clear hR1 hb1 hb2
  go_wp2_with (go_at_call 37; refine (HS.out _).mono ?_)
  rintro e w3 ⟨⟨b3, rfl, hR3⟩, hb3⟩
  have hl3 := Nat.lt_of_lt_of_le hl2 hb3.size
  replace hl0 := (hb3.cell (p := ⟨l, 0, none⟩) hl2).trans hl0
  have B3 := below_of B2 hb3
  clear hb3 hl2 B2
  go_wp2_with (go_at_call 26; refine (H26.out b3 _ hR3).mono ?_)
  rintro e w4 ⟨⟨f, c4, rfl, hf4, hf0, hf1, hf2, hf3⟩, hb4⟩
  have hl4 := Nat.lt_of_lt_of_le hl3 hb4.size
  replace hl0 := (hb4.cell (p := ⟨l, 0, none⟩) hl3).trans hl0
  have B4 := below_of B3 hb4
  clear hb4 hl3 B3 hR3
  go_wp2_with (go_at_call 37; refine (HS.out _).mono ?_)
  rintro e w5 ⟨⟨b5, rfl, hR5⟩, hb5⟩
  have B5 := below_of B4 hb5
  have hx5 : ∀ q, w5.cell? ⟨f, q, none⟩ = w4.cell? ⟨f, q, none⟩ := fun q => hb5.cell (p := ⟨f, q, none⟩) hf4
  have hl5 := Nat.lt_of_lt_of_le hl4 hb5.size
  have hf5 := Nat.lt_of_lt_of_le hf4 hb5.size
  replace hl0 := (hb5.cell (p := ⟨l, 0, none⟩) hl4).trans hl0
  rw [← hx5] at hf0 hf1 hf2 hf3
  clear hb5 hl4 hf4 B4 hx5
  go_wp2_with (go_at_call 21; refine (H21.out b5 _ hR5).mono ?_)
  rintro e w6 ⟨⟨p, c6, rfl, hp6, hp0⟩, hb6⟩
  have T : Ta w l f p w6 := ⟨Nat.lt_of_lt_of_le hl5 hb6.size, Nat.lt_of_lt_of_le hf5 hb6.size, hp6, (hb6.cell (p := ⟨l, 0, none⟩) hl5).trans hl0, (hb6.cell (p := ⟨f, 0, none⟩) hf5).trans hf0, (hb6.cell (p := ⟨f, 1, none⟩) hf5).trans hf1, (hb6.cell (p := ⟨f, 2, none⟩) hf5).trans hf2, (hb6.cell (p := ⟨f, 3, none⟩) hf5).trans hf3, hp0, below_of B5 hb6⟩
  clear hb6 hl5 hf5 hl0 hf0 hf1 hf2 hf3 hp6 hp0 B5 hR5
  have HL : Hid _ := fun (_ : Unit) => H33.out (w6.heap.size + 1) ((w6.alloc (.cells #[.int .i64 0, .int .u64 0, .int .u64 0, .int .u64 0, .int .u64 0] 56)).alloc (.cells #[.int .i64 0, .slice (some ⟨w6.heap.size, 0, none⟩) 1 1] 52)) ((loop_at w6).mono (by simp))
  have T2 : Ta w l f p ((w6.alloc (.cells #[.int .i64 0, .int .u64 0, .int .u64 0, .int .u64 0, .int .u64 0] 56)).alloc (.cells #[.int .i64 0, .slice (some ⟨w6.heap.size, 0, none⟩) 1 1] 52)) := T.nx (((Below.refl _ _).alloc (Nat.le_refl _) _).alloc (by simp) _)
  go_wp2_with (go_at_call 33; refine (HL.out ()).mono ?_)
  rintro e w7 ⟨rfl, hb7⟩
  replace T := Ta.nx hb7 T2
  clear hb7 T2 HL
  obtain ⟨tl, t0, t1, t2, t3, tp⟩ := T.facts
  have E0 : ∀ w, (Op.equalIn 10000 49 (.agg #[.int .u64 287948901175001088, .int .u64 0, .int .u64 0, .int .u64 0]) (.agg #[.int .u64 287948901175001088, .int .u64 0, .int .u64 0, .int .u64 0])).run Try.prog w = .ok true w := fun w => by
    have := eq49 ⟨287948901175001088, 0, 0, 0⟩ ⟨287948901175001088, 0, 0, 0⟩ w
    rw [(St.same_eq _ _).2 rfl] at this
    exact this
  go_wp2_with (go_at_call 13; refine (H13.out _).mono ?_)
  rintro e w8 ⟨rfl, hb8⟩
  replace T := Ta.nx hb8 T
  clear hb8 tl t0 t1 t2 t3 tp
  go_wp2_with (go_at_call 37; refine (HS.out _).mono ?_)
  rintro e w9 ⟨⟨b9, rfl, hR9⟩, hb9⟩
  replace T := Ta.nx hb9 T
  clear hb9
  go_wp2_with (go_at_call 16; refine (H16.out b9 _ hR9).mono ?_)
  rintro e w10 ⟨rfl, hb10⟩
  replace T := Ta.nx hb10 T
  clear hb10
  go_wp2
  go_ret
  exact ⟨rfl, T.bel⟩
end Go.Proofs.Ytopbibhpekjaeaa
