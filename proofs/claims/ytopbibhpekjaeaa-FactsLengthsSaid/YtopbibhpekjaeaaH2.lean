/- The law of lengths, walked. -/
import Derived.Test.YtopbibhpekjaeaaH0
import Derived.Test.YtopbibhpekjaeaaH1
import Derived.Deep.RegionHeld3
namespace Go.Proofs.Ytopbibhpekjaeaa
open Go.RowKit

theorem bool_cell {W : World} {base g N c m : Nat} {so : List Bool} (h : W.ownsRow base 4 1 (.slice (some ⟨g, 0, none⟩) N c) N (boolsV so)) (hl : so.length = N) (hm : m < N) : W.cell? ⟨g, m, none⟩ = some (.bool (so.getD m false)) := by
  rw [h.cellAt m (by omega)]
  simp [boolsV, List.getD_eq_getElem?_getD, hl, hm]
/-- What stands while the rows are held against each other. -/
structure Tl (W5 : World) (g2 g3 g4 g5 k : Nat) (x y : Bool) (z : Int) (s : St) (W : World) : Prop where
  bel : Below W5.heap.size W5 W
  facts : W.cell? ⟨g2, k, none⟩ = some (.bool x) ∧ W.cell? ⟨g3, k, none⟩ = some (.bool y) ∧ W.cell? ⟨g4, k, none⟩ = some (.int .i64 z) ∧ W.cell? ⟨g5, k * 4, none⟩ = some (.int .u64 s.a) ∧ W.cell? ⟨g5, k * 4 + 1, none⟩ = some (.int .u64 s.b) ∧ W.cell? ⟨g5, k * 4 + 2, none⟩ = some (.int .u64 s.c) ∧ W.cell? ⟨g5, k * 4 + 3, none⟩ = some (.int .u64 s.d)
theorem Tl.drew {W5 W : World} {g2 g3 g4 g5 k : Nat} {x y : Bool} {z : Int} {s : St} (h : Tl W5 g2 g3 g4 g5 k x y z s W) : Tl W5 g2 g3 g4 g5 k x y z s W.drew := ⟨h.bel.drew, h.facts⟩
set_option maxRecDepth 100000 in
set_option maxHeartbeats 16000000 in
theorem lengths_walk (G : Gm) (a : Option Addr) (c : Nat) (w : World) (hR : RAt w w.heap.size a G.rules) :
    Calls Try.prog 7 #[.agg #[.int .i64 G.nts, .int .i64 G.start, .slice a G.rules.length c]] w fun e w' => e = .returned (.bool true) ∧ Below w.heap.size w w' := by
  obtain ⟨W0, hW0⟩ : ∃ W0, w.alloc (.cells #[.int .i64 G.nts, .int .i64 G.start, .slice a G.rules.length c] 24) = W0 := ⟨_, rfl⟩
  have hs0 : W0.heap.size = w.heap.size + 1 := by rw [← hW0]; simp
  have hB0 : Below w.heap.size w W0 := by rw [← hW0]; exact (Below.refl _ _).alloc (Nat.le_refl _) _
  have c0 : W0.cell? ⟨w.heap.size, 0, none⟩ = some (.int .i64 G.nts) := by rw [← hW0]; exact cell_new 0 rfl
  have c1 : W0.cell? ⟨w.heap.size, 1, none⟩ = some (.int .i64 G.start) := by rw [← hW0]; exact cell_new 1 rfl
  have c2 : W0.cell? ⟨w.heap.size, 2, none⟩ = some (.slice a G.rules.length c) := by rw [← hW0]; exact cell_new 2 rfl
  have hR0 := (hR.keep hB0).mono (B' := W0.heap.size) (by omega)
  have hlt0 : w.heap.size < W0.heap.size := by omega
  have HA : Hid _ := fun W => alive_any W
  have H11 : Hid _ := fun (_ : Unit) => heavy_any G a c 300 W0 hR0
  go_enter Try.func7, Try.ntmps7
  go_wp2_with (go_at_call 11; refine (H11.out ()).mono ?_)
  rintro e W1 ⟨⟨x, rfl⟩, hb1⟩
  have B1 := below_of hB0 hb1
  have k1 : ∀ q, W1.cell? ⟨w.heap.size, q, none⟩ = W0.cell? ⟨w.heap.size, q, none⟩ := fun q => hb1.cell (p := ⟨w.heap.size, q, none⟩) hlt0
  rw [← k1] at c0 c1 c2
  have hlt1 := Nat.lt_of_lt_of_le hlt0 hb1.size
  have hR1 := (hR0.keep hb1).mono hb1.size
  clear hb1 k1 hB0 hlt0 hR0 hs0 hW0 H11
  cases x with
  | true =>
    go_wp2_with (go_at_call 12; refine (HA.out _).mono ?_)
    rintro e W2 ⟨rfl, hb2⟩
    go_wp2
    go_ret
    exact ⟨rfl, below_of B1 hb2⟩
  | false =>
    have H19 : Hid _ := fun (_ : Unit) => Nullable_any G a c W1 hR1
    go_wp2_with (go_at_call 19; refine (H19.out ()).mono ?_)
    rintro e W2 ⟨hq2, hb2⟩
    have B2 := below_of B1 hb2
    have k1 : ∀ q, W2.cell? ⟨w.heap.size, q, none⟩ = W1.cell? ⟨w.heap.size, q, none⟩ := fun q => hb2.cell (p := ⟨w.heap.size, q, none⟩) hlt1
    rw [← k1] at c0 c1 c2
    have hlt2 := Nat.lt_of_lt_of_le hlt1 hb2.size
    have hR2 := (hR1.keep hb2).mono hb2.size
    clear hb2 k1 hlt1 hR1 H19
    have H21 : Hid _ := fun (_ : Unit) => Productive_any G a c W2 hR2
    have H29 : Hid _ := fun W h => Shortest_any G a c W h
    have H26 : Hid _ := fun W h => First_any G a c W h
    rcases hq2 with ⟨hok, rfl⟩ | ⟨hok, v2, rfl, hv2⟩
    · go_wp2_with (go_at_call 21; refine (H21.out ()).mono ?_)
      rintro e W3 ⟨⟨_, rfl⟩ | ⟨h, _⟩, hb3⟩
      rotate_left
      · rw [hok] at h; cases h
      have B3 := below_of B2 hb3
      have k1 : ∀ q, W3.cell? ⟨w.heap.size, q, none⟩ = W2.cell? ⟨w.heap.size, q, none⟩ := fun q => hb3.cell (p := ⟨w.heap.size, q, none⟩) hlt2
      rw [← k1] at c0 c1 c2
      have hlt3 := Nat.lt_of_lt_of_le hlt2 hb3.size
      have hR3 := (hR2.keep hb3).mono hb3.size
      clear hb3 k1 hlt2 hR2 H21
      go_wp2_with (go_at_call 29; refine (H29.out _ hR3).mono ?_)
      rintro e W4 ⟨⟨_, rfl⟩ | ⟨h, _⟩, hb4⟩
      rotate_left
      · rw [hok] at h; cases h
      have B4 := below_of B3 hb4
      have k1 : ∀ q, W4.cell? ⟨w.heap.size, q, none⟩ = W3.cell? ⟨w.heap.size, q, none⟩ := fun q => hb4.cell (p := ⟨w.heap.size, q, none⟩) hlt3
      rw [← k1] at c0 c1 c2
      have hlt4 := Nat.lt_of_lt_of_le hlt3 hb4.size
      have hR4 := (hR3.keep hb4).mono hb4.size
      clear hb4 k1 hlt3 hR3 H29
      go_wp2_with (go_at_call 26; refine (H26.out _ hR4).mono ?_)
      rintro e W5 ⟨⟨_, rfl⟩ | ⟨h, _⟩, hb5⟩
      rotate_left
      · rw [hok] at h; cases h
      have B5 := below_of B4 hb5
      have k1 : ∀ q, W5.cell? ⟨w.heap.size, q, none⟩ = W4.cell? ⟨w.heap.size, q, none⟩ := fun q => hb5.cell (p := ⟨w.heap.size, q, none⟩) hlt4
      rw [← k1] at c0 c1 c2
      have hlt5 := Nat.lt_of_lt_of_le hlt4 hb5.size
      clear hb5 k1 hlt4 hR4 H26 B1 B2 B3 B4
      go_wp2
      go_loopw [11] (fun iv W => W = W5 ∧ iv = .int .i64 0) (fun _ _ => 0)
      case atStart => exact ⟨rfl, rfl⟩
      case round =>
        obtain ⟨rfl, rfl⟩ := hrel
        go_wp2_with (go_at_call 12; refine (HA.out _).mono ?_)
        rintro e W6 ⟨rfl, hb6⟩
        rw [← hb6.cell (p := ⟨w.heap.size, 0, none⟩) hlt5] at c0
        go_wp2
        all_goals (go_ret; exact ⟨by simp, below_of B5 hb6⟩)
    · obtain ⟨N, S, hN, hS, _, hOk⟩ := ok_of hok
      have hn1 := hOk.n1
      have hn2 := hOk.n2
      have hNt : G.nts.toNat = N := by rw [hN, Int.toNat_natCast]
      have hsets := hR.sets
      rw [hNt] at hv2
      have HN : Hid _ := hN
      have HNt : Hid _ := hNt
      clear hN hS hNt
      go_wp2_with (go_at_call 21; refine (H21.out ()).mono ?_)
      rintro e W3 ⟨⟨h, _⟩ | ⟨_, v3, rfl, hv3⟩, hb3⟩
      · rw [hok] at h; cases h
      rw [HNt.out] at hv3
      have B3 := below_of B2 hb3
      have k1 : ∀ q, W3.cell? ⟨w.heap.size, q, none⟩ = W2.cell? ⟨w.heap.size, q, none⟩ := fun q => hb3.cell (p := ⟨w.heap.size, q, none⟩) hlt2
      rw [← k1] at c0 c1 c2
      have hlt3 := Nat.lt_of_lt_of_le hlt2 hb3.size
      have hR3 := (hR2.keep hb3).mono hb3.size
      replace hv2 := hv2.below hb3
      clear hb3 k1 hlt2 hR2 B2
      go_wp2_with (go_at_call 29; refine (H29.out _ hR3).mono ?_)
      rintro e W4 ⟨⟨h, _⟩ | ⟨_, v4, rfl, hv4⟩, hb4⟩
      · rw [hok] at h; cases h
      rw [HNt.out] at hv4
      have B4 := below_of B3 hb4
      have k1 : ∀ q, W4.cell? ⟨w.heap.size, q, none⟩ = W3.cell? ⟨w.heap.size, q, none⟩ := fun q => hb4.cell (p := ⟨w.heap.size, q, none⟩) hlt3
      rw [← k1] at c0 c1 c2
      have hlt4 := Nat.lt_of_lt_of_le hlt3 hb4.size
      have hR4 := (hR3.keep hb4).mono hb4.size
      replace hv2 := hv2.below hb4
      replace hv3 := hv3.below hb4
      clear hb4 k1 hlt3 hR3 B3
      go_wp2_with (go_at_call 26; refine (H26.out _ hR4).mono ?_)
      rintro e W5 ⟨⟨h, _⟩ | ⟨_, v5, rfl, hv5⟩, hb5⟩
      · rw [hok] at h; cases h
      rw [HNt.out] at hv5
      have B5 := below_of B4 hb5
      have k1 : ∀ q, W5.cell? ⟨w.heap.size, q, none⟩ = W4.cell? ⟨w.heap.size, q, none⟩ := fun q => hb5.cell (p := ⟨w.heap.size, q, none⟩) hlt4
      rw [← k1] at c0 c1 c2
      have hlt5 := Nat.lt_of_lt_of_le hlt4 hb5.size
      have hR5 := (hR4.keep hb5).mono hb5.size
      replace hv2 := hv2.below hb5
      replace hv3 := hv3.below hb5
      replace hv4 := hv4.below hb5
      clear hb5 k1 hlt4 hR4 B4
      obtain ⟨so, r2, l2, m2⟩ := hv2
      obtain ⟨pr, r3, l3, m3⟩ := hv3
      obtain ⟨sh, r4, m4⟩ := hv4
      obtain ⟨sets, r5, l5, o5, m5⟩ := hv5
      obtain ⟨g2, q2, rfl, _, hg2⟩ := row_at r2 (by omega)
      obtain ⟨g3, q3, rfl, _, hg3⟩ := row_at r3 (by omega)
      obtain ⟨g4, q4, rfl, _, hg4⟩ := row_at r4 (by omega)
      obtain ⟨g5, q5, rfl, _, hg5⟩ := row_at r5 (by omega)
      clear hR5 H21 H29 H26 hR
      go_wp2
      go_loopw [11] (fun iv W => ∃ k : Nat, k ≤ N ∧ iv = .int .i64 k ∧ Below W5.heap.size W5 W) (fun iv _ => N - (intOf iv).toNat)
      case atStart => exact ⟨0, by omega, rfl, Below.refl _ _⟩
      case round =>
        obtain ⟨k, hk, rfl, hrb⟩ := hrel
        by_cases hlt : k < N
        · have hkI : (k : Int) < N := by omega
          have hx := (hrb.cell (p := ⟨g2, k, none⟩) hg2).trans (bool_cell r2 l2 hlt)
          have hy := (hrb.cell (p := ⟨g3, k, none⟩) hg3).trans (bool_cell r3 l3 hlt)
          have hz := (hrb.cell (p := ⟨g4, k, none⟩) hg4).trans (z_cell r4 hlt)
          obtain ⟨u0, u1, u2, u3⟩ := set_cells r5 l5 hlt
          have hs0 := (hrb.cell (p := ⟨g5, k * 4, none⟩) hg5).trans u0
          have hs1 := (hrb.cell (p := ⟨g5, k * 4 + 1, none⟩) hg5).trans u1
          have hs2 := (hrb.cell (p := ⟨g5, k * 4 + 2, none⟩) hg5).trans u2
          have hs3 := (hrb.cell (p := ⟨g5, k * 4 + 3, none⟩) hg5).trans u3
          have hone := row_one hsets hlt (m2 k) (m3 k) m4 (m5 k · hlt)
          generalize sets.getD k St.zero = s at hs0 hs1 hs2 hs3 hone
          clear u0 u1 u2 u3
          rcases hone with ⟨e1, e2, e3⟩ | ⟨e1, e2, e3⟩ | ⟨e1, e2, e3, e4⟩
          · rw [e1] at hx; rw [e2] at hy; rw [e3] at hz
            clear e1 e2 e3
            have T : Tl W5 g2 g3 g4 g5 k false false (-1) s wr := ⟨hrb, hx, hy, hz, hs0, hs1, hs2, hs3⟩
            clear hx hy hz hs0 hs1 hs2 hs3
            go_wp2
            refine wp_region_noPanic ?_
            refine wp_region_held_drew (S := (fun W' => W'.cell? ⟨g2, k, none⟩ = some (.bool false) ∧ W'.cell? ⟨g3, k, none⟩ = some (.bool false) ∧ W'.cell? ⟨g4, k, none⟩ = some (.int .i64 (-1)) ∧ W'.cell? ⟨g5, k * 4, none⟩ = some (.int .u64 s.a) ∧ W'.cell? ⟨g5, k * 4 + 1, none⟩ = some (.int .u64 s.b) ∧ W'.cell? ⟨g5, k * 4 + 2, none⟩ = some (.int .u64 s.c) ∧ W'.cell? ⟨g5, k * 4 + 3, none⟩ = some (.int .u64 s.d))) (by kernel_rfl) (by first | exact T.drew.facts | exact T.facts) (fun hHeld => ?_)
            refine wpAnyH_take (i := 0) (v := ?v1x0) rfl (by kernel_rfl) (by kernel_rfl) (by kernel_rfl) (fun _ _ _ h => h) (Or.inl ⟨by rfl, ?y1x0⟩) (by assumption) ?r1x0
            case y1x0 => (intro w hSw; (try dsimp only at hSw); go_simp <;> with_reducible rfl)
            try simp only [Act.put, List.getElem_toArray, List.getElem_cons_zero, List.setIfInBounds_toArray, List.set_cons_zero, List.set_cons_succ]
            refine wpAnyH_take (i := 1) (v := ?v1x1) rfl (by kernel_rfl) (by kernel_rfl) (by kernel_rfl) (fun _ _ _ h => h) (Or.inl ⟨by rfl, ?y1x1⟩) (by assumption) ?r1x1
            case y1x1 => (intro w hSw; (try dsimp only at hSw); go_simp <;> with_reducible rfl)
            try simp only [Act.put, List.getElem_toArray, List.getElem_cons_zero, List.getElem_cons_succ, List.setIfInBounds_toArray, List.set_cons_zero, List.set_cons_succ]
            refine wpAnyH_take (i := 2) (v := ?v1x2) rfl (by kernel_rfl) (by kernel_rfl) (by kernel_rfl) (fun _ _ _ h => h) (Or.inl ⟨by rfl, ?y1x2⟩) (by assumption) ?r1x2
            case y1x2 => (intro w hSw; (try dsimp only at hSw); go_simp <;> with_reducible rfl)
            try simp only [Act.put, List.getElem_toArray, List.getElem_cons_zero, List.getElem_cons_succ, List.setIfInBounds_toArray, List.set_cons_zero, List.set_cons_succ]
            refine wpAnyH_take (i := 3) (v := ?v1x3) rfl (by kernel_rfl) (by kernel_rfl) (by kernel_rfl) (fun _ _ _ h => h) (Or.inl ⟨by rfl, ?y1x3⟩) (by assumption) ?r1x3
            case y1x3 => (intro w hSw; (try dsimp only at hSw); go_simp <;> with_reducible rfl)
            try simp only [Act.put, List.getElem_toArray, List.getElem_cons_zero, List.getElem_cons_succ, List.setIfInBounds_toArray, List.set_cons_zero, List.set_cons_succ]
            refine wpAnyH_take (i := 4) (v := ?v1x4) rfl (by kernel_rfl) (by kernel_rfl) (by kernel_rfl) (fun _ _ _ h => h) (Or.inl ⟨by rfl, ?y1x4⟩) (by assumption) ?r1x4
            case y1x4 => (intro w hSw; (try dsimp only at hSw); go_simp <;> with_reducible rfl)
            try simp only [Act.put, List.getElem_toArray, List.getElem_cons_zero, List.getElem_cons_succ, List.setIfInBounds_toArray, List.set_cons_zero, List.set_cons_succ]
            refine wpAnyH_take (i := 5) (v := ?v1x5) rfl (by kernel_rfl) (by kernel_rfl) (by kernel_rfl) (fun _ _ _ h => h) (Or.inl ⟨by rfl, ?y1x5⟩) (by assumption) ?r1x5
            case y1x5 => (intro w hSw; (try dsimp only at hSw); go_simp <;> with_reducible rfl)
            try simp only [Act.put, List.getElem_toArray, List.getElem_cons_zero, List.getElem_cons_succ, List.setIfInBounds_toArray, List.set_cons_zero, List.set_cons_succ]
            refine wpAnyH_take (i := 6) (v := ?v1x6) rfl (by kernel_rfl) (by kernel_rfl) (by kernel_rfl) (fun _ _ _ h => h) (Or.inl ⟨by rfl, ?y1x6⟩) (by assumption) ?r1x6
            case y1x6 => (intro w hSw; (try dsimp only at hSw); go_simp <;> with_reducible rfl)
            try simp only [Act.put, List.getElem_toArray, List.getElem_cons_zero, List.getElem_cons_succ, List.setIfInBounds_toArray, List.set_cons_zero, List.set_cons_succ]
            refine wpAnyH_take (i := 7) (v := ?v1x7) rfl (by kernel_rfl) (by kernel_rfl) (by kernel_rfl) (fun _ _ _ h => h) (Or.inl ⟨by rfl, ?y1x7⟩) (by assumption) ?r1x7
            case y1x7 => (intro w hSw; (try dsimp only at hSw); go_simp <;> with_reducible rfl)
            try simp only [Act.put, List.getElem_toArray, List.getElem_cons_zero, List.getElem_cons_succ, List.setIfInBounds_toArray, List.set_cons_zero, List.set_cons_succ]
            refine wpAnyH_take (i := 8) (v := ?v1x8) rfl (by kernel_rfl) (by kernel_rfl) (by kernel_rfl) (fun _ _ _ h => h) (Or.inl ⟨by rfl, ?y1x8⟩) (by assumption) ?r1x8
            case y1x8 => (intro w hSw; (try dsimp only at hSw); go_simp <;> with_reducible rfl)
            try simp only [Act.put, List.getElem_toArray, List.getElem_cons_zero, List.getElem_cons_succ, List.setIfInBounds_toArray, List.set_cons_zero, List.set_cons_succ]
            refine wpAnyH_take (i := 9) (v := ?v1x9) rfl (by kernel_rfl) (by kernel_rfl) (by kernel_rfl) (fun _ _ _ h => h) (Or.inl ⟨by rfl, ?y1x9⟩) (by assumption) ?r1x9
            case y1x9 => (intro w hSw; (try dsimp only at hSw); go_simp <;> with_reducible rfl)
            try simp only [Act.put, List.getElem_toArray, List.getElem_cons_zero, List.getElem_cons_succ, List.setIfInBounds_toArray, List.set_cons_zero, List.set_cons_succ]
            refine wpAnyH_take (i := 10) (v := ?v1x10) rfl (by kernel_rfl) (by kernel_rfl) (by kernel_rfl) (fun _ _ _ h => h) (Or.inl ⟨by rfl, ?y1x10⟩) (by assumption) ?r1x10
            case y1x10 => (intro w hSw; (try dsimp only at hSw); go_simp <;> with_reducible rfl)
            try simp only [Act.put, List.getElem_toArray, List.getElem_cons_zero, List.getElem_cons_succ, List.setIfInBounds_toArray, List.set_cons_zero, List.set_cons_succ]
            refine wpAnyH_take (i := 11) (v := ?v1x11) rfl (by kernel_rfl) (by kernel_rfl) (by kernel_rfl) (fun _ _ _ h => h) (Or.inl ⟨by rfl, ?y1x11⟩) (by assumption) ?r1x11
            case y1x11 => (intro w hSw; (try dsimp only at hSw); go_simp <;> with_reducible rfl)
            try simp only [Act.put, List.getElem_toArray, List.getElem_cons_zero, List.getElem_cons_succ, List.setIfInBounds_toArray, List.set_cons_zero, List.set_cons_succ]
            refine wpAnyH_take (i := 12) (v := ?v1x12) rfl (by kernel_rfl) (by kernel_rfl) (by kernel_rfl) (fun _ _ _ h => h) (Or.inl ⟨by rfl, ?y1x12⟩) (by assumption) ?r1x12
            case y1x12 => (intro w hSw; (try dsimp only at hSw); go_simp <;> with_reducible rfl)
            try simp only [Act.put, List.getElem_toArray, List.getElem_cons_zero, List.getElem_cons_succ, List.setIfInBounds_toArray, List.set_cons_zero, List.set_cons_succ]
            refine wpAnyH_take (i := 13) (v := ?v1x13) rfl (by kernel_rfl) (by kernel_rfl) (by kernel_rfl) (fun _ _ _ h => h) (Or.inl ⟨by rfl, ?y1x13⟩) (by assumption) ?r1x13
            case y1x13 => (intro w hSw; (try dsimp only at hSw); go_simp <;> with_reducible rfl)
            try simp only [Act.put, List.getElem_toArray, List.getElem_cons_zero, List.getElem_cons_succ, List.setIfInBounds_toArray, List.set_cons_zero, List.set_cons_succ]
            refine wpAnyH_take (i := 14) (v := ?v1x14) rfl (by kernel_rfl) (by kernel_rfl) (by kernel_rfl) (fun _ _ _ h => h) (Or.inl ⟨by rfl, ?y1x14⟩) (by assumption) ?r1x14
            case y1x14 => (intro w hSw; (try dsimp only at hSw); go_simp <;> with_reducible rfl)
            try simp only [Act.put, List.getElem_toArray, List.getElem_cons_zero, List.getElem_cons_succ, List.setIfInBounds_toArray, List.set_cons_zero, List.set_cons_succ]
            refine wpAnyH_take (i := 15) (v := ?v1x15) rfl (by kernel_rfl) (by kernel_rfl) (by kernel_rfl) (fun _ _ _ h => h) (Or.inl ⟨by rfl, ?y1x15⟩) (by assumption) ?r1x15
            case y1x15 => (intro w hSw; (try dsimp only at hSw); go_simp <;> with_reducible rfl)
            try simp only [Act.put, List.getElem_toArray, List.getElem_cons_zero, List.getElem_cons_succ, List.setIfInBounds_toArray, List.set_cons_zero, List.set_cons_succ]
            refine wpAnyH_take (i := 16) (v := ?v1x16) rfl (by kernel_rfl) (by kernel_rfl) (by kernel_rfl) (fun _ _ _ h => h) (Or.inl ⟨by rfl, ?y1x16⟩) (by assumption) ?r1x16
            case y1x16 => (intro w hSw; (try dsimp only at hSw); go_simp <;> with_reducible rfl)
            try simp only [Act.put, List.getElem_toArray, List.getElem_cons_zero, List.getElem_cons_succ, List.setIfInBounds_toArray, List.set_cons_zero, List.set_cons_succ]
            refine wpAnyH_take (i := 17) (v := ?v1x17) rfl (by kernel_rfl) (by kernel_rfl) (by kernel_rfl) (fun _ _ _ h => h) (Or.inl ⟨by rfl, ?y1x17⟩) (by assumption) ?r1x17
            case y1x17 => (intro w hSw; (try dsimp only at hSw); go_simp <;> with_reducible rfl)
            try simp only [Act.put, List.getElem_toArray, List.getElem_cons_zero, List.getElem_cons_succ, List.setIfInBounds_toArray, List.set_cons_zero, List.set_cons_succ]
            refine wpAnyH_take (i := 18) (v := ?v1x18) rfl (by kernel_rfl) (by kernel_rfl) (by kernel_rfl) (fun _ _ _ h => h) (Or.inl ⟨by rfl, ?y1x18⟩) (by assumption) ?r1x18
            case y1x18 => (intro w hSw; (try dsimp only at hSw); go_simp <;> with_reducible rfl)
            try simp only [Act.put, List.getElem_toArray, List.getElem_cons_zero, List.getElem_cons_succ, List.setIfInBounds_toArray, List.set_cons_zero, List.set_cons_succ]
            refine wpAnyH_take (i := 19) (v := ?v1x19) rfl (by kernel_rfl) (by kernel_rfl) (by kernel_rfl) (fun _ _ _ h => h) (Or.inl ⟨by rfl, ?y1x19⟩) (by assumption) ?r1x19
            case y1x19 => (intro w hSw; (try dsimp only at hSw); go_simp <;> with_reducible rfl)
            try simp only [Act.put, List.getElem_toArray, List.getElem_cons_zero, List.getElem_cons_succ, List.setIfInBounds_toArray, List.set_cons_zero, List.set_cons_succ]
            refine wpAnyH_take (i := 20) (v := ?v1x20) rfl (by kernel_rfl) (by kernel_rfl) (by kernel_rfl) (fun _ _ _ h => h) (Or.inl ⟨by rfl, ?y1x20⟩) (by assumption) ?r1x20
            case y1x20 => (intro w hSw; (try dsimp only at hSw); go_simp <;> with_reducible rfl)
            try simp only [Act.put, List.getElem_toArray, List.getElem_cons_zero, List.getElem_cons_succ, List.setIfInBounds_toArray, List.set_cons_zero, List.set_cons_succ]
            refine wpAnyH_take (i := 21) (v := ?v1x21) rfl (by kernel_rfl) (by kernel_rfl) (by kernel_rfl) (fun _ _ _ h => h) (Or.inl ⟨by rfl, ?y1x21⟩) (by assumption) ?r1x21
            case y1x21 => (intro w hSw; (try dsimp only at hSw); go_simp <;> with_reducible rfl)
            try simp only [Act.put, List.getElem_toArray, List.getElem_cons_zero, List.getElem_cons_succ, List.setIfInBounds_toArray, List.set_cons_zero, List.set_cons_succ]
            refine wpAnyH_take (i := 22) (v := ?v1x22) rfl (by kernel_rfl) (by kernel_rfl) (by kernel_rfl) (fun _ _ _ h => h) (Or.inl ⟨by rfl, ?y1x22⟩) (by assumption) ?r1x22
            case y1x22 => (intro w hSw; (try dsimp only at hSw); go_simp <;> with_reducible rfl)
            try simp only [Act.put, List.getElem_toArray, List.getElem_cons_zero, List.getElem_cons_succ, List.setIfInBounds_toArray, List.set_cons_zero, List.set_cons_succ]
            refine wpAnyH_take (i := 23) (v := ?v1x23) rfl (by kernel_rfl) (by kernel_rfl) (by kernel_rfl) (fun _ _ _ h => h) (Or.inl ⟨by rfl, ?y1x23⟩) (by assumption) ?r1x23
            case y1x23 => (intro w hSw; (try dsimp only at hSw); go_simp <;> with_reducible rfl)
            try simp only [Act.put, List.getElem_toArray, List.getElem_cons_zero, List.getElem_cons_succ, List.setIfInBounds_toArray, List.set_cons_zero, List.set_cons_succ]
            refine wpAnyH_take (i := 24) (v := ?v1x24) rfl (by kernel_rfl) (by kernel_rfl) (by kernel_rfl) (fun _ _ _ h => h) (Or.inl ⟨by rfl, ?y1x24⟩) (by assumption) ?r1x24
            case y1x24 => (intro w hSw; (try dsimp only at hSw); go_simp <;> with_reducible rfl)
            try simp only [Act.put, List.getElem_toArray, List.getElem_cons_zero, List.getElem_cons_succ, List.setIfInBounds_toArray, List.set_cons_zero, List.set_cons_succ]
            refine wpAnyH_take (i := 25) (v := ?v1x25) rfl (by kernel_rfl) (by kernel_rfl) (by kernel_rfl) (fun _ _ _ h => h) (Or.inl ⟨by rfl, ?y1x25⟩) (by assumption) ?r1x25
            case y1x25 => (intro w hSw; (try dsimp only at hSw); go_simp <;> with_reducible rfl)
            try simp only [Act.put, List.getElem_toArray, List.getElem_cons_zero, List.getElem_cons_succ, List.setIfInBounds_toArray, List.set_cons_zero, List.set_cons_succ]
            refine wpAnyH_take (i := 26) (v := ?v1x26) rfl (by kernel_rfl) (by kernel_rfl) (by kernel_rfl) (fun _ _ _ h => h) (Or.inl ⟨by rfl, ?y1x26⟩) (by assumption) ?r1x26
            case y1x26 => (intro w hSw; (try dsimp only at hSw); go_simp <;> with_reducible rfl)
            try simp only [Act.put, List.getElem_toArray, List.getElem_cons_zero, List.getElem_cons_succ, List.setIfInBounds_toArray, List.set_cons_zero, List.set_cons_succ]
            refine wpAnyH_take (i := 27) (v := ?v1x27) rfl (by kernel_rfl) (by kernel_rfl) (by kernel_rfl) (fun _ _ _ h => h) (Or.inl ⟨by rfl, ?y1x27⟩) (by assumption) ?r1x27
            case y1x27 => (intro w hSw; (try dsimp only at hSw); go_simp <;> with_reducible rfl)
            try simp only [Act.put, List.getElem_toArray, List.getElem_cons_zero, List.getElem_cons_succ, List.setIfInBounds_toArray, List.set_cons_zero, List.set_cons_succ]
            refine wpAnyH_take (i := 28) (v := ?v1x28) rfl (by kernel_rfl) (by kernel_rfl) (by kernel_rfl) (fun _ _ _ h => h) (Or.inl ⟨by rfl, ?y1x28⟩) (by assumption) ?r1x28
            case y1x28 => (intro w hSw; (try dsimp only at hSw); go_simp <;> with_reducible rfl)
            try simp only [Act.put, List.getElem_toArray, List.getElem_cons_zero, List.getElem_cons_succ, List.setIfInBounds_toArray, List.set_cons_zero, List.set_cons_succ]
            refine wpAnyH_take (i := 29) (v := undef) rfl (by kernel_rfl) (by kernel_rfl) (by kernel_rfl) (fun _ _ _ h => h) (Or.inr ⟨by rfl, rfl⟩) (by assumption) ?_
            try simp only [Act.put, List.getElem_toArray, List.getElem_cons_zero, List.getElem_cons_succ, List.setIfInBounds_toArray, List.set_cons_zero, List.set_cons_succ]
            refine wpAnyH_take (i := 30) (v := undef) rfl (by kernel_rfl) (by kernel_rfl) (by kernel_rfl) (fun _ _ _ h => h) (Or.inr ⟨by rfl, rfl⟩) (by assumption) ?_
            try simp only [Act.put, List.getElem_toArray, List.getElem_cons_zero, List.getElem_cons_succ, List.setIfInBounds_toArray, List.set_cons_zero, List.set_cons_succ]
            refine wpAnyH_take (i := 31) (v := undef) rfl (by kernel_rfl) (by kernel_rfl) (by kernel_rfl) (fun _ _ _ h => h) (Or.inr ⟨by rfl, rfl⟩) (by assumption) ?_
            try simp only [Act.put, List.getElem_toArray, List.getElem_cons_zero, List.getElem_cons_succ, List.setIfInBounds_toArray, List.set_cons_zero, List.set_cons_succ]
            refine wpAnyH_take (i := 32) (v := undef) rfl (by kernel_rfl) (by kernel_rfl) (by kernel_rfl) (fun _ _ _ h => h) (Or.inr ⟨by rfl, rfl⟩) (by assumption) ?_
            try simp only [Act.put, List.getElem_toArray, List.getElem_cons_zero, List.getElem_cons_succ, List.setIfInBounds_toArray, List.set_cons_zero, List.set_cons_succ]
            refine wpAnyH_take (i := 33) (v := undef) rfl (by kernel_rfl) (by kernel_rfl) (by kernel_rfl) (fun _ _ _ h => h) (Or.inr ⟨by rfl, rfl⟩) (by assumption) ?_
            try simp only [Act.put, List.getElem_toArray, List.getElem_cons_zero, List.getElem_cons_succ, List.setIfInBounds_toArray, List.set_cons_zero, List.set_cons_succ]
            refine wpAnyH_take (i := 34) (v := undef) rfl (by kernel_rfl) (by kernel_rfl) (by kernel_rfl) (fun _ _ _ h => h) (Or.inr ⟨by rfl, rfl⟩) (by assumption) ?_
            try simp only [Act.put, List.getElem_toArray, List.getElem_cons_zero, List.getElem_cons_succ, List.setIfInBounds_toArray, List.set_cons_zero, List.set_cons_succ]
            refine wpAnyH_take (i := 35) (v := ?v1x35) rfl (by kernel_rfl) (by kernel_rfl) (by kernel_rfl) (fun _ _ _ h => h) (Or.inl ⟨by rfl, ?y1x35⟩) (by assumption) ?r1x35
            case y1x35 => (intro w hSw; (try dsimp only at hSw); go_simp <;> with_reducible rfl)
            try simp only [Act.put, List.getElem_toArray, List.getElem_cons_zero, List.getElem_cons_succ, List.setIfInBounds_toArray, List.set_cons_zero, List.set_cons_succ]
            refine wpAnyH_take (i := 36) (v := ?v1x36) rfl (by kernel_rfl) (by kernel_rfl) (by kernel_rfl) (fun _ _ _ h => h) (Or.inl ⟨by rfl, ?y1x36⟩) (by assumption) ?r1x36
            case y1x36 => (intro w hSw; (try dsimp only at hSw); go_simp <;> with_reducible rfl)
            try simp only [Act.put, List.getElem_toArray, List.getElem_cons_zero, List.getElem_cons_succ, List.setIfInBounds_toArray, List.set_cons_zero, List.set_cons_succ]
            refine wpAnyH_done (by kernel_rfl) ?_ _
            refine NoPanic.normal ?_
            all_goals go_wp2
            all_goals exact ⟨⟨k + 1, by omega, by go_num, by first | exact T.bel | exact T.drew.bel⟩, by simp [intOf]; omega⟩
          · rw [e1] at hx; rw [e2] at hy; rw [e3] at hz
            clear e1 e2 e3
            have T : Tl W5 g2 g3 g4 g5 k true true 0 s wr := ⟨hrb, hx, hy, hz, hs0, hs1, hs2, hs3⟩
            clear hx hy hz hs0 hs1 hs2 hs3
            go_wp2
            refine wp_region_noPanic ?_
            refine wp_region_held_drew (S := (fun W' => W'.cell? ⟨g2, k, none⟩ = some (.bool true) ∧ W'.cell? ⟨g3, k, none⟩ = some (.bool true) ∧ W'.cell? ⟨g4, k, none⟩ = some (.int .i64 0) ∧ W'.cell? ⟨g5, k * 4, none⟩ = some (.int .u64 s.a) ∧ W'.cell? ⟨g5, k * 4 + 1, none⟩ = some (.int .u64 s.b) ∧ W'.cell? ⟨g5, k * 4 + 2, none⟩ = some (.int .u64 s.c) ∧ W'.cell? ⟨g5, k * 4 + 3, none⟩ = some (.int .u64 s.d))) (by kernel_rfl) (by first | exact T.drew.facts | exact T.facts) (fun hHeld => ?_)
            refine wpAnyH_take (i := 0) (v := ?v2x0) rfl (by kernel_rfl) (by kernel_rfl) (by kernel_rfl) (fun _ _ _ h => h) (Or.inl ⟨by rfl, ?y2x0⟩) (by assumption) ?r2x0
            case y2x0 => (intro w hSw; (try dsimp only at hSw); go_simp <;> with_reducible rfl)
            try simp only [Act.put, List.getElem_toArray, List.getElem_cons_zero, List.setIfInBounds_toArray, List.set_cons_zero, List.set_cons_succ]
            refine wpAnyH_take (i := 1) (v := ?v2x1) rfl (by kernel_rfl) (by kernel_rfl) (by kernel_rfl) (fun _ _ _ h => h) (Or.inl ⟨by rfl, ?y2x1⟩) (by assumption) ?r2x1
            case y2x1 => (intro w hSw; (try dsimp only at hSw); go_simp <;> with_reducible rfl)
            try simp only [Act.put, List.getElem_toArray, List.getElem_cons_zero, List.getElem_cons_succ, List.setIfInBounds_toArray, List.set_cons_zero, List.set_cons_succ]
            refine wpAnyH_take (i := 2) (v := ?v2x2) rfl (by kernel_rfl) (by kernel_rfl) (by kernel_rfl) (fun _ _ _ h => h) (Or.inl ⟨by rfl, ?y2x2⟩) (by assumption) ?r2x2
            case y2x2 => (intro w hSw; (try dsimp only at hSw); go_simp <;> with_reducible rfl)
            try simp only [Act.put, List.getElem_toArray, List.getElem_cons_zero, List.getElem_cons_succ, List.setIfInBounds_toArray, List.set_cons_zero, List.set_cons_succ]
            refine wpAnyH_take (i := 3) (v := ?v2x3) rfl (by kernel_rfl) (by kernel_rfl) (by kernel_rfl) (fun _ _ _ h => h) (Or.inl ⟨by rfl, ?y2x3⟩) (by assumption) ?r2x3
            case y2x3 => (intro w hSw; (try dsimp only at hSw); go_simp <;> with_reducible rfl)
            try simp only [Act.put, List.getElem_toArray, List.getElem_cons_zero, List.getElem_cons_succ, List.setIfInBounds_toArray, List.set_cons_zero, List.set_cons_succ]
            refine wpAnyH_take (i := 4) (v := ?v2x4) rfl (by kernel_rfl) (by kernel_rfl) (by kernel_rfl) (fun _ _ _ h => h) (Or.inl ⟨by rfl, ?y2x4⟩) (by assumption) ?r2x4
            case y2x4 => (intro w hSw; (try dsimp only at hSw); go_simp <;> with_reducible rfl)
            try simp only [Act.put, List.getElem_toArray, List.getElem_cons_zero, List.getElem_cons_succ, List.setIfInBounds_toArray, List.set_cons_zero, List.set_cons_succ]
            refine wpAnyH_take (i := 5) (v := ?v2x5) rfl (by kernel_rfl) (by kernel_rfl) (by kernel_rfl) (fun _ _ _ h => h) (Or.inl ⟨by rfl, ?y2x5⟩) (by assumption) ?r2x5
            case y2x5 => (intro w hSw; (try dsimp only at hSw); go_simp <;> with_reducible rfl)
            try simp only [Act.put, List.getElem_toArray, List.getElem_cons_zero, List.getElem_cons_succ, List.setIfInBounds_toArray, List.set_cons_zero, List.set_cons_succ]
            refine wpAnyH_take (i := 6) (v := ?v2x6) rfl (by kernel_rfl) (by kernel_rfl) (by kernel_rfl) (fun _ _ _ h => h) (Or.inl ⟨by rfl, ?y2x6⟩) (by assumption) ?r2x6
            case y2x6 => (intro w hSw; (try dsimp only at hSw); go_simp <;> with_reducible rfl)
            try simp only [Act.put, List.getElem_toArray, List.getElem_cons_zero, List.getElem_cons_succ, List.setIfInBounds_toArray, List.set_cons_zero, List.set_cons_succ]
            refine wpAnyH_take (i := 7) (v := ?v2x7) rfl (by kernel_rfl) (by kernel_rfl) (by kernel_rfl) (fun _ _ _ h => h) (Or.inl ⟨by rfl, ?y2x7⟩) (by assumption) ?r2x7
            case y2x7 => (intro w hSw; (try dsimp only at hSw); go_simp <;> with_reducible rfl)
            try simp only [Act.put, List.getElem_toArray, List.getElem_cons_zero, List.getElem_cons_succ, List.setIfInBounds_toArray, List.set_cons_zero, List.set_cons_succ]
            refine wpAnyH_take (i := 8) (v := ?v2x8) rfl (by kernel_rfl) (by kernel_rfl) (by kernel_rfl) (fun _ _ _ h => h) (Or.inl ⟨by rfl, ?y2x8⟩) (by assumption) ?r2x8
            case y2x8 => (intro w hSw; (try dsimp only at hSw); go_simp <;> with_reducible rfl)
            try simp only [Act.put, List.getElem_toArray, List.getElem_cons_zero, List.getElem_cons_succ, List.setIfInBounds_toArray, List.set_cons_zero, List.set_cons_succ]
            refine wpAnyH_take (i := 9) (v := ?v2x9) rfl (by kernel_rfl) (by kernel_rfl) (by kernel_rfl) (fun _ _ _ h => h) (Or.inl ⟨by rfl, ?y2x9⟩) (by assumption) ?r2x9
            case y2x9 => (intro w hSw; (try dsimp only at hSw); go_simp <;> with_reducible rfl)
            try simp only [Act.put, List.getElem_toArray, List.getElem_cons_zero, List.getElem_cons_succ, List.setIfInBounds_toArray, List.set_cons_zero, List.set_cons_succ]
            refine wpAnyH_take (i := 10) (v := ?v2x10) rfl (by kernel_rfl) (by kernel_rfl) (by kernel_rfl) (fun _ _ _ h => h) (Or.inl ⟨by rfl, ?y2x10⟩) (by assumption) ?r2x10
            case y2x10 => (intro w hSw; (try dsimp only at hSw); go_simp <;> with_reducible rfl)
            try simp only [Act.put, List.getElem_toArray, List.getElem_cons_zero, List.getElem_cons_succ, List.setIfInBounds_toArray, List.set_cons_zero, List.set_cons_succ]
            refine wpAnyH_take (i := 11) (v := ?v2x11) rfl (by kernel_rfl) (by kernel_rfl) (by kernel_rfl) (fun _ _ _ h => h) (Or.inl ⟨by rfl, ?y2x11⟩) (by assumption) ?r2x11
            case y2x11 => (intro w hSw; (try dsimp only at hSw); go_simp <;> with_reducible rfl)
            try simp only [Act.put, List.getElem_toArray, List.getElem_cons_zero, List.getElem_cons_succ, List.setIfInBounds_toArray, List.set_cons_zero, List.set_cons_succ]
            refine wpAnyH_take (i := 12) (v := ?v2x12) rfl (by kernel_rfl) (by kernel_rfl) (by kernel_rfl) (fun _ _ _ h => h) (Or.inl ⟨by rfl, ?y2x12⟩) (by assumption) ?r2x12
            case y2x12 => (intro w hSw; (try dsimp only at hSw); go_simp <;> with_reducible rfl)
            try simp only [Act.put, List.getElem_toArray, List.getElem_cons_zero, List.getElem_cons_succ, List.setIfInBounds_toArray, List.set_cons_zero, List.set_cons_succ]
            refine wpAnyH_take (i := 13) (v := ?v2x13) rfl (by kernel_rfl) (by kernel_rfl) (by kernel_rfl) (fun _ _ _ h => h) (Or.inl ⟨by rfl, ?y2x13⟩) (by assumption) ?r2x13
            case y2x13 => (intro w hSw; (try dsimp only at hSw); go_simp <;> with_reducible rfl)
            try simp only [Act.put, List.getElem_toArray, List.getElem_cons_zero, List.getElem_cons_succ, List.setIfInBounds_toArray, List.set_cons_zero, List.set_cons_succ]
            refine wpAnyH_take (i := 14) (v := ?v2x14) rfl (by kernel_rfl) (by kernel_rfl) (by kernel_rfl) (fun _ _ _ h => h) (Or.inl ⟨by rfl, ?y2x14⟩) (by assumption) ?r2x14
            case y2x14 => (intro w hSw; (try dsimp only at hSw); go_simp <;> with_reducible rfl)
            try simp only [Act.put, List.getElem_toArray, List.getElem_cons_zero, List.getElem_cons_succ, List.setIfInBounds_toArray, List.set_cons_zero, List.set_cons_succ]
            refine wpAnyH_take (i := 15) (v := ?v2x15) rfl (by kernel_rfl) (by kernel_rfl) (by kernel_rfl) (fun _ _ _ h => h) (Or.inl ⟨by rfl, ?y2x15⟩) (by assumption) ?r2x15
            case y2x15 => (intro w hSw; (try dsimp only at hSw); go_simp <;> with_reducible rfl)
            try simp only [Act.put, List.getElem_toArray, List.getElem_cons_zero, List.getElem_cons_succ, List.setIfInBounds_toArray, List.set_cons_zero, List.set_cons_succ]
            refine wpAnyH_take (i := 16) (v := ?v2x16) rfl (by kernel_rfl) (by kernel_rfl) (by kernel_rfl) (fun _ _ _ h => h) (Or.inl ⟨by rfl, ?y2x16⟩) (by assumption) ?r2x16
            case y2x16 => (intro w hSw; (try dsimp only at hSw); go_simp <;> with_reducible rfl)
            try simp only [Act.put, List.getElem_toArray, List.getElem_cons_zero, List.getElem_cons_succ, List.setIfInBounds_toArray, List.set_cons_zero, List.set_cons_succ]
            refine wpAnyH_take (i := 17) (v := ?v2x17) rfl (by kernel_rfl) (by kernel_rfl) (by kernel_rfl) (fun _ _ _ h => h) (Or.inl ⟨by rfl, ?y2x17⟩) (by assumption) ?r2x17
            case y2x17 => (intro w hSw; (try dsimp only at hSw); go_simp <;> with_reducible rfl)
            try simp only [Act.put, List.getElem_toArray, List.getElem_cons_zero, List.getElem_cons_succ, List.setIfInBounds_toArray, List.set_cons_zero, List.set_cons_succ]
            refine wpAnyH_take (i := 18) (v := ?v2x18) rfl (by kernel_rfl) (by kernel_rfl) (by kernel_rfl) (fun _ _ _ h => h) (Or.inl ⟨by rfl, ?y2x18⟩) (by assumption) ?r2x18
            case y2x18 => (intro w hSw; (try dsimp only at hSw); go_simp <;> with_reducible rfl)
            try simp only [Act.put, List.getElem_toArray, List.getElem_cons_zero, List.getElem_cons_succ, List.setIfInBounds_toArray, List.set_cons_zero, List.set_cons_succ]
            refine wpAnyH_take (i := 19) (v := ?v2x19) rfl (by kernel_rfl) (by kernel_rfl) (by kernel_rfl) (fun _ _ _ h => h) (Or.inl ⟨by rfl, ?y2x19⟩) (by assumption) ?r2x19
            case y2x19 => (intro w hSw; (try dsimp only at hSw); go_simp <;> with_reducible rfl)
            try simp only [Act.put, List.getElem_toArray, List.getElem_cons_zero, List.getElem_cons_succ, List.setIfInBounds_toArray, List.set_cons_zero, List.set_cons_succ]
            refine wpAnyH_take (i := 20) (v := ?v2x20) rfl (by kernel_rfl) (by kernel_rfl) (by kernel_rfl) (fun _ _ _ h => h) (Or.inl ⟨by rfl, ?y2x20⟩) (by assumption) ?r2x20
            case y2x20 => (intro w hSw; (try dsimp only at hSw); go_simp <;> with_reducible rfl)
            try simp only [Act.put, List.getElem_toArray, List.getElem_cons_zero, List.getElem_cons_succ, List.setIfInBounds_toArray, List.set_cons_zero, List.set_cons_succ]
            refine wpAnyH_take (i := 21) (v := ?v2x21) rfl (by kernel_rfl) (by kernel_rfl) (by kernel_rfl) (fun _ _ _ h => h) (Or.inl ⟨by rfl, ?y2x21⟩) (by assumption) ?r2x21
            case y2x21 => (intro w hSw; (try dsimp only at hSw); go_simp <;> with_reducible rfl)
            try simp only [Act.put, List.getElem_toArray, List.getElem_cons_zero, List.getElem_cons_succ, List.setIfInBounds_toArray, List.set_cons_zero, List.set_cons_succ]
            refine wpAnyH_take (i := 22) (v := ?v2x22) rfl (by kernel_rfl) (by kernel_rfl) (by kernel_rfl) (fun _ _ _ h => h) (Or.inl ⟨by rfl, ?y2x22⟩) (by assumption) ?r2x22
            case y2x22 => (intro w hSw; (try dsimp only at hSw); go_simp <;> with_reducible rfl)
            try simp only [Act.put, List.getElem_toArray, List.getElem_cons_zero, List.getElem_cons_succ, List.setIfInBounds_toArray, List.set_cons_zero, List.set_cons_succ]
            refine wpAnyH_take (i := 23) (v := ?v2x23) rfl (by kernel_rfl) (by kernel_rfl) (by kernel_rfl) (fun _ _ _ h => h) (Or.inl ⟨by rfl, ?y2x23⟩) (by assumption) ?r2x23
            case y2x23 => (intro w hSw; (try dsimp only at hSw); go_simp <;> with_reducible rfl)
            try simp only [Act.put, List.getElem_toArray, List.getElem_cons_zero, List.getElem_cons_succ, List.setIfInBounds_toArray, List.set_cons_zero, List.set_cons_succ]
            refine wpAnyH_take (i := 24) (v := ?v2x24) rfl (by kernel_rfl) (by kernel_rfl) (by kernel_rfl) (fun _ _ _ h => h) (Or.inl ⟨by rfl, ?y2x24⟩) (by assumption) ?r2x24
            case y2x24 => (intro w hSw; (try dsimp only at hSw); go_simp <;> with_reducible rfl)
            try simp only [Act.put, List.getElem_toArray, List.getElem_cons_zero, List.getElem_cons_succ, List.setIfInBounds_toArray, List.set_cons_zero, List.set_cons_succ]
            refine wpAnyH_take (i := 25) (v := ?v2x25) rfl (by kernel_rfl) (by kernel_rfl) (by kernel_rfl) (fun _ _ _ h => h) (Or.inl ⟨by rfl, ?y2x25⟩) (by assumption) ?r2x25
            case y2x25 => (intro w hSw; (try dsimp only at hSw); go_simp <;> with_reducible rfl)
            try simp only [Act.put, List.getElem_toArray, List.getElem_cons_zero, List.getElem_cons_succ, List.setIfInBounds_toArray, List.set_cons_zero, List.set_cons_succ]
            refine wpAnyH_take (i := 26) (v := ?v2x26) rfl (by kernel_rfl) (by kernel_rfl) (by kernel_rfl) (fun _ _ _ h => h) (Or.inl ⟨by rfl, ?y2x26⟩) (by assumption) ?r2x26
            case y2x26 => (intro w hSw; (try dsimp only at hSw); go_simp <;> with_reducible rfl)
            try simp only [Act.put, List.getElem_toArray, List.getElem_cons_zero, List.getElem_cons_succ, List.setIfInBounds_toArray, List.set_cons_zero, List.set_cons_succ]
            refine wpAnyH_take (i := 27) (v := ?v2x27) rfl (by kernel_rfl) (by kernel_rfl) (by kernel_rfl) (fun _ _ _ h => h) (Or.inl ⟨by rfl, ?y2x27⟩) (by assumption) ?r2x27
            case y2x27 => (intro w hSw; (try dsimp only at hSw); go_simp <;> with_reducible rfl)
            try simp only [Act.put, List.getElem_toArray, List.getElem_cons_zero, List.getElem_cons_succ, List.setIfInBounds_toArray, List.set_cons_zero, List.set_cons_succ]
            refine wpAnyH_take (i := 28) (v := ?v2x28) rfl (by kernel_rfl) (by kernel_rfl) (by kernel_rfl) (fun _ _ _ h => h) (Or.inl ⟨by rfl, ?y2x28⟩) (by assumption) ?r2x28
            case y2x28 => (intro w hSw; (try dsimp only at hSw); go_simp <;> with_reducible rfl)
            try simp only [Act.put, List.getElem_toArray, List.getElem_cons_zero, List.getElem_cons_succ, List.setIfInBounds_toArray, List.set_cons_zero, List.set_cons_succ]
            refine wpAnyH_take (i := 29) (v := undef) rfl (by kernel_rfl) (by kernel_rfl) (by kernel_rfl) (fun _ _ _ h => h) (Or.inr ⟨by rfl, rfl⟩) (by assumption) ?_
            try simp only [Act.put, List.getElem_toArray, List.getElem_cons_zero, List.getElem_cons_succ, List.setIfInBounds_toArray, List.set_cons_zero, List.set_cons_succ]
            refine wpAnyH_take (i := 30) (v := undef) rfl (by kernel_rfl) (by kernel_rfl) (by kernel_rfl) (fun _ _ _ h => h) (Or.inr ⟨by rfl, rfl⟩) (by assumption) ?_
            try simp only [Act.put, List.getElem_toArray, List.getElem_cons_zero, List.getElem_cons_succ, List.setIfInBounds_toArray, List.set_cons_zero, List.set_cons_succ]
            refine wpAnyH_take (i := 31) (v := undef) rfl (by kernel_rfl) (by kernel_rfl) (by kernel_rfl) (fun _ _ _ h => h) (Or.inr ⟨by rfl, rfl⟩) (by assumption) ?_
            try simp only [Act.put, List.getElem_toArray, List.getElem_cons_zero, List.getElem_cons_succ, List.setIfInBounds_toArray, List.set_cons_zero, List.set_cons_succ]
            refine wpAnyH_take (i := 32) (v := undef) rfl (by kernel_rfl) (by kernel_rfl) (by kernel_rfl) (fun _ _ _ h => h) (Or.inr ⟨by rfl, rfl⟩) (by assumption) ?_
            try simp only [Act.put, List.getElem_toArray, List.getElem_cons_zero, List.getElem_cons_succ, List.setIfInBounds_toArray, List.set_cons_zero, List.set_cons_succ]
            refine wpAnyH_take (i := 33) (v := undef) rfl (by kernel_rfl) (by kernel_rfl) (by kernel_rfl) (fun _ _ _ h => h) (Or.inr ⟨by rfl, rfl⟩) (by assumption) ?_
            try simp only [Act.put, List.getElem_toArray, List.getElem_cons_zero, List.getElem_cons_succ, List.setIfInBounds_toArray, List.set_cons_zero, List.set_cons_succ]
            refine wpAnyH_take (i := 34) (v := undef) rfl (by kernel_rfl) (by kernel_rfl) (by kernel_rfl) (fun _ _ _ h => h) (Or.inr ⟨by rfl, rfl⟩) (by assumption) ?_
            try simp only [Act.put, List.getElem_toArray, List.getElem_cons_zero, List.getElem_cons_succ, List.setIfInBounds_toArray, List.set_cons_zero, List.set_cons_succ]
            refine wpAnyH_take (i := 35) (v := ?v2x35) rfl (by kernel_rfl) (by kernel_rfl) (by kernel_rfl) (fun _ _ _ h => h) (Or.inl ⟨by rfl, ?y2x35⟩) (by assumption) ?r2x35
            case y2x35 => (intro w hSw; (try dsimp only at hSw); go_simp <;> with_reducible rfl)
            try simp only [Act.put, List.getElem_toArray, List.getElem_cons_zero, List.getElem_cons_succ, List.setIfInBounds_toArray, List.set_cons_zero, List.set_cons_succ]
            refine wpAnyH_take (i := 36) (v := ?v2x36) rfl (by kernel_rfl) (by kernel_rfl) (by kernel_rfl) (fun _ _ _ h => h) (Or.inl ⟨by rfl, ?y2x36⟩) (by assumption) ?r2x36
            case y2x36 => (intro w hSw; (try dsimp only at hSw); go_simp <;> with_reducible rfl)
            try simp only [Act.put, List.getElem_toArray, List.getElem_cons_zero, List.getElem_cons_succ, List.setIfInBounds_toArray, List.set_cons_zero, List.set_cons_succ]
            refine wpAnyH_done (by kernel_rfl) ?_ _
            refine NoPanic.normal ?_
            all_goals go_wp2
            all_goals exact ⟨⟨k + 1, by omega, by go_num, by first | exact T.bel | exact T.drew.bel⟩, by simp [intOf]; omega⟩
          · rw [e1] at hx; rw [e2] at hy
            generalize sh.getD k 0 = z at hz e3
            have he : ∀ w, (Op.equalIn 10000 49 (.agg #[.int .u64 s.a, .int .u64 s.b, .int .u64 s.c, .int .u64 s.d]) (.agg #[.int .u64 0, .int .u64 0, .int .u64 0, .int .u64 0])).run Try.prog w = .ok false w := fun w => by rw [eq49z, e4]
            clear e1 e2 e4
            have z1 : (z == 0) = false := by simp only [beq_eq_false_iff_ne]; omega
            have z2 : (0 : Int) ≤ z := by omega
            have z3 : ¬ z = 0 := by omega
            have z4 : decide (0 < z) = true := by simpa using e3
            have z5 : decide (0 ≤ z) = true := by simpa using z2
            have T : Tl W5 g2 g3 g4 g5 k false true z s wr := ⟨hrb, hx, hy, hz, hs0, hs1, hs2, hs3⟩
            clear hx hy hz hs0 hs1 hs2 hs3
            go_wp2
            go_region_held3 (fun W' => W'.cell? ⟨g2, k, none⟩ = some (.bool false) ∧ W'.cell? ⟨g3, k, none⟩ = some (.bool true) ∧ W'.cell? ⟨g4, k, none⟩ = some (.int .i64 z) ∧ W'.cell? ⟨g5, k * 4, none⟩ = some (.int .u64 s.a) ∧ W'.cell? ⟨g5, k * 4 + 1, none⟩ = some (.int .u64 s.b) ∧ W'.cell? ⟨g5, k * 4 + 2, none⟩ = some (.int .u64 s.c) ∧ W'.cell? ⟨g5, k * 4 + 3, none⟩ = some (.int .u64 s.d)) (first | exact T.facts | exact T.drew.facts) (fail)
            all_goals go_wp2
            all_goals exact ⟨⟨k + 1, by omega, by go_num, by first | exact T.bel | exact T.drew.bel⟩, by simp [intOf]; omega⟩
        · obtain rfl : k = N := by omega
          have hg0 := Nat.lt_of_lt_of_le hlt5 hrb.size
          rw [← hrb.cell (p := ⟨w.heap.size, 0, none⟩) hlt5] at c0
          have Bw := below_of B5 hrb
          go_wp2_with (go_at_call 12; refine (HA.out _).mono ?_)
          rintro e W6 ⟨rfl, hb6⟩
          rw [← hb6.cell (p := ⟨w.heap.size, 0, none⟩) hg0] at c0
          rw [HN.out] at c0
          go_wp2
          all_goals (go_ret; exact ⟨by simp, below_of Bw hb6⟩)
end Go.Proofs.Ytopbibhpekjaeaa
