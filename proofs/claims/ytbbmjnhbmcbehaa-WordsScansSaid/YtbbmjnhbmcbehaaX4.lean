/- Reading the items of a set's text: readItems, at every text and place. -/
import Derived.Test.YtbbmjnhbmcbehaaX3
import Derived.Test.YtbbmjnhbmcbehaaR2
namespace Go.Proofs.Ytbbmjnhbmcbehaa
open Go.RowKit

theorem ofL_one_ok (c : Nat) : (ofL [c]).ok := St.add_ok St.zero_ok c
theorem itm_ok (x : ByteArray) (i : Nat) : (itm x i).1.ok ∧ ((itm x i).2.2.2 = 0 → i < (itm x i).2.1 ∧ (itm x i).2.1 ≤ x.size ∧ (itm x i).2.2.1 = 0) := by
  have h1 := sgn_ok x i
  have h2 := sgn_ok x ((sgn x i).2.1 + 1)
  unfold itm
  split
  · rename_i h; exact ⟨St.zero_ok, fun h' => absurd h' h⟩
  · rename_i h
    simp only [ne_eq, Decidable.not_not] at h
    obtain ⟨h3, h4, h5⟩ := h1.2 h
    split
    · exact ⟨ofL_one_ok _, fun _ => ⟨h3, h4, rfl⟩⟩
    · split
      · rename_i h'; exact ⟨St.zero_ok, fun h'' => absurd h'' h'⟩
      · rename_i h'
        simp only [ne_eq, Decidable.not_not] at h'
        obtain ⟨h6, h7, h8⟩ := h2.2 h'
        split
        · exact ⟨St.zero_ok, fun h'' => by simp at h''⟩
        · exact ⟨rng_ok _ _, fun _ => ⟨by simp only; omega, h7, rfl⟩⟩
/-- The items from a place on, with what was read ahead of them: the bytes, the place of what ends them, and the fault's place and code. -/
def items (x : ByteArray) : Nat → Nat → St → St × Nat × Nat × Nat
  | 0, _, _ => (St.zero, 0, x.size, 14)
  | m + 1, i, s => if x.size ≤ i then (St.zero, 0, x.size, 14) else if bt x i = 93 then (s, i, 0, 0)
    else if (itm x i).2.2.2 ≠ 0 then (St.zero, 0, (itm x i).2.2.1, (itm x i).2.2.2) else items x m (itm x i).2.1 (s.or (itm x i).1)
set_option maxRecDepth 100000 in
set_option maxHeartbeats 4000000 in
theorem ritems_any (x : ByteArray) (i : Nat) (w : World) (hx : x.size ≤ 99999) (hi : i ≤ x.size) :
    Calls Try.prog 88 #[.string x, .int .i64 i] w fun e w' => e = .returned (itmV (items x (x.size + 1) i St.zero)) ∧ Below w.heap.size w w' := by
  have I0 := (Ini.start w).alloc (.cells #[.int .u64 0, .int .u64 0, .int .u64 0, .int .u64 0] 33)
  have S0 := SBox.new St.zero ((w.alloc (.cells #[.int .u64 0, .int .u64 0, .int .u64 0, .int .u64 0] 33)).alloc (.cells #[.int .i64 0, .int .i64 0] 26))
  simp only [World.size_alloc] at S0
  have hR : Hid (items x (x.size + 1) i St.zero = items x (x.size + 1) i St.zero) := rfl
  obtain ⟨R, hR2⟩ : ∃ R, items x (x.size + 1) i St.zero = R := ⟨_, rfl⟩
  rw [hR2]
  clear hR
  go_enter Try.func88, Try.ntmps88
  go_wp2
  go_loopw [1] (fun at' wr => ∃ (k m : Nat) (t : St), k ≤ x.size ∧ at' = .int .i64 (k : Nat) ∧ t.ok ∧ x.size < k + m ∧ items x m k t = R ∧ Ini w wr ∧ SBox t (w.heap.size + 1 + 1) wr) (fun at' _ => x.size - (intOf at').toNat)
  case atStart => exact ⟨i, x.size + 1, St.zero, hi, rfl, St.zero_ok, by omega, hR2, I0, S0⟩
  case round =>
    clear I0 S0 hR2
    obtain ⟨k, m, t, hk, rfl, hok, hm, hR, I, S⟩ := hrel
    obtain ⟨m, rfl⟩ : ∃ m', m = m' + 1 := ⟨m - 1, by omega⟩
    rw [items] at hR
    obtain ⟨a0, a1, a2, a3, b0, b1, f0, f1, y0, y1⟩ := I.facts
    obtain ⟨c0, c1, c2, c3⟩ := S.cells
    have fz := S.frozen
    have y2 := S.lt
    by_cases h1 : x.size ≤ k
    · rw [if_pos h1] at hR
      subst hR
      go_wp2
      exact bodyPost_ret (v := itmV (St.zero, 0, x.size, 14)) (by simp [results, Try.results88, go_sem, itmV, St.zero, a0, a1, a2, a3, b0, b1]) rfl ⟨rfl, below6 I.2.2 _ _ _ _ _ _⟩
    · rw [if_neg h1] at hR
      have h1' : k < x.size := by omega
      have b9 := bt_eq x k h1'
      by_cases h2 : bt x k = 93
      · rw [if_pos h2] at hR
        rw [h2] at b9
        subst hR
        go_wp2
        exact bodyPost_ret (v := itmV (t, k, 0, 0)) (by simp [results, Try.results88, go_sem, itmV, a0, a1, a2, a3, b0, b1]) rfl ⟨rfl, below6 I.2.2 _ _ _ _ _ _⟩
      · rw [if_neg h2] at hR
        have h2' : ((bt x k : Int) != 93) = true := by simp; omega
        have HI : Hid _ := fun w => ritem_any x k w hx (by omega)
        have hp := itm_ok x k
        generalize itm x k = p at *
        obtain ⟨q, n, fa, fc⟩ := p
        simp only [itmV] at HI hR hp
        by_cases h3 : fc = 0
        · obtain ⟨hn1, hn2, rfl⟩ := hp.2 h3
          subst h3
          have hq := hp.1
          clear hp
          rw [if_neg (by simp)] at hR
          have HO : Hid _ := fun w => or_any t q w hok hq
          have hro := St.or_ok hok hq
          generalize t.or q = r at *
          clear a0 a1 a2 a3 b0 b1 f0 f1 c0 c1 c2 c3 fz
          go_wp2_with (go_at_call 97; refine (HI.out _).mono ?_)
          rintro e w1 ⟨rfl, hb1⟩
          have I1 := ((I.nx hb1).alloc (.cells #[.int .u64 q.a, .int .u64 q.b, .int .u64 q.c, .int .u64 q.d] 33)).alloc (.cells #[.int .i64 0, .int .i64 0] 26)
          have S1 := S.below hb1
          have S2 := ((S.below hb1).alloc (.cells #[.int .u64 q.a, .int .u64 q.b, .int .u64 q.c, .int .u64 q.d] 33)).alloc (.cells #[.int .i64 0, .int .i64 0] 26)
          obtain ⟨c0, c1, c2, c3⟩ := S2.cells
          have y3 := S1.lt
          clear HI hb1
          go_wp2_with (go_at_call 98; refine (HO.out _).mono ?_)
          rintro e w2 ⟨rfl, hb2⟩
          have I3 := I1.nx hb2
          have S3 := S2.below hb2
          clear c0 c1 c2 c3
          obtain ⟨c0, c1, c2, c3⟩ := S3.cells
          have fz := S3.frozen
          go_wp2
          refine ⟨⟨n, m, r, hn2, rfl, hro, by omega, hR, ?_, S3.store r⟩, by simp [intOf]; omega⟩
          exact (((I3.set (B := w.heap.size + 1 + 1) (i := 0) _ (by omega)).set (B := w.heap.size + 1 + 1) (i := 1) _ (by omega)).set (B := w.heap.size + 1 + 1) (i := 2) _ (by omega)).set (B := w.heap.size + 1 + 1) (i := 3) _ (by omega)
        · rw [if_pos h3] at hR
          have h3' : ((fc : Int) != 0) = true := by simp; omega
          subst hR
          clear a0 a1 a2 a3 b0 b1 f0 f1 c0 c1 c2 c3 fz y0 y1
          go_wp2_with (go_at_call 97; refine (HI.out _).mono ?_)
          rintro e w1 ⟨rfl, hb1⟩
          have I1 := I.nx hb1
          obtain ⟨a0, a1, a2, a3, b0, b1, f0, f1, y0, y1⟩ := I1.facts
          clear HI hb1
          go_wp2
          go_region
          all_goals go_wp2
          refine bodyPost_ret (v := itmV (St.zero, 0, fa, fc)) (by simp [results, Try.results88, go_sem, itmV, St.zero, y0, y1, a0, a1, a2, a3, b0, b1]) rfl ⟨rfl, ?_⟩
          have hb := below6 I1.2.2 (.int .u64 0) (.int .u64 0) (.int .u64 0) (.int .u64 0) (.int .i64 fa) (.int .i64 fc)
          exact ((hb.alloc hb.size _).alloc (by have := hb.size; simp at this ⊢; omega) _).drew
end Go.Proofs.Ytbbmjnhbmcbehaa
