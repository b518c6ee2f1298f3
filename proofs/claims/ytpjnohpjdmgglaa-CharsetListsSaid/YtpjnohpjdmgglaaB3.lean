/- The law CharsetLists: at every set the call returns true, and turns nothing that was there. -/
import Derived.Test.YtpjnohpjdmgglaaW10
import Derived.Test.YtpjnohpjdmgglaaB2
import Derived.Test.YtpjnohpjdmgglaaP3
namespace Go.Proofs.Ytpjnohpjdmgglaa
open Go.RowKit

theorem rows_apart {W : World} {B B' : Nat} {e e' : TypeId} {k k' : Nat} {v v' : Value} {n n' : Nat} {xs xs' : List Value} (h : W.ownsRow B e k v n xs) (h' : W.ownsRow B' e' k' v' n' xs') (hne : e ≠ e') : v.ownBlock = none ∨ v.ownBlock ≠ v'.ownBlock := by
  rcases h.2 with ⟨rfl, _⟩ | ⟨g, cap, cur, rfl, _, hg, _⟩
  · exact .inl rfl
  · right
    rcases h'.2 with ⟨rfl, _⟩ | ⟨g', cap', cur', rfl, _, hg', _⟩
    · simp [Value.ownBlock]
    · intro he
      simp [Value.ownBlock] at he
      subst he
      rw [hg] at hg'
      simp at hg'
      exact hne hg'.2
theorem row_mono {W : World} {B B' : Nat} {e : TypeId} {k : Nat} {v : Value} {n : Nat} {xs : List Value} (h : W.ownsRow B e k v n xs) (hb : B' ≤ B) : W.ownsRow B' e k v n xs := by
  refine ⟨h.1, ?_⟩
  rcases h.2 with h0 | ⟨g, cap, cur, hv, hbg, rest⟩
  · exact .inl h0
  · exact .inr ⟨g, cap, cur, hv, Nat.le_trans hb hbg, rest⟩
theorem row_at {W : World} {B : Nat} {e : TypeId} {sz : Nat} {a : Option Addr} {n c : Nat} {xs : List Value} (h : W.ownsRow B e sz (.slice a n c) n xs) (hn : 0 < n) : ∃ g, a = some ⟨g, 0, none⟩ ∧ B ≤ g := by
  rcases h.2 with ⟨_, h0⟩ | ⟨g, cap, cur, hv, hb, _⟩
  · omega
  · cases hv; exact ⟨g, rfl, hb⟩
theorem row_val {W : World} {B : Nat} {e : TypeId} {sz : Nat} {g n c : Nat} {xs : List Value} (h : W.ownsRow B e sz (.slice (some ⟨g, 0, none⟩) n c) n xs) (j : Nat) (hj : j < n * sz) : ∃ x, W.cell? ⟨g, j, none⟩ = some x := by
  have := h.cellAt j hj
  exact ⟨xs[j]'(by rw [h.1]; exact hj), by rw [this]; simp⟩

theorem sameR_bel {w : World} {B1 B2 : Nat} {v1 v2 : Value} {rs : List (Nat × Nat)} (hlen : rs.length ≤ 256) (h1 : w.ownsRow B1 46 2 v1 rs.length (rcells rs)) (h2 : w.ownsRow B2 46 2 v2 rs.length (rcells rs)) :
    Calls Try.prog 27 #[v1, v2] w fun e w' => e = .returned (.bool true) ∧ Below w.heap.size w w' :=
  (sameR_any hlen h1 h2).mono fun e w' ⟨he, n, hn⟩ => ⟨he, by rw [hn]; exact below_drewN (Below.refl _ _) n⟩
/-- What stays while the two lists are overwritten. -/
def LI (w : World) (s : St) (a3 : Option Addr) (n c3 : Nat) (a4 : Option Addr) (m c4 : Nat) (W : World) : Prop :=
  One w s W ∧ (∃ xs, W.ownsRow w.heap.size 5 1 (.slice a3 n c3) n xs) ∧ (∃ ys, W.ownsRow w.heap.size 46 2 (.slice a4 m c4) m ys)
theorem LI.below {w W W' : World} {s : St} {a3 : Option Addr} {n c3 : Nat} {a4 : Option Addr} {m c4 : Nat} (h : LI w s a3 n c3 a4 m c4 W) (hb : Below W.heap.size W W') : LI w s a3 n c3 a4 m c4 W' := by
  obtain ⟨h1, ⟨xs, h2⟩, ⟨ys, h3⟩⟩ := h
  exact ⟨h1.nx hb, ⟨xs, row_below h2 hb⟩, ⟨ys, row_below h3 hb⟩⟩
theorem LI.set3 {w W : World} {s : St} {g : Nat} {n c3 : Nat} {a4 : Option Addr} {m c4 : Nat} (h : LI w s (some ⟨g, 0, none⟩) n c3 a4 m c4 W) (j : Nat) (u : Value) (hg : w.heap.size ≤ g) : LI w s (some ⟨g, 0, none⟩) n c3 a4 m c4 (W.setCell ⟨g, j, none⟩ u) := by
  obtain ⟨⟨hb, hB⟩, ⟨xs, h2⟩, ⟨ys, h3⟩⟩ := h
  have hst := h2.stored j u
  exact ⟨⟨hb.kept hst.2 (hb.not_row (by decide) h2), hB.trans ((Below.refl _ _).setCell hg u)⟩, ⟨_, hst.1⟩, ⟨_, h3.kept hst.2 (rows_apart h3 h2 (by decide))⟩⟩
theorem LI.set4 {w W : World} {s : St} {g : Nat} {n c3 : Nat} {a3 : Option Addr} {m c4 : Nat} (h : LI w s a3 n c3 (some ⟨g, 0, none⟩) m c4 W) (j : Nat) (u : Value) (hg : w.heap.size ≤ g) : LI w s a3 n c3 (some ⟨g, 0, none⟩) m c4 (W.setCell ⟨g, j, none⟩ u) := by
  obtain ⟨⟨hb, hB⟩, ⟨xs, h2⟩, ⟨ys, h3⟩⟩ := h
  have hst := h3.stored j u
  exact ⟨⟨hb.kept hst.2 (hb.not_row (by decide) h3), hB.trans ((Below.refl _ _).setCell hg u)⟩, ⟨_, h2.kept hst.2 (rows_apart h2 h3 (by decide))⟩, ⟨_, hst.1⟩⟩

set_option maxRecDepth 100000 in
set_option maxHeartbeats 8000000 in
theorem lists_walk (s : St) (w : World) (hs : s.ok) :
    Calls Try.prog 5 #[.agg #[.int .u64 s.a, .int .u64 s.b, .int .u64 s.c, .int .u64 s.d]] w fun e w' => e = .returned (.bool true) ∧ Below w.heap.size w w' := by
  have hcnt := runs_count s
  have hl := upTo_len s 256
  have HL : Hid _ := fun w => alive_any w
  have H24 : Hid _ := fun w => bytes_any s hs w
  have H23 : Hid _ := fun w => rbytes_any s hs w
  have H25 : Hid _ := fun w => runs_any s hs w
  have H28 : Hid _ := fun w => rruns_any s hs w
  rw [runs_eq] at H28
  generalize runsOf (upTo s 256) = rs at *
  generalize upTo s 256 = l at *
  have T := One.start w s
  go_enter Try.func5, Try.ntmps5
  go_wp2
  obtain ⟨W0, hW0⟩ : ∃ W0, (w.alloc (.cells #[.int .u64 s.a, .int .u64 s.b, .int .u64 s.c, .int .u64 s.d] 26)) = W0 := ⟨_, rfl⟩
  rw [hW0] at T ⊢
  clear hW0
  have TC := T.cells
  go_region_held3 (fun W' => W'.cell? ⟨w.heap.size, 0, none⟩ = some (.int .u64 s.a) ∧ W'.cell? ⟨w.heap.size, 1, none⟩ = some (.int .u64 s.b) ∧ W'.cell? ⟨w.heap.size, 2, none⟩ = some (.int .u64 s.c) ∧ W'.cell? ⟨w.heap.size, 3, none⟩ = some (.int .u64 s.d)) (exact T.cells) (first | (go_at_call 24; refine (H24.out _).mono ?_; rintro e w1 ⟨v3, rfl, hr3, hb1⟩; have hS3 := T.2.size; replace T : One w s w1 := (by first | exact One.nx hb1 T | exact One.nx hb1 T.drew); clear hb1) | (go_at_call 25; refine (H25.out _).mono ?_; rintro e w1 ⟨v4, rfl, hr4, _, hb1⟩; have hS4 := T.2.size; replace hr3 := row_below (by first | exact hr3 | exact hr3.drew) hb1; replace T : One w s w1 := (by first | exact One.nx hb1 T | exact One.nx hb1 T.drew); clear hb1))
  replace hr3 := row_mono (B' := w.heap.size) hr3 (by simpa using hS3)
  replace hr4 := row_mono (B' := w.heap.size) hr4 hS4
  obtain ⟨a3, c3, rfl⟩ := row_slice hr3
  obtain ⟨a4, c4, rfl⟩ := row_slice hr4
  obtain ⟨e0, e1, e2, e3⟩ := T.cells
  clear TC hS3 hS4
  go_wp2_with (go_at_call 23; refine (H23.out _).mono ?_)
  rintro e w2 ⟨v5, rfl, hr5, hb2⟩
  replace hr3 := row_below hr3 hb2
  replace hr4 := row_below hr4 hb2
  replace T := T.nx hb2
  clear hb2 e0 e1 e2 e3
  obtain ⟨e0, e1, e2, e3⟩ := T.cells
  have S26 : Hid _ := fun (_ : Unit) => sameB_any hr3 hr5
  go_wp2_with (go_at_call 26; refine (S26.out ()).mono ?_; rintro e w3 ⟨rfl, rfl⟩)
  go_wp2_with (go_at_call 28; refine (H28.out _).mono ?_)
  rintro e w3 ⟨v6, rfl, hr6, hb3⟩
  clear S26 hr5
  replace hr3 := row_below hr3 hb3
  replace hr4 := row_below hr4 hb3
  replace T := T.nx hb3
  clear hb3 e0 e1 e2 e3
  have S27 : Hid _ := fun (_ : Unit) => sameR_any hcnt hr4 hr6
  go_wp2_with (go_at_call 27; refine (S27.out ()).mono ?_; rintro e w4 ⟨rfl, nq, rfl⟩)
  clear S27 hr6
  have I : LI w s a3 l.length c3 a4 rs.length c4 (w3.drewN nq) := ⟨⟨by simpa [SBox] using T.1, below_drewN T.2 _⟩, ⟨_, row_below hr3 (below_drewN (Below.refl _ _) _)⟩, ⟨_, row_below hr4 (below_drewN (Below.refl _ _) _)⟩⟩
  generalize w3.drewN nq = w4 at *
  clear T hr3 hr4
  go_loopw [5] (fun i wr => ∃ k : Nat, k ≤ l.length ∧ i = .int .i64 k ∧ LI w s a3 l.length c3 a4 rs.length c4 wr) (fun i _ => l.length - (intOf i).toNat)
  case atStart => exact ⟨0, by omega, rfl, I⟩
  case round =>
    obtain ⟨k, hk, rfl, I1⟩ := hrel
    clear I
    by_cases hlt : k < l.length
    · obtain ⟨xs, hx⟩ := I1.2.1
      obtain ⟨g, rfl, hg⟩ := row_at hx (by omega)
      obtain ⟨x, hc⟩ := row_val hx k (by omega)
      have hf := hx.frozenAt k
      have I2 := I1.set3 k (.int .u8 7) hg
      go_wp2
      exact ⟨⟨k + 1, by omega, by go_num, I2⟩, by simp [intOf]; omega⟩
    · obtain rfl : k = l.length := by omega
      go_wp2
      go_loopw [6] (fun i wi => ∃ k : Nat, k ≤ rs.length ∧ i = .int .i64 k ∧ LI w s a3 l.length c3 a4 rs.length c4 wi) (fun i _ => rs.length - (intOf i).toNat)
      case atStart => exact ⟨0, by omega, rfl, I1⟩
      case round =>
        obtain ⟨k, hk, rfl, I2⟩ := hrel
        clear I1
        by_cases hlt : k < rs.length
        · obtain ⟨xs, hx⟩ := I2.2.2
          obtain ⟨g, rfl, hg⟩ := row_at hx (by omega)
          obtain ⟨x, hc⟩ := row_val hx (k * 2) (by omega)
          have hf := hx.frozenAt (k * 2)
          have I3 := I2.set4 (k * 2) (.int .i64 (-1)) hg
          go_wp2
          exact ⟨⟨k + 1, by omega, by go_num, I3⟩, by simp [intOf]; omega⟩
        · obtain rfl : k = rs.length := by omega
          have T := I2.1
          clear I2
          go_wp2
          have TC := T.cells
          go_region_held3 (fun W' => W'.cell? ⟨w.heap.size, 0, none⟩ = some (.int .u64 s.a) ∧ W'.cell? ⟨w.heap.size, 1, none⟩ = some (.int .u64 s.b) ∧ W'.cell? ⟨w.heap.size, 2, none⟩ = some (.int .u64 s.c) ∧ W'.cell? ⟨w.heap.size, 3, none⟩ = some (.int .u64 s.d)) (exact T.cells) (first | (go_at_call 9; refine (HL.out _).mono ?_; rintro e w1 ⟨rfl, hb1⟩; replace T : One w s w1 := (by first | exact One.nx hb1 T | exact One.nx hb1 T.drew); clear hb1) | (go_at_call 24; refine (H24.out _).mono ?_; rintro e w1 ⟨v5, rfl, hr5, hb1⟩; replace T : One w s w1 := (by first | exact One.nx hb1 T | exact One.nx hb1 T.drew); clear hb1) | (go_at_call 23; refine (H23.out _).mono ?_; rintro e w1 ⟨v6, rfl, hr6, hb1⟩; replace hr5 := row_below (by first | exact hr5 | exact hr5.drew) hb1; replace T : One w s w1 := (by first | exact One.nx hb1 T | exact One.nx hb1 T.drew); clear hb1) | (go_at_call 26; refine (sameB_any (by first | exact hr5 | exact hr5.drew) (by first | exact hr6 | exact hr6.drew)).mono ?_; rintro e w1 ⟨rfl, rfl⟩) | (go_at_call 25; refine (H25.out _).mono ?_; rintro e w1 ⟨v7, rfl, hr7, _, hb1⟩; replace T : One w s w1 := (by first | exact One.nx hb1 T | exact One.nx hb1 T.drew); clear hb1) | (go_at_call 28; refine (H28.out _).mono ?_; rintro e w1 ⟨v8, rfl, hr8, hb1⟩; replace hr7 := row_below (by first | exact hr7 | exact hr7.drew) hb1; replace T : One w s w1 := (by first | exact One.nx hb1 T | exact One.nx hb1 T.drew); clear hb1) | (go_at_call 27; refine (sameR_bel hcnt (by first | exact hr7 | exact hr7.drew) (by first | exact hr8 | exact hr8.drew)).mono ?_; rintro e w1 ⟨rfl, hb1⟩; replace T : One w s w1 := (by first | exact One.nx hb1 T | exact One.nx hb1 T.drew); clear hb1))
          go_wp2
          go_ret
          exact ⟨rfl, T.2⟩
end Go.Proofs.Ytpjnohpjdmgglaa
