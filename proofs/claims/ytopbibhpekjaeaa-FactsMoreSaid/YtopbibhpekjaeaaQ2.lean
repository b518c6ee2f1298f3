/- One more than the greatest length of what is productive. -/
import Derived.Test.YtopbibhpekjaeaaQ1
namespace Go.Proofs.Ytopbibhpekjaeaa
open Go.RowKit

def intsZ (l : List Int) : List Value := l.map (Value.int .i64)
theorem intsZ_set (l : List Int) (m : Nat) (x : Int) : intsZ (l.set m x) = (intsZ l).set m (.int .i64 x) := by simp [intsZ, List.map_set]
theorem z_cell {W : World} {base g N c m : Nat} {st : List Int} (h : W.ownsRow base 3 1 (.slice (some ⟨g, 0, none⟩) N c) N (intsZ st)) (hm : m < N) : W.cell? ⟨g, m, none⟩ = some (.int .i64 (st.getD m 0)) := by
  have hl : st.length = N := by have := h.1; simpa [intsZ] using this
  rw [h.cellAt m (by omega)]
  simp [intsZ, List.getD_eq_getElem?_getD, hl, hm]
theorem getD_set_int (l : List Int) (m n : Nat) (x : Int) (hm : m < l.length) : (l.set m x).getD n 0 = if n = m then x else l.getD n 0 := by
  rw [List.getD_eq_getElem?_getD, List.getD_eq_getElem?_getD, List.getElem?_set]
  by_cases h : n = m
  · subst h; simp [hm]
  · rw [if_neg (fun e => h e.symm), if_neg h]
set_option maxRecDepth 100000 in
set_option maxHeartbeats 8000000 in
theorem longer_any (N : Nat) (S : Int) (rs : List Rl) (a : Option Addr) (c : Nat) (w : World) (hok : Ok N rs) (hR : RAt w w.heap.size a rs) :
    Calls Try.prog 69 #[.agg #[.int .i64 (N : Int), .int .i64 S, .slice a rs.length c]] w fun e w' => ∃ (sh : List Int) (so : List Bool), e = .returned (.slice (some ⟨w.heap.size + 1, 0, none⟩) N N) ∧ w'.ownsRow (w.heap.size + 1) 3 1 (.slice (some ⟨w.heap.size + 1, 0, none⟩) N N) N (intsZ sh) ∧ sh.length = N ∧ (∀ x, x < N → sh.getD x 0 = if so.getD x false then 513 else -1) ∧ (∀ m, so.getD m false = true ↔ Lf rs pP m) ∧ Below w.heap.size w w' := by
  have hn1 := hok.n1
  have hn2 := hok.n2
  have hmk := run_make_row' (P := Try.prog) 41 3 (.int .i64 0) 8 Try.underlying41 info3 rfl .i64 .i64 N (by omega) (by omega)
  obtain ⟨W0, hW0⟩ : ∃ W0, w.alloc (.cells #[.int .i64 (N : Int), .int .i64 S, .slice a rs.length c] 24) = W0 := ⟨_, rfl⟩
  have hs0 : W0.heap.size = w.heap.size + 1 := by rw [← hW0]; simp
  have hB0 : Below w.heap.size w W0 := by rw [← hW0]; exact (Below.refl _ _).alloc (Nat.le_refl _) _
  have c0 : W0.cell? ⟨w.heap.size, 0, none⟩ = some (.int .i64 (N : Int)) := by rw [← hW0]; exact cell_new 0 rfl
  have c1 : W0.cell? ⟨w.heap.size, 1, none⟩ = some (.int .i64 S) := by rw [← hW0]; exact cell_new 1 rfl
  have c2 : W0.cell? ⟨w.heap.size, 2, none⟩ = some (.slice a rs.length c) := by rw [← hW0]; exact cell_new 2 rfl
  obtain ⟨W2, hW2⟩ : ∃ W2, W0.alloc (.cells (madeCells #[.int .i64 0] N) 3) = W2 := ⟨_, rfl⟩
  have hs2 : w.heap.size + 2 ≤ W2.heap.size := by rw [← hW2]; simp; omega
  have hB2 : Below W0.heap.size W0 W2 := by rw [← hW2]; exact (Below.refl _ _).alloc (Nat.le_refl _) _
  have hrow0 : W2.ownsRow (w.heap.size + 1) 3 1 (.slice (some ⟨w.heap.size + 1, 0, none⟩) N N) N (intsZ (List.replicate N 0)) := by
    have := World.ownsRow_lit (e := 3) (size := 1) (base := w.heap.size + 1) W0 (madeCells #[.int .i64 0] N) N (by omega) (by unfold maxLen; omega) (by rw [size_madeCells]; omega)
    rw [toList_madeCells_one, hW2, hs0] at this
    simpa [intsZ] using this
  have d0 := (hB2.cell (p := ⟨w.heap.size, 0, none⟩) (by simp; omega)).trans c0
  have d1 := (hB2.cell (p := ⟨w.heap.size, 1, none⟩) (by simp; omega)).trans c1
  have d2 := (hB2.cell (p := ⟨w.heap.size, 2, none⟩) (by simp; omega)).trans c2
  have hBw2 : Below w.heap.size w W2 := hB0.trans (hB2.mono (by omega))
  have H45 : Hid _ := fun (_ : Unit) => productive_any N S rs a c W2 hok ((hR.keep hBw2).mono (by omega))
  go_enter Try.func69, Try.ntmps69
  go_wp2_with (go_at_call 45; refine (H45.out ()).mono ?_)
  rintro e W3 ⟨⟨v, rfl, so, hso, hl, hL⟩, hb3⟩
  obtain ⟨g, cp, rfl, hg1, hg2⟩ := row_at hso (by omega)
  have hrow3 := row_below hrow0 hb3
  have hBw3 := hBw2.trans (hb3.mono (by omega))
  clear hrow0 hb3 hBw2 H45 d0 d1 d2 hB2 hW2 hW0 hB0 c0 c1 c2
  go_wp2
  clear hmk
  go_loopw [12] (fun iv W => ∃ (i : Nat) (sh : List Int), i ≤ N ∧ iv = .int .i64 i ∧ W.ownsRow (w.heap.size + 1) 3 1 (.slice (some ⟨w.heap.size + 1, 0, none⟩) N N) N (intsZ sh) ∧ sh.length = N ∧ (∀ x, x < i → sh.getD x 0 = if so.getD x false then 513 else -1) ∧ Below w.heap.size w W ∧ W.ownsRow W2.heap.size 4 1 (.slice (some ⟨g, 0, none⟩) N cp) N (boolsV so)) (fun iv _ => N - (intOf iv).toNat)
  case atStart => exact ⟨0, _, by omega, rfl, hrow3, by simp, fun x hx => by omega, hBw3, hso⟩
  case round =>
    clear hrow3 hBw3 hso
    obtain ⟨i, sh, hi, rfl, hrow, hsl, hsh, hB, hso⟩ := hrel
    by_cases hlt : i < N
    · have hcs := getD_cell hso i hlt
      have hci := z_cell hrow hlt
      have hfz := hrow.frozenAt i
      have hiI : (i : Int) < N := by omega
      have hst1 := hrow.stored i (.int .i64 (-1))
      obtain ⟨X1, hX1⟩ : ∃ X1, wr.setCell ⟨w.heap.size + 1, i, none⟩ (.int .i64 (-1)) = X1 := ⟨_, rfl⟩
      rw [hX1] at hst1
      have hr1 : X1.ownsRow (w.heap.size + 1) 3 1 (.slice (some ⟨w.heap.size + 1, 0, none⟩) N N) N (intsZ (sh.set i (-1))) := by rw [intsZ_set]; exact hst1.1
      have hso1 := hso.kept hst1.2 (by have := row_ne hso hrow (by decide); simpa [Value.ownBlock] using this)
      have hB1 : Below w.heap.size w X1 := by rw [← hX1]; exact hB.setCell (p := ⟨w.heap.size + 1, i, none⟩) (by show w.heap.size ≤ w.heap.size + 1; omega) _
      have hci1 := z_cell hr1 hlt
      have hfz1 := hr1.frozenAt i
      cases hq : so.getD i false with
      | false =>
        rw [hq] at hcs
        have HSH : Hid (∀ x, x < i + 1 → (sh.set i (-1)).getD x 0 = if so.getD x false then 513 else -1) := fun x hx => by
          rw [getD_set_int _ _ _ _ (by omega)]
          by_cases e : x = i
          · subst e; rw [if_pos rfl, hq]; rfl
          · rw [if_neg e]; exact hsh x (by omega)
        clear hsh hq
        go_wp2
        exact ⟨⟨i + 1, sh.set i (-1), by omega, by go_num, hr1, by rw [List.length_set]; exact hsl, HSH.out, hB1, hso1⟩, by simp [intOf]; omega⟩
      | true =>
        rw [hq] at hcs
        have HSH : Hid (∀ x, x < i + 1 → ((sh.set i (-1)).set i 513).getD x 0 = if so.getD x false then 513 else -1) := fun x hx => by
          rw [getD_set_int _ _ _ _ (by rw [List.length_set]; omega)]
          by_cases e : x = i
          · subst e; rw [if_pos rfl, hq]; rfl
          · rw [if_neg e, getD_set_int _ _ _ _ (by omega), if_neg e]; exact hsh x (by omega)
        have hst2 := hr1.stored i (.int .i64 513)
        have hr2 : (X1.setCell ⟨w.heap.size + 1, i, none⟩ (.int .i64 513)).ownsRow (w.heap.size + 1) 3 1 (.slice (some ⟨w.heap.size + 1, 0, none⟩) N N) N (intsZ ((sh.set i (-1)).set i 513)) := by rw [intsZ_set]; exact hst2.1
        have hso2 := hso1.kept hst2.2 (by have := row_ne hso1 hr1 (by decide); simpa [Value.ownBlock] using this)
        have hB2 : Below w.heap.size w (X1.setCell ⟨w.heap.size + 1, i, none⟩ (.int .i64 513)) := hB1.setCell (p := ⟨w.heap.size + 1, i, none⟩) (by show w.heap.size ≤ w.heap.size + 1; omega) _
        clear hsh hq
        go_wp2
        exact ⟨⟨i + 1, (sh.set i (-1)).set i 513, by omega, by go_num, hr2, by rw [List.length_set, List.length_set]; exact hsl, HSH.out, hB2, hso2⟩, by simp [intOf]; omega⟩
    · obtain rfl : N = i := by omega
      go_wp2
      go_ret
      exact ⟨sh, so, rfl, hrow, hsl, hsh, hL, hB⟩
end Go.Proofs.Ytopbibhpekjaeaa
