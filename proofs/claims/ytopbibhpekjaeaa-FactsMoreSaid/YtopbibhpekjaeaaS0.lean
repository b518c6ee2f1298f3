/- The first bytes that rules' sets give, and who takes whose. -/
import Derived.Test.YtopbibhpekjaeaaF4
import Derived.Test.YtopbibhpekjaeaaC1
import Derived.Deep.CutRange
namespace Go.Proofs.Ytopbibhpekjaeaa
open Go.RowKit

theorem takP_stop (so : List Bool) : ∀ (l : List Ks) (j : Nat) (s : Ks), l[j]? = some s → (∀ x ∈ l.take j, 0 ≤ x.nt ∧ symSo pN so x = true) → s.nt < 0 → takP so l = l.take j ∧ ownS so l = s.set
  | [], j, s, h, _, _ => by simp at h
  | a :: l, 0, s, h, _, hs => by
    simp at h; subst h
    unfold takP ownS; rw [if_pos hs, if_pos hs]; simp
  | a :: l, j + 1, s, h, hp, hs => by
    have ha := hp a (by simp)
    have ih := takP_stop so l j s (by simpa using h) (fun x hx => hp x (by simp [hx])) hs
    have hn : ¬ a.nt < 0 := by omega
    unfold takP ownS
    simp [hn, ha.2, ih.1, ih.2]
theorem takP_end (so : List Bool) : ∀ (l : List Ks) (j : Nat) (s : Ks), l[j]? = some s → (∀ x ∈ l.take j, 0 ≤ x.nt ∧ symSo pN so x = true) → 0 ≤ s.nt → symSo pN so s = false → takP so l = l.take (j + 1) ∧ ownS so l = St.zero
  | [], j, s, h, _, _, _ => by simp at h
  | a :: l, 0, s, h, _, hs, hq => by
    simp at h; subst h
    have hn : ¬ a.nt < 0 := by omega
    unfold takP ownS
    simp [hn, hq]
  | a :: l, j + 1, s, h, hp, hs, hq => by
    have ha := hp a (by simp)
    have ih := takP_end so l j s (by simpa using h) (fun x hx => hp x (by simp [hx])) hs hq
    have hn : ¬ a.nt < 0 := by omega
    unfold takP ownS
    simp [hn, ha.2, ih.1, ih.2]
theorem takP_all (so : List Bool) : ∀ (l : List Ks), (∀ x ∈ l, 0 ≤ x.nt ∧ symSo pN so x = true) → takP so l = l ∧ ownS so l = St.zero
  | [], _ => ⟨rfl, rfl⟩
  | a :: l, hp => by
    have ha := hp a (by simp)
    have ih := takP_all so l (fun x hx => hp x (by simp [hx]))
    have hn : ¬ a.nt < 0 := by omega
    unfold takP ownS
    simp [hn, ha.2, ih.1, ih.2]
/-- Memory while the rules are gone through: the sets at H, the takers at H + 1. -/
structure OM (W2 : World) (N : Nat) (sets : List St) (f : Nat → List Nat) (vs : List Value) (W : World) : Prop where
  bel : Below W2.heap.size W2 W
  siz : W2.heap.size + 2 ≤ W.heap.size
  sets : W.ownsRow W2.heap.size 49 4 (.slice (some ⟨W2.heap.size, 0, none⟩) N N) N (setsV sets)
  tab : Tab W (W2.heap.size + 1) (.slice (some ⟨W2.heap.size + 1, 0, none⟩) N N) N f vs
section
variable {W2 W W' : World} {N : Nat} {sets : List St} {f : Nat → List Nat} {vs : List Value}
theorem OM.below (h : OM W2 N sets f vs W) (hb : Below W.heap.size W W') : OM W2 N sets f vs W' :=
  ⟨h.bel.trans (hb.mono (by have := h.siz; omega)), Nat.le_trans h.siz hb.size, row_below h.sets hb, h.tab.below hb⟩
def put4 (W : World) (g o : Nat) (s : St) : World := (((W.setCell ⟨g, o, none⟩ (.int .u64 (s.a : Int))).setCell ⟨g, o + 1, none⟩ (.int .u64 (s.b : Int))).setCell ⟨g, o + 2, none⟩ (.int .u64 (s.c : Int))).setCell ⟨g, o + 3, none⟩ (.int .u64 (s.d : Int))
theorem put4_row {base g N c m : Nat} (h : W.ownsRow base 49 4 (.slice (some ⟨g, 0, none⟩) N c) N (setsV sets)) (hm : m < sets.length) (s : St) : (put4 W g (m * 4) s).ownsRow base 49 4 (.slice (some ⟨g, 0, none⟩) N c) N (setsV (sets.set m s)) := by
  rw [setsV_set sets m s hm]
  exact ((((h.stored _ _).1.stored _ _).1.stored _ _).1.stored _ _).1
theorem put4_block {g o b : Nat} (W : World) (s : St) (hb : b ≠ g) : (put4 W g o s).heap[b]? = W.heap[b]? := by
  unfold put4
  rw [Below.heap_setCell _ _ _ _ hb, Below.heap_setCell _ _ _ _ hb, Below.heap_setCell _ _ _ _ hb, Below.heap_setCell _ _ _ _ hb]
theorem put4_size (W : World) (g o : Nat) (s : St) : (put4 W g o s).heap.size = W.heap.size := by simp [put4, World.setCell]
theorem OM.put (h : OM W2 N sets f vs W) {m : Nat} (hm : m < sets.length) (s : St) : OM W2 N (sets.set m s) f vs (put4 W W2.heap.size (m * 4) s) := by
  refine ⟨?_, by rw [put4_size]; exact h.siz, put4_row h.sets hm s, ?_⟩
  · exact (((h.bel.setCell (p := ⟨W2.heap.size, _, none⟩) (Nat.le_refl _) _).setCell (p := ⟨W2.heap.size, _, none⟩) (Nat.le_refl _) _).setCell (p := ⟨W2.heap.size, _, none⟩) (Nat.le_refl _) _).setCell (p := ⟨W2.heap.size, _, none⟩) (Nat.le_refl _) _
  · exact h.tab.fr fun b hb _ => put4_block W s (by omega)
end
theorem set_cells {W : World} {base g N c m : Nat} {sets : List St} (h : W.ownsRow base 49 4 (.slice (some ⟨g, 0, none⟩) N c) N (setsV sets)) (hl : sets.length = N) (hm : m < N) : W.cell? ⟨g, m * 4, none⟩ = some (.int .u64 ((sets.getD m St.zero).a : Int)) ∧ W.cell? ⟨g, m * 4 + 1, none⟩ = some (.int .u64 ((sets.getD m St.zero).b : Int)) ∧ W.cell? ⟨g, m * 4 + 2, none⟩ = some (.int .u64 ((sets.getD m St.zero).c : Int)) ∧ W.cell? ⟨g, m * 4 + 3, none⟩ = some (.int .u64 ((sets.getD m St.zero).d : Int)) := by
  have e : sets[m]? = some (sets.getD m St.zero) := by rw [List.getD_eq_getElem?_getD, List.getElem?_eq_getElem (by omega)]; rfl
  have k : ∀ j, j < 4 → W.cell? ⟨g, m * 4 + j, none⟩ = (stL (sets.getD m St.zero))[j]? := fun j hj => by
    rw [h.cellAt (m * 4 + j) (by omega), setsV_get sets m j _ e hj]
  exact ⟨k 0 (by omega), k 1 (by omega), k 2 (by omega), k 3 (by omega)⟩
theorem info49 : (Try.prog.info? 49).map (fun i => (i.zero, i.size, i.bytes)) = some (some (.agg #[.int .u64 0, .int .u64 0, .int .u64 0, .int .u64 0]), 4, 32) := by kernel_rfl
theorem made4 (n : Nat) : (madeCells #[.int .u64 0, .int .u64 0, .int .u64 0, .int .u64 0] (n * 4)).toList = setsV (List.replicate n St.zero) := by
  have e : ∀ k, (setsV (List.replicate k St.zero)) = List.replicate (k * 4) (.int .u64 0) := by
    intro k
    induction k with
    | zero => rfl
    | succ k ih =>
      have : setsV (List.replicate (k + 1) St.zero) = stL St.zero ++ setsV (List.replicate k St.zero) := rfl
      rw [this, ih, show (k + 1) * 4 = 4 + k * 4 by omega, ← List.replicate_append_replicate]
      rfl
  rw [e]
  apply List.ext_getElem?
  intro i
  rw [List.getElem?_replicate]
  unfold madeCells
  by_cases h : i < n * 4
  · rw [if_pos h]
    have h4 : i % 4 < 4 := Nat.mod_lt _ (by omega)
    simp [h]
    match i % 4, h4 with
    | 0, _ => rfl
    | 1, _ => rfl
    | 2, _ => rfl
    | 3, _ => rfl
  · rw [if_neg h]; simp; omega
theorem make4 (N : Nat) (hN : N ≤ 4096) (w : World) : (Instr.makeSlice 37 (.int .i64 (N : Int)) (.int .i64 (N : Int))).run Try.prog w = .ok (.slice (some ⟨w.heap.size, 0, none⟩) N N) (w.alloc (.cells (madeCells #[.int .u64 0, .int .u64 0, .int .u64 0, .int .u64 0] (N * 4)) 49)) := by
  obtain ⟨i, hi, hz0, hz1, hz2⟩ := info_parts info49
  have hr := run_make (P := Try.prog) w 37 49 i _ Try.underlying37 hi hz0 .i64 .i64 N N (by omega) (Int.le_refl _) (by rw [hz2]; omega) (by omega)
  rw [hz1] at hr
  simpa [Value.cells] using hr
end Go.Proofs.Ytopbibhpekjaeaa
