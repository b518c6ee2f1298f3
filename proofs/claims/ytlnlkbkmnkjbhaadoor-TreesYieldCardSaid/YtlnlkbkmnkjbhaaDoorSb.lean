/- Spans in rows. -/
import Derived.Test.YtlnlkbkmnkjbhaaDoorSa
import Derived.Test.YtlnlkbkmnkjbhaaDoorR1
namespace Go.Proofs.YtlnlkbkmnkjbhaaDoor
open Go.RowKit Go.Shelf

/-- Spans as cells. -/
def rcs (l : List (Nat × Nat)) : List Value := l.flatMap fun r => [.int .i64 (r.1 : Int), .int .i64 (r.2 : Int)]
theorem rcs_nil : rcs [] = [] := rfl
theorem rcs_cons (r : Nat × Nat) (l : List (Nat × Nat)) : rcs (r :: l) = .int .i64 (r.1 : Int) :: .int .i64 (r.2 : Int) :: rcs l := rfl
theorem rcs_append (a b : List (Nat × Nat)) : rcs (a ++ b) = rcs a ++ rcs b := by simp [rcs]
theorem rcs_len : ∀ l : List (Nat × Nat), (rcs l).length = l.length * 2
  | [] => rfl
  | r :: l => by rw [rcs_cons, List.length_cons, List.length_cons, rcs_len l, List.length_cons]; omega
theorem rcs_get : ∀ {l : List (Nat × Nat)} {k : Nat} {r : Nat × Nat}, l[k]? = some r → (rcs l)[k * 2]? = some (.int .i64 (r.1 : Int)) ∧ (rcs l)[k * 2 + 1]? = some (.int .i64 (r.2 : Int))
  | [], k, r, h => by cases h
  | x :: l, 0, r, h => by cases h; exact ⟨rfl, rfl⟩
  | x :: l, k + 1, r, h => by
    have ih := rcs_get (l := l) (k := k) (r := r) h
    rw [rcs_cons, show (k + 1) * 2 = k * 2 + 1 + 1 by omega]
    simpa using ih
theorem rcs_set : ∀ (L : List (Nat × Nat)) (o p : Nat), (rcs L).set (o * 2 + 1) (.int .i64 (p : Int)) = rcs (hi1 p L o)
  | [], o, p => by simp [rcs, hi1]
  | x :: L, 0, p => rfl
  | x :: L, o + 1, p => by
    have ih := rcs_set L o p
    rw [rcs_cons, show (o + 1) * 2 + 1 = o * 2 + 1 + 1 + 1 by omega, List.set_cons_succ, List.set_cons_succ, ih]
    rfl
theorem rcs_one (l : List (Nat × Nat)) : ∀ u ∈ rcs l, u.oneCell' = true := by
  induction l with
  | nil => intro u hu; cases hu
  | cons r l ih =>
    intro u hu
    rw [rcs_cons] at hu
    rcases List.mem_cons.1 hu with rfl | hu
    · rfl
    rcases List.mem_cons.1 hu with rfl | hu
    · rfl
    exact ih u hu
/-- Numbers as cells. -/
def ics (l : List Nat) : List Value := l.map fun (n : Nat) => .int .i64 (n : Int)
theorem ics_append (a b : List Nat) : ics (a ++ b) = ics a ++ ics b := by simp [ics]
theorem ics_len (l : List Nat) : (ics l).length = l.length := by simp [ics]
theorem ics_get {l : List Nat} {k n : Nat} (h : l[k]? = some n) : (ics l)[k]? = some (.int .i64 (n : Int)) := by simp [ics, h]
theorem ics_one (l : List Nat) : ∀ u ∈ ics l, u.oneCell' = true := by
  intro u hu
  obtain ⟨x, _, rfl⟩ := List.mem_map.1 hu
  rfl
theorem info58 : (Tryd.prog.info? 58).map (fun i => (i.zero, i.size, i.bytes)) = some (some (.agg #[.int .i64 0, .int .i64 0]), 2, 16) := by kernel_rfl
theorem info3 : (Tryd.prog.info? 3).map (fun i => (i.zero, i.size, i.bytes)) = some (some (.int .i64 0), 1, 8) := by kernel_rfl
/-- A row of spans: the cells of one. -/
theorem run_cells {W : World} {B : Nat} {v : Value} {l : List (Nat × Nat)} (h : W.ownsRow B 58 2 v l.length (rcs l)) {k : Nat} {r : Nat × Nat} (hk : l[k]? = some r) : ∃ g c, v = .slice (some ⟨g, 0, none⟩) l.length c ∧ W.cell? ⟨g, k * 2, none⟩ = some (.int .i64 (r.1 : Int)) ∧ W.cell? ⟨g, k * 2 + 1, none⟩ = some (.int .i64 (r.2 : Int)) := by
  have hlt := (List.getElem?_eq_some_iff.1 hk).1
  obtain ⟨g, c, rfl, _⟩ := row_at h (by omega)
  obtain ⟨h1, h2⟩ := rcs_get hk
  exact ⟨g, c, rfl, (own_cell h h1).1, (own_cell h h2).1⟩
end Go.Proofs.YtlnlkbkmnkjbhaaDoor
