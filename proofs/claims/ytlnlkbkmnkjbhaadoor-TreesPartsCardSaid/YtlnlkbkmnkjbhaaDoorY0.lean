/- What a tree yields, plain: by its leaves, and by the marks of its parts. -/
import Derived.Test.YtlnlkbkmnkjbhaaDoorV1
namespace Go.Proofs.YtlnlkbkmnkjbhaaDoor
open Go.RowKit

mutual
/-- The bytes of a tree's leaves. -/
def yl : Tr → List UInt8 | .mk r b l => if r = -1 then [b] else ylL l
def ylL : List Tr → List UInt8 | [] => [] | d :: l => yl d ++ ylL l
end
theorem yl_leaf {d : Tr} (h : d.rule = -1) : yl d = [d.byte] := by cases d; simp only [Tr.rule] at h; simp [yl, Tr.byte, h]
theorem yl_node {d : Tr} (h : d.rule ≠ -1) : yl d = ylL d.kids := by cases d; simp only [Tr.rule] at h; simp [yl, Tr.kids, h]
theorem ylL_append (a b : List Tr) : ylL (a ++ b) = ylL a ++ ylL b := by
  induction a with
  | nil => simp [ylL]
  | cons x a ih => simp [ylL, ih]
theorem ylL_take {l : List Tr} {k : Nat} {d : Tr} (h : l[k]? = some d) : ylL (l.take (k + 1)) = ylL (l.take k) ++ yl d := by
  rw [List.take_add_one, h, ylL_append]; simp [ylL]
mutual
theorem yl_le : ∀ d : Tr, (yl d).length ≤ sz d
  | .mk r b l => by
    rw [yl, sz]
    split
    · simp
    · have := ylL_le l; omega
theorem ylL_le : ∀ l : List Tr, (ylL l).length ≤ szL l
  | [] => by simp [ylL]
  | d :: l => by rw [ylL, szL, List.length_append]; have := yl_le d; have := ylL_le l; omega
end
/-- The leaf whose kids are gone through, behind parts. -/
def lend (k : Nat) (l : List (Tr × Nat)) : Nat := l.foldl lstp k
theorem lend_append (k : Nat) (a b : List (Tr × Nat)) : lend k (a ++ b) = lend (lend k a) b := by simp [lend]
theorem marks_app : ∀ (k : Nat) (l r : List (Tr × Nat)), marks k (l ++ r) = marks k l ++ marks (lend k l) r
  | k, [], r => rfl
  | k, p :: l, r => by simp [marks, lend, marks_app (lstp k p) l r]
/-- The bytes of parts that have one. -/
def ybs (l : List (Tr × Nat × Nat)) : List UInt8 := l.filterMap fun p => if p.2.2 = 1 then some p.1.byte else none
theorem ybs_append (a b : List (Tr × Nat × Nat)) : ybs (a ++ b) = ybs a ++ ybs b := by simp [ybs]
theorem lcut_lt {k m : Nat} (h : k < m) : lcut k m = k := by unfold lcut; rw [if_neg (by omega)]
theorem lcut_ne {k m : Nat} (h0 : 0 < k) (h : k < m) (p : Tr) : lown k (p, m) = 0 ∧ lstp k (p, m) = k := by
  have := lown_no (k := k) (m := m) (d := p) (fun h' => by rw [lcut_lt h] at h'; omega)
  rw [lcut_lt h] at this
  exact this
mutual
/-- Below a leaf nothing is yielded. -/
theorem quiet : ∀ (d : Tr) (k m : Nat), 0 < k → k < m → ybs (marks k (pre d m)) = [] ∧ lend k (pre d m) = k ∧ ∀ q ∈ marks k (pre d m), q.2.2 = 0
  | .mk r b l, k, m, h0, h => by
    obtain ⟨e1, e2⟩ := lcut_ne h0 h (.mk r b l)
    have ih := quietL l k (m + 1) h0 (by omega)
    rw [pre, marks, e1, e2]
    refine ⟨?_, ?_, ?_⟩
    · have := ih.1; unfold ybs at this ⊢; simpa using this
    · have := ih.2.1; unfold lend at this ⊢; rw [List.foldl_cons, e2]; exact this
    · intro q hq
      rcases List.mem_cons.1 hq with rfl | hq
      · rfl
      · exact ih.2.2 q hq
theorem quietL : ∀ (l : List Tr) (k m : Nat), 0 < k → k < m → ybs (marks k (preL l m)) = [] ∧ lend k (preL l m) = k ∧ ∀ q ∈ marks k (preL l m), q.2.2 = 0
  | [], k, m, h0, h => ⟨rfl, rfl, fun q hq => by cases hq⟩
  | d :: l, k, m, h0, h => by
    obtain ⟨a1, a2, a3⟩ := quiet d k m h0 h
    obtain ⟨b1, b2, b3⟩ := quietL l k m h0 h
    rw [preL, marks_app, a2, ybs_append, lend_append, a1, a2]
    refine ⟨b1, b2, fun q hq => ?_⟩
    rcases List.mem_append.1 hq with hq | hq
    · exact a3 q hq
    · exact b3 q hq
end
theorem lcut_zero (m : Nat) : lcut 0 m = 0 := by unfold lcut; split <;> rfl
theorem lcut_self (m : Nat) : lcut m m = 0 := by unfold lcut; rw [if_pos (Nat.le_refl m)]
theorem lcut_down {k m : Nat} (h : lcut k (m + 1) = 0) : lcut k m = 0 := by unfold lcut at *; split at h <;> split <;> omega
mutual
theorem yl_marks : ∀ (d : Tr) (k m : Nat), 0 < m → lcut k m = 0 → ybs (marks k (pre d m)) = yl d ∧ lcut (lend k (pre d m)) m = 0
  | .mk r b l, k, m, h0, h => by
    by_cases hr : r = -1
    · obtain ⟨e1, e2⟩ := lown_one (k := k) (m := m) (d := .mk r b l) h hr
      obtain ⟨q1, q2, q3⟩ := quietL l m (m + 1) h0 (by omega)
      rw [pre, marks, e1, e2, yl_leaf (d := .mk r b l) hr]
      refine ⟨?_, ?_⟩
      · unfold ybs at q1 ⊢; rw [List.filterMap_cons]; simp [q1]
      · unfold lend at q2 ⊢; rw [List.foldl_cons, e2, q2]; exact lcut_self m
    · obtain ⟨e1, e2⟩ := lown_no (k := k) (m := m) (d := .mk r b l) (fun h' => hr h'.2)
      obtain ⟨q1, q2⟩ := ylL_marks l 0 (m + 1) (by omega) (lcut_zero _)
      rw [h] at e2
      rw [pre, marks, e1, e2, yl_node (d := .mk r b l) hr]
      refine ⟨?_, ?_⟩
      · unfold ybs at q1 ⊢; rw [List.filterMap_cons]; simpa [Tr.kids] using q1
      · unfold lend at q2 ⊢; rw [List.foldl_cons, e2]; exact lcut_down q2
theorem ylL_marks : ∀ (l : List Tr) (k m : Nat), 0 < m → lcut k m = 0 → ybs (marks k (preL l m)) = ylL l ∧ lcut (lend k (preL l m)) m = 0
  | [], k, m, h0, h => ⟨rfl, h⟩
  | d :: l, k, m, h0, h => by
    obtain ⟨a1, a2⟩ := yl_marks d k m h0 h
    obtain ⟨b1, b2⟩ := ylL_marks l (lend k (pre d m)) m h0 a2
    rw [preL, marks_app, ybs_append, lend_append, a1, b1, ylL]
    exact ⟨rfl, b2⟩
end
theorem yl_all (d : Tr) : ybs (marks 0 (pre d 1)) = yl d := (yl_marks d 0 1 (by omega) (lcut_zero 1)).1
end Go.Proofs.YtlnlkbkmnkjbhaaDoor
