/- Where a tree's parts reach, plain: by the document, and by the marks that are gone through with a list of what is open. -/
import Derived.Test.YtlnlkbkmnkjbhaaDoorY0
namespace Go.Proofs.YtlnlkbkmnkjbhaaDoor
open Go.RowKit

mutual
/-- Where a tree's parts reach, from a place on; none: they yield nothing. -/
def spn : Tr → Nat → Bool → List (Nat × Nat)
  | .mk r b l, p, q => (p, if q then p else p + (yl (.mk r b l)).length) :: spnL l (if r = -1 then (if q then p else p + (yl (.mk r b l)).length) else p) (q || decide (r = -1))
def spnL : List Tr → Nat → Bool → List (Nat × Nat)
  | [], _, _ => []
  | d :: l, p, q => spn d p q ++ spnL l (if q then p else p + (yl d).length) q
end
theorem spn_eq (d : Tr) (p : Nat) (q : Bool) : spn d p q = (p, if q then p else p + (yl d).length) :: spnL d.kids (if d.rule = -1 then (if q then p else p + (yl d).length) else p) (q || decide (d.rule = -1)) := by
  cases d; rw [spn]; rfl
/-- A span's end is laid. -/
def hi1 (p : Nat) (L : List (Nat × Nat)) (o : Nat) : List (Nat × Nat) := L.modify o (fun r => (r.1, p))
def hiAll (p : Nat) (L : List (Nat × Nat)) (l : List Nat) : List (Nat × Nat) := l.foldr (fun o L => hi1 p L o) L
theorem hi1_len (p : Nat) (L : List (Nat × Nat)) (o : Nat) : (hi1 p L o).length = L.length := by simp [hi1]
theorem hiAll_len (p : Nat) (L : List (Nat × Nat)) (l : List Nat) : (hiAll p L l).length = L.length := by
  induction l with
  | nil => rfl
  | cons o l ih => show (hi1 p (hiAll p L l) o).length = _; rw [hi1_len, ih]
theorem hiAll_append (p : Nat) (L : List (Nat × Nat)) (a b : List Nat) : hiAll p L (a ++ b) = hiAll p (hiAll p L b) a := by simp [hiAll]
theorem hiAll_cons (p : Nat) (L : List (Nat × Nat)) (o : Nat) (l : List Nat) : hiAll p L (o :: l) = hi1 p (hiAll p L l) o := rfl
theorem hi1_comm (p : Nat) (L : List (Nat × Nat)) (a b : Nat) : hi1 p (hi1 p L a) b = hi1 p (hi1 p L b) a := by
  apply List.ext_getElem?
  intro i
  simp only [hi1, List.getElem?_modify]
  cases L[i]? with
  | none => simp
  | some x => by_cases h1 : a = i <;> by_cases h2 : b = i <;> simp [h1, h2]
theorem hiAll_hi1 (p : Nat) (L : List (Nat × Nat)) (o : Nat) (l : List Nat) : hiAll p (hi1 p L o) l = hi1 p (hiAll p L l) o := by
  induction l with
  | nil => rfl
  | cons a l ih => rw [hiAll_cons, hiAll_cons, ih, hi1_comm]
/-- The machine's state: spans, numbers of open ones, the place. -/
structure Sm where
  L : List (Nat × Nat)
  O : List Nat
  p : Nat
def Sm.step (s : Sm) (m y : Nat) : Sm := ⟨hiAll s.p s.L (s.O.drop (m - 1)) ++ [(s.p, 0)], s.O.take (m - 1) ++ [s.L.length], s.p + y⟩
def Sm.run (s : Sm) (l : List (Tr × Nat × Nat)) : Sm := l.foldl (fun s q => s.step q.2.1 q.2.2) s
theorem Sm.run_append (s : Sm) (a b : List (Tr × Nat × Nat)) : s.run (a ++ b) = (s.run a).run b := by simp [Sm.run]
theorem Sm.run_cons (s : Sm) (q : Tr × Nat × Nat) (b : List (Tr × Nat × Nat)) : s.run (q :: b) = (s.step q.2.1 q.2.2).run b := rfl
/-- What is open from m on is closed. -/
def Sm.cl (s : Sm) (m : Nat) : List (Nat × Nat) := hiAll s.p s.L (s.O.drop (m - 1))
theorem Sm.cl_step (s : Sm) {m y : Nat} (hm : 0 < m) (h : m - 1 ≤ s.O.length) : (s.step m y).cl (m + 1) = s.cl m ++ [(s.p, 0)] ∧ (s.step m y).O.length = m := by
  have hl : (s.O.take (m - 1) ++ [s.L.length]).length = m := by simp; omega
  refine ⟨?_, hl⟩
  unfold Sm.cl
  show hiAll _ _ ((s.O.take (m - 1) ++ [s.L.length]).drop (m + 1 - 1)) = _
  rw [List.drop_eq_nil_of_le (by omega)]
  rfl
/-- One more is closed. -/
theorem Sm.cl_one (s : Sm) {m o : Nat} (hm : 0 < m) (h : s.O[m - 1]? = some o) : s.cl m = hi1 s.p (s.cl (m + 1)) o := by
  have hlt := (List.getElem?_eq_some_iff.1 h).1
  have e := (List.getElem?_eq_some_iff.1 h).2
  unfold Sm.cl
  have hd : s.O.drop (m - 1) = o :: s.O.drop m := by
    rw [List.drop_eq_getElem_cons hlt, e, show m - 1 + 1 = m by omega]
  rw [hd, hiAll_cons]
  rfl
/-- What going through parts from depth m on does: none of what lay open ahead of m - 1 is touched. -/
structure Sdid (s t : Sm) (m : Nat) (l : List (Nat × Nat)) (y : Nat) : Prop where
  p : t.p = s.p + y
  o : t.O.take (m - 1) = s.O.take (m - 1)
  cl : t.cl m = s.cl m ++ l
  len : m - 1 ≤ t.O.length
theorem Sdid.nil {s : Sm} {m : Nat} (h : m - 1 ≤ s.O.length) : Sdid s s m [] 0 := ⟨rfl, rfl, by simp, h⟩
theorem Sdid.trans {s t u : Sm} {m : Nat} {l k : List (Nat × Nat)} {y z : Nat} (a : Sdid s t m l y) (b : Sdid t u m k z) : Sdid s u m (l ++ k) (y + z) :=
  ⟨by rw [b.p, a.p]; omega, b.o.trans a.o, by rw [b.cl, a.cl, List.append_assoc], b.len⟩
theorem modify_mid {α : Type} (f : α → α) (x : α) (l : List α) : ∀ a : List α, (a ++ x :: l).modify a.length f = a ++ f x :: l
  | [] => rfl
  | y :: a => by simp [modify_mid f x l a]
/-- A part and its kids. -/
theorem Sdid.part {s t : Sm} {m y z : Nat} {l : List (Nat × Nat)} (hm : 0 < m) (h : m - 1 ≤ s.O.length) (k : Sdid (s.step m y) t (m + 1) l z) : Sdid s t m ((s.p, s.p + (y + z)) :: l) (y + z) := by
  obtain ⟨c1, c2⟩ := s.cl_step (y := y) hm h
  have hp : t.p = s.p + (y + z) := by rw [k.p]; show s.p + y + z = _; omega
  have ho : t.O.take m = s.O.take (m - 1) ++ [s.L.length] := by
    have := k.o
    rw [Nat.add_sub_cancel] at this
    rw [this]
    show (s.O.take (m - 1) ++ [s.L.length]).take m = _
    rw [List.take_of_length_le (by simp; omega)]
  have hlen : m ≤ t.O.length := by have := k.len; omega
  have hat : t.O[m - 1]? = some s.L.length := by
    have e : (t.O.take m)[m - 1]? = t.O[m - 1]? := List.getElem?_take_of_lt (by omega)
    rw [← e, ho, List.getElem?_append_right (by simp; omega)]
    have : m - 1 - (s.O.take (m - 1)).length = 0 := by simp; omega
    rw [this]; rfl
  refine ⟨hp, ?_, ?_, by omega⟩
  · have e : t.O.take (m - 1) = (t.O.take m).take (m - 1) := by rw [List.take_take, Nat.min_eq_left (by omega)]
    rw [e, ho, List.take_append_of_le_length (by simp; omega), List.take_take, Nat.min_self]
  · rw [t.cl_one hm hat, k.cl, c1, hp]
    have hl : (s.cl m).length = s.L.length := hiAll_len _ _ _
    show (s.cl m ++ [(s.p, 0)] ++ l).modify s.L.length _ = _
    rw [List.append_assoc, ← hl]
    exact modify_mid _ _ _ _
mutual
theorem run_quiet : ∀ (d : Tr) (k m : Nat) (s : Sm), 0 < k → k < m → m - 1 ≤ s.O.length → Sdid s (s.run (marks k (pre d m))) m (spn d s.p true) 0
  | .mk r b l, k, m, s, h0, h, ho => by
    obtain ⟨e1, e2⟩ := lcut_ne h0 h (.mk r b l)
    rw [pre, marks, e1, e2, Sm.run_cons]
    have hs : m ≤ (s.step m 0).O.length := by have := (s.cl_step (y := 0) (by omega) ho).2; omega
    have ih := runL_quiet l k (m + 1) (s.step m 0) h0 (by omega) (by omega)
    have := Sdid.part (y := 0) (by omega) ho ih
    rw [spn_eq]
    simpa [Tr.kids, Tr.rule, Sm.step] using this
theorem runL_quiet : ∀ (l : List Tr) (k m : Nat) (s : Sm), 0 < k → k < m → m - 1 ≤ s.O.length → Sdid s (s.run (marks k (preL l m))) m (spnL l s.p true) 0
  | [], k, m, s, h0, h, ho => by rw [preL, spnL]; exact Sdid.nil ho
  | d :: l, k, m, s, h0, h, ho => by
    have a := run_quiet d k m s h0 h ho
    have b := runL_quiet l k m _ h0 h a.len
    have := a.trans b
    rw [preL, marks_app, (quiet d k m h0 h).2.1, Sm.run_append, spnL]
    have hp := a.p
    rw [hp] at this
    simpa using this
end
mutual
theorem run_loud : ∀ (d : Tr) (k m : Nat) (s : Sm), 0 < m → lcut k m = 0 → m - 1 ≤ s.O.length → Sdid s (s.run (marks k (pre d m))) m (spn d s.p false) (yl d).length
  | .mk r b l, k, m, s, h0, h, ho => by
    by_cases hr : r = -1
    · obtain ⟨e1, e2⟩ := lown_one (k := k) (m := m) (d := .mk r b l) h hr
      have hs : m ≤ (s.step m 1).O.length := by have := (s.cl_step (y := 1) h0 ho).2; omega
      have ih := runL_quiet l m (m + 1) (s.step m 1) h0 (by omega) (by omega)
      have := Sdid.part (y := 1) h0 ho ih
      rw [pre, marks, e1, e2, Sm.run_cons, spn_eq, yl_leaf (d := .mk r b l) hr]
      have hr' : (Tr.mk r b l).rule = -1 := hr
      simpa [Tr.kids, hr', Sm.step] using this
    · obtain ⟨e1, e2⟩ := lown_no (k := k) (m := m) (d := .mk r b l) (fun h' => hr h'.2)
      rw [h] at e2
      have hs : m ≤ (s.step m 0).O.length := by have := (s.cl_step (y := 0) h0 ho).2; omega
      have ih := runL_loud l 0 (m + 1) (s.step m 0) (by omega) (lcut_zero _) (by omega)
      have := Sdid.part (y := 0) h0 ho ih
      rw [pre, marks, e1, e2, Sm.run_cons, spn_eq, yl_node (d := .mk r b l) hr]
      have hr' : ¬ (Tr.mk r b l).rule = -1 := hr
      simpa [Tr.kids, hr', Sm.step] using this
theorem runL_loud : ∀ (l : List Tr) (k m : Nat) (s : Sm), 0 < m → lcut k m = 0 → m - 1 ≤ s.O.length → Sdid s (s.run (marks k (preL l m))) m (spnL l s.p false) (ylL l).length
  | [], k, m, s, h0, h, ho => by rw [preL, spnL]; exact Sdid.nil ho
  | d :: l, k, m, s, h0, h, ho => by
    have a := run_loud d k m s h0 h ho
    have b := runL_loud l (lend k (pre d m)) m _ h0 (yl_marks d k m h0 h).2 a.len
    have := a.trans b
    rw [preL, marks_app, Sm.run_append, spnL, ylL, List.length_append]
    have hp := a.p
    rw [hp] at this
    simpa using this
end
/-- The machine over a whole tree, all that is open closed at its end. -/
theorem run_all (d : Tr) : hiAll ((Sm.mk [] [] 0).run (marks 0 (pre d 1))).p ((Sm.mk [] [] 0).run (marks 0 (pre d 1))).L ((Sm.mk [] [] 0).run (marks 0 (pre d 1))).O = spn d 0 false := by
  have h := (run_loud d 0 1 (Sm.mk [] [] 0) (by omega) (lcut_zero 1) (by omega)).cl
  simpa [Sm.cl, hiAll] using h
/-- What a state is bounded by. -/
structure Sok (s : Sm) (n : Nat) : Prop where
  len : s.L.length = n
  o : ∀ x ∈ s.O, x < s.L.length
  ol : s.O.length ≤ n
  p : s.p ≤ n
  hi : ∀ r ∈ s.L, r.1 ≤ n ∧ r.2 ≤ n
theorem hi1_mem {p : Nat} {L : List (Nat × Nat)} {o n : Nat} (hp : p ≤ n) (h : ∀ r ∈ L, r.1 ≤ n ∧ r.2 ≤ n) : ∀ r ∈ hi1 p L o, r.1 ≤ n ∧ r.2 ≤ n := by
  intro r hr
  obtain ⟨i, hi⟩ := List.mem_iff_getElem?.1 hr
  rw [hi1, List.getElem?_modify] at hi
  cases hL : L[i]? with
  | none => rw [hL] at hi; simp at hi
  | some x =>
    rw [hL] at hi
    have hx := h x (List.mem_iff_getElem?.2 ⟨i, hL⟩)
    by_cases ho : o = i
    · simp [ho] at hi; subst hi; exact ⟨hx.1, hp⟩
    · simp [ho] at hi; subst hi; exact hx
theorem hiAll_mem {p : Nat} {L : List (Nat × Nat)} {n : Nat} (hp : p ≤ n) (h : ∀ r ∈ L, r.1 ≤ n ∧ r.2 ≤ n) (l : List Nat) : ∀ r ∈ hiAll p L l, r.1 ≤ n ∧ r.2 ≤ n := by
  induction l with
  | nil => exact h
  | cons o l ih => exact hi1_mem hp ih
theorem Sok.step {s : Sm} {n m y : Nat} (h : Sok s n) (hy : y ≤ 1) : Sok (s.step m y) (n + 1) := by
  have hl : (s.step m y).L.length = n + 1 := by show (hiAll _ _ _ ++ [_]).length = _; rw [List.length_append, hiAll_len, h.len]; rfl
  refine ⟨hl, fun x hx => ?_, ?_, ?_, fun r hr => ?_⟩
  · rw [hl]
    rcases List.mem_append.1 hx with hx | hx
    · have := h.o x (List.mem_of_mem_take hx); have := h.len; omega
    · simp at hx; have := h.len; omega
  · show (s.O.take (m - 1) ++ [s.L.length]).length ≤ _
    have := h.ol
    simp; omega
  · show s.p + y ≤ _
    have := h.p; omega
  · rcases List.mem_append.1 hr with hr | hr
    · have := hiAll_mem h.p h.hi _ r hr; omega
    · simp at hr; subst hr; have := h.p; simp; omega
theorem Sok.run {s : Sm} : ∀ {l : List (Tr × Nat × Nat)} {n : Nat}, Sok s n → (∀ q ∈ l, q.2.2 ≤ 1) → Sok (s.run l) (n + l.length) := by
  intro l
  induction l generalizing s with
  | nil => intro n h _; exact h
  | cons q l ih =>
    intro n h hq
    have := ih (h.step (m := q.2.1) (hq q (by simp))) (fun q' h' => hq q' (List.mem_cons_of_mem _ h'))
    rw [Sm.run_cons, List.length_cons, show n + (l.length + 1) = n + 1 + l.length by omega]
    exact this
theorem Sok.zero : Sok (Sm.mk [] [] 0) 0 := ⟨rfl, fun x hx => by simp at hx, Nat.le_refl _, Nat.le_refl _, fun r hr => by simp at hr⟩
mutual
theorem spn_len : ∀ (d : Tr) (p : Nat) (q : Bool), (spn d p q).length = sz d
  | .mk r b l, p, q => by rw [spn, sz, List.length_cons, spnL_len l]; omega
theorem spnL_len : ∀ (l : List Tr) (p : Nat) (q : Bool), (spnL l p q).length = szL l
  | [], p, q => by simp [spnL, szL]
  | d :: l, p, q => by rw [spnL, szL, List.length_append, spn_len d, spnL_len l]
end
mutual
theorem spn_in : ∀ (d : Tr) (p : Nat) (q : Bool), ∀ r ∈ spn d p q, p ≤ r.1 ∧ r.1 ≤ r.2 ∧ r.2 ≤ (if q then p else p + (yl d).length)
  | .mk r b l, p, q => by
    intro x hx
    rw [spn] at hx
    rcases List.mem_cons.1 hx with rfl | hx
    · cases q <;> simp
    · have ih := spnL_in l _ _ x hx
      by_cases hr : r = -1
      · simp only [hr, if_pos, decide_true, Bool.or_true] at ih
        subst hr
        cases q <;> simp at ih ⊢ <;> omega
      · have e := yl_node (d := .mk r b l) hr
        simp only [hr, if_false, decide_false, Bool.or_false] at ih
        rw [e]
        cases q <;> simp [Tr.kids] at ih ⊢ <;> omega
theorem spnL_in : ∀ (l : List Tr) (p : Nat) (q : Bool), ∀ r ∈ spnL l p q, p ≤ r.1 ∧ r.1 ≤ r.2 ∧ r.2 ≤ (if q then p else p + (ylL l).length)
  | [], p, q => by intro x hx; simp [spnL] at hx
  | d :: l, p, q => by
    intro x hx
    rw [spnL] at hx
    rcases List.mem_append.1 hx with hx | hx
    · have ih := spn_in d p q x hx
      cases q <;> simp [ylL] at ih ⊢ <;> omega
    · have ih := spnL_in l _ q x hx
      cases q <;> simp [ylL] at ih ⊢ <;> omega
end
mutual
theorem spn_up : ∀ (d : Tr) (p : Nat) (q : Bool), (spn d p q).Pairwise (fun a b => a.1 ≤ b.1)
  | .mk r b l, p, q => by
    rw [spn]
    refine List.pairwise_cons.2 ⟨fun x hx => ?_, spnL_up l _ _⟩
    have ih := (spnL_in l _ _ x hx).1
    show p ≤ x.1
    refine Nat.le_trans ?_ ih
    repeat' split
    all_goals omega
theorem spnL_up : ∀ (l : List Tr) (p : Nat) (q : Bool), (spnL l p q).Pairwise (fun a b => a.1 ≤ b.1)
  | [], p, q => by rw [spnL]; exact List.Pairwise.nil
  | d :: l, p, q => by
    rw [spnL]
    refine List.pairwise_append.2 ⟨spn_up d p q, spnL_up l _ q, fun a ha b hb => ?_⟩
    have h1 := spn_in d p q a ha
    have h2 := (spnL_in l _ q b hb).1
    exact Nat.le_trans (Nat.le_trans h1.2.1 h1.2.2) h2
end
theorem spn_step {d : Tr} {i : Nat} {a b : Nat × Nat} (h1 : (spn d 0 false)[i]? = some a) (h2 : (spn d 0 false)[i + 1]? = some b) : a.1 ≤ b.1 := by
  obtain ⟨l1, e1⟩ := List.getElem?_eq_some_iff.1 h1
  obtain ⟨l2, e2⟩ := List.getElem?_eq_some_iff.1 h2
  have := List.pairwise_iff_getElem.1 (spn_up d 0 false) i (i + 1) l1 l2 (by omega)
  rw [e1, e2] at this
  exact this
theorem spn_zero (d : Tr) : (spn d 0 false)[0]? = some (0, (yl d).length) := by rw [spn_eq]; simp
theorem spn_at {d : Tr} {i : Nat} {a : Nat × Nat} (h : (spn d 0 false)[i]? = some a) : a.1 ≤ a.2 ∧ a.2 ≤ (yl d).length := by
  have := spn_in d 0 false a (List.mem_iff_getElem?.2 ⟨i, h⟩)
  simp at this
  exact ⟨this.1, this.2⟩
end Go.Proofs.YtlnlkbkmnkjbhaaDoor
