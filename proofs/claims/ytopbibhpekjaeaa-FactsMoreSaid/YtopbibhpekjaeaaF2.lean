/- Steps between nonterminals, with no program in them. -/
import Derived.Test.YtopbibhpekjaeaaC0
import Derived.Test.YtopbibhpekjaeaaF1
namespace Go.Proofs.Ytopbibhpekjaeaa

/-- A symbol that derives the empty text. -/
def Nl (rs : List Rl) (s : Ks) : Prop := 0 ≤ s.nt ∧ Lf rs pN s.nt.toNat
/-- a leads to b: b can be all of its text. -/
def Lead (rs : List Rl) (a b : Nat) : Prop := ∃ r ∈ rs, r.lhs = (a : Int) ∧ ∃ pre s post, r.rhs = pre ++ s :: post ∧ s.nt = (b : Int) ∧ ∀ x ∈ pre ++ post, Nl rs x
def Cyc (N : Nat) (rs : List Rl) : Prop := ¬ ∃ rank : Nat → Nat, ∀ a b, a < N → Lead rs a b → rank a < rank b

theorem sym_nl {rs : List Rl} {so : List Bool} (h : ∀ m, so.getD m false = true ↔ Lf rs pN m) (s : Ks) : symSo pN so s = true ↔ Nl rs s := by
  unfold symSo Nl
  by_cases hn : s.nt < 0
  · rw [if_pos hn]; simp [pN]; omega
  · rw [if_neg hn, h]; exact ⟨fun h => ⟨by omega, h⟩, fun h => h.2⟩
theorem fullOf_app (so : List Bool) (a b : List Ks) : fullOf so (a ++ b) = fullOf so a + fullOf so b := by simp [fullOf]
theorem fullOf_zero (so : List Bool) (l : List Ks) : fullOf so l = 0 ↔ ∀ x ∈ l, symSo pN so x = true := by
  unfold fullOf
  rw [List.length_eq_zero_iff, List.filter_eq_nil_iff]
  simp
theorem fullOf_cons (so : List Bool) (s : Ks) (l : List Ks) : fullOf so (s :: l) = (if symSo pN so s then 0 else 1) + fullOf so l := by
  unfold fullOf
  cases hq : symSo pN so s <;> simp [hq]; omega
theorem loneOf_mem {rs : List Rl} {so : List Bool} (h : ∀ m, so.getD m false = true ↔ Lf rs pN m) (l : List Ks) (b : Nat) : b ∈ loneOf so (fullOf so l) l ↔ ∃ pre s post, l = pre ++ s :: post ∧ s.nt = (b : Int) ∧ ∀ x ∈ pre ++ post, Nl rs x := by
  constructor
  · intro hb
    unfold loneOf at hb
    obtain ⟨s, hs, rfl⟩ := List.mem_map.1 hb
    obtain ⟨hs1, hs2⟩ := List.mem_filter.1 hs
    obtain ⟨pre, post, rfl⟩ := List.append_of_mem hs1
    unfold lone at hs2
    simp only [Bool.and_eq_true, Bool.or_eq_true, decide_eq_true_eq, Bool.not_eq_true'] at hs2
    refine ⟨pre, s, post, rfl, by omega, fun x hx => (sym_nl h x).1 ?_⟩
    rw [fullOf_app, fullOf_cons] at hs2
    have h0 : fullOf so pre = 0 ∧ fullOf so post = 0 := by
      rcases hs2.2 with h0 | ⟨h1, h2⟩
      · omega
      · rw [h2] at h1; simp at h1; omega
    rcases List.mem_append.1 hx with hx | hx
    · exact (fullOf_zero so pre).1 h0.1 x hx
    · exact (fullOf_zero so post).1 h0.2 x hx
  · rintro ⟨pre, s, post, rfl, hs, ha⟩
    unfold loneOf
    refine List.mem_map.2 ⟨s, List.mem_filter.2 ⟨by simp, ?_⟩, by omega⟩
    have h1 : fullOf so pre = 0 := (fullOf_zero so pre).2 fun x hx => (sym_nl h x).2 (ha x (List.mem_append_left _ hx))
    have h2 : fullOf so post = 0 := (fullOf_zero so post).2 fun x hx => (sym_nl h x).2 (ha x (List.mem_append_right _ hx))
    unfold lone
    rw [fullOf_app, fullOf_cons, h1, h2]
    rw [decide_eq_true (show 0 ≤ s.nt by omega)]
    cases symSo pN so s <;> simp
theorem loneL_mem {rs : List Rl} {so : List Bool} (h : ∀ m, so.getD m false = true ↔ Lf rs pN m) (a b : Nat) : ∀ k, b ∈ loneL rs so a k ↔ ∃ i, i < k ∧ ∃ r, rs[i]? = some r ∧ r.lhs = (a : Int) ∧ ∃ pre s post, r.rhs = pre ++ s :: post ∧ s.nt = (b : Int) ∧ ∀ x ∈ pre ++ post, Nl rs x
  | 0 => by simp [loneL]
  | k + 1 => by
    have ih := loneL_mem h a b k
    rw [loneL, List.mem_append, ih]
    constructor
    · rintro (⟨i, hi, hr⟩ | hb)
      · exact ⟨i, by omega, hr⟩
      · split at hb
        · rename_i hl
          unfold lhsAt at hl
          unfold rhsAt at hb
          cases hr : rs[k]? with
          | none => rw [hr] at hb; simp [loneOf] at hb
          | some r =>
            rw [hr] at hb hl
            exact ⟨k, by omega, r, hr, hl, (loneOf_mem h r.rhs b).1 hb⟩
        · cases hb
    · rintro ⟨i, hi, r, hr, hl, hx⟩
      by_cases e : i = k
      · subst e
        right
        unfold lhsAt rhsAt
        simp only [hr]
        rw [if_pos hl]
        exact (loneOf_mem h r.rhs b).2 hx
      · left
        exact ⟨i, by omega, r, hr, hl, hx⟩
theorem loneL_lead {rs : List Rl} {so : List Bool} (h : ∀ m, so.getD m false = true ↔ Lf rs pN m) (a b : Nat) : b ∈ loneL rs so a rs.length ↔ Lead rs a b := by
  rw [loneL_mem h]
  constructor
  · rintro ⟨i, _, r, hr, hl, hx⟩
    exact ⟨r, List.mem_of_getElem? hr, hl, hx⟩
  · rintro ⟨r, hr, hl, hx⟩
    obtain ⟨i, hi⟩ := List.mem_iff_getElem?.1 hr
    exact ⟨i, (List.getElem?_eq_some_iff.1 hi).1, r, hi, hl, hx⟩
theorem lead_lt {N : Nat} {rs : List Rl} (hok : Ok N rs) {a b : Nat} (h : Lead rs a b) : b < N := by
  obtain ⟨r, hr, _, pre, s, post, he, hs, _⟩ := h
  have := hok.sym r hr s (by rw [he]; simp)
  omega
end Go.Proofs.Ytopbibhpekjaeaa
