/- A term's text, plain. -/
import Derived.Test.YtlkcadibjmfmcaaDoorBd
import Derived.Test.YtlkcadibjmfmcaaDoorNe
namespace Go.Proofs.YtlkcadibjmfmcaaDoor
open Go.RowKit

mutual
/-- A right term's text. -/
def txt : Tm → List UInt8
  | .mk k c t l =>
    if k = 2 then quoteL (nums t)
    else if k = 3 then [91] ++ txtL true l ++ [93]
    else if k = 4 then [45]
    else if k = 5 then [63] ++ txtL true l
    else c.data.toList ++ (if l.isEmpty then [] else [40] ++ txtL true l ++ [41])
/-- The texts of terms in a row, a comma between them. -/
def txtL : Bool → List Tm → List UInt8
  | _, [] => []
  | first, d :: l => (if first then [] else [44]) ++ txt d ++ txtL false l
end
theorem txt_eq (d : Tm) : txt d = if d.kind = 2 then quoteL (nums d.text) else if d.kind = 3 then [91] ++ txtL true d.kids ++ [93] else if d.kind = 4 then [45] else if d.kind = 5 then [63] ++ txtL true d.kids else d.cons.data.toList ++ (if d.kids.isEmpty then [] else [40] ++ txtL true d.kids ++ [41]) := by
  cases d; rw [txt]; rfl
theorem txtL_app (l m : List Tm) (b : Bool) : txtL b (l ++ m) = txtL b l ++ txtL (b && l.isEmpty) m := by
  induction l generalizing b with
  | nil => simp [txtL]
  | cons d l ih => rw [List.cons_append, txtL, txtL, ih]; simp
theorem txtL_snoc (l : List Tm) (d : Tm) (b : Bool) : txtL b (l ++ [d]) = txtL b l ++ (if b && l.isEmpty then [] else [44]) ++ txt d := by
  rw [txtL_app, txtL, txtL]; simp
/-- What a part's own signs are, however long it is. -/
def ownF (d : Tm) : Nat := if d.kind = 2 then qlen d.text else ownS d
def fsum (l : List (Tm × Nat)) : Nat := (l.map fun p => ownF p.1).sum
theorem fsum_app (a b : List (Tm × Nat)) : fsum (a ++ b) = fsum a + fsum b := by simp [fsum]
theorem signq_pos (n : Nat) : 1 ≤ (signq n).length := by
  unfold signq
  split
  · simp
  · unfold escq; split <;> simp
theorem qlen_ge (t : List UInt8) : t.length + 2 ≤ qlen t := by
  have h : ∀ l : List Nat, l.length ≤ (l.flatMap signq).length := by
    intro l
    induction l with
    | nil => simp
    | cons c l ih => have := signq_pos c; rw [List.flatMap_cons, List.length_append, List.length_cons]; omega
  have := h (nums t)
  rw [nums_len] at this
  unfold qlen quoteL
  rw [List.length_append, List.length_append]
  simp only [List.length_cons, List.length_nil]
  omega
theorem ownS_ownF (d : Tm) : ownS d ≤ ownF d := by
  unfold ownF
  split
  · rename_i h
    unfold ownS
    rw [if_pos h]
    have := qlen_ge d.text
    split <;> omega
  · exact Nat.le_refl _
theorem ownF_ownS (d : Tm) (h : ownS d ≤ 65536) : ownF d = ownS d := by
  unfold ownF
  split
  · rename_i hk
    unfold ownS at h ⊢
    rw [if_pos hk] at h ⊢
    split at h
    · omega
    · rename_i h2; rw [if_neg h2]
  · rfl
theorem osum_fsum (l : List (Tm × Nat)) : osum l ≤ fsum l := by
  induction l with
  | nil => exact Nat.le_refl _
  | cons p l ih => have := ownS_ownF p.1; simp only [osum, fsum, List.map_cons, List.sum_cons] at *; omega
theorem fsum_osum (l : List (Tm × Nat)) (h : osum l ≤ 65536) : fsum l = osum l := by
  induction l with
  | nil => rfl
  | cons p l ih =>
    simp only [osum, fsum, List.map_cons, List.sum_cons] at *
    rw [ownF_ownS p.1 (by omega), ih (by omega)]
theorem fits_iff (d : Tm) : fitsT d = decide (fsum (pre d 1) ≤ 65536) := by
  unfold fitsT
  rw [decide_eq_decide]
  constructor
  · intro h; rw [fsum_osum _ h]; exact h
  · intro h; have := osum_fsum (pre d 1); omega
theorem okC_one {c : ByteArray} {tl kl : Nat} (h : okC 1 c tl kl = true) : nameB great c.data.toList = true ∧ tl = 0 := by
  unfold okC at h
  rw [if_pos rfl] at h
  simpa using h
theorem okC_two {c : ByteArray} {tl kl : Nat} (h : okC 2 c tl kl = true) : c.size = 0 ∧ kl = 0 := by
  unfold okC at h
  rw [if_neg (by decide)] at h
  split at h
  · cases h
  · rename_i h1
    simp at h
    exact ⟨by omega, h⟩
theorem okC_three {c : ByteArray} {tl kl : Nat} (h : okC 3 c tl kl = true) : c.size = 0 ∧ tl = 0 := by
  unfold okC at h
  rw [if_neg (by decide)] at h
  split at h
  · cases h
  · rename_i h1
    split at h
    · cases h
    · rename_i h2; exact ⟨by omega, by simp at h2; exact h2⟩
theorem okC_four {c : ByteArray} {tl kl : Nat} (h : okC 4 c tl kl = true) : c.size = 0 ∧ tl = 0 ∧ kl = 0 := by
  unfold okC at h
  rw [if_neg (by decide)] at h
  split at h
  · cases h
  · rename_i h1
    split at h
    · cases h
    · rename_i h2; simp at h h2; exact ⟨by omega, h2, h⟩
theorem okC_five {c : ByteArray} {tl kl : Nat} (h : okC 5 c tl kl = true) : c.size = 0 ∧ tl = 0 ∧ kl = 1 := by
  unfold okC at h
  rw [if_neg (by decide)] at h
  split at h
  · cases h
  · rename_i h1
    split at h
    · cases h
    · rename_i h2; simp at h h2; exact ⟨by omega, h2, h⟩
theorem okC_kind {k : Int} {c : ByteArray} {tl kl : Nat} (h : okC k c tl kl = true) : k = 1 ∨ k = 2 ∨ k = 3 ∨ k = 4 ∨ k = 5 := by
  unfold okC at h
  by_cases h1 : k = 1
  · exact .inl h1
  by_cases h2 : k = 2
  · exact .inr (.inl h2)
  by_cases h3 : k = 3
  · exact .inr (.inr (.inl h3))
  by_cases h4 : k = 4
  · exact .inr (.inr (.inr (.inl h4)))
  by_cases h5 : k = 5
  · exact .inr (.inr (.inr (.inr h5)))
  simp [h1, h2, h3, h4, h5] at h
theorem ownF_one {d : Tm} (h : d.kind = 1) : ownF d = if 0 < d.kids.length then d.cons.size + 2 + (d.kids.length - 1) else d.cons.size := by
  unfold ownF ownS; rw [if_neg (by rw [h]; decide), if_neg (by rw [h]; decide), if_neg (by rw [h]; decide), if_pos h]
theorem ownF_two {d : Tm} (h : d.kind = 2) : ownF d = qlen d.text := by unfold ownF; rw [if_pos h]
theorem ownF_three {d : Tm} (h : d.kind = 3) : ownF d = 2 + (d.kids.length - 1) := by
  unfold ownF ownS; rw [if_neg (by rw [h]; decide), if_neg (by rw [h]; decide), if_pos h]
theorem ownF_else {d : Tm} (h : d.kind = 4 ∨ d.kind = 5) : ownF d = 1 := by
  unfold ownF ownS
  rcases h with h | h <;> rw [if_neg (by rw [h]; decide), if_neg (by rw [h]; decide), if_neg (by rw [h]; decide), if_neg (by rw [h]; decide)]
mutual
theorem txt_len : ∀ (d : Tm) (m : Nat), wl d = true → (txt d).length = fsum (pre d m)
  | .mk k c t l, m, h => by
    rw [wl] at h
    simp only [Bool.and_eq_true] at h
    obtain ⟨h1, h2⟩ := h
    have ih := fun b => txtL_len l b (m + 1) h2
    have e : fsum (pre (.mk k c t l) m) = ownF (.mk k c t l) + fsum (preL l (m + 1)) := by rw [pre]; simp [fsum]
    rw [e, txt]
    have ih1 := ih true
    rw [if_pos rfl] at ih1
    rcases okC_kind h1 with rfl | rfl | rfl | rfl | rfl
    · rw [if_neg (by decide), if_neg (by decide), if_neg (by decide), if_neg (by decide), ownF_one rfl]
      show _ = (if 0 < l.length then c.size + 2 + (l.length - 1) else c.size) + _
      have ec : c.data.toList.length = c.size := Array.length_toList
      cases l with
      | nil => rw [if_pos (show ([] : List Tm).isEmpty = true from rfl), if_neg (by simp), List.append_nil, ec]; rfl
      | cons x l =>
        rw [if_neg (by simp), if_pos (by simp)]
        simp only [List.length_append, ec, ih1, List.length_cons, List.length_nil]
        omega
    · have hh := okC_two h1
      have : l = [] := List.eq_nil_of_length_eq_zero hh.2
      subst this
      rw [if_pos rfl, ownF_two rfl]; rfl
    · rw [if_neg (by decide), if_pos rfl, ownF_three rfl]
      show _ = 2 + (l.length - 1) + _
      simp only [List.length_append, ih1, List.length_cons, List.length_nil]
      omega
    · have hh := okC_four h1
      have : l = [] := List.eq_nil_of_length_eq_zero hh.2.2
      subst this
      rw [if_neg (by decide), if_neg (by decide), if_pos rfl, ownF_else (.inl rfl)]; rfl
    · have hh := okC_five h1
      rw [if_neg (by decide), if_neg (by decide), if_neg (by decide), if_pos rfl, ownF_else (.inr rfl)]
      simp only [List.length_append, ih1, List.length_cons, List.length_nil]
      omega
theorem txtL_len : ∀ (l : List Tm) (b : Bool) (m : Nat), wlL l = true → (txtL b l).length = fsum (preL l m) + (if b then l.length - 1 else l.length)
  | [], b, m, h => by simp [txtL, preL, fsum]
  | d :: l, b, m, h => by
    rw [wlL] at h
    simp only [Bool.and_eq_true] at h
    have h1 := txt_len d m h.1
    have h2 := txtL_len l false m h.2
    rw [txtL, preL, fsum_app]
    simp only [List.length_append, h1, h2]
    cases b <;> simp <;> omega
end
theorem fits_txt {d : Tm} (h : wl d = true) : fitsT d = decide ((txt d).length ≤ 65536) := by rw [fits_iff, txt_len d 1 h]
theorem wlL_all (l : List Tm) : wlL l = l.all wl := by
  induction l with
  | nil => rfl
  | cons d l ih => simp [wlL, ih]
theorem wl_kids {d : Tm} (h : wl d = true) : ∀ x ∈ d.kids, wl x = true := by
  rw [wl_eq, wlL_all] at h
  simp only [Bool.and_eq_true, List.all_eq_true] at h
  exact h.2
end Go.Proofs.YtlkcadibjmfmcaaDoor
