/- No word has a byte 10 in it: sets, and every word: plain. -/
import Derived.Test.YtbbmjnhbmcbehaaU1
namespace Go.Proofs.Ytbbmjnhbmcbehaa
open Go.RowKit

theorem bt_ext (x : ByteArray) (i j : Nat) : bt (x.extract i x.size) j = bt x (i + j) := by
  rw [bt_list, bt_list, extract_post, List.getD_eq_getElem?_getD, List.getElem?_drop, ← List.getD_eq_getElem?_getD]
theorem shs_not10 : short 10 < 0 := by decide +kernel
theorem plain_not10 : plain 10 = false := by decide +kernel
theorem rdr_no10 (y : ByteArray) (j : Nat) (hj : j < (rdr y).2) : bt y j ≠ 10 := by
  intro e
  have s10 := shs_not10
  have d10 := dig_not10
  revert hj
  unfold rdr
  split
  · intro h; simp at h
  · rename_i h1
    split
    · rename_i h2
      intro hj
      simp only at hj
      have : j = 0 ∨ j = 1 := by omega
      rcases this with rfl | rfl
      · omega
      · rw [e] at h2; omega
    · split
      · intro h; simp at h
      · rename_i h3
        split
        · intro h; simp at h
        · rename_i h4
          intro hj
          simp only at hj
          have : j = 0 ∨ j = 1 ∨ j = 2 ∨ j = 3 := by omega
          rcases this with rfl | rfl | rfl | rfl
          · omega
          · omega
          · rw [e] at h4; omega
          · rw [e] at h4; omega
theorem sgn_no10 (x : ByteArray) (i : Nat) (h : (sgn x i).2.2.2 = 0) (j : Nat) (h1 : i ≤ j) (h2 : j < (sgn x i).2.1) : bt x j ≠ 10 := by
  revert h h2
  unfold sgn
  split
  · intro h; simp at h
  · split
    · split
      · intro h; simp at h
      · intro _ h2
        simp only at h2
        have := rdr_no10 (x.extract i x.size) (j - i) (by omega)
        rw [bt_ext, show i + (j - i) = j by omega] at this
        exact this
    · split
      · rename_i h3
        intro _ h2
        simp only at h2
        obtain rfl : j = i := by omega
        intro e
        rw [e, plain_not10] at h3; cases h3
      · intro h; simp at h
theorem itm_no10 (x : ByteArray) (i : Nat) (h : (itm x i).2.2.2 = 0) (j : Nat) (h1 : i ≤ j) (h2 : j < (itm x i).2.1) : bt x j ≠ 10 := by
  revert h h2
  unfold itm
  split
  · rename_i h3; intro h; exact absurd h h3
  · rename_i h3
    have h3' : (sgn x i).2.2.2 = 0 := by simpa using h3
    split
    · intro _ h2
      exact sgn_no10 x i h3' j h1 h2
    · rename_i h4
      split
      · rename_i h5; intro h; exact absurd h h5
      · rename_i h5
        have h5' : (sgn x ((sgn x i).2.1 + 1)).2.2.2 = 0 := by simpa using h5
        split
        · intro h; simp at h
        · intro _ h2
          simp only at h2
          rcases Nat.lt_trichotomy j (sgn x i).2.1 with hlt | heq | hgt
          · exact sgn_no10 x i h3' j h1 hlt
          · rw [heq]; omega
          · exact sgn_no10 x _ h5' j (by omega) h2
theorem items_no10 (x : ByteArray) : ∀ (m i : Nat) (s : St), (items x m i s).2.2.2 = 0 → bt x (items x m i s).2.1 = 93 ∧ ∀ j, i ≤ j → j < (items x m i s).2.1 → bt x j ≠ 10
  | 0, i, s, h => by simp [items] at h
  | m + 1, i, s, h => by
    have ih := items_no10 x m (itm x i).2.1 (s.or (itm x i).1)
    have hno := itm_no10 x i
    unfold items at h ⊢
    split at h
    · simp at h
    · rename_i h1
      rw [if_neg h1]
      split at h
      · rename_i h2
        rw [if_pos h2]
        exact ⟨h2, fun j a b => by simp only at b; omega⟩
      · rename_i h2
        rw [if_neg h2]
        split at h
        · rename_i h3; exact absurd h h3
        · rename_i h3
          rw [if_neg h3]
          obtain ⟨a, b⟩ := ih h
          refine ⟨a, fun j h4 h5 => ?_⟩
          by_cases hlt : j < (itm x i).2.1
          · exact hno (by simpa using h3) j h4 hlt
          · exact b j (by omega) h5
theorem prs_no10 (x : ByteArray) (h : (prs x).2.2 = 0) (j : Nat) (hj : j < x.size) : bt x j ≠ 10 := by
  have key : ∀ tr i, (prsB x tr (items x (x.size + 1) i St.zero)).2.2 = 0 → i ≤ j → bt x j ≠ 10 := by
    intro tr i hc hij
    have hno := items_no10 x (x.size + 1) i St.zero
    unfold prsB at hc
    split at hc
    · rename_i h1; exact absurd hc h1
    · rename_i h1
      split at hc
      · simp at hc
      · rename_i h2
        obtain ⟨a, b⟩ := hno (by simpa using h1)
        by_cases hlt : j < (items x (x.size + 1) i St.zero).2.1
        · exact b j hij hlt
        · have : j = (items x (x.size + 1) i St.zero).2.1 := by omega
          rw [this, a]; decide
  unfold prs at h
  split at h
  · simp at h
  · split at h
    · simp at h
    · rename_i h0
      have h0' : 0 < x.size ∧ bt x 0 = 91 := by simpa using h0
      split at h
      · rename_i h1
        rcases Nat.lt_or_ge j 2 with hl | hl
        · have : j = 0 ∨ j = 1 := by omega
          rcases this with rfl | rfl <;> omega
        · exact key true 2 h hl
      · rcases Nat.lt_or_ge j 1 with hl | hl
        · obtain rfl : j = 0 := by omega
          omega
        · exact key false 1 h hl
theorem rdw_no10 (r : List UInt8) (h : (rdw r).code = 0) : no10 r (rdw r).len := by
  cases r with
  | nil => intro i hi; simp [rdw, RW.plain] at hi
  | cons c l =>
    rw [rdw_cons] at h ⊢
    by_cases hg : great c.toNat = true
    · rw [if_pos hg] at h ⊢
      unfold rdLet at h ⊢
      split at h
      · simp [RW.fault] at h
      · rename_i h1; rw [if_neg h1]; exact lspan_no10 (by decide) _
    rw [if_neg hg] at h ⊢
    by_cases hs : small c.toNat = true
    · rw [if_pos hs] at h ⊢
      unfold rdLet at h ⊢
      split at h
      · simp [RW.fault] at h
      · rename_i h1; rw [if_neg h1]; exact lspan_no10 (by decide) _
    rw [if_neg hs] at h ⊢
    by_cases hd : digB c.toNat = true
    · rw [if_pos hd] at h ⊢
      unfold rdNum at h ⊢
      split at h
      · simp [RW.fault] at h
      · rename_i h1; rw [if_neg h1]; exact lspan_no10 (by decide) _
    rw [if_neg hd] at h ⊢
    by_cases h34 : c.toNat = 34
    · rw [if_pos h34] at h ⊢
      unfold rdText at h ⊢
      split at h
      · rename_i h1
        rw [if_pos h1]
        have h2 : no10 l ((quo (c :: l).length l 1 []).fin - 1) := quo_no10 _ _ _ _ h1
        have h3 := quo_pos _ _ _ _ h1
        have := no10_cons (c := c) (by omega) h2
        show no10 (c :: l) (quo (c :: l).length l 1 []).fin
        have h3' : 1 < (quo (c :: l).length l 1 []).fin := h3
        rw [show (quo (c :: l).length l 1 []).fin - 1 + 1 = (quo (c :: l).length l 1 []).fin by omega] at this
        exact this
      · rename_i h1; exact absurd h h1
    rw [if_neg h34] at h ⊢
    by_cases h91 : c.toNat = 91
    · rw [if_pos h91] at h ⊢
      unfold rdSet at h ⊢
      split at h
      · simp [RW.fault] at h
      · rename_i h1
        rw [if_neg h1]
        split at h
        · rename_i h2
          rw [if_pos h2]
          intro i hi
          simp only at hi
          have hle := clo_le ((c :: l).drop 1) 1
          have h3 := prs_no10 _ h2 i (by
            show i < ((c :: l).take (clo ((c :: l).drop 1) 1)).length
            rw [List.length_take]
            simp only [List.drop_succ_cons, List.drop_zero, List.length_cons] at *; omega)
          rw [bt_mk', List.getD_eq_getElem?_getD, List.getElem?_take, if_pos hi, ← List.getD_eq_getElem?_getD] at h3
          exact h3
        · rename_i h2; exact absurd h h2
    rw [if_neg h91] at h ⊢
    by_cases hsg : signB c.toNat = true
    · rw [if_pos hsg]
      intro i hi
      have : i = 0 := by simp [RW.plain] at hi; exact hi
      subst this
      intro e
      simp only [List.getD_cons_zero] at e
      rw [e] at hsg
      exact absurd hsg (by decide +kernel)
    · rw [if_neg hsg] at h; simp [RW.fault] at h
end Go.Proofs.Ytbbmjnhbmcbehaa
