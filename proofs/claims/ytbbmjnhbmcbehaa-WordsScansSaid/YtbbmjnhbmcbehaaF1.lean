/- Where a fault of a set, of a text or of a word can lie. -/
import Derived.Test.YtbbmjnhbmcbehaaN14
namespace Go.Proofs.Ytbbmjnhbmcbehaa
open Go.RowKit

theorem sgn_fat (x : ByteArray) (i : Nat) : (sgn x i).2.2.1 ≤ x.size := by
  by_cases h : (sgn x i).2.2.2 = 0
  · rw [((sgn_ok x i).2 h).2.2]; exact Nat.zero_le _
  · exact (sgn_bad x i h).1
theorem itm_fat (x : ByteArray) (i : Nat) (hi : i ≤ x.size) : (itm x i).2.2.1 ≤ x.size := by
  have h1 := sgn_fat x i
  have h2 := sgn_fat x ((sgn x i).2.1 + 1)
  have h3 := (sgn_ok x i).2
  unfold itm
  repeat' split
  all_goals (simp only; omega)
theorem items_fat (x : ByteArray) : ∀ (m i : Nat) (s : St), i ≤ x.size → (items x m i s).2.2.1 ≤ x.size
  | 0, i, s, h => by simp [items]
  | m + 1, i, s, h => by
    unfold items
    have h1 := itm_fat x i h
    have h2 := (itm_ok x i).2
    repeat' split
    · simp only; omega
    · simp only; omega
    · simp only; omega
    · rename_i h3
      exact items_fat x m _ _ (h2 (by omega)).2.1
theorem prs_fat (x : ByteArray) : (prs x).2.1 ≤ x.size := by
  have key : ∀ tr i, i ≤ x.size → (prsB x tr (items x (x.size + 1) i St.zero)).2.1 ≤ x.size := by
    intro tr i hi
    have h := items_fat x (x.size + 1) i St.zero hi
    unfold prsB
    split
    · exact h
    · split
      · simp only; omega
      · exact Nat.zero_le _
  unfold prs
  split
  · exact Nat.zero_le _
  · split
    · exact Nat.zero_le _
    · rename_i h0
      split
      · exact key true 2 (by omega)
      · exact key false 1 (by omega)
theorem quo_fat : ∀ (f : Nat) (l : List UInt8) (k : Nat) (acc : List Nat), (quo f l k acc).fat ≤ k + l.length
  | 0, l, k, acc => by simp [quo]
  | f + 1, [], k, acc => by simp [quo]
  | f + 1, c :: l, k, acc => by
    have h5 : (rdql (c :: l)).2 ≤ (c :: l).length := rdq_le ⟨(c :: l).toArray⟩
    have h1 := quo_fat f ((c :: l).drop (rdql (c :: l)).2) (k + (rdql (c :: l)).2) (acc ++ [(rdql (c :: l)).1])
    have h2 := quo_fat f l (k + 1) (acc ++ [c.toNat])
    rw [List.length_drop] at h1
    simp only [List.length_cons] at *
    unfold quo
    repeat' split
    all_goals (first | (simp only; omega) | omega)
theorem rdw_fat (r : List UInt8) : (rdw r).fat ≤ r.length := by
  cases r with
  | nil => exact Nat.le_refl _
  | cons c l =>
    rw [rdw_cons]
    split
    · unfold rdLet; split <;> exact Nat.zero_le _
    · split
      · unfold rdLet; split <;> exact Nat.zero_le _
      · split
        · unfold rdNum; split <;> exact Nat.zero_le _
        · split
          · unfold rdText
            split
            · exact Nat.zero_le _
            · have := quo_fat (c :: l).length l 1 []
              show (quo _ _ _ _).fat ≤ _
              simp only [List.drop_succ_cons, List.drop_zero, List.length_cons] at *; omega
          · split
            · unfold rdSet
              have h3 := clo_le ((c :: l).drop 1) 1
              split
              · exact Nat.zero_le _
              · split
                · exact Nat.zero_le _
                · have h4 := prs_fat ⟨((c :: l).take (clo ((c :: l).drop 1) 1)).toArray⟩
                  have h5 : (⟨((c :: l).take (clo ((c :: l).drop 1) 1)).toArray⟩ : ByteArray).size = ((c :: l).take (clo ((c :: l).drop 1) 1)).length := rfl
                  rw [h5, List.length_take] at h4
                  show (prs _).2.1 ≤ _
                  omega
            · split <;> exact Nat.zero_le _
end Go.Proofs.Ytbbmjnhbmcbehaa
