/- No word has a byte 10 in it: plain. -/
import Derived.Test.YtbbmjnhbmcbehaaP4
namespace Go.Proofs.Ytbbmjnhbmcbehaa
open Go.RowKit

/-- None of the first n bytes is a byte 10. -/
def no10 (l : List UInt8) (n : Nat) : Prop := ∀ i, i < n → (l.getD i 0).toNat ≠ 10
theorem lspan_no10 {p : Nat → Bool} (hp : p 10 = false) (l : List UInt8) : no10 l (lspan p l) := by
  intro i hi e
  have := lspan_at p l i hi
  rw [e, hp] at this; cases this
theorem sh_not10 : shortq 10 < 0 := by decide +kernel
theorem dig_not10 : dig 10 < 0 := by decide +kernel
theorem rdql_no10 (l : List UInt8) : no10 l (rdql l).2 := by
  intro i hi e
  have s10 := sh_not10
  have d10 := dig_not10
  revert hi
  unfold rdql rdq
  simp only [bt_mk', size_mk']
  split
  · intro h; simp at h
  · rename_i h1
    split
    · rename_i h2
      intro hi
      simp only at hi
      have : i = 0 ∨ i = 1 := by omega
      rcases this with rfl | rfl
      · omega
      · rw [e] at h2; omega
    · split
      · intro h; simp at h
      · rename_i h3
        split
        · intro h; simp at h
        · rename_i h4
          intro hi
          simp only at hi
          have : i = 0 ∨ i = 1 ∨ i = 2 ∨ i = 3 := by omega
          rcases this with rfl | rfl | rfl | rfl
          · omega
          · omega
          · rw [e] at h4; omega
          · rw [e] at h4; omega
theorem no10_cons {c : UInt8} {l : List UInt8} {n : Nat} (hc : c.toNat ≠ 10) (h : no10 l n) : no10 (c :: l) (n + 1) := by
  intro i hi
  cases i with
  | zero => simpa using hc
  | succ i => simpa using h i (by omega)
theorem no10_app {l : List UInt8} {m n : Nat} (h : no10 l m) (h2 : no10 (l.drop m) n) : no10 l (m + n) := by
  intro i hi
  by_cases hlt : i < m
  · exact h i hlt
  · have := h2 (i - m) (by omega)
    rw [List.getD_eq_getElem?_getD, List.getElem?_drop, show m + (i - m) = i by omega, ← List.getD_eq_getElem?_getD] at this
    exact this
theorem quo_no10 : ∀ (f : Nat) (l : List UInt8) (k : Nat) (acc : List Nat), (quo f l k acc).code = 0 → no10 l ((quo f l k acc).fin - k)
  | 0, l, k, acc, h => by simp [quo] at h
  | f + 1, [], k, acc, h => by simp [quo] at h
  | f + 1, c :: l, k, acc, h => by
    have hp := quo_pos _ _ _ _ h
    unfold quo at h hp ⊢
    split at h
    · rename_i h1
      rw [if_pos h1]
      intro i hi
      simp only at hi
      have : i = 0 := by omega
      subst this
      simp only [List.getD_cons_zero]; omega
    · rename_i h1
      rw [if_neg h1] at hp ⊢
      split at h
      · rename_i h2
        rw [if_pos h2] at hp ⊢
        split at h
        · simp at h
        · rename_i h3
          rw [if_neg h3] at hp ⊢
          have h4 := quo_no10 f _ _ _ h
          have h5 := quo_pos _ _ _ _ h
          have := no10_app (rdql_no10 (c :: l)) h4
          rw [show (rdql (c :: l)).2 + ((quo f (List.drop (rdql (c :: l)).2 (c :: l)) (k + (rdql (c :: l)).2) (acc ++ [(rdql (c :: l)).1])).fin - (k + (rdql (c :: l)).2)) = (quo f (List.drop (rdql (c :: l)).2 (c :: l)) (k + (rdql (c :: l)).2) (acc ++ [(rdql (c :: l)).1])).fin - k by omega] at this
          exact this
      · rename_i h2
        rw [if_neg h2] at hp ⊢
        split at h
        · rename_i h3
          rw [if_pos h3] at hp ⊢
          have h4 := quo_no10 f _ _ _ h
          have h5 := quo_pos _ _ _ _ h
          have hc : c.toNat ≠ 10 := by unfold plainq at h3; simp at h3; omega
          have := no10_cons hc h4
          rw [show (quo f l (k + 1) (acc ++ [c.toNat])).fin - (k + 1) + 1 = (quo f l (k + 1) (acc ++ [c.toNat])).fin - k by omega] at this
          exact this
        · simp at h
end Go.Proofs.Ytbbmjnhbmcbehaa
