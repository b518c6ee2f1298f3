/- The document's own reader of a tree's text: a node's number, its kids: plain. -/
import Derived.Test.YtlnlkbkmnkjbhaaDoorN1
namespace Go.Proofs.YtlnlkbkmnkjbhaaDoor
open Go.RowKit

/-- Digits that are read. -/
structure ND (s : ByteArray) (p q n : Nat) : Prop where
  lo : p ≤ q
  hi : q ≤ s.size
  six : q - p ≤ 6
  bnd : n < 10 ^ (q - p)
  eq : rnum s p (8 - (q - p)) q n = rnum s p 8 p 0
  zero : p < q → (n = 0 ↔ bt s p = 48)
section
variable {s : ByteArray} {p q n : Nat}
theorem ND.fuel (h : ND s p q n) : ∃ f, 8 - (q - p) = f + 1 := ⟨7 - (q - p), by have := h.six; omega⟩
theorem ND.at_end (h : ND s p q n) (hs : s.size ≤ q) : rnum s p 8 p 0 = .bad q 14 := by
  rw [← h.eq]
  obtain ⟨f, hf⟩ := h.fuel
  rw [hf, rnum, if_pos hs]
theorem ND.at_stop (h : ND s p q n) (hs : q < s.size) (hd : digq (bt s q) = false) : rnum s p 8 p 0 = .ok n q := by
  rw [← h.eq]
  obtain ⟨f, hf⟩ := h.fuel
  rw [hf, rnum, if_neg (by omega), if_pos hd]
theorem ND.at_bad (h : ND s p q n) (hs : q < s.size) (hd : digq (bt s q) = true) (hb : q - p = 6 ∨ p < q ∧ bt s p = 48) : rnum s p 8 p 0 = .bad q 11 := by
  rw [← h.eq]
  obtain ⟨f, hf⟩ := h.fuel
  rw [hf, rnum, if_neg (by omega), if_neg (by rw [hd]; simp), if_pos]
  rcases hb with hb | ⟨h1, h2⟩
  · exact .inl hb
  · exact .inr ⟨by omega, (h.zero h1).2 h2⟩
theorem ND.next (h : ND s p q n) (hs : q < s.size) (hd : digq (bt s q) = true) (hb : ¬ (q - p = 6 ∨ p < q ∧ bt s p = 48)) : ND s p (q + 1) (10 * n + (bt s q - 48)) := by
  have h6 := h.six
  have hlo := h.lo
  have hbd := h.bnd
  have hb6 : q - p ≠ 6 := fun e => hb (.inl e)
  have hdd : 48 ≤ bt s q ∧ bt s q ≤ 57 := by
    unfold digq at hd; simp only [Bool.and_eq_true, decide_eq_true_eq] at hd; exact hd
  have hz : p < q → n ≠ 0 := fun hlt e => hb (.inr ⟨hlt, (h.zero hlt).1 e⟩)
  refine ⟨by omega, hs, by omega, ?_, ?_, fun _ => ?_⟩
  · rw [show q + 1 - p = (q - p) + 1 by omega, Nat.pow_succ]; omega
  · rw [← h.eq]
    obtain ⟨f, hf⟩ := h.fuel
    rw [hf, show 8 - (q + 1 - p) = f by omega, rnum, if_neg (by omega), if_neg (by rw [hd]; simp), if_neg]
    rintro (e | ⟨e1, e2⟩)
    · exact hb6 e
    · exact hz (by omega) e2
  · by_cases hpq : p = q
    · subst hpq
      have hn0 : n = 0 := by simpa using hbd
      subst hn0
      omega
    · have h1 := hz (by omega)
      have h2 := h.zero (by omega)
      constructor
      · intro e; omega
      · intro e; exact absurd (h2.2 e) h1
theorem ND.start (hp : p ≤ s.size) : ND s p p 0 := ⟨Nat.le_refl _, hp, by omega, by simp, by simp, fun h => absurd h (by omega)⟩
end
/-- What is still to be read of kids: the bracket and all, or what comes behind some of them. -/
def rrest (s : ByteArray) (f q m : Nat) (l : List Tr) (first : Bool) : PR (List Tr) := if first then rkids s f q m else rk s f q m l
theorem rkids_end {s : ByteArray} {f q m : Nat} (h : s.size ≤ q) : rkids s f q m = .bad q 14 := by unfold rkids rwant; rw [if_pos h]
theorem rkids_byte {s : ByteArray} {f q m : Nat} (h : q < s.size) (h1 : bt s q ≠ 40) : rkids s f q m = .bad q 11 := by unfold rkids rwant; rw [if_neg (by omega), if_neg h1]
theorem rkids_none {s : ByteArray} {f q m : Nat} (h : q + 1 < s.size) (h1 : bt s q = 40) (h2 : bt s (q + 1) = 41) : rkids s (f + 1) q m = .ok [] (q + 2) := by
  unfold rkids rwant
  rw [if_neg (by omega), if_pos h1]
  show rk s (f + 1) (q + 1) m [] = _
  rw [rk, if_neg (by omega), if_pos h2]
theorem rkids_one {s : ByteArray} {f q m : Nat} (h : q < s.size) (h1 : bt s q = 40) (h2 : ¬ (q + 1 < s.size ∧ bt s (q + 1) = 41)) : rkids s (f + 2) q m = match rt s (f + 1) (q + 1) m with | .bad q c => .bad q c | .ok d q => rk s (f + 1) q m [d] := by
  unfold rkids rwant
  rw [if_neg (by omega), if_pos h1]
  show rk s (f + 2) (q + 1) m [] = _
  by_cases he : s.size ≤ q + 1
  · rw [rk, if_pos he, rt, if_pos he]
  · rw [rk, if_neg he, if_neg (fun e => h2 ⟨by omega, e⟩), if_pos rfl]
    rfl
theorem rk_end {s : ByteArray} {f q m : Nat} {l : List Tr} (h : s.size ≤ q) : rk s (f + 1) q m l = .bad q 14 := by rw [rk, if_pos h]
theorem rk_close {s : ByteArray} {f q m : Nat} {l : List Tr} (h : q < s.size) (h1 : bt s q = 41) : rk s (f + 1) q m l = .ok l (q + 1) := by rw [rk, if_neg (by omega), if_pos h1]
theorem rk_byte {s : ByteArray} {f q m : Nat} {l : List Tr} (hl : l ≠ []) (h : q < s.size) (h1 : bt s q ≠ 41) (h2 : bt s q ≠ 32) : rk s (f + 1) q m l = .bad q 11 := by
  rw [rk, if_neg (by omega), if_neg h1, if_neg hl]
  unfold rwant
  rw [if_neg (by omega), if_neg h2]
theorem rk_one {s : ByteArray} {f q m : Nat} {l : List Tr} (hl : l ≠ []) (h : q < s.size) (h1 : bt s q = 32) : rk s (f + 1) q m l = match rt s f (q + 1) m with | .bad q c => .bad q c | .ok d q => rk s f q m (l ++ [d]) := by
  rw [rk, if_neg (by omega), if_neg (by omega), if_neg hl]
  unfold rwant
  rw [if_neg (by omega), if_pos h1]
  rfl
end Go.Proofs.YtlnlkbkmnkjbhaaDoor
