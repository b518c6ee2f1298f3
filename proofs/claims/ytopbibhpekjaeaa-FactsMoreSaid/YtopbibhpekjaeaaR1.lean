/- What is so by trees of some height, and that the nonterminals' number of rounds is enough: no program in it. -/
import Derived.Test.YtopbibhpekjaeaaC0
namespace Go.Proofs.Ytopbibhpekjaeaa

def rnd (N : Nat) (rs : List Rl) (p : St → Bool) (so : List Bool) : Nat → List Bool
  | 0 => List.replicate N false
  | k + 1 => if (rhsAt rs k).all (symSo p so) then (rnd N rs p so k).set (lhsAt rs k).toNat true else rnd N rs p so k
def itr (N : Nat) (rs : List Rl) (p : St → Bool) : Nat → List Bool
  | 0 => List.replicate N false
  | i + 1 => rnd N rs p (itr N rs p i) rs.length
theorem rnd_len (N : Nat) (rs : List Rl) (p : St → Bool) (so : List Bool) : ∀ k, (rnd N rs p so k).length = N
  | 0 => by simp [rnd]
  | k + 1 => by
    have := rnd_len N rs p so k
    rw [rnd]; split <;> simp [this]
theorem itr_len (N : Nat) (rs : List Rl) (p : St → Bool) : ∀ i, (itr N rs p i).length = N
  | 0 => by simp [itr]
  | i + 1 => rnd_len _ _ _ _ _
theorem rnd_mem {N : Nat} {rs : List Rl} {p : St → Bool} {so : List Bool} {n : Nat} : ∀ k, k ≤ rs.length → ((rnd N rs p so k).getD n false = true ↔ n < N ∧ ∃ i, i < k ∧ ∃ r, rs[i]? = some r ∧ r.lhs.toNat = n ∧ r.rhs.all (symSo p so) = true)
  | 0, _ => by
    simp only [rnd]
    constructor
    · intro h
      rw [List.getD_eq_getElem?_getD, List.getElem?_replicate] at h
      split at h <;> simp at h
    · rintro ⟨_, i, hi, _⟩; omega
  | k + 1, hk => by
    have ih := rnd_mem (N := N) (rs := rs) (p := p) (so := so) (n := n) k (by omega)
    have hl := rnd_len N rs p so k
    obtain ⟨r, hr⟩ : ∃ r, rs[k]? = some r := ⟨rs[k], by simp⟩
    have e1 : rhsAt rs k = r.rhs := by unfold rhsAt; rw [hr]
    have e2 : lhsAt rs k = r.lhs := by unfold lhsAt; rw [hr]
    rw [rnd, e1, e2]
    by_cases ha : r.rhs.all (symSo p so) = true
    · rw [if_pos ha, getD_set_true]
      by_cases hc : n = r.lhs.toNat ∧ r.lhs.toNat < (rnd N rs p so k).length
      · rw [if_pos hc]
        exact ⟨fun _ => ⟨by omega, k, by omega, r, hr, hc.1.symm, ha⟩, fun _ => rfl⟩
      · rw [if_neg hc, ih]
        constructor
        · rintro ⟨h1, i, hi, h2⟩; exact ⟨h1, i, by omega, h2⟩
        · rintro ⟨h1, i, hi, q, hq, h2, h3⟩
          by_cases e : i = k
          · subst e
            rw [hr] at hq
            obtain rfl := Option.some.inj hq
            exact absurd ⟨h2.symm, by omega⟩ hc
          · exact ⟨h1, i, by omega, q, hq, h2, h3⟩
    · rw [if_neg ha, ih]
      constructor
      · rintro ⟨h1, i, hi, h2⟩; exact ⟨h1, i, by omega, h2⟩
      · rintro ⟨h1, i, hi, q, hq, h2, h3⟩
        by_cases e : i = k
        · subst e
          rw [hr] at hq
          obtain rfl := Option.some.inj hq
          exact absurd h3 ha
        · exact ⟨h1, i, by omega, q, hq, h2, h3⟩
theorem itr_mem {N : Nat} {rs : List Rl} {p : St → Bool} {n i : Nat} : (itr N rs p (i + 1)).getD n false = true ↔ n < N ∧ ∃ r ∈ rs, r.lhs.toNat = n ∧ r.rhs.all (symSo p (itr N rs p i)) = true := by
  rw [itr, rnd_mem _ (Nat.le_refl _)]
  constructor
  · rintro ⟨h1, i, _, r, hr, h2⟩; exact ⟨h1, r, List.mem_of_getElem? hr, h2⟩
  · rintro ⟨h1, r, hr, h2⟩
    obtain ⟨i, hi⟩ := List.mem_iff_getElem?.1 hr
    exact ⟨h1, i, (List.getElem?_eq_some_iff.1 hi).1, r, hi, h2⟩
theorem symSo_mono {p : St → Bool} {a b : List Bool} (h : ∀ n, a.getD n false = true → b.getD n false = true) {s : Ks} (hs : symSo p a s = true) : symSo p b s = true := by
  unfold symSo at *
  split
  · rename_i hn; rw [if_pos hn] at hs; exact hs
  · rename_i hn; rw [if_neg hn] at hs; exact h _ hs
theorem itr_up {N : Nat} {rs : List Rl} {p : St → Bool} : ∀ i n, (itr N rs p i).getD n false = true → (itr N rs p (i + 1)).getD n false = true
  | 0, n, h => by
    simp only [itr] at h
    rw [List.getD_eq_getElem?_getD, List.getElem?_replicate] at h
    split at h <;> simp at h
  | i + 1, n, h => by
    obtain ⟨h1, r, hr, h2, h3⟩ := itr_mem.1 h
    exact itr_mem.2 ⟨h1, r, hr, h2, List.all_eq_true.2 fun s hs => symSo_mono (itr_up i) (List.all_eq_true.1 h3 s hs)⟩
theorem itr_sound {N : Nat} {rs : List Rl} {p : St → Bool} (h0 : ∀ r ∈ rs, 0 ≤ r.lhs) : ∀ i n, (itr N rs p i).getD n false = true → Lf rs p n
  | 0, n, h => by
    simp only [itr] at h
    rw [List.getD_eq_getElem?_getD, List.getElem?_replicate] at h
    split at h <;> simp at h
  | i + 1, n, h => by
    obtain ⟨_, r, hr, h2, h3⟩ := itr_mem.1 h
    have := h0 r hr
    refine ⟨r, hr, by omega, lfs_of_all _ fun s hs => ?_⟩
    have h1 := List.all_eq_true.1 h3 s hs
    unfold symSo at h1
    split at h1
    · rename_i hn; exact .inl ⟨hn, h1⟩
    · rename_i hn; exact .inr ⟨by omega, itr_sound h0 i _ h1⟩
theorem count_up : ∀ {a b : List Bool}, a.length = b.length → (∀ n, a.getD n false = true → b.getD n false = true) → a ≠ b → a.count true < b.count true
  | [], [], _, _, h => absurd rfl h
  | x :: a, y :: b, hl, hm, hn => by
    have hl' : a.length = b.length := by simpa using hl
    have hm' : ∀ n, a.getD n false = true → b.getD n false = true := fun n h => by simpa using hm (n + 1) (by simpa using h)
    have h0 : x = true → y = true := fun h => by simpa using hm 0 (by simpa using h)
    have hle : a.count true ≤ b.count true := by
      by_cases e : a = b
      · rw [e]; exact Nat.le_refl _
      · exact Nat.le_of_lt (count_up hl' hm' e)
    by_cases e : a = b
    · subst e
      cases x <;> cases y <;> simp at hn h0 ⊢
    · have := count_up hl' hm' e
      cases x <;> cases y <;> simp at h0 ⊢ <;> omega
theorem itr_still {N : Nat} {rs : List Rl} {p : St → Bool} {j : Nat} (h : itr N rs p j = itr N rs p (j + 1)) : ∀ d, itr N rs p (j + d) = itr N rs p j
  | 0 => rfl
  | d + 1 => by
    have ih := itr_still h d
    rw [show j + (d + 1) = (j + d) + 1 from rfl, itr, ih]
    rw [itr] at h; exact h.symm
theorem itr_grow {N : Nat} {rs : List Rl} {p : St → Bool} : ∀ i, (∃ j, j < i ∧ itr N rs p j = itr N rs p (j + 1)) ∨ i ≤ (itr N rs p i).count true
  | 0 => .inr (Nat.zero_le _)
  | i + 1 => by
    rcases itr_grow (N := N) (rs := rs) (p := p) i with ⟨j, hj, h⟩ | h
    · exact .inl ⟨j, by omega, h⟩
    · by_cases e : itr N rs p i = itr N rs p (i + 1)
      · exact .inl ⟨i, by omega, e⟩
      · have := count_up (by rw [itr_len, itr_len]) (itr_up i) e
        exact .inr (by omega)
theorem all_true : ∀ {l : List Bool}, l.length ≤ l.count true → ∀ n, n < l.length → l.getD n false = true
  | [], _, n, h => by simp at h
  | x :: l, hc, n, hn => by
    have hle := List.count_le_length (a := true) (l := l)
    cases x
    · simp at hc; omega
    · simp at hc
      cases n with
      | zero => rfl
      | succ n => simpa using all_true hc n (by simpa using hn)
theorem itr_done {N : Nat} {rs : List Rl} {p : St → Bool} (h0 : ∀ r ∈ rs, 0 ≤ r.lhs ∧ r.lhs < (N : Int)) (n : Nat) : (itr N rs p N).getD n false = true ↔ Lf rs p n := by
  refine ⟨itr_sound (fun r hr => (h0 r hr).1) N n, fun h => ?_⟩
  obtain ⟨r, hr, he, hs⟩ := h
  have hb := h0 r hr
  rcases itr_grow (N := N) (rs := rs) (p := p) N with ⟨j, hj, h⟩ | h
  · have e : itr N rs p N = itr N rs p j := by
      have := itr_still h (N - j)
      rwa [show j + (N - j) = N by omega] at this
    have hc : ∀ r ∈ rs, (∀ s ∈ r.rhs, symSo p (itr N rs p j) s = true) → (itr N rs p j).getD r.lhs.toNat false = true := fun r hr ha => by
      have hb := h0 r hr
      rw [h]
      exact itr_mem.2 ⟨by omega, r, hr, rfl, List.all_eq_true.2 ha⟩
    have := hc r hr (lfs_closed hc hs)
    rw [e]
    rw [he] at this; simpa using this
  · exact all_true (by rw [itr_len]; exact h) n (by rw [itr_len]; omega)
end Go.Proofs.Ytopbibhpekjaeaa
