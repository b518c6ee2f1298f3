/- Plain facts: the runs that are collected byte by byte are those that go from a first byte to a last one. -/
import Derived.Test.YtpjnohpjdmgglaaR6
namespace Go.Proofs.Ytpjnohpjdmgglaa

theorem ext_ge (s : St) : ∀ f k, k ≤ ext s f k
  | 0, _ => Nat.le_refl _
  | f + 1, k => by
    unfold ext; split
    · have := ext_ge s f (k + 1); omega
    · exact Nat.le_refl _
theorem ext_le (s : St) : ∀ f k, ext s f k ≤ k + f
  | 0, _ => Nat.le_refl _
  | f + 1, k => by
    unfold ext; split
    · have := ext_le s f (k + 1); omega
    · omega
theorem ext_has (s : St) : ∀ f k m, k < m → m ≤ ext s f k → s.has m = true
  | 0, k, m, h1, h2 => by unfold ext at h2; omega
  | f + 1, k, m, h1, h2 => by
    unfold ext at h2
    split at h2
    · next hh =>
      by_cases e : m = k + 1
      · subst e; exact hh
      · exact ext_has s f (k + 1) m (by omega) h2
    · omega
theorem ext_max (s : St) : ∀ f k, ext s f k < k + f → s.has (ext s f k + 1) = false
  | 0, k, h => by unfold ext at h; omega
  | f + 1, k, h => by
    unfold ext at h ⊢
    split at h
    · next hh => rw [if_pos hh]; exact ext_max s f (k + 1) (by omega)
    · next hh => rw [if_neg hh]; simpa using hh

theorem ref_mem (s : St) : ∀ k, ∀ p ∈ refTo s k, p.1 < k ∧ p.2 = ext s (255 - p.1) p.1
  | 0, p, hp => by simp [refTo] at hp
  | k + 1, p, hp => by
    unfold refTo at hp
    split at hp
    · rcases List.mem_append.1 hp with h | h
      · have := ref_mem s k p h; exact ⟨by omega, this.2⟩
      · simp at h; subst h; exact ⟨by simp, rfl⟩
    · have := ref_mem s k p hp; exact ⟨by omega, this.2⟩
def QQ (s : St) (k : Nat) : Prop :=
  (prevB s k = true ∧ ∃ init lo E, refTo s k = init ++ [(lo, E)] ∧ k ≤ E + 1 ∧ ∀ p ∈ init, p.2 + 1 < k) ∨ (prevB s k = false ∧ ∀ p ∈ refTo s k, p.2 + 1 < k)
theorem prev_succ (s : St) (k : Nat) : prevB s (k + 1) = s.has k := by simp [prevB]
theorem ref_no (s : St) (k : Nat) (h : s.has k = false) : refTo s (k + 1) = refTo s k := by simp [refTo, h]
theorem ref_on (s : St) (k : Nat) (h : prevB s k = true) : refTo s (k + 1) = refTo s k := by simp [refTo, h]
theorem ref_new (s : St) (k : Nat) (h : s.has k = true) (h' : prevB s k = false) : refTo s (k + 1) = refTo s k ++ [(k, ext s (255 - k) k)] := by simp [refTo, h, h']
theorem qq (s : St) : ∀ k, k ≤ 256 → QQ s k
  | 0, _ => .inr ⟨by simp [prevB], fun p hp => by simp [refTo] at hp⟩
  | k + 1, hk => by
    have ih := qq s k (by omega)
    cases hh : s.has k with
    | false =>
      refine .inr ⟨by rw [prev_succ, hh], fun p hp => ?_⟩
      rw [ref_no s k hh] at hp
      obtain ⟨m1, m2⟩ := ref_mem s k p hp
      rcases Nat.lt_or_ge p.2 k with h | h
      · omega
      · have := ext_has s (255 - p.1) p.1 k m1 (by rw [← m2]; exact h)
        rw [hh] at this; cases this
    | true =>
      refine .inl ⟨by rw [prev_succ, hh], ?_⟩
      rcases ih with ⟨hp, init, lo, E, he, hE, hi⟩ | ⟨hp, hi⟩
      · rw [ref_on s k hp]
        refine ⟨init, lo, E, he, ?_, fun p h => by have := hi p h; omega⟩
        obtain ⟨m1, m2⟩ := ref_mem s k (lo, E) (by rw [he]; simp)
        simp only at m1 m2
        rcases Nat.lt_or_ge E k with h | h
        · exfalso
          have e : E + 1 = k := by omega
          have := ext_max s (255 - lo) lo (by rw [← m2]; omega)
          rw [← m2, e, hh] at this; cases this
        · omega
      · rw [ref_new s k hh hp]
        exact ⟨refTo s k, k, ext s (255 - k) k, rfl, by have := ext_ge s (255 - k) k; omega, fun p h => by have := hi p h; omega⟩
theorem map_min {l : List (Nat × Nat)} {a b : Nat} (h : ∀ p ∈ l, p.2 ≤ a ∧ p.2 ≤ b) : l.map (fun p => (p.1, min p.2 a)) = l.map (fun p => (p.1, min p.2 b)) := by
  apply List.map_congr_left
  intro p hp
  have := h p hp
  rw [Nat.min_eq_left this.1, Nat.min_eq_left this.2]
theorem runs_ref (s : St) : ∀ k, k ≤ 256 → runsOf (upTo s k) = (refTo s k).map (fun p => (p.1, min p.2 (k - 1)))
  | 0, _ => by simp [upTo, runsOf, refTo]
  | k + 1, hk => by
    have ih := runs_ref s k (by omega)
    have hv : (Fin.ofNat 256 k).val = k := by simp [Fin.ofNat]; omega
    have q0 := qq s k (by omega)
    rw [Nat.add_sub_cancel]
    cases hh : s.has k with
    | false =>
      rw [upTo_no hh, ref_no s k hh, ih]
      apply map_min
      intro p hp
      have q1 := qq s (k + 1) hk
      rcases q1 with ⟨h, _⟩ | ⟨_, h⟩
      · rw [prev_succ, hh] at h; cases h
      · rw [ref_no s k hh] at h
        have := h p hp; omega
    | true =>
      rw [upTo_yes hh, runsOf_snoc, hv, ih]
      rcases q0 with ⟨hp, init, lo, E, he, hE, hi⟩ | ⟨hp, hi⟩
      · rw [ref_on s k hp, he, List.map_append, List.map_append, List.map_singleton, List.map_singleton]
        have hk0 : 0 < k := by
          rcases Nat.eq_zero_or_pos k with h | h
          · subst h; simp [prevB] at hp
          · exact h
        have hEk : k ≤ E := by
          rcases qq s (k + 1) hk with ⟨_, init', lo', E', he', hE', _⟩ | ⟨h, _⟩
          · rw [ref_on s k hp, he] at he'
            have := List.append_inj_right' he' rfl
            simp at this
            omega
          · rw [prev_succ, hh] at h; cases h
        rw [Nat.min_eq_right (by omega : k - 1 ≤ E), Nat.min_eq_right hEk, runStep_on _ _ _ _ (by omega)]
        congr 1
        apply map_min
        intro p h
        have := hi p h; omega
      · rw [ref_new s k hh hp, List.map_append, List.map_singleton, Nat.min_eq_right (ext_ge s _ k)]
        have hm : (refTo s k).map (fun p => (p.1, min p.2 (k - 1))) = (refTo s k).map (fun p => (p.1, min p.2 k)) := map_min (fun p h => by have := hi p h; omega)
        rw [← hm]
        rcases List.eq_nil_or_concat (refTo s k) with h | ⟨l, ⟨a, b⟩, h⟩
        · rw [h]; rfl
        · rw [List.concat_eq_append] at h
          rw [h, List.map_append, List.map_singleton]
          have := hi (a, b) (by rw [h]; simp)
          simp only at this
          rw [runStep_off _ _ _ _ (by rw [Nat.min_eq_left (by omega)]; omega)]
theorem runs_eq (s : St) : refTo s 256 = runsOf (upTo s 256) := by
  rw [runs_ref s 256 (Nat.le_refl _)]
  symm
  have : ∀ p ∈ refTo s 256, (p.1, min p.2 (256 - 1)) = p := by
    intro p hp
    obtain ⟨m1, m2⟩ := ref_mem s 256 p hp
    have := ext_le s (255 - p.1) p.1
    rw [Nat.min_eq_left (by omega)]
  rw [List.map_congr_left this]; simp

end Go.Proofs.Ytpjnohpjdmgglaa
