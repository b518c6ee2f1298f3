/- The document's sign and the program's are the same: plain facts. -/
import Derived.Test.YtbbmjnhbmcbehaaK1
import Derived.Test.YtbbmjnhbmcbehaaY2
namespace Go.Proofs.Ytbbmjnhbmcbehaa

theorem rdr_ext (x : ByteArray) (i : Nat) (h : i < x.size) (hb : bt x i = 92) : rdr (x.extract i x.size) = rdrI x i := by
  unfold rdr rdrI
  rw [ext_size]
  by_cases h1 : x.size < i + 2
  · rw [if_pos (Or.inl (by omega)), if_pos h1]
  · rw [if_neg h1, bt_ext x i 0 (by omega), bt_ext x i 1 (by omega), Nat.add_zero, hb, if_neg (by omega)]
    by_cases h2 : 0 ≤ short (bt x (i + 1))
    · rw [if_pos h2, if_pos h2]
    · rw [if_neg h2, if_neg h2]
      by_cases h3 : x.size < i + 4
      · rw [if_pos (Or.inl (by omega)), if_pos (Or.inl h3)]
      · rw [bt_ext x i 2 (by omega), bt_ext x i 3 (by omega)]
        by_cases h4 : bt x (i + 1) = 120
        · rw [if_neg (show ¬(x.size - i < 4 ∨ bt x (i + 1) ≠ 120) by omega), if_neg (show ¬(x.size < i + 4 ∨ bt x (i + 1) ≠ 120) by omega)]
        · rw [if_pos (Or.inr h4), if_pos (Or.inr h4)]
theorem sgn_rone (x : ByteArray) (i : Nat) (h : i ≤ x.size) : sgn x i = if (rone x i).2.2 = 0 then ((rone x i).1, i + (rone x i).2.1, 0, 0) else (0, 0, i, (rone x i).2.2) := by
  unfold sgn rone
  by_cases h1 : x.size ≤ i
  · have : x.size = i := by omega
    rw [if_pos h1, if_pos h1]; simp [this]
  · rw [if_neg h1, if_neg h1]
    by_cases h2 : bt x i = 92
    · rw [if_pos h2, if_pos h2, rdr_ext x i (by omega) h2]
      by_cases h3 : (rdrI x i).2 = 0
      · rw [if_pos h3, if_pos h3]; simp
      · rw [if_neg h3, if_neg h3]; simp
    · rw [if_neg h2, if_neg h2]
      by_cases h3 : plain (bt x i)
      · rw [if_pos h3, if_pos h3]; simp
      · rw [if_neg h3, if_neg h3]; simp
theorem rone_ok (x : ByteArray) (i : Nat) (h : i ≤ x.size) : (rone x i).2.2 = 0 → (rone x i).1 < 256 ∧ 0 < (rone x i).2.1 ∧ i + (rone x i).2.1 ≤ x.size := by
  intro h0
  have h1 := sgn_ok x i
  rw [sgn_rone x i h, if_pos h0] at h1
  have h2 := h1.2 rfl
  have h3 := h1.1
  simp only at h2 h3
  omega
/-- An item out of its one sign, or its two. -/
def itmR (x : ByteArray) (i : Nat) (p q : Nat × Nat × Nat) : St × Nat × Nat × Nat :=
  if p.2.2 ≠ 0 then (St.zero, 0, i, p.2.2)
  else if x.size ≤ i + p.2.1 ∨ bt x (i + p.2.1) ≠ 45 then (rng p.1 1, i + p.2.1, 0, 0)
  else if q.2.2 ≠ 0 then (St.zero, 0, i + p.2.1 + 1, q.2.2)
  else if q.1 < p.1 then (St.zero, 0, i, 10)
  else (rng p.1 (q.1 + 1 - p.1), i + p.2.1 + 1 + q.2.1, 0, 0)
theorem itm_rone (x : ByteArray) (i : Nat) (h : i ≤ x.size) : itm x i = itmR x i (rone x i) (rone x (i + (rone x i).2.1 + 1)) := by
  have hs := sgn_rone x i h
  have hk := rone_ok x i h
  have hs2 := fun h' => sgn_rone x (i + (rone x i).2.1 + 1) h'
  unfold itm itmR
  generalize rone x i = p at *
  obtain ⟨b, n, c⟩ := p
  simp only at hs hk hs2 ⊢
  by_cases h1 : c = 0
  · subst h1
    rw [if_pos rfl] at hs
    obtain ⟨k1, k2, k3⟩ := hk rfl
    rw [hs]
    simp only
    rw [if_neg (show ¬((0 : Nat) ≠ 0) by simp), if_neg (show ¬((0 : Nat) ≠ 0) by simp)]
    by_cases h2 : x.size ≤ i + n ∨ bt x (i + n) ≠ 45
    · rw [if_pos h2, if_pos h2]; rfl
    · rw [if_neg h2, if_neg h2]
      have hs3 := hs2 (by omega)
      generalize rone x (i + n + 1) = q at *
      obtain ⟨b2, n2, c2⟩ := q
      simp only at hs3 ⊢
      by_cases h3 : c2 = 0
      · subst h3
        rw [if_pos rfl] at hs3
        rw [hs3]
        simp
      · rw [if_neg h3] at hs3
        rw [hs3]
        simp only
        rw [if_pos h3, if_pos h3]
  · rw [if_neg h1] at hs
    rw [hs]
    simp only
    rw [if_pos h1, if_pos h1]
theorem or_add (s r : St) (hs : s.ok) (hr : r.ok) (n : Nat) (hn : n < 256) : (s.or r).add n = s.or (r.add n) :=
  St.ext' (St.add_ok (St.or_ok hs hr) n) (St.or_ok hs (St.add_ok hr n)) (fun m hm => by rw [St.has_add _ _ _ hn hm, St.has_or, St.has_or, St.has_add _ _ _ hn hm, Bool.or_assoc])
theorem or_zero (s : St) (hs : s.ok) : s.or St.zero = s := St.ext' (St.or_ok hs St.zero_ok) hs (fun n _ => by rw [St.has_or, St.has_zero, Bool.or_false])
end Go.Proofs.Ytbbmjnhbmcbehaa
