/- How long the shortest texts are: where the going begins, and where it ends. -/
import Derived.Test.YtopbibhpekjaeaaF5
namespace Go.Proofs.Ytopbibhpekjaeaa

/-- What is told of lengths is so. -/
def ShortOk (N : Nat) (rs : List Rl) (sh : List Int) : Prop := sh.length = N ∧ ∀ x, x < N → (sh.getD x 0 = -1 ∧ ¬ ∃ k, Ln rs x k) ∨ ∃ k, Ln rs x k ∧ (∀ k', Ln rs x k' → k ≤ k') ∧ sh.getD x 0 = ((min k 513 : Nat) : Int)
theorem least_ex {p : Nat → Prop} : ∀ n, p n → ∃ k, p k ∧ ∀ k', p k' → k ≤ k' := by
  intro n
  induction n using Nat.strongRecOn with
  | ind n ih =>
    intro h
    by_cases hc : ∃ m, m < n ∧ p m
    · obtain ⟨m, hm, hp⟩ := hc
      exact ih m hm hp
    · exact ⟨n, h, fun k' hk' => by
        apply Classical.byContradiction
        intro hlt
        exact hc ⟨k', by omega, hk'⟩⟩
def shOf (so : List Bool) (d : Nat → Option Nat) (x : Nat) : Int := match d x with | some v => (v : Int) | none => if so.getD x false then 513 else -1
theorem SI.done {N : Nat} {rs : List Rl} {d : Nat → Option Nat} {kw mi : List Nat} {ready : Nat → List Nat} (h : SI N rs d kw mi ready 513 0) {so : List Bool} (hso : ∀ m, so.getD m false = true ↔ Lf rs pP m) {sh : List Int} (hl : sh.length = N) (hsh : ∀ x, x < N → sh.getD x 0 = shOf so d x) : ShortOk N rs sh := by
  refine ⟨hl, fun x hx => ?_⟩
  rw [hsh x hx]
  unfold shOf
  cases hd : d x with
  | some v =>
    right
    obtain ⟨h1, h2⟩ := h.min x v hd
    exact ⟨v, h.sound x v hd, h2, by simp only; congr 1; omega⟩
  | none =>
    simp only
    cases hq : so.getD x false
    · left
      refine ⟨by simp, fun hk => ?_⟩
      have := (hso x).2 (ln_lf.2 hk)
      rw [hq] at this; cases this
    · right
      obtain ⟨k, hk⟩ := ln_lf.1 ((hso x).1 hq)
      obtain ⟨k0, hk0, hmin⟩ := least_ex k hk
      have := h.big x k0 hd hk0
      refine ⟨k0, hk0, hmin, ?_⟩
      simp only [if_true]
      have e : Min.min k0 513 = 513 := by omega
      rw [e]; rfl
def dn : Nat → Option Nat := fun _ => none
/-- What is ready at the beginning, by the first k rules. -/
def rd0 (rs : List Rl) (m : Nat) : Nat → List Nat
  | 0 => []
  | k + 1 => rd0 rs m k ++ (if ms dn (rhsAt rs k) = 0 ∧ kn dn (rhsAt rs k) = m ∧ m ≤ 512 ∧ k < rs.length then [(lhsAt rs k).toNat] else [])
theorem rd0_mem (rs : List Rl) (m y : Nat) : ∀ k, y ∈ rd0 rs m k ↔ ∃ i, i < k ∧ ∃ r, rs[i]? = some r ∧ r.lhs.toNat = y ∧ ms dn r.rhs = 0 ∧ kn dn r.rhs = m ∧ m ≤ 512
  | 0 => by simp [rd0]
  | k + 1 => by
    have ih := rd0_mem rs m y k
    rw [rd0, List.mem_append, ih]
    constructor
    · rintro (⟨i, hi, hr⟩ | hb)
      · exact ⟨i, by omega, hr⟩
      · split at hb
        · rename_i hc
          obtain ⟨r, hr⟩ : ∃ r, rs[k]? = some r := ⟨rs[k], by simp [hc.2.2.2]⟩
          have e1 : rhsAt rs k = r.rhs := by unfold rhsAt; rw [hr]
          have e2 : lhsAt rs k = r.lhs := by unfold lhsAt; rw [hr]
          rw [e1] at hc
          rw [e2] at hb
          simp at hb
          exact ⟨k, by omega, r, hr, hb.symm, hc.1, hc.2.1, hc.2.2.1⟩
        · cases hb
    · rintro ⟨i, hi, r, hr, hl, h1, h2, h3⟩
      by_cases e : i = k
      · subst e
        right
        have e1 : rhsAt rs i = r.rhs := by unfold rhsAt; rw [hr]
        have e2 : lhsAt rs i = r.lhs := by unfold lhsAt; rw [hr]
        rw [e1, e2, if_pos ⟨h1, h2, h3, (List.getElem?_eq_some_iff.1 hr).1⟩, hl]; simp
      · left; exact ⟨i, by omega, r, hr, hl, h1, h2, h3⟩
theorem SI.start {N : Nat} {rs : List Rl} (hok : Ok N rs) {kw mi : List Nat} (lk : kw.length = rs.length) (lm : mi.length = rs.length) (hk : ∀ (k : Nat) (r : Rl), rs[k]? = some r → kw.getD k 0 = kn dn r.rhs) (hm : ∀ (k : Nat) (r : Rl), rs[k]? = some r → mi.getD k 0 = ms dn r.rhs) : SI N rs dn kw mi (fun m => rd0 rs m rs.length) 0 0 := by
  refine ⟨lk, lm, hk, hm, fun x v h => (by cases h), fun m x hx => ?_, fun k r hr h1 h2 => ?_, fun m x h _ => (by omega), fun j x h _ => (by omega), fun x v h => (by cases h), fun x k _ _ => Nat.zero_le _⟩
  · obtain ⟨i, _, r, hr, hl, h1, h2, _⟩ := (rd0_mem rs m x rs.length).1 hx
    have hrm := List.mem_of_getElem? hr
    have hlh := hok.lhs r hrm
    refine ⟨by omega, r, hrm, by omega, ?_⟩
    rw [← h2]
    exact lns_of (fun n v h => by cases h) r.rhs h1
  · rw [hm k r hr] at h1
    rw [hk k r hr] at h2 ⊢
    exact (rd0_mem rs _ _ rs.length).2 ⟨k, (List.getElem?_eq_some_iff.1 hr).1, r, hr, rfl, h1, rfl, h2⟩
theorem kn_snoc (d : Nat → Option Nat) (s : Ks) : ∀ l : List Ks, kn d (l ++ [s]) = kn d l + kn d [s] ∧ ms d (l ++ [s]) = ms d l + ms d [s]
  | [] => by simp [kn, ms]
  | a :: l => by
    obtain ⟨h1, h2⟩ := kn_snoc d s l
    have e : (a :: l) ++ [s] = a :: (l ++ [s]) := rfl
    rw [e]
    constructor
    · rw [kn, h1]; conv => rhs; rw [kn]
      omega
    · rw [ms, h2]; conv => rhs; rw [ms]
      omega
theorem kn_take {l : List Ks} {j : Nat} {s : Ks} (h : l[j]? = some s) : kn dn (l.take (j + 1)) = kn dn (l.take j) + (if s.nt < 0 ∧ s.set.any = true then 1 else 0) ∧ ms dn (l.take (j + 1)) = ms dn (l.take j) + (if s.nt < 0 ∧ s.set.any = true then 0 else 1) := by
  have e : l.take (j + 1) = l.take j ++ [s] := by rw [List.take_add_one, h]; rfl
  obtain ⟨h1, h2⟩ := kn_snoc dn s (l.take j)
  rw [e, h1, h2]
  by_cases hn : s.nt < 0
  · cases ha : s.set.any <;> simp [kn, ms, hn, ha]
  · simp [kn, ms, hn, dn]
theorem kn_le (l : List Ks) : kn dn l ≤ l.length ∧ ms dn l ≤ l.length := by
  induction l with
  | nil => simp [kn, ms]
  | cons s l ih =>
    by_cases hn : s.nt < 0
    · cases ha : s.set.any <;> simp [kn, ms, hn, ha] <;> omega
    · simp [kn, ms, hn, dn]; omega
theorem rd0_len (rs : List Rl) (m : Nat) : ∀ k, (rd0 rs m k).length ≤ k
  | 0 => by simp [rd0]
  | k + 1 => by
    have := rd0_len rs m k
    rw [rd0, List.length_append]
    split <;> simp <;> omega
end Go.Proofs.Ytopbibhpekjaeaa
