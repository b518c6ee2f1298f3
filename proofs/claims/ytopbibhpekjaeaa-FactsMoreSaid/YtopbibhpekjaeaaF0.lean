/- What is so of nonterminals by rules whose symbols are all so, with no program in it. -/
import Derived.Test.YtopbibhpekjaeaaT1
namespace Go.Proofs.Ytopbibhpekjaeaa

/-- All of these symbols are so: bytes by their sets, nonterminals by a rule of theirs. -/
inductive LfS (rs : List Rl) (p : St → Bool) : List Ks → Prop
  | nil : LfS rs p []
  | byte {s : Ks} {l : List Ks} : s.nt < 0 → p s.set = true → LfS rs p l → LfS rs p (s :: l)
  | nt {s : Ks} {l : List Ks} {r : Rl} : 0 ≤ s.nt → r ∈ rs → r.lhs = s.nt → LfS rs p r.rhs → LfS rs p l → LfS rs p (s :: l)
def Lf (rs : List Rl) (p : St → Bool) (n : Nat) : Prop := ∃ r ∈ rs, r.lhs = (n : Int) ∧ LfS rs p r.rhs
def symSo (p : St → Bool) (so : List Bool) (s : Ks) : Bool := if s.nt < 0 then p s.set else so.getD s.nt.toNat false

theorem lfs_of_all {rs : List Rl} {p : St → Bool} : ∀ l : List Ks, (∀ s ∈ l, (s.nt < 0 ∧ p s.set = true) ∨ (0 ≤ s.nt ∧ Lf rs p s.nt.toNat)) → LfS rs p l
  | [], _ => .nil
  | s :: l, h => by
    have ih := lfs_of_all l fun x hx => h x (List.mem_cons_of_mem _ hx)
    rcases h s (List.mem_cons_self) with ⟨h1, h2⟩ | ⟨h1, r, hr, he, h2⟩
    · exact .byte h1 h2 ih
    · exact .nt h1 hr (by omega) h2 ih
/-- What is closed under the rules has all that is so. -/
theorem lfs_closed {rs : List Rl} {p : St → Bool} {so : List Bool} (hc : ∀ r ∈ rs, (∀ s ∈ r.rhs, symSo p so s = true) → so.getD r.lhs.toNat false = true) : ∀ {l : List Ks}, LfS rs p l → ∀ s ∈ l, symSo p so s = true := by
  intro l h
  induction h with
  | nil => intro s hs; cases hs
  | byte h1 h2 _ ih =>
    intro x hx
    rcases List.mem_cons.1 hx with rfl | hx
    · unfold symSo; rw [if_pos h1]; exact h2
    · exact ih x hx
  | nt h1 hr he _ _ ih1 ih2 =>
    intro x hx
    rcases List.mem_cons.1 hx with rfl | hx
    · have := hc _ hr ih1
      unfold symSo; rw [if_neg (by omega), ← he]; exact this
    · exact ih2 x hx
/-- Marks of nonterminals on the way to what is so, and the rules that are still to be looked at. -/
structure LI (N : Nat) (rs : List Rl) (p : St → Bool) (so : List Bool) (again : List Nat) (i : Nat) : Prop where
  len : so.length = N
  sound : ∀ n, so.getD n false = true → Lf rs p n
  idx : ∀ k ∈ again, k < rs.length
  cov : ∀ k r, rs[k]? = some r → so.getD r.lhs.toNat false = true ∨ (∃ j, i ≤ j ∧ again[j]? = some k) ∨ ∃ s ∈ r.rhs, symSo p so s = false
  le : i ≤ again.length
  bnd : again.length ≤ rs.length + so.count true * 655360
section
variable {N : Nat} {rs : List Rl} {p : St → Bool} {so : List Bool} {again : List Nat} {i : Nat}
theorem LI.start (N : Nat) (rs : List Rl) (p : St → Bool) : LI N rs p (List.replicate N false) (List.range rs.length) 0 := by
  refine ⟨by simp, fun n h => ?_, fun k hk => by simpa using hk, fun k r hr => ?_, by simp, by simp⟩
  · rw [List.getD_eq_getElem?_getD, List.getElem?_replicate] at h; split at h <;> simp at h
  · right; left
    have := (List.getElem?_eq_some_iff.1 hr).1
    exact ⟨k, by omega, by simp [this]⟩
theorem LI.done (h : LI N rs p so again i) (hi : i = again.length) (n : Nat) : so.getD n false = true ↔ Lf rs p n := by
  refine ⟨h.sound n, fun hl => ?_⟩
  have hc : ∀ r ∈ rs, (∀ s ∈ r.rhs, symSo p so s = true) → so.getD r.lhs.toNat false = true := fun r hr ha => by
    obtain ⟨k, hk⟩ := List.mem_iff_getElem?.1 hr
    rcases h.cov k r hk with h1 | ⟨j, hj, hj2⟩ | ⟨s, hs, hf⟩
    · exact h1
    · have := (List.getElem?_eq_some_iff.1 hj2).1; omega
    · rw [ha s hs] at hf; cases hf
  obtain ⟨r, hr, he, hs⟩ := hl
  have := hc r hr (lfs_closed hc hs)
  rw [he] at this; simpa using this
/-- The rule's nonterminal is marked already, or a symbol of it is not so. -/
theorem LI.skip {k : Nat} {r : Rl} (h : LI N rs p so again i) (hk : again[i]? = some k) (hr : rs[k]? = some r) (hs : so.getD r.lhs.toNat false = true ∨ ∃ s ∈ r.rhs, symSo p so s = false) : LI N rs p so again (i + 1) := by
  have hlt := (List.getElem?_eq_some_iff.1 hk).1
  refine ⟨h.len, h.sound, h.idx, fun k' r' hr' => ?_, by omega, h.bnd⟩
  rcases h.cov k' r' hr' with h1 | ⟨j, hj, hj2⟩ | h3
  · exact .inl h1
  · by_cases e : j = i
    · subst e
      rw [hk] at hj2
      obtain rfl := Option.some.inj hj2
      rw [hr] at hr'
      obtain rfl := Option.some.inj hr'
      rcases hs with hs | hs
      · exact .inl hs
      · exact .inr (.inr hs)
    · exact .inr (.inl ⟨j, by omega, hj2⟩)
  · exact .inr (.inr h3)
theorem getD_set_true (so : List Bool) (m n : Nat) : (so.set m true).getD n false = (if n = m ∧ m < so.length then true else so.getD n false) := by
  rw [List.getD_eq_getElem?_getD, List.getD_eq_getElem?_getD, List.getElem?_set]
  by_cases h : n = m
  · subst h
    by_cases h2 : n < so.length
    · simp [h2]
    · simp [h2]
  · rw [if_neg (fun e => h e.symm), if_neg (fun e => h e.1)]
theorem count_set_true (so : List Bool) (m : Nat) (h1 : m < so.length) (h2 : so.getD m false = false) : (so.set m true).count true = so.count true + 1 := by
  induction so generalizing m with
  | nil => simp at h1
  | cons a l ih =>
    cases m with
    | zero =>
      simp at h2
      subst h2
      simp
    | succ m =>
      simp at h1 h2
      have := ih m h1 (by simpa using h2)
      simp [List.count_cons, this]; omega
/-- The rule's symbols are all so: its nonterminal is marked, and the rules in which it stands are to be looked at. -/
theorem LI.mark {k m : Nat} {r : Rl} {us : List Nat} (h : LI N rs p so again i) (hk : again[i]? = some k) (hr : rs[k]? = some r) (hm : r.lhs = (m : Int)) (hmN : m < N) (hf : so.getD m false = false) (ha : ∀ s ∈ r.rhs, symSo p so s = true)
    (hneg : ∀ r ∈ rs, ∀ s ∈ r.rhs, s.nt = -1 ∨ 0 ≤ s.nt) (hus : ∀ k' r', rs[k']? = some r' → (∃ s ∈ r'.rhs, s.nt = (m : Int)) → k' ∈ us) (hui : ∀ k' ∈ us, k' < rs.length) (hul : us.length ≤ 655360) : LI N rs p (so.set m true) (again ++ us) (i + 1) := by
  have hlt := (List.getElem?_eq_some_iff.1 hk).1
  have hml : m < so.length := by rw [h.len]; exact hmN
  have hsy : ∀ s : Ks, symSo p so s = true → symSo p (so.set m true) s = true := fun s hs => by
    unfold symSo at hs ⊢
    split
    · rename_i hn; rw [if_pos hn] at hs; exact hs
    · rename_i hn; rw [if_neg hn] at hs; rw [getD_set_true]; split
      · rfl
      · exact hs
  have hlf : ∀ n, so.getD n false = true → Lf rs p n := h.sound
  refine ⟨by rw [List.length_set]; exact h.len, fun n hn => ?_, fun k' hk' => ?_, fun k' r' hr' => ?_, by rw [List.length_append]; omega, ?_⟩
  · rw [getD_set_true] at hn
    split at hn
    · rename_i e
      refine ⟨r, List.mem_of_getElem? hr, by rw [e.1]; exact hm, lfs_of_all _ fun s hs => ?_⟩
      have h1 := ha s hs
      unfold symSo at h1
      split at h1
      · rename_i hn; exact .inl ⟨hn, h1⟩
      · rename_i hn; exact .inr ⟨by omega, hlf _ h1⟩
    · exact hlf n hn
  · rcases List.mem_append.1 hk' with hk' | hk'
    · exact h.idx k' hk'
    · exact hui k' hk'
  · have hgrow : ∀ n, so.getD n false = true → (so.set m true).getD n false = true := fun n hn => by
      rw [getD_set_true]; split
      · rfl
      · exact hn
    rcases h.cov k' r' hr' with h1 | ⟨j, hj, hj2⟩ | ⟨s, hs, hsf⟩
    · exact .inl (hgrow _ h1)
    · by_cases e : j = i
      · subst e
        rw [hk] at hj2
        obtain rfl := Option.some.inj hj2
        rw [hr] at hr'
        obtain rfl := Option.some.inj hr'
        left
        rw [getD_set_true, if_pos ⟨by rw [hm]; simp, hml⟩]
      · refine .inr (.inl ⟨j, by omega, ?_⟩)
        rw [List.getElem?_append_left (List.getElem?_eq_some_iff.1 hj2).1]; exact hj2
    · by_cases e : s.nt = (m : Int)
      · have := hus k' r' hr' ⟨s, hs, e⟩
        obtain ⟨q, hq⟩ := List.mem_iff_getElem?.1 this
        refine .inr (.inl ⟨again.length + q, by omega, ?_⟩)
        rw [List.getElem?_append_right (by omega), Nat.add_sub_cancel_left]; exact hq
      · refine .inr (.inr ⟨s, hs, ?_⟩)
        unfold symSo at hsf ⊢
        split
        · rename_i hn; rw [if_pos hn] at hsf; exact hsf
        · rename_i hn
          rw [if_neg hn] at hsf
          rw [getD_set_true, if_neg (by intro h'; apply e; have := hneg r' (List.mem_of_getElem? hr') s hs; omega)]; exact hsf
  · rw [List.length_append, count_set_true so m hml hf]
    have := h.bnd
    rw [Nat.add_mul]; omega
end
theorem usr_mem (rs : List Rl) (n : Nat) : ∀ (K k : Nat), k ∈ usr rs n K → k < K
  | 0, k, h => by simp [usr] at h
  | K + 1, k, h => by
    simp only [usr, List.mem_append] at h
    rcases h with h | h
    · have := usr_mem rs n K k h; omega
    · have := (List.mem_replicate.1 h).2; omega
theorem usr_has (rs : List Rl) (n : Nat) {k : Nat} {r : Rl} (hr : rs[k]? = some r) (h : ∃ s ∈ r.rhs, s.nt = (n : Int)) : ∀ K, k < K → k ∈ usr rs n K
  | 0, hk => by omega
  | K + 1, hk => by
    simp only [usr, List.mem_append]
    by_cases e : k = K
    · subst e
      right
      refine List.mem_replicate.2 ⟨?_, rfl⟩
      unfold rhsAt cnt
      rw [hr]
      obtain ⟨s, hs, he⟩ := h
      intro h0
      have := List.length_eq_zero_iff.1 h0
      have h1 : s ∈ r.rhs.filter fun s => decide (s.nt = (n : Int)) := List.mem_filter.2 ⟨hs, by simpa using he⟩
      simp only at this
      rw [this] at h1; cases h1
    · left; exact usr_has rs n hr h K (by omega)
end Go.Proofs.Ytopbibhpekjaeaa
