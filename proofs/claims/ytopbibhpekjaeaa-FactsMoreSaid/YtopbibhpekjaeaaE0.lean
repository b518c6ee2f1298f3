/- What is reached from the start: no program in it. -/
import Derived.Test.YtopbibhpekjaeaaR1
namespace Go.Proofs.Ytopbibhpekjaeaa

inductive Rch (rs : List Rl) (S : Nat) : Nat → Prop
  | start : Rch rs S S
  | step {r : Rl} {s : Ks} : r ∈ rs → 0 ≤ r.lhs → Rch rs S r.lhs.toNat → s ∈ r.rhs → 0 ≤ s.nt → Rch rs S s.nt.toNat
theorem Rch.more {rs qs : List Rl} (h : ∀ r ∈ rs, r ∈ qs) {S n : Nat} (hr : Rch rs S n) : Rch qs S n := by
  induction hr with
  | start => exact .start
  | step h1 h0 _ h2 h3 ih => exact .step (h _ h1) h0 ih h2 h3
/-- The document's rounds: a rule's nonterminals are marked, if its own is. -/
def rcU (so : List Bool) (m : Nat) (l : List Ks) : Nat → List Bool
  | 0 => so
  | k + 1 => match l[k]? with
      | some s => if (rcU so m l k).getD m false && decide (0 ≤ s.nt) then (rcU so m l k).set s.nt.toNat true else rcU so m l k
      | none => rcU so m l k
def rcL (rs : List Rl) (so : List Bool) : Nat → List Bool
  | 0 => so
  | i + 1 => rcU (rcL rs so i) (lhsAt rs i).toNat (rhsAt rs i) (rhsAt rs i).length
def rcN (N S : Nat) (rs : List Rl) : Nat → List Bool
  | 0 => (List.replicate N false).set S true
  | n + 1 => rcL rs (rcN N S rs n) rs.length
theorem rcU_len (so : List Bool) (m : Nat) (l : List Ks) : ∀ k, (rcU so m l k).length = so.length
  | 0 => rfl
  | k + 1 => by
    have := rcU_len so m l k
    rw [rcU]
    split
    · split <;> simp [this]
    · exact this
theorem rcL_len (rs : List Rl) (so : List Bool) : ∀ i, (rcL rs so i).length = so.length
  | 0 => rfl
  | i + 1 => by rw [rcL, rcU_len, rcL_len rs so i]
theorem rcN_len (N S : Nat) (rs : List Rl) : ∀ n, (rcN N S rs n).length = N
  | 0 => by simp [rcN]
  | n + 1 => by rw [rcN, rcL_len, rcN_len N S rs n]
theorem rcU_up {so : List Bool} {m : Nat} {l : List Ks} {x : Nat} (hx : so.getD x false = true) : ∀ k, (rcU so m l k).getD x false = true
  | 0 => hx
  | k + 1 => by
    have ih := rcU_up (m := m) (l := l) hx k
    rw [rcU]
    split
    · split
      · rw [getD_set_true]; split
        · rfl
        · exact ih
      · exact ih
    · exact ih
theorem rcL_up {rs : List Rl} {so : List Bool} {x : Nat} (hx : so.getD x false = true) : ∀ i, (rcL rs so i).getD x false = true
  | 0 => hx
  | i + 1 => by rw [rcL]; exact rcU_up (rcL_up hx i) _
theorem rcU_full {so : List Bool} {m : Nat} {l : List Ks} (hm : so.getD m false = true) {j : Nat} {s : Ks} (hs : l[j]? = some s) (h0 : 0 ≤ s.nt) (hl : s.nt.toNat < so.length) : ∀ k, j < k → (rcU so m l k).getD s.nt.toNat false = true
  | 0, h => by omega
  | k + 1, h => by
    by_cases e : j = k
    · subst e
      have hmm := rcU_up (m := m) (l := l) hm j
      rw [rcU, hs]
      simp only [hmm, Bool.true_and, decide_eq_true h0, if_true]
      rw [getD_set_true, if_pos ⟨rfl, by rw [rcU_len]; exact hl⟩]
    · have ih := rcU_full hm hs h0 hl k (by omega)
      rw [rcU]
      split
      · split
        · rw [getD_set_true]; split
          · rfl
          · exact ih
        · exact ih
      · exact ih
section
variable {N S : Nat} {rs : List Rl} (hok : Ok N rs)
include hok
omit hok in
theorem rcU_snd {so : List Bool} (h : ∀ x, so.getD x false = true → Rch rs S x) {r : Rl} (hr : r ∈ rs) {m : Nat} (he : r.lhs = (m : Int)) : ∀ k x, (rcU so m r.rhs k).getD x false = true → Rch rs S x
  | 0, x, hx => h x hx
  | k + 1, x, hx => by
    have ih := rcU_snd h hr he k
    rw [rcU] at hx
    split at hx
    · rename_i s hs
      split at hx
      · rename_i hc
        rw [Bool.and_eq_true, decide_eq_true_eq] at hc
        rw [getD_set_true] at hx
        split at hx
        · rename_i e
          rw [e.1]
          exact .step hr (by omega) (by rw [he]; simpa using ih m hc.1) (List.mem_of_getElem? hs) hc.2
        · exact ih x hx
      · exact ih x hx
    · exact ih x hx
theorem rcL_snd {so : List Bool} (h : ∀ x, so.getD x false = true → Rch rs S x) : ∀ i, i ≤ rs.length → ∀ x, (rcL rs so i).getD x false = true → Rch rs S x
  | 0, _, x, hx => h x hx
  | i + 1, hi, x, hx => by
    obtain ⟨r, hr⟩ : ∃ r, rs[i]? = some r := ⟨rs[i]'(by omega), by simp⟩
    have e1 : rhsAt rs i = r.rhs := by unfold rhsAt; rw [hr]
    have e2 : lhsAt rs i = r.lhs := by unfold lhsAt; rw [hr]
    have hm := List.mem_of_getElem? hr
    have hlh := hok.lhs r hm
    rw [rcL, e1, e2] at hx
    exact rcU_snd (rcL_snd h i (by omega)) hm (by omega) _ x hx
theorem rcN_snd (hS : S < N) : ∀ n x, (rcN N S rs n).getD x false = true → Rch rs S x
  | 0, x, hx => by
    simp only [rcN] at hx
    rw [getD_set_true] at hx
    split at hx
    · rename_i e; rw [e.1]; exact .start
    · rw [List.getD_eq_getElem?_getD, List.getElem?_replicate] at hx
      split at hx <;> simp at hx
  | n + 1, x, hx => rcL_snd hok (rcN_snd hS n) _ (Nat.le_refl _) x hx
theorem rcL_new {so : List Bool} (hl : so.length = N) {r : Rl} (hr : r ∈ rs) (hm : so.getD r.lhs.toNat false = true) {s : Ks} (hs : s ∈ r.rhs) (h0 : 0 ≤ s.nt) : (rcL rs so rs.length).getD s.nt.toNat false = true := by
  obtain ⟨i, hi⟩ := List.mem_iff_getElem?.1 hr
  have hil := (List.getElem?_eq_some_iff.1 hi).1
  obtain ⟨j, hj⟩ := List.mem_iff_getElem?.1 hs
  have hjl := (List.getElem?_eq_some_iff.1 hj).1
  have hsy := hok.sym r hr s hs
  have at1 : (rcL rs so (i + 1)).getD s.nt.toNat false = true := by
    have e1 : rhsAt rs i = r.rhs := by unfold rhsAt; rw [hi]
    have e2 : lhsAt rs i = r.lhs := by unfold lhsAt; rw [hi]
    rw [rcL, e1, e2]
    exact rcU_full (rcL_up hm i) hj h0 (by rw [rcL_len, hl]; omega) _ hjl
  have up : ∀ d, (rcL rs so (i + 1 + d)).getD s.nt.toNat false = true := by
    intro d
    induction d with
    | zero => exact at1
    | succ d ih => rw [← Nat.add_assoc, rcL]; exact rcU_up ih _
  have := up (rs.length - (i + 1))
  rwa [show i + 1 + (rs.length - (i + 1)) = rs.length by omega] at this
omit hok in
theorem rcN_start (hS : S < N) : ∀ n, (rcN N S rs n).getD S false = true
  | 0 => by simp only [rcN]; rw [getD_set_true, if_pos ⟨rfl, by simpa using hS⟩]
  | n + 1 => rcL_up (rcN_start hS n) _
theorem rcN_new (hS : S < N) {n x : Nat} (hx : Rch rs S x) : (rcN N S rs n).getD x false = false → ∃ y, (rcN N S rs n).getD y false = false ∧ (rcN N S rs (n + 1)).getD y false = true := by
  induction hx with
  | start => intro hf; rw [rcN_start hS n] at hf; cases hf
  | @step r s hr h0 _ hs hs0 ih =>
    intro hf
    cases hq : (rcN N S rs n).getD r.lhs.toNat false with
    | false => exact ih hq
    | true => exact ⟨_, hf, rcL_new hok (rcN_len _ _ _ _) hr hq hs hs0⟩
theorem rcN_grow (hS : S < N) : ∀ n, (∀ x, Rch rs S x → (rcN N S rs n).getD x false = true) ∨ n ≤ (rcN N S rs n).count true
  | 0 => .inr (Nat.zero_le _)
  | n + 1 => by
    have hup := fun x => @rcL_up rs (rcN N S rs n) x
    by_cases hall : ∀ x, Rch rs S x → (rcN N S rs n).getD x false = true
    · exact .inl fun x hx => hup x (hall x hx) _
    · rcases rcN_grow hS n with h1 | h1
      · exact absurd h1 hall
      · right
        obtain ⟨x, hx⟩ := Classical.not_forall.1 hall
        obtain ⟨hxF, hxn⟩ := Classical.not_imp.1 hx
        obtain ⟨y, hyn, hyt⟩ := rcN_new hok hS (n := n) hxF (by simpa using hxn)
        have := count_up (a := rcN N S rs n) (b := rcN N S rs (n + 1)) (by rw [rcN_len, rcN_len]) (fun m hm => hup m hm _) (fun e => by rw [e] at hyn; rw [hyn] at hyt; cases hyt)
        omega
theorem rch_lt (hS : S < N) {x : Nat} (hx : Rch rs S x) : x < N := by
  induction hx with
  | start => exact hS
  | step hr _ _ hs _ _ => have := hok.sym _ hr _ hs; omega
theorem rcN_done (hS : S < N) (x : Nat) : (rcN N S rs N).getD x false = true ↔ Rch rs S x := by
  refine ⟨rcN_snd hok hS N x, fun h => ?_⟩
  rcases rcN_grow hok hS N with h1 | h1
  · exact h1 x h
  · exact all_true (by rw [rcN_len]; exact h1) x (by rw [rcN_len]; exact rch_lt hok hS h)
end
end Go.Proofs.Ytopbibhpekjaeaa
