/- Where a nonterminal leads, and going through what is reached one by one: no program in it. -/
import Derived.Test.YtopbibhpekjaeaaE0
namespace Go.Proofs.Ytopbibhpekjaeaa

def sucOf (l : List Ks) : List Nat := (l.filter fun s => decide (0 ≤ s.nt)).map fun s => s.nt.toNat
/-- Where n leads, by the first k rules. -/
def sucL (rs : List Rl) (n : Nat) : Nat → List Nat
  | 0 => []
  | k + 1 => sucL rs n k ++ (if lhsAt rs k = (n : Int) then sucOf (rhsAt rs k) else [])
theorem sucOf_succ {l : List Ks} {j : Nat} {s : Ks} (h : l[j]? = some s) : sucOf (l.take (j + 1)) = sucOf (l.take j) ++ (if 0 ≤ s.nt then [s.nt.toNat] else []) := by
  unfold sucOf; rw [List.take_add_one, h, List.filter_append, List.map_append]
  by_cases hq : 0 ≤ s.nt <;> simp [hq]
theorem sucOf_len (l : List Ks) : (sucOf l).length ≤ l.length := by
  unfold sucOf; rw [List.length_map]; exact List.length_filter_le _ _
theorem sucL_len (rs : List Rl) (n : Nat) (h : ∀ r ∈ rs, r.rhs.length ≤ 80) : ∀ k, (sucL rs n k).length ≤ 80 * k
  | 0 => by simp [sucL]
  | k + 1 => by
    have := sucL_len rs n h k
    have h2 : (rhsAt rs k).length ≤ 80 := by
      unfold rhsAt; split
      · rename_i r hr; exact h r (List.mem_of_getElem? hr)
      · simp
    have h3 := sucOf_len (rhsAt rs k)
    simp only [sucL, List.length_append]
    split
    · omega
    · simp; omega
theorem sucL_step (rs : List Rl) (k j m : Nat) {r : Rl} {s : Ks} (hs : r.rhs[j]? = some s) (hm : r.lhs = (m : Int)) (hl : 0 ≤ s.nt) :
    (fun n : Nat => sucL rs n k ++ (if r.lhs = (n : Int) then sucOf (r.rhs.take (j + 1)) else [])) = (fun n => if n = m then (sucL rs n k ++ (if r.lhs = (n : Int) then sucOf (r.rhs.take j) else [])) ++ [s.nt.toNat] else sucL rs n k ++ (if r.lhs = (n : Int) then sucOf (r.rhs.take j) else [])) := by
  funext n
  have e : sucOf (r.rhs.take (j + 1)) = sucOf (r.rhs.take j) ++ [s.nt.toNat] := by rw [sucOf_succ hs, if_pos hl]
  rw [e]
  by_cases h : n = m
  · subst h
    rw [if_pos hm, if_pos rfl, if_pos hm, List.append_assoc]
  · have h' : ¬ r.lhs = (n : Int) := by omega
    rw [if_neg h, if_neg h', if_neg h']
theorem sucL_skip (rs : List Rl) (k j : Nat) {r : Rl} {s : Ks} (hs : r.rhs[j]? = some s) (hl : s.nt < 0) :
    (fun n : Nat => sucL rs n k ++ (if r.lhs = (n : Int) then sucOf (r.rhs.take (j + 1)) else [])) = (fun n => sucL rs n k ++ (if r.lhs = (n : Int) then sucOf (r.rhs.take j) else [])) := by
  funext n
  have e : sucOf (r.rhs.take (j + 1)) = sucOf (r.rhs.take j) := by rw [sucOf_succ hs, if_neg (show ¬ 0 ≤ s.nt by omega)]; simp
  rw [e]
theorem sucL_mem {rs : List Rl} {n x : Nat} : ∀ k, k ≤ rs.length → (x ∈ sucL rs n k ↔ ∃ i, i < k ∧ ∃ r, rs[i]? = some r ∧ r.lhs = (n : Int) ∧ ∃ s ∈ r.rhs, 0 ≤ s.nt ∧ s.nt.toNat = x)
  | 0, _ => by
    simp only [sucL]
    constructor
    · intro h; cases h
    · rintro ⟨i, hi, _⟩; omega
  | k + 1, hk => by
    have ih := sucL_mem (rs := rs) (n := n) (x := x) k (by omega)
    obtain ⟨r, hr⟩ : ∃ r, rs[k]? = some r := ⟨rs[k]'(by omega), by simp⟩
    have e1 : rhsAt rs k = r.rhs := by unfold rhsAt; rw [hr]
    have e2 : lhsAt rs k = r.lhs := by unfold lhsAt; rw [hr]
    rw [sucL, e1, e2, List.mem_append, ih]
    constructor
    · rintro (⟨i, hi, h⟩ | h)
      · exact ⟨i, by omega, h⟩
      · split at h
        · rename_i he
          unfold sucOf at h
          obtain ⟨s, hs, rfl⟩ := List.mem_map.1 h
          obtain ⟨hs1, hs2⟩ := List.mem_filter.1 hs
          exact ⟨k, by omega, r, hr, he, s, hs1, by simpa using hs2, rfl⟩
        · cases h
    · rintro ⟨i, hi, q, hq, he, s, hs, h0, hx⟩
      by_cases e : i = k
      · subst e
        rw [hr] at hq
        obtain rfl := Option.some.inj hq
        right
        rw [if_pos he]
        unfold sucOf
        exact List.mem_map.2 ⟨s, List.mem_filter.2 ⟨hs, by simpa using h0⟩, hx⟩
      · left; exact ⟨i, by omega, q, hq, he, s, hs, h0, hx⟩
theorem suc_rch {rs : List Rl} {S n x : Nat} (h : x ∈ sucL rs n rs.length) (hn : Rch rs S n) : Rch rs S x := by
  obtain ⟨i, _, r, hr, he, s, hs, h0, rfl⟩ := (sucL_mem rs.length (Nat.le_refl _)).1 h
  exact .step (List.mem_of_getElem? hr) (by omega) (by rw [he]; simpa using hn) hs h0
/-- Marks and the queue on the way: the rows ahead of place i are gone through, and of this one the first j. -/
structure BI (N : Nat) (rs : List Rl) (S : Nat) (so : List Bool) (q : List Nat) (i j : Nat) : Prop where
  len : so.length = N
  sound : ∀ n, so.getD n false = true → Rch rs S n
  mem : ∀ n, so.getD n false = true → n ∈ q
  qm : ∀ x ∈ q, so.getD x false = true
  nd : q.Nodup
  clo : ∀ k a, k < i → q[k]? = some a → ∀ x ∈ sucL rs a rs.length, so.getD x false = true
  cur : ∀ a, q[i]? = some a → ∀ k x, k < j → (sucL rs a rs.length)[k]? = some x → so.getD x false = true
  st : so.getD S false = true
theorem nodup_lenN : ∀ (N : Nat) (q : List Nat), q.Nodup → (∀ x ∈ q, x < N) → q.length ≤ N
  | 0, [], _, _ => Nat.le_refl _
  | 0, a :: l, _, h => absurd (h a (by simp)) (by omega)
  | N + 1, q, hn, h => by
    have h1 := nodup_lenN N (q.erase N) (hn.erase _) (fun x hx => by
      have hx1 := List.mem_of_mem_erase hx
      have hx2 : x ≠ N := fun e => by rw [e] at hx; exact (hn.not_mem_erase) hx
      have := h x hx1; omega)
    have h2 := List.length_erase (a := N) (l := q)
    split at h2 <;> omega
section
variable {N S : Nat} {rs : List Rl} {so : List Bool} {q : List Nat} {i j : Nat}
theorem BI.start (hS : S < N) : BI N rs S ((List.replicate N false).set S true) [S] 0 0 := by
  have hg : ∀ n, ((List.replicate N false).set S true).getD n false = true ↔ n = S := fun n => by
    rw [getD_set_true]
    constructor
    · intro h
      split at h
      · rename_i e; exact e.1
      · rw [List.getD_eq_getElem?_getD, List.getElem?_replicate] at h
        split at h <;> simp at h
    · rintro rfl; rw [if_pos ⟨rfl, by simpa using hS⟩]
  refine ⟨by simp, fun n h => ?_, fun n h => ?_, fun x hx => ?_, by simp, fun k a h _ => by omega, fun a _ k x h _ => by omega, (hg S).2 rfl⟩
  · rw [(hg n).1 h]; exact .start
  · rw [(hg n).1 h]; simp
  · simp at hx; exact (hg x).2 hx
theorem BI.bnd (h : BI N rs S so q i j) : q.length ≤ N := nodup_lenN N q h.nd fun x hx => by
  have := h.qm x hx
  apply Classical.byContradiction
  intro hlt
  rw [List.getD_eq_getElem?_getD, List.getElem?_eq_none (by rw [h.len]; omega)] at this
  simp at this
theorem BI.skip {a x : Nat} (h : BI N rs S so q i j) (ha : q[i]? = some a) (hx : (sucL rs a rs.length)[j]? = some x) (hm : so.getD x false = true) : BI N rs S so q i (j + 1) :=
  ⟨h.len, h.sound, h.mem, h.qm, h.nd, h.clo, fun a' ha' k y hk hy => by
    rw [ha] at ha'
    obtain rfl := Option.some.inj ha'
    by_cases e : k = j
    · subst e
      rw [hx] at hy
      obtain rfl := Option.some.inj hy
      exact hm
    · exact h.cur a ha k y (by omega) hy, h.st⟩
theorem BI.mark {a x : Nat} (h : BI N rs S so q i j) (ha : q[i]? = some a) (hx : (sucL rs a rs.length)[j]? = some x) (hm : so.getD x false = false) (hxN : x < N) : BI N rs S (so.set x true) (q ++ [x]) i (j + 1) := by
  have hil := (List.getElem?_eq_some_iff.1 ha).1
  have hg : ∀ n, (so.set x true).getD n false = true ↔ n = x ∨ so.getD n false = true := fun n => by
    rw [getD_set_true]
    constructor
    · intro hn
      split at hn
      · rename_i e; exact .inl e.1
      · exact .inr hn
    · rintro (rfl | hn)
      · rw [if_pos ⟨rfl, by rw [h.len]; exact hxN⟩]
      · split
        · rfl
        · exact hn
  have hqi : ∀ k b, k ≤ i → (q ++ [x])[k]? = some b → q[k]? = some b := fun k b hk hb => by
    rwa [List.getElem?_append_left (by omega)] at hb
  have hrx : Rch rs S x := suc_rch (List.mem_of_getElem? hx) (h.sound a (h.qm a (List.mem_of_getElem? ha)))
  refine ⟨by rw [List.length_set]; exact h.len, fun n hn => ?_, fun n hn => ?_, fun y hy => ?_, ?_, fun k b hk hb y hy => ?_, fun b hb k y hk hy => ?_, (hg S).2 (.inr h.st)⟩
  · rcases (hg n).1 hn with rfl | hn
    · exact hrx
    · exact h.sound n hn
  · rcases (hg n).1 hn with rfl | hn
    · simp
    · exact List.mem_append_left _ (h.mem n hn)
  · rcases List.mem_append.1 hy with hy | hy
    · exact (hg y).2 (.inr (h.qm y hy))
    · simp at hy; exact (hg y).2 (.inl hy)
  · rw [List.nodup_append]
    refine ⟨h.nd, by simp, fun y hy z hz => ?_⟩
    simp at hz
    subst hz
    rintro rfl
    rw [h.qm y hy] at hm; cases hm
  · exact (hg y).2 (.inr (h.clo k b hk (hqi k b (by omega) hb) y hy))
  · have hb' := hqi i b (Nat.le_refl _) hb
    rw [ha] at hb'
    obtain rfl := Option.some.inj hb'
    by_cases e : k = j
    · subst e
      rw [hx] at hy
      obtain rfl := Option.some.inj hy
      exact (hg x).2 (.inl rfl)
    · exact (hg y).2 (.inr (h.cur a ha k y (by omega) hy))
theorem BI.next {a : Nat} (h : BI N rs S so q i j) (ha : q[i]? = some a) (hj : (sucL rs a rs.length).length ≤ j) : BI N rs S so q (i + 1) 0 :=
  ⟨h.len, h.sound, h.mem, h.qm, h.nd, fun k b hk hb y hy => by
    by_cases e : k = i
    · subst e
      rw [ha] at hb
      obtain rfl := Option.some.inj hb
      obtain ⟨t, ht⟩ := List.mem_iff_getElem?.1 hy
      exact h.cur a ha t y (by have := (List.getElem?_eq_some_iff.1 ht).1; omega) ht
    · exact h.clo k b (by omega) hb y hy, fun a _ k x hk _ => by omega, h.st⟩
theorem BI.done (h : BI N rs S so q i j) (hi : q.length ≤ i) (n : Nat) : so.getD n false = true ↔ Rch rs S n := by
  refine ⟨h.sound n, fun hr => ?_⟩
  induction hr with
  | start => exact h.st
  | @step r s hr h0 _ hs hs0 ih =>
    obtain ⟨k, hk⟩ := List.mem_iff_getElem?.1 (h.mem _ ih)
    have hkl := (List.getElem?_eq_some_iff.1 hk).1
    obtain ⟨t, ht⟩ := List.mem_iff_getElem?.1 hr
    exact h.clo k _ (by omega) hk _ ((sucL_mem rs.length (Nat.le_refl _)).2 ⟨t, (List.getElem?_eq_some_iff.1 ht).1, r, ht, by omega, s, hs, hs0, rfl⟩)
end
end Go.Proofs.Ytopbibhpekjaeaa
