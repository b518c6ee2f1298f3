/- The first bytes of nonterminals, with no program in them. -/
import Derived.Test.YtopbibhpekjaeaaF2
namespace Go.Proofs.Ytopbibhpekjaeaa

inductive Fst (rs : List Rl) : Nat → Nat → Prop
  | byte {r : Rl} {pre : List Ks} {s : Ks} {post : List Ks} {b : Nat} : r ∈ rs → r.rhs = pre ++ s :: post → (∀ x ∈ pre, Nl rs x) → s.nt < 0 → s.set.has b = true → Fst rs r.lhs.toNat b
  | nt {r : Rl} {pre : List Ks} {s : Ks} {post : List Ks} {b : Nat} : r ∈ rs → r.rhs = pre ++ s :: post → (∀ x ∈ pre, Nl rs x) → 0 ≤ s.nt → Fst rs s.nt.toNat b → Fst rs r.lhs.toNat b

/-- The set of the first symbol that is a byte, if all ahead of it are nullable. -/
def ownS (so : List Bool) : List Ks → St
  | [] => St.zero
  | s :: l => if s.nt < 0 then s.set else if symSo pN so s then ownS so l else St.zero
/-- The nonterminals that stand ahead, with those ahead of them nullable. -/
def takP (so : List Bool) : List Ks → List Ks
  | [] => []
  | s :: l => if s.nt < 0 then [] else s :: (if symSo pN so s then takP so l else [])
theorem own_spec (so : List Bool) (b : Nat) : ∀ l : List Ks, (ownS so l).has b = true ↔ ∃ pre s post, l = pre ++ s :: post ∧ (∀ x ∈ pre, 0 ≤ x.nt ∧ symSo pN so x = true) ∧ s.nt < 0 ∧ s.set.has b = true
  | [] => by simp [ownS, St.has_zero]
  | s :: l => by
    have ih := own_spec so b l
    unfold ownS
    by_cases h : s.nt < 0
    · rw [if_pos h]
      constructor
      · intro hb; exact ⟨[], s, l, rfl, by simp, h, hb⟩
      · rintro ⟨pre, x, post, he, hp, hx, hb⟩
        cases pre with
        | nil => simp at he; rw [he.1]; exact hb
        | cons y pre => simp at he; have := (hp y (by simp)).1; rw [← he.1] at this; omega
    · rw [if_neg h]
      cases hq : symSo pN so s
      · simp only [Bool.false_eq_true, if_false, St.has_zero, false_iff]
        rintro ⟨pre, x, post, he, hp, hx, hb⟩
        cases pre with
        | nil => simp at he; rw [← he.1] at hx; exact h hx
        | cons y pre => simp at he; have := (hp y (by simp)).2; rw [← he.1, hq] at this; cases this
      · simp only [if_true]
        rw [ih]
        constructor
        · rintro ⟨pre, x, post, he, hp, hx⟩
          exact ⟨s :: pre, x, post, by rw [he]; rfl, fun y hy => by rcases List.mem_cons.1 hy with e | hy
                                                                    · rw [e]; exact ⟨by omega, hq⟩
                                                                    · exact hp y hy, hx⟩
        · rintro ⟨pre, x, post, he, hp, hx⟩
          cases pre with
          | nil => simp at he; rw [← he.1] at hx; exact absurd hx.1 h
          | cons y pre => simp at he; exact ⟨pre, x, post, he.2, fun z hz => hp z (List.mem_cons_of_mem _ hz), hx⟩
theorem tak_spec (so : List Bool) (n : Nat) : ∀ l : List Ks, (∃ s ∈ takP so l, s.nt = (n : Int)) ↔ ∃ pre s post, l = pre ++ s :: post ∧ (∀ x ∈ pre, 0 ≤ x.nt ∧ symSo pN so x = true) ∧ s.nt = (n : Int)
  | [] => by simp [takP]
  | s :: l => by
    have ih := tak_spec so n l
    unfold takP
    by_cases h : s.nt < 0
    · rw [if_pos h]
      constructor
      · rintro ⟨x, hx, _⟩; cases hx
      · rintro ⟨pre, x, post, he, hp, hx⟩
        cases pre with
        | nil => simp at he; rw [← he.1] at hx; omega
        | cons y pre => simp at he; have := (hp y (by simp)).1; rw [← he.1] at this; omega
    · rw [if_neg h]
      constructor
      · rintro ⟨x, hx, hn⟩
        rcases List.mem_cons.1 hx with e | hx
        · exact ⟨[], s, l, rfl, by simp, by rw [← e]; exact hn⟩
        · cases hq : symSo pN so s
          · rw [hq] at hx; simp at hx
          · rw [hq] at hx
            obtain ⟨pre, y, post, he, hp, hy⟩ := ih.1 ⟨x, hx, hn⟩
            refine ⟨s :: pre, y, post, by rw [he]; rfl, fun z hz => ?_, hy⟩
            rcases List.mem_cons.1 hz with e | hz
            · rw [e]; exact ⟨by omega, hq⟩
            · exact hp z hz
      · rintro ⟨pre, x, post, he, hp, hx⟩
        cases pre with
        | nil => simp at he; exact ⟨s, by simp, by rw [he.1]; exact hx⟩
        | cons y pre =>
          simp at he
          have hq := (hp y (by simp)).2
          rw [← he.1] at hq
          obtain ⟨z, hz, hn⟩ := ih.2 ⟨pre, x, post, he.2, fun z hz => hp z (List.mem_cons_of_mem _ hz), hx⟩
          exact ⟨z, by rw [hq]; exact List.mem_cons_of_mem _ hz, hn⟩
/-- What the first k rules' sets give, and who takes whose first bytes for his. -/
def ownL (rs : List Rl) (so : List Bool) (n : Nat) : Nat → St
  | 0 => St.zero
  | k + 1 => if lhsAt rs k = (n : Int) then (ownL rs so n k).or (ownS so (rhsAt rs k)) else ownL rs so n k
def tkL (rs : List Rl) (so : List Bool) (n : Nat) : Nat → List Nat
  | 0 => []
  | k + 1 => tkL rs so n k ++ List.replicate (cnt n (takP so (rhsAt rs k))) (lhsAt rs k).toNat
theorem or_zero (s : St) : s.or St.zero = s := by cases s; simp [St.or, St.zero]
theorem takP_len (so : List Bool) : ∀ l, (takP so l).length ≤ l.length
  | [] => by simp [takP]
  | s :: l => by
    have := takP_len so l
    unfold takP
    split
    · simp
    · split <;> simp; omega
theorem tkL_len (rs : List Rl) (so : List Bool) (n : Nat) (h : ∀ r ∈ rs, r.rhs.length ≤ 80) : ∀ k, (tkL rs so n k).length ≤ 80 * k
  | 0 => by simp [tkL]
  | k + 1 => by
    have := tkL_len rs so n h k
    have h2 : (rhsAt rs k).length ≤ 80 := by
      unfold rhsAt; split
      · rename_i r hr; exact h r (List.mem_of_getElem? hr)
      · simp
    have h3 := cnt_le n (takP so (rhsAt rs k))
    have h4 := takP_len so (rhsAt rs k)
    simp [tkL]; omega
theorem ownL_ok (rs : List Rl) (so : List Bool) (n : Nat) (h : ∀ r ∈ rs, ∀ s ∈ r.rhs, s.set.ok) : ∀ k, (ownL rs so n k).ok
  | 0 => St.zero_ok
  | k + 1 => by
    have ih := ownL_ok rs so n h k
    have h2 : ∀ l : List Ks, (∀ s ∈ l, s.set.ok) → (ownS so l).ok := by
      intro l
      induction l with
      | nil => intro _; exact St.zero_ok
      | cons s l ih =>
        intro hl
        unfold ownS
        split
        · exact hl s (by simp)
        · split
          · exact ih fun x hx => hl x (List.mem_cons_of_mem _ hx)
          · exact St.zero_ok
    unfold ownL
    split
    · refine St.or_ok ih (h2 _ ?_)
      unfold rhsAt; split
      · rename_i r hr; exact h r (List.mem_of_getElem? hr)
      · intro s hs; cases hs
    · exact ih
theorem ownL_mem (rs : List Rl) (so : List Bool) (n b : Nat) : ∀ k, (ownL rs so n k).has b = true ↔ ∃ i, i < k ∧ ∃ r, rs[i]? = some r ∧ r.lhs = (n : Int) ∧ (ownS so r.rhs).has b = true
  | 0 => by simp [ownL, St.has_zero]
  | k + 1 => by
    have ih := ownL_mem rs so n b k
    unfold ownL
    constructor
    · intro hb
      split at hb
      · rename_i hl
        rw [St.has_or, Bool.or_eq_true] at hb
        rcases hb with hb | hb
        · obtain ⟨i, hi, hr⟩ := ih.1 hb
          exact ⟨i, by omega, hr⟩
        · unfold lhsAt at hl
          unfold rhsAt at hb
          cases hr : rs[k]? with
          | none => rw [hr] at hb; simp [ownS, St.has_zero] at hb
          | some r => rw [hr] at hb hl; exact ⟨k, by omega, r, hr, hl, hb⟩
      · obtain ⟨i, hi, hr⟩ := ih.1 hb
        exact ⟨i, by omega, hr⟩
    · rintro ⟨i, hi, r, hr, hl, hb⟩
      by_cases e : i = k
      · subst e
        have h1 : lhsAt rs i = (n : Int) := by unfold lhsAt; rw [hr]; exact hl
        have h2 : rhsAt rs i = r.rhs := by unfold rhsAt; rw [hr]
        rw [if_pos h1, St.has_or, h2, hb]; simp
      · have := ih.2 ⟨i, by omega, r, hr, hl, hb⟩
        split
        · rw [St.has_or, this]; rfl
        · exact this
theorem tkL_mem (rs : List Rl) (so : List Bool) (n y : Nat) (h0 : ∀ r ∈ rs, 0 ≤ r.lhs) : ∀ k, y ∈ tkL rs so n k ↔ ∃ i, i < k ∧ ∃ r, rs[i]? = some r ∧ r.lhs = (y : Int) ∧ ∃ s ∈ takP so r.rhs, s.nt = (n : Int)
  | 0 => by simp [tkL]
  | k + 1 => by
    have ih := tkL_mem rs so n y h0 k
    unfold tkL
    rw [List.mem_append, ih]
    constructor
    · rintro (⟨i, hi, hr⟩ | hb)
      · exact ⟨i, by omega, hr⟩
      · obtain ⟨h1, h2⟩ := List.mem_replicate.1 hb
        unfold rhsAt at h1
        unfold lhsAt at h2
        cases hr : rs[k]? with
        | none => rw [hr] at h1; simp [takP, cnt] at h1
        | some r =>
          rw [hr] at h1 h2
          have h3 := h0 r (List.mem_of_getElem? hr)
          simp only at h1 h2
          unfold cnt at h1
          obtain ⟨s, hs⟩ : ∃ s, s ∈ (takP so r.rhs).filter fun s => decide (s.nt = (n : Int)) := List.exists_mem_of_ne_nil _ (fun e => h1 (by rw [e]; rfl))
          obtain ⟨hs1, hs2⟩ := List.mem_filter.1 hs
          exact ⟨k, by omega, r, hr, by omega, s, hs1, by simpa using hs2⟩
    · rintro ⟨i, hi, r, hr, hl, s, hs, hn⟩
      by_cases e : i = k
      · subst e
        right
        have h1 : lhsAt rs i = r.lhs := by unfold lhsAt; rw [hr]
        have h2 : rhsAt rs i = r.rhs := by unfold rhsAt; rw [hr]
        rw [h1, h2]
        refine List.mem_replicate.2 ⟨?_, by omega⟩
        unfold cnt
        intro h0
        have := List.length_eq_zero_iff.1 h0
        have h3 : s ∈ (takP so r.rhs).filter fun s => decide (s.nt = (n : Int)) := List.mem_filter.2 ⟨hs, by simpa using hn⟩
        rw [this] at h3; cases h3
      · left; exact ⟨i, by omega, r, hr, hl, s, hs, hn⟩

/-- Is one set within another? -/
def sub (s t : St) : Bool := (s.and t).same s
theorem sub_iff {s t : St} (hs : s.ok) : sub s t = true ↔ ∀ b, b < 256 → s.has b = true → t.has b = true := by
  unfold sub
  rw [St.same_eq]
  constructor
  · intro h b _ hb
    have := St.has_and s t b
    rw [h, hb] at this; simpa using this.symm
  · intro h
    refine St.ext' (St.and_ok hs) hs fun b hb => ?_
    rw [St.has_and]
    cases h1 : s.has b
    · rfl
    · rw [h b hb h1]; rfl
theorem sub_refl {s : St} (hs : s.ok) : sub s s = true := (sub_iff hs).2 fun _ _ h => h
def card (s : St) : Nat := (List.range 256).countP s.has
theorem countP_lt {α : Type} (p q : α → Bool) : ∀ l : List α, (∀ x ∈ l, p x = true → q x = true) → (∃ x ∈ l, q x = true ∧ p x = false) → l.countP p < l.countP q
  | [], _, h => by obtain ⟨x, hx, _⟩ := h; cases hx
  | a :: l, hm, h => by
    have hle : l.countP p ≤ l.countP q := List.countP_mono_left fun x hx => hm x (List.mem_cons_of_mem _ hx)
    rw [List.countP_cons, List.countP_cons]
    by_cases ha : q a = true ∧ p a = false
    · rw [if_pos ha.1, ha.2]; simp; omega
    · have : l.countP p < l.countP q := by
        refine countP_lt p q l (fun x hx => hm x (List.mem_cons_of_mem _ hx)) ?_
        obtain ⟨x, hx, hq⟩ := h
        rcases List.mem_cons.1 hx with e | hx
        · rw [e] at hq; exact absurd hq ha
        · exact ⟨x, hx, hq⟩
      have h2 := hm a (by simp)
      cases h3 : p a
      · simp only [Bool.false_eq_true, if_false]; omega
      · rw [h2 h3]; simp only [if_true]; omega
theorem card_le (s : St) : card s ≤ 256 := by unfold card; exact Nat.le_trans List.countP_le_length (by simp)
theorem card_or {s t : St} (hs : s.ok) (h : sub s t = false) : card t < card (t.or s) := by
  have hn : ¬ ∀ b, b < 256 → s.has b = true → t.has b = true := fun h' => by rw [(sub_iff hs).2 h'] at h; cases h
  unfold card
  refine countP_lt _ _ _ (fun x _ hx => by rw [St.has_or, hx]; rfl) ?_
  obtain ⟨b, hb⟩ := Classical.not_forall.1 hn
  obtain ⟨hb1, hb2⟩ := Classical.not_imp.1 hb
  obtain ⟨hb2, hb3⟩ := Classical.not_imp.1 hb2
  exact ⟨b, by simpa using hb1, by rw [St.has_or, hb2]; simp, by simpa using hb3⟩
def cards (l : List St) : Nat := (l.map card).sum
theorem cards_set : ∀ (l : List St) (y : Nat) (s : St), y < l.length → cards (l.set y s) + card (l.getD y St.zero) = cards l + card s
  | [], y, s, h => by simp at h
  | a :: l, 0, s, h => by simp [cards]; omega
  | a :: l, y + 1, s, h => by
    have := cards_set l y s (by simpa using h)
    simp [cards] at this ⊢; omega
theorem cards_le : ∀ l : List St, cards l ≤ 256 * l.length
  | [] => by simp [cards]
  | a :: l => by
    have := cards_le l
    have h2 := card_le a
    simp [cards] at this ⊢; omega
theorem getD_set_st (l : List St) (m n : Nat) (x : St) (hm : m < l.length) : (l.set m x).getD n St.zero = if n = m then x else l.getD n St.zero := by
  rw [List.getD_eq_getElem?_getD, List.getD_eq_getElem?_getD, List.getElem?_set]
  by_cases h : n = m
  · subst h; simp [hm]
  · rw [if_neg (fun e => h e.symm), if_neg h]
/-- Sets on the way to all first bytes; the one at place i of again is given on, to j of its takers so far. -/
structure FI (N : Nat) (rs : List Rl) (own : Nat → St) (tk : Nat → List Nat) (sets : List St) (again : List Nat) (i j : Nat) : Prop where
  len : sets.length = N
  ok : ∀ n, (sets.getD n St.zero).ok
  base : ∀ n b, n < N → (own n).has b = true → (sets.getD n St.zero).has b = true
  sound : ∀ n b, n < N → (sets.getD n St.zero).has b = true → Fst rs n b
  idx : ∀ x ∈ again, x < N
  le : i ≤ again.length
  cov : ∀ (x : Nat), x < N → ∀ (q y : Nat), (tk x)[q]? = some y → sub (sets.getD x St.zero) (sets.getD y St.zero) = true ∨ (∃ p : Nat, i < p ∧ again[p]? = some x) ∨ (again[i]? = some x ∧ j ≤ q)
  bnd : again.length ≤ N + cards sets
section
variable {N : Nat} {rs : List Rl} {own : Nat → St} {tk : Nat → List Nat} {sets : List St} {again : List Nat} {i j : Nat}
theorem FI.next (h : FI N rs own tk sets again i j) {x : Nat} (hx : again[i]? = some x) (hj : (tk x).length ≤ j) : FI N rs own tk sets again (i + 1) 0 := by
  have hlt := (List.getElem?_eq_some_iff.1 hx).1
  refine ⟨h.len, h.ok, h.base, h.sound, h.idx, by omega, fun z hz q y hq => ?_, h.bnd⟩
  rcases h.cov z hz q y hq with h1 | ⟨p, hp, hp2⟩ | ⟨h3, h4⟩
  · exact .inl h1
  · by_cases e : p = i + 1
    · subst e; exact .inr (.inr ⟨hp2, Nat.zero_le _⟩)
    · exact .inr (.inl ⟨p, by omega, hp2⟩)
  · rw [hx] at h3
    obtain rfl := Option.some.inj h3
    have := (List.getElem?_eq_some_iff.1 hq).1
    omega
theorem FI.keep (h : FI N rs own tk sets again i j) {x y : Nat} (hx : again[i]? = some x) (hy : (tk x)[j]? = some y) (hs : sub (sets.getD x St.zero) (sets.getD y St.zero) = true) : FI N rs own tk sets again i (j + 1) := by
  refine ⟨h.len, h.ok, h.base, h.sound, h.idx, h.le, fun z hz q u hq => ?_, h.bnd⟩
  rcases h.cov z hz q u hq with h1 | h2 | ⟨h3, h4⟩
  · exact .inl h1
  · exact .inr (.inl h2)
  · by_cases e : q = j
    · subst e
      rw [hx] at h3
      obtain rfl := Option.some.inj h3
      rw [hy] at hq
      obtain rfl := Option.some.inj hq
      exact .inl hs
    · exact .inr (.inr ⟨h3, by omega⟩)
theorem FI.give (h : FI N rs own tk sets again i j) {x y : Nat} (hx : again[i]? = some x) (hy : (tk x)[j]? = some y) (hyN : y < N) (hs : sub (sets.getD x St.zero) (sets.getD y St.zero) = false)
    (hf : ∀ b, Fst rs x b → Fst rs y b) : FI N rs own tk (sets.set y ((sets.getD y St.zero).or (sets.getD x St.zero))) (again ++ [y]) i (j + 1) := by
  have hlt := (List.getElem?_eq_some_iff.1 hx).1
  have hyl : y < sets.length := by rw [h.len]; exact hyN
  have hxN := h.idx x (List.mem_of_getElem? hx)
  have hxy : x ≠ y := fun e => by rw [e, sub_refl (h.ok y)] at hs; cases hs
  refine ⟨by rw [List.length_set]; exact h.len, fun n => ?_, fun n b hn hb => ?_, fun n b hn hb => ?_, fun z hz => ?_, by rw [List.length_append]; omega, fun z hz q u hq => ?_, ?_⟩
  · rw [getD_set_st _ _ _ _ hyl]; split
    · exact St.or_ok (h.ok y) (h.ok x)
    · exact h.ok n
  · rw [getD_set_st _ _ _ _ hyl]
    have := h.base n b hn hb
    split
    · rename_i e; rw [e] at this; rw [St.has_or, this]; rfl
    · exact this
  · rw [getD_set_st _ _ _ _ hyl] at hb
    split at hb
    · rename_i e
      rw [e]
      rw [St.has_or, Bool.or_eq_true] at hb
      rcases hb with hb | hb
      · exact h.sound y b hyN hb
      · exact hf b (h.sound x b hxN hb)
    · exact h.sound n b hn hb
  · rcases List.mem_append.1 hz with hz | hz
    · exact h.idx z hz
    · simp at hz; omega
  · by_cases ezy : z = y
    · subst ezy
      exact .inr (.inl ⟨again.length, by omega, by rw [List.getElem?_append_right (Nat.le_refl _)]; simp⟩)
    · rw [getD_set_st _ _ _ _ hyl, if_neg ezy, getD_set_st _ _ _ _ hyl]
      rcases h.cov z hz q u hq with h1 | ⟨p, hp, hp2⟩ | ⟨h3, h4⟩
      · left
        split
        · rename_i e
          rw [e] at h1
          rw [sub_iff (h.ok z)] at h1 ⊢
          intro b hb hb2
          rw [St.has_or, h1 b hb hb2]; rfl
        · exact h1
      · exact .inr (.inl ⟨p, hp, by rw [List.getElem?_append_left (List.getElem?_eq_some_iff.1 hp2).1]; exact hp2⟩)
      · by_cases e : q = j
        · subst e
          rw [hx] at h3
          obtain rfl := Option.some.inj h3
          rw [hy] at hq
          obtain rfl := Option.some.inj hq
          left
          rw [if_pos rfl, sub_iff (h.ok x)]
          intro b hb hb2
          rw [St.has_or, hb2]; simp
        · exact .inr (.inr ⟨by rw [List.getElem?_append_left hlt]; exact h3, by omega⟩)
  · have h1 := cards_set sets y ((sets.getD y St.zero).or (sets.getD x St.zero)) hyl
    have h2 := card_or (h.ok x) hs
    have h3 := h.bnd
    rw [List.length_append]
    simp only [List.length_singleton]
    omega
end
end Go.Proofs.Ytopbibhpekjaeaa
