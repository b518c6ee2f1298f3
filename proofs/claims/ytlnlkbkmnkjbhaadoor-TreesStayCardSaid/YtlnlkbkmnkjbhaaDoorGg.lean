/- A right tree in which a part is taken for another: plain. -/
import Derived.Test.YtlnlkbkmnkjbhaaDoorGd
import Derived.Test.YtlnlkbkmnkjbhaaDoorP1
namespace Go.Proofs.YtlnlkbkmnkjbhaaDoor
open Go.RowKit

/-- What is told of a tree by a grammar. -/
def rightC (G : Gm) (nt : Int) (d : Tr) : Int := if G.okB then (if isN G.nts nt then (if isS G ⟨nt, St.zero⟩ d then 0 else 90) else 1) else 3
theorem rightC_ok {G : Gm} {nt : Int} {d : Tr} (h : rightC G nt d = 0) : G.okB = true ∧ isN G.nts nt = true ∧ isS G ⟨nt, St.zero⟩ d = true := by
  unfold rightC at h
  split at h
  · split at h
    · split at h
      · exact ⟨by assumption, by assumption, by assumption⟩
      · cases h
    · cases h
  · cases h
theorem rightC_eq {G : Gm} {nt : Int} (d : Tr) (h1 : G.okB = true) (h2 : isN G.nts nt = true) : rightC G nt d = if isS G ⟨nt, St.zero⟩ d then 0 else 90 := by
  unfold rightC; rw [if_pos h1, if_pos h2]
theorem isS_nt (G : Gm) (s t : Ks) (d : Tr) (h : s.nt = t.nt) (h0 : 0 ≤ s.nt) : isS G s d = isS G t d := by
  rw [isS_eq, isS_eq, if_neg (by omega), if_neg (by omega), h]
theorem allS_set (G : Gm) : ∀ (l : List Tr) (ss : List Ks) (i : Nat) (s : Ks) (x : Tr), allS G ss l = true → ss[i]? = some s → i < l.length → allS G ss (l.set i x) = isS G s x
  | [], ss, i, s, x, _, _, h => by simp at h
  | d :: l, ss, 0, s, x, h, hs, _ => by
    cases ss with
    | nil => cases hs
    | cons s' ss =>
      cases hs
      rw [List.set_cons_zero, allS]
      rw [allS] at h
      simp only [Bool.and_eq_true, List.tail_cons] at h ⊢
      rw [h.2, Bool.and_true]
  | d :: l, ss, i + 1, s, x, h, hs, hl => by
    cases ss with
    | nil => cases hs
    | cons s' ss =>
      rw [List.set_cons_succ, allS]
      rw [allS] at h
      simp only [Bool.and_eq_true, List.tail_cons] at h ⊢
      rw [h.1, Bool.true_and]
      exact allS_set G l ss i s x h.2 hs (by simpa using hl)
theorem allS_get (G : Gm) : ∀ (l : List Tr) (ss : List Ks) (i : Nat) (s : Ks) (x : Tr), allS G ss l = true → ss[i]? = some s → l[i]? = some x → isS G s x = true
  | [], ss, i, s, x, _, _, h => by cases h
  | d :: l, ss, 0, s, x, h, hs, hx => by
    cases ss with
    | nil => cases hs
    | cons s' ss =>
      cases hs
      cases hx
      rw [allS] at h
      simp only [Bool.and_eq_true] at h
      exact h.1
  | d :: l, ss, i + 1, s, x, h, hs, hx => by
    cases ss with
    | nil => cases hs
    | cons s' ss =>
      rw [allS] at h
      simp only [Bool.and_eq_true, List.tail_cons] at h
      exact allS_get G l ss i s x h.2 hs hx
/-- A part of a tree that is of a symbol is of a symbol, and what is put there decides. -/
theorem part_of (G : Gm) : ∀ (ps : List Int) (s : Ks) (t old : Tr), isS G s t = true → atP t ps = some old → ∃ s', isS G s' old = true ∧ ∀ y t', putP t ps y = some t' → isS G s t' = isS G s' y
  | [], s, t, old, h, ha => by
    rw [atP] at ha
    cases ha
    exact ⟨s, h, fun y t' hp => by rw [putP] at hp; cases hp; rfl⟩
  | v :: ps, s, t, old, h, ha => by
    rw [atP] at ha
    cases hk : kidAt t v with
    | none => rw [hk] at ha; cases ha
    | some x =>
      rw [hk] at ha
      simp only [Option.bind_some] at ha
      obtain ⟨hv0, hvx⟩ := kidAt_some hk
      have hlt := (List.getElem?_eq_some_iff.1 hvx).1
      have h2 := h
      rw [isS_eq] at h2
      by_cases hn : s.nt < 0
      · rw [if_pos hn] at h2
        unfold isBy at h2
        simp only [Bool.and_eq_true] at h2
        have : t.kids = [] := by simpa using h2.1.2
        rw [this] at hlt; simp at hlt
      · rw [if_neg hn, Bool.and_eq_true] at h2
        obtain ⟨hnd, hall⟩ := h2
        have hnd2 := hnd
        unfold isNd at hnd2
        simp only [Bool.and_eq_true, decide_eq_true_eq, beq_iff_eq] at hnd2
        have hlen := hnd2.2
        obtain ⟨s1, hs1⟩ : ∃ s1, (ruleOf G t.rule).rhs[v.toNat]? = some s1 := ⟨(ruleOf G t.rule).rhs[v.toNat]'(by omega), by simp⟩
        have hx := allS_get G _ _ _ s1 x hall hs1 hvx
        obtain ⟨s', g1, g2⟩ := part_of G ps s1 x old hx ha
        refine ⟨s', g1, fun y t' hp => ?_⟩
        obtain ⟨x2, y2, e1, e2, rfl⟩ := put_cons hp
        rw [hk] at e1
        cases e1
        rw [isS_eq, if_neg hn]
        show (isNd G s.nt t.rule t.byte (t.kids.set v.toNat y2).length && allS G (ruleOf G t.rule).rhs (t.kids.set v.toNat y2)) = _
        rw [List.length_set, hnd, Bool.true_and, allS_set G _ _ _ s1 y2 hall hs1 hlt]
        exact g2 y y2 e2
theorem ruleOf_mem {G : Gm} {r : Int} (h0 : 0 ≤ r) (h1 : r < (G.rules.length : Int)) : ruleOf G r ∈ G.rules := by
  unfold ruleOf
  rw [List.getD_eq_getElem?_getD, List.getElem?_eq_getElem (by omega)]
  exact List.getElem_mem _
/-- The law: a part with a rule's number is a node of it; it may be taken for another of its nonterminal, and for no other. -/
theorem stay_plain {G : Gm} {t old : Tr} {ps : List Int} (h : rightC G G.start t = 0) (ha : atP t ps = some old) :
    ((old.rule < 0 ∨ (G.rules.length : Int) ≤ old.rule) → old.rule = -1) ∧ (0 ≤ old.rule → old.rule < (G.rules.length : Int) → rightC G (ruleOf G old.rule).lhs old = 0 ∧ ∀ y t', putP t ps y = some t' → (rightC G G.start t' == 0) = (rightC G (ruleOf G old.rule).lhs y == 0)) := by
  obtain ⟨h1, h2, h3⟩ := rightC_ok h
  obtain ⟨s', g1, g2⟩ := part_of G ps _ t old h3 ha
  rw [isS_eq] at g1
  by_cases hn : s'.nt < 0
  · rw [if_pos hn] at g1
    unfold isBy at g1
    simp only [Bool.and_eq_true, beq_iff_eq] at g1
    exact ⟨fun _ => g1.1.1, fun h0 _ => by omega⟩
  · rw [if_neg hn, Bool.and_eq_true] at g1
    have hnd := g1.1
    unfold isNd at hnd
    simp only [Bool.and_eq_true, decide_eq_true_eq, beq_iff_eq] at hnd
    obtain ⟨⟨⟨⟨r0, r1⟩, r2⟩, r3⟩, r4⟩ := hnd
    refine ⟨fun e => by omega, fun _ _ => ?_⟩
    have hm := ruleOf_mem r0 r1
    have hok : isN G.nts (ruleOf G old.rule).lhs = true := by
      unfold Gm.okB at h1
      simp only [Bool.and_eq_true] at h1
      have := List.all_eq_true.1 h1.2 _ hm
      unfold Rl.okB at this
      simp only [Bool.and_eq_true] at this
      exact this.1.1
    have hs : ∀ y, isS G s' y = isS G ⟨(ruleOf G old.rule).lhs, St.zero⟩ y := fun y => isS_nt G _ _ y r3.symm (by omega)
    refine ⟨?_, fun y t' hp => ?_⟩
    · rw [rightC_eq old h1 hok, ← hs old, isS_eq, if_neg hn, g1.1, g1.2]; rfl
    · rw [rightC_eq t' h1 h2, rightC_eq y h1 hok, g2 y t' hp, hs y]
end Go.Proofs.YtlnlkbkmnkjbhaaDoor
