/- What lengths, marks and first bytes have to do with one another; no program in it. -/
import Derived.Test.YtopbibhpekjaeaaV0
namespace Go.Proofs.Ytopbibhpekjaeaa

theorem lns_zero {rs : List Rl} {l : List Ks} {k : Nat} (h : LnS rs l k) : k = 0 → LfS rs pN l := by
  induction h with
  | nil => intro _; exact .nil
  | byte _ _ _ _ => intro h; omega
  | nt h0 hr he _ _ ih1 ih2 => intro h; exact .nt h0 hr he (ih1 (by omega)) (ih2 (by omega))
theorem lfs_zero {rs : List Rl} {l : List Ks} (h : LfS rs pN l) : LnS rs l 0 := by
  induction h with
  | nil => exact .nil
  | byte _ h2 _ _ => exact absurd h2 (by simp [pN])
  | nt h0 hr he _ _ ih1 ih2 => exact LnS.nt (k1 := 0) (k2 := 0) h0 hr he ih1 ih2
theorem ln_zero {rs : List Rl} {n : Nat} : Lf rs pN n ↔ Ln rs n 0 :=
  ⟨fun ⟨r, hr, he, h⟩ => ⟨r, hr, he, lfs_zero h⟩, fun ⟨r, hr, he, h⟩ => ⟨r, hr, he, lns_zero h rfl⟩⟩
theorem any_has {s : St} (hs : s.ok) (h : s.any = true) : ∃ b, b < 256 ∧ s.has b = true := by
  apply Classical.byContradiction
  intro hn
  have : s = St.zero := St.ext' hs (by unfold St.ok St.zero; decide) fun b hb => by
    rw [St.has_zero]
    cases hb2 : s.has b with
    | true => exact absurd ⟨b, hb, hb2⟩ hn
    | false => rfl
  subst this
  exact absurd h (by decide)
theorem lns_first {rs : List Rl} (hs : ∀ r ∈ rs, ∀ s ∈ r.rhs, s.set.ok) {l : List Ks} {k : Nat} (h : LnS rs l k) : (∀ s ∈ l, s.set.ok) → 1 ≤ k → ∃ pre s post, l = pre ++ s :: post ∧ (∀ x ∈ pre, Nl rs x) ∧ ∃ b, b < 256 ∧ ((s.nt < 0 ∧ s.set.has b = true) ∨ (0 ≤ s.nt ∧ Fst rs s.nt.toNat b)) := by
  induction h with
  | nil => intro _ h; omega
  | @byte s l k h0 h1 _ _ =>
    intro hl _
    obtain ⟨b, hb, hh⟩ := any_has (hl s List.mem_cons_self) h1
    exact ⟨[], s, l, rfl, by simp, b, hb, .inl ⟨h0, hh⟩⟩
  | @nt s l r k1 k2 h0 hr he h1 h2 ih1 ih2 =>
    intro hl hk
    by_cases hk1 : 1 ≤ k1
    · obtain ⟨pre, t, post, e, hp, b, hb, hh⟩ := ih1 (hs r hr) hk1
      have hx : Fst rs r.lhs.toNat b := by
        rcases hh with ⟨hn, hh⟩ | ⟨hn, hh⟩
        · exact Fst.byte hr e hp hn hh
        · exact Fst.nt hr e hp hn hh
      rw [he] at hx
      exact ⟨[], s, l, rfl, by simp, b, hb, .inr ⟨h0, hx⟩⟩
    · have hz : LfS rs pN r.rhs := lns_zero h1 (by omega)
      obtain ⟨pre, t, post, e, hp, b, hb, hh⟩ := ih2 (fun x hx => hl x (List.mem_cons_of_mem _ hx)) (by omega)
      refine ⟨s :: pre, t, post, by rw [e]; rfl, fun x hx => ?_, b, hb, hh⟩
      rcases List.mem_cons.1 hx with rfl | hx
      · exact ⟨h0, r, hr, by omega, hz⟩
      · exact hp x hx
theorem ln_first {rs : List Rl} (hs : ∀ r ∈ rs, ∀ s ∈ r.rhs, s.set.ok) {n k : Nat} (h : Ln rs n k) (hk : 1 ≤ k) : ∃ b, b < 256 ∧ Fst rs n b := by
  obtain ⟨r, hr, he, hl⟩ := h
  obtain ⟨pre, t, post, e, hp, b, hb, hh⟩ := lns_first hs hl (hs r hr) hk
  have hx : Fst rs r.lhs.toNat b := by
    rcases hh with ⟨hn, hh⟩ | ⟨hn, hh⟩
    · exact Fst.byte hr e hp hn hh
    · exact Fst.nt hr e hp hn hh
  rw [he] at hx
  exact ⟨b, hb, by simpa using hx⟩
/-- One nonterminal's row of answers. -/
theorem row_one {rs : List Rl} {N n : Nat} (hs : ∀ r ∈ rs, ∀ s ∈ r.rhs, s.set.ok) (hn : n < N) {x y : Bool} {sh : List Int} {s : St} (hx : x = true ↔ Lf rs pN n) (hy : y = true ↔ Lf rs pP n) (hS : ShortOk N rs sh) (hf : ∀ b, b < 256 → (s.has b = true ↔ Fst rs n b)) :
    (x = false ∧ y = false ∧ sh.getD n 0 = -1) ∨ (x = true ∧ y = true ∧ sh.getD n 0 = 0) ∨ (x = false ∧ y = true ∧ 0 < sh.getD n 0 ∧ s.same St.zero = false) := by
  have hx' : x = false ↔ ¬ Lf rs pN n := by rw [← hx]; simp
  have hy' : y = false ↔ ¬ Lf rs pP n := by rw [← hy]; simp
  rcases hS.2 n hn with ⟨h1, h2⟩ | ⟨k, hk, hmin, he⟩
  · refine .inl ⟨hx'.2 fun h => h2 ⟨0, ln_zero.1 h⟩, hy'.2 fun h => h2 (ln_lf.1 h), h1⟩
  · refine .inr ?_
    by_cases h0 : k = 0
    · subst h0
      exact .inl ⟨hx.2 (ln_zero.2 hk), hy.2 (ln_lf.2 ⟨_, hk⟩), by rw [he]; rfl⟩
    · refine .inr ⟨hx'.2 fun h => ?_, hy.2 (ln_lf.2 ⟨_, hk⟩), by rw [he]; omega, ?_⟩
      · have := hmin 0 (ln_zero.1 h); omega
      · obtain ⟨b, hb, hF⟩ := ln_first hs hk (by omega)
        have hh := (hf b hb).2 hF
        cases hz : s.same St.zero with
        | false => rfl
        | true =>
          have := (St.same_eq _ _).1 hz
          subst this
          rw [St.has_zero] at hh; cases hh
theorem RAt.sets {w : World} {B : Nat} {a : Option Addr} {rs : List Rl} (h : RAt w B a rs) : ∀ r ∈ rs, ∀ s ∈ r.rhs, s.set.ok := by
  intro r hr s hs
  obtain ⟨j, hj⟩ := List.mem_iff_getElem?.1 hr
  obtain ⟨i, hi⟩ := List.mem_iff_getElem?.1 hs
  obtain ⟨b, o, sa, sc, _, _, hK, _⟩ := h.cells j r hj
  obtain ⟨_, _, _, _, h5, _⟩ := hK.cells i s hi
  exact h5
end Go.Proofs.Ytopbibhpekjaeaa
