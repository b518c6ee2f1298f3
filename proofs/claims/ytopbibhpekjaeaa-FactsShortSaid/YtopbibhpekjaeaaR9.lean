/- Nonterminals that lead nowhere but to such as are struck are struck: no program in it. -/
import Derived.Test.YtopbibhpekjaeaaR1
import Derived.Test.YtopbibhpekjaeaaF2
namespace Go.Proofs.Ytopbibhpekjaeaa

def ntAt (l : List Ks) (k : Nat) : Int := match l[k]? with | some s => s.nt | none => -1
def skB (so : List Bool) (l : List Ks) (k i : Nat) : Bool := decide (i = k) || (match l[i]? with | some s => symSo pN so s | none => true)
def ldB (so : List Bool) (l : List Ks) (k : Nat) : Bool := (List.range l.length).all (skB so l k) && decide (0 ≤ ntAt l k)
def bdB (so st : List Bool) (l : List Ks) (k : Nat) : Bool := ldB so l k && !(st.getD (ntAt l k).toNat false)
def badR (so st : List Bool) (a : Nat) (r : Rl) : Bool := decide (r.lhs = (a : Int)) && (List.range r.rhs.length).any (bdB so st r.rhs)
def freeA (rs : List Rl) (so st : List Bool) (a : Nat) : Bool := !(rs.any (badR so st a))
def stkA (rs : List Rl) (so st : List Bool) (a : Nat) : List Bool := if st.getD a false then st else if freeA rs so st a then st.set a true else st
def swp (rs : List Rl) (so st : List Bool) : Nat → List Bool
  | 0 => st
  | a + 1 => stkA rs so (swp rs so st a) a
def stk (N : Nat) (rs : List Rl) (so : List Bool) : Nat → List Bool
  | 0 => List.replicate N false
  | n + 1 => swp rs so (stk N rs so n) N
theorem stkA_len (rs : List Rl) (so st : List Bool) (a : Nat) : (stkA rs so st a).length = st.length := by unfold stkA; split; rfl; split <;> simp
theorem swp_len (rs : List Rl) (so st : List Bool) : ∀ a, (swp rs so st a).length = st.length
  | 0 => rfl
  | a + 1 => by rw [swp, stkA_len, swp_len rs so st a]
theorem stk_len (N : Nat) (rs : List Rl) (so : List Bool) : ∀ n, (stk N rs so n).length = N
  | 0 => by simp [stk]
  | n + 1 => by rw [stk, swp_len, stk_len N rs so n]
theorem ldB_iff (so : List Bool) (l : List Ks) (k : Nat) : ldB so l k = true ↔ ∃ pre s post, l = pre ++ s :: post ∧ pre.length = k ∧ 0 ≤ s.nt ∧ ∀ x ∈ pre ++ post, symSo pN so x = true := by
  unfold ldB
  rw [Bool.and_eq_true, List.all_eq_true, decide_eq_true_eq]
  constructor
  · rintro ⟨h1, h2⟩
    unfold ntAt at h2
    cases hs : l[k]? with
    | none => rw [hs] at h2; simp at h2
    | some s =>
      rw [hs] at h2
      have hk := (List.getElem?_eq_some_iff.1 hs).1
      refine ⟨l.take k, s, l.drop (k + 1), ?_, by rw [List.length_take]; omega, h2, fun x hx => ?_⟩
      · have hd : l.drop k = s :: l.drop (k + 1) := by
          rw [List.drop_eq_getElem_cons hk]
          congr 1
          exact (List.getElem?_eq_some_iff.1 hs).2
        rw [← hd, List.take_append_drop]
      · obtain ⟨i, hi, hne, hx'⟩ : ∃ i, i < l.length ∧ i ≠ k ∧ l[i]? = some x := by
          rcases List.mem_append.1 hx with hx | hx
          · obtain ⟨i, hi⟩ := List.mem_iff_getElem?.1 hx
            have hil := (List.getElem?_eq_some_iff.1 hi).1
            rw [List.length_take] at hil
            rw [List.getElem?_take] at hi
            split at hi
            · exact ⟨i, by omega, by omega, hi⟩
            · cases hi
          · obtain ⟨i, hi⟩ := List.mem_iff_getElem?.1 hx
            rw [List.getElem?_drop] at hi
            exact ⟨k + 1 + i, (List.getElem?_eq_some_iff.1 hi).1, by omega, hi⟩
        have := h1 i (List.mem_range.2 hi)
        unfold skB at this
        rw [hx'] at this
        simpa [hne] using this
  · rintro ⟨pre, s, post, rfl, rfl, h2, h3⟩
    have e : (pre ++ s :: post)[pre.length]? = some s := by simp
    refine ⟨fun i hi => ?_, by unfold ntAt; rw [e]; exact h2⟩
    unfold skB
    by_cases hik : i = pre.length
    · simp [hik]
    · cases hx : (pre ++ s :: post)[i]? with
      | none => simp
      | some x =>
        have : symSo pN so x = true := by
          apply h3
          by_cases hlt : i < pre.length
          · rw [List.getElem?_append_left hlt] at hx
            exact List.mem_append_left _ (List.mem_of_getElem? hx)
          · rw [List.getElem?_append_right (by omega)] at hx
            obtain ⟨j, hj⟩ : ∃ j, i - pre.length = j + 1 := ⟨i - pre.length - 1, by omega⟩
            rw [hj, List.getElem?_cons_succ] at hx
            exact List.mem_append_right _ (List.mem_of_getElem? hx)
        simp [this]
theorem badR_iff {rs : List Rl} {so st : List Bool} (h : ∀ m, so.getD m false = true ↔ Lf rs pN m) (a : Nat) (r : Rl) : badR so st a r = true ↔ r.lhs = (a : Int) ∧ ∃ pre s post, r.rhs = pre ++ s :: post ∧ 0 ≤ s.nt ∧ st.getD s.nt.toNat false = false ∧ ∀ x ∈ pre ++ post, Nl rs x := by
  unfold badR
  rw [Bool.and_eq_true, decide_eq_true_eq, List.any_eq_true]
  refine and_congr Iff.rfl ?_
  constructor
  · rintro ⟨k, _, hk⟩
    unfold bdB at hk
    rw [Bool.and_eq_true] at hk
    obtain ⟨pre, s, post, he, hl, h0, hx⟩ := (ldB_iff so r.rhs k).1 hk.1
    refine ⟨pre, s, post, he, h0, ?_, fun x hx' => (sym_nl h x).1 (hx x hx')⟩
    have h2 := hk.2
    unfold ntAt at h2
    rw [he, ← hl] at h2
    simpa using h2
  · rintro ⟨pre, s, post, he, h0, hs, hx⟩
    refine ⟨pre.length, List.mem_range.2 (by rw [he]; simp), ?_⟩
    unfold bdB
    rw [Bool.and_eq_true]
    refine ⟨(ldB_iff so r.rhs _).2 ⟨pre, s, post, he, rfl, h0, fun x hx' => (sym_nl h x).2 (hx x hx')⟩, ?_⟩
    unfold ntAt
    rw [he]
    simpa using hs
section
variable {N : Nat} {rs : List Rl} {so : List Bool} (h : ∀ m, so.getD m false = true ↔ Lf rs pN m)
include h
theorem freeA_iff (st : List Bool) (a : Nat) : freeA rs so st a = true ↔ ∀ b, Lead rs a b → st.getD b false = true := by
  unfold freeA
  rw [Bool.not_eq_true', ← Bool.not_eq_true, List.any_eq_true]
  constructor
  · rintro hn b ⟨r, hr, he, pre, s, post, e, hs, hx⟩
    cases hq : st.getD b false
    · exact absurd ⟨r, hr, (badR_iff h a r).2 ⟨he, pre, s, post, e, by omega, by rw [hs]; simpa using hq, hx⟩⟩ hn
    · rfl
  · rintro hb ⟨r, hr, hbad⟩
    obtain ⟨he, pre, s, post, e, h0, hs, hx⟩ := (badR_iff h a r).1 hbad
    have := hb s.nt.toNat ⟨r, hr, he, pre, s, post, e, by omega, hx⟩
    rw [this] at hs; cases hs
omit h in
theorem stkA_up (st : List Bool) (a x : Nat) (hx : st.getD x false = true) : (stkA rs so st a).getD x false = true := by
  unfold stkA
  split
  · exact hx
  · split
    · rw [getD_set_true]; split
      · rfl
      · exact hx
    · exact hx
omit h in
theorem swp_up (st : List Bool) (x : Nat) (hx : st.getD x false = true) : ∀ a, (swp rs so st a).getD x false = true
  | 0 => hx
  | a + 1 => stkA_up _ _ _ (swp_up st x hx a)
/-- Those that are struck lead to such as were struck ahead of them. -/
def Low (rs : List Rl) (st : List Bool) : Prop := ∃ (f : Nat → Nat) (M : Nat), (∀ x, f x ≤ M) ∧ ∀ a b, st.getD a false = true → Lead rs a b → st.getD b false = true ∧ f b < f a
theorem stkA_low {st : List Bool} (hl : Low rs st) (a : Nat) : Low rs (stkA rs so st a) := by
  unfold stkA
  split
  · exact hl
  · rename_i hna
    split
    · rename_i hf
      obtain ⟨f, M, hM, hf2⟩ := hl
      refine ⟨fun x => if x = a then M + 1 else f x, M + 1, fun x => by
        have := hM x
        show (if x = a then M + 1 else f x) ≤ M + 1
        split <;> omega, fun x b hx hb => ?_⟩
      have hstr := (freeA_iff h st a).1 hf
      have hset : ∀ y, st.getD y false = true → y ≠ a ∧ (st.set a true).getD y false = true := fun y hy => by
        refine ⟨fun e => by rw [e] at hy; exact hna hy, ?_⟩
        rw [getD_set_true]; split
        · rfl
        · exact hy
      rw [getD_set_true] at hx
      by_cases e : x = a
      · subst e
        obtain ⟨h1, h2⟩ := hset b (hstr b hb)
        refine ⟨h2, ?_⟩
        simp only [if_neg h1, if_true]
        have := hM b; omega
      · rw [if_neg (fun e' => e e'.1)] at hx
        obtain ⟨h3, h4⟩ := hf2 x b hx hb
        obtain ⟨h1, h2⟩ := hset b h3
        refine ⟨h2, ?_⟩
        simp only [if_neg h1, if_neg e]
        exact h4
    · exact hl
theorem swp_low {st : List Bool} (hl : Low rs st) : ∀ a, Low rs (swp rs so st a)
  | 0 => hl
  | a + 1 => stkA_low h (swp_low hl a) a
theorem stk_low : ∀ n, Low rs (stk N rs so n)
  | 0 => ⟨fun _ => 0, 0, fun _ => Nat.le_refl _, fun a b ha _ => by
      simp only [stk] at ha
      rw [List.getD_eq_getElem?_getD, List.getElem?_replicate] at ha
      split at ha <;> simp at ha⟩
  | n + 1 => swp_low h (stk_low n) N
omit h in
theorem max_ex (rank : Nat → Nat) (P : Nat → Prop) : ∀ N, (∃ a, a < N ∧ P a) → ∃ a, a < N ∧ P a ∧ ∀ b, b < N → P b → rank b ≤ rank a
  | 0, ⟨a, ha, _⟩ => by omega
  | N + 1, ⟨a, ha, hp⟩ => by
    by_cases hN : ∃ a, a < N ∧ P a
    · obtain ⟨m, hm, hpm, hmax⟩ := max_ex rank P N hN
      by_cases hc : P N ∧ rank m < rank N
      · refine ⟨N, by omega, hc.1, fun b hb hpb => ?_⟩
        by_cases e : b = N
        · rw [e]; exact Nat.le_refl _
        · have := hmax b (by omega) hpb; omega
      · refine ⟨m, by omega, hpm, fun b hb hpb => ?_⟩
        by_cases e : b = N
        · subst e
          apply Classical.byContradiction
          intro hlt
          exact hc ⟨hpb, by omega⟩
        · exact hmax b (by omega) hpb
    · have e : a = N := by
        apply Classical.byContradiction
        intro e
        exact hN ⟨a, by omega, hp⟩
      subst e
      refine ⟨a, by omega, hp, fun b hb hpb => ?_⟩
      by_cases e : b = a
      · rw [e]; exact Nat.le_refl _
      · exact absurd ⟨b, by omega, hpb⟩ hN
theorem swp_new {st : List Bool} {a : Nat} (hfree : ∀ b, Lead rs a b → st.getD b false = true) (hlen : a < st.length) : ∀ n, a < n → (swp rs so st n).getD a false = true
  | 0, hn => by omega
  | n + 1, hn => by
    by_cases e : a = n
    · subst e
      rw [swp]
      unfold stkA
      split
      · rename_i hx; exact hx
      · rw [if_pos ((freeA_iff h _ _).2 fun b hb => swp_up st b (hfree b hb) a), getD_set_true, if_pos ⟨rfl, by rw [swp_len]; exact hlen⟩]
    · rw [swp]; exact stkA_up _ _ _ (swp_new hfree hlen n (by omega))
theorem stk_grow (hok : Ok N rs) {rank : Nat → Nat} (hr : ∀ a b, a < N → Lead rs a b → rank a < rank b) : ∀ n, (∀ x, x < N → (stk N rs so n).getD x false = true) ∨ n ≤ (stk N rs so n).count true
  | 0 => .inr (Nat.zero_le _)
  | n + 1 => by
    have hup : ∀ x, (stk N rs so n).getD x false = true → (stk N rs so (n + 1)).getD x false = true := fun x hx => swp_up _ x hx N
    by_cases hall : ∀ x, x < N → (stk N rs so n).getD x false = true
    · exact .inl fun x hx => hup x (hall x hx)
    · rcases stk_grow hok hr n with h1 | h1
      · exact absurd h1 hall
      · right
        obtain ⟨x, hx⟩ := Classical.not_forall.1 hall
        obtain ⟨hxN, hxn⟩ := Classical.not_imp.1 hx
        obtain ⟨a, ha, hna, hmax⟩ := max_ex rank (fun x => ¬ (stk N rs so n).getD x false = true) N ⟨x, hxN, hxn⟩
        have hfree : ∀ b, Lead rs a b → (stk N rs so n).getD b false = true := fun b hb => by
          have hbN : b < N := by
            obtain ⟨r, hrm, _, pre, s, post, e, hs, _⟩ := hb
            have := hok.sym r hrm s (by rw [e]; simp)
            omega
          apply Classical.byContradiction
          intro hnb
          have h2 := hmax b hbN hnb
          have h3 := hr a b ha hb
          omega
        have hnew := swp_new h hfree (by rw [stk_len]; exact ha) N ha
        have := count_up (by rw [stk_len, stk_len]) hup (fun e => hna (by rw [e]; exact hnew))
        omega
theorem stk_done (hok : Ok N rs) : (stk N rs so N).count true < N ↔ Cyc N rs := by
  have hle := List.count_le_length (a := true) (l := stk N rs so N)
  rw [stk_len] at hle
  constructor
  · rintro hc ⟨rank, hr⟩
    rcases stk_grow h hok hr N with h1 | h1
    · have : stk N rs so N = List.replicate N true := by
        refine List.ext_getElem? fun i => ?_
        by_cases hi : i < N
        · have h2 := h1 i hi
          rw [List.getD_eq_getElem?_getD, List.getElem?_eq_getElem (by rw [stk_len]; exact hi)] at h2
          rw [List.getElem?_eq_getElem (by rw [stk_len]; exact hi), List.getElem?_replicate, if_pos hi]
          simpa using h2
        · rw [List.getElem?_eq_none (by rw [stk_len]; omega), List.getElem?_replicate, if_neg hi]
      rw [this] at hc
      simp at hc
    · omega
  · intro hcyc
    apply Classical.byContradiction
    intro hc
    have hall := all_true (l := stk N rs so N) (by rw [stk_len]; omega)
    rw [stk_len] at hall
    obtain ⟨f, M, hM, hf⟩ := stk_low h (N := N) N
    refine hcyc ⟨fun x => M - f x, fun a b ha hb => ?_⟩
    obtain ⟨_, h2⟩ := hf a b (hall a ha) hb
    have := hM a
    simp only
    omega
end
end Go.Proofs.Ytopbibhpekjaeaa
