/- A word hangs on its own bytes alone, and on that no letter or digit stands behind it: plain. -/
import Derived.Test.YtbbmjnhbmcbehaaF1
namespace Go.Proofs.Ytbbmjnhbmcbehaa
open Go.RowKit

/-- The list does not begin with what is so. -/
def stop (p : Nat → Bool) (l : List UInt8) : Prop := ∀ c t, l = c :: t → p c.toNat = false
theorem stop_nil (p : Nat → Bool) : stop p [] := fun _ _ h => by cases h
theorem stop_cons {p : Nat → Bool} {c : UInt8} {t : List UInt8} (h : p c.toNat = false) : stop p (c :: t) := fun c' t' e => by cases e; exact h
theorem lspan_zero {p : Nat → Bool} {l : List UInt8} (h : stop p l) : lspan p l = 0 := by
  cases l with
  | nil => rfl
  | cons c t => simp [lspan, h c t rfl]
theorem lspan_take (p : Nat → Bool) : ∀ (l r : List UInt8), stop p r → lspan p (l.take (lspan p l) ++ r) = lspan p l
  | [], r, h => by simpa [lspan] using lspan_zero h
  | c :: l, r, h => by
    by_cases hc : p c.toNat = true
    · have := lspan_take p l r h
      simp [lspan, hc, this]
    · have hc' : p c.toNat = false := by simpa using hc
      simpa [lspan, hc'] using lspan_zero h
theorem lspan_drop (p : Nat → Bool) : ∀ l : List UInt8, stop p (l.drop (lspan p l))
  | [] => by simpa [lspan] using stop_nil p
  | c :: l => by
    by_cases hc : p c.toNat = true
    · have := lspan_drop p l
      simpa [lspan, hc] using this
    · have hc' : p c.toNat = false := by simpa using hc
      simpa [lspan, hc'] using stop_cons (t := l) hc'
theorem take_app {l : List UInt8} {n : Nat} (h : n ≤ l.length) (r : List UInt8) : (l.take n ++ r).take n = l.take n := by
  rw [List.take_append_of_le_length (by rw [List.length_take]; omega), List.take_take, Nat.min_self]
theorem drop_app {l : List UInt8} {n : Nat} (h : n ≤ l.length) (r : List UInt8) : (l.take n ++ r).drop n = r := by
  have e : (l.take n).length = n := by rw [List.length_take]; omega
  rw [List.drop_append_of_le_length (by omega)]
  rw [List.drop_eq_nil_of_le (by omega)]; rfl
theorem bt_mk' (l : List UInt8) (i : Nat) : bt ⟨l.toArray⟩ i = (l.getD i 0).toNat := by rw [bt_list]
theorem size_mk' (l : List UInt8) : (⟨l.toArray⟩ : ByteArray).size = l.length := rfl
/-- A sign is read off its own bytes. -/
theorem rdql_pre (l l' : List UInt8) (hn : (rdql l).2 ≠ 0) (ht : l'.take (rdql l).2 = l.take (rdql l).2) (hl : (rdql l).2 ≤ l'.length) : rdql l' = rdql l := by
  have hg : ∀ i, i < (rdql l).2 → l'.getD i 0 = l.getD i 0 := by
    intro i hi
    have h1 := congrArg (fun x => x.getD i 0) ht
    simp only [List.getD_eq_getElem?_getD, List.getElem?_take, hi, if_true] at h1
    simpa [List.getD_eq_getElem?_getD] using h1
  revert hn hl hg
  clear ht
  unfold rdql rdq
  simp only [bt_mk', size_mk']
  by_cases h1 : l.length < 2 ∨ (l.getD 0 0).toNat ≠ 92
  · rw [if_pos h1]; intro h; exact absurd rfl h
  rw [if_neg h1]
  by_cases h2 : 0 ≤ shortq (l.getD 1 0).toNat
  · rw [if_pos h2]
    intro _ hl hg
    simp only at hl hg
    rw [hg 0 (by omega), hg 1 (by omega)]
    rw [if_neg (by omega), if_pos h2]
  rw [if_neg h2]
  by_cases h3 : l.length < 4 ∨ (l.getD 1 0).toNat ≠ 120
  · rw [if_pos h3]; intro h; exact absurd rfl h
  rw [if_neg h3]
  by_cases h4 : dig (l.getD 2 0).toNat < 0 ∨ dig (l.getD 3 0).toNat < 0
  · rw [if_pos h4]; intro h; exact absurd rfl h
  rw [if_neg h4]
  intro _ hl hg
  simp only at hl hg
  rw [hg 0 (by omega), hg 1 (by omega), hg 2 (by omega), hg 3 (by omega)]
  rw [if_neg (by omega), if_neg h2, if_neg (by omega), if_neg h4]
theorem quo_pre : ∀ (f : Nat) (l : List UInt8) (k : Nat) (acc : List Nat), (quo f l k acc).code = 0 → ∀ (f' : Nat) (r : List UInt8), (l.take ((quo f l k acc).fin - k)).length ≤ f' → quo f' (l.take ((quo f l k acc).fin - k) ++ r) k acc = quo f l k acc
  | 0, l, k, acc, h, f', r, hf => by simp [quo] at h
  | f + 1, [], k, acc, h, f', r, hf => by simp [quo] at h
  | f + 1, c :: l, k, acc, h, f', r, hf => by
    have hpos := quo_pos _ _ _ _ h
    have hfin := quo_fin _ _ _ _ h
    have ih := quo_pre f
    obtain ⟨m, hm⟩ : ∃ m, (quo (f + 1) (c :: l) k acc).fin - k = m + 1 := ⟨(quo (f + 1) (c :: l) k acc).fin - k - 1, by omega⟩
    rw [hm] at hf ⊢
    rw [List.take_succ_cons] at hf ⊢
    obtain ⟨f', rfl⟩ : ∃ g, f' = g + 1 := ⟨f' - 1, by simp at hf; omega⟩
    simp only [List.cons_append]
    have hq : quo (f + 1) (c :: l) k acc = if c.toNat = 34 then ⟨acc, k + 1, 0, 0⟩ else if c.toNat = 92 then (if (rdql (c :: l)).2 = 0 then ⟨[], 0, k, 12⟩ else quo f ((c :: l).drop (rdql (c :: l)).2) (k + (rdql (c :: l)).2) (acc ++ [(rdql (c :: l)).1])) else if plainq c.toNat then quo f l (k + 1) (acc ++ [c.toNat]) else ⟨[], 0, k, 11⟩ := rfl
    have hq' : ∀ t, quo (f' + 1) (c :: t) k acc = if c.toNat = 34 then ⟨acc, k + 1, 0, 0⟩ else if c.toNat = 92 then (if (rdql (c :: t)).2 = 0 then ⟨[], 0, k, 12⟩ else quo f' ((c :: t).drop (rdql (c :: t)).2) (k + (rdql (c :: t)).2) (acc ++ [(rdql (c :: t)).1])) else if plainq c.toNat then quo f' t (k + 1) (acc ++ [c.toNat]) else ⟨[], 0, k, 11⟩ := fun t => rfl
    rw [hq', hq]
    rw [hq] at h hm hfin
    by_cases h34 : c.toNat = 34
    · rw [if_pos h34, if_pos h34]
    rw [if_neg h34] at h hm hfin ⊢
    rw [if_neg h34]
    by_cases h92 : c.toNat = 92
    · rw [if_pos h92] at h hm hfin ⊢
      rw [if_pos h92]
      by_cases hz : (rdql (c :: l)).2 = 0
      · rw [if_pos hz] at h; simp at h
      · rw [if_neg hz] at h hm hfin ⊢
        have hp2 := quo_pos _ _ _ _ h
        have hle : (rdql (c :: l)).2 ≤ (c :: l).length := rdq_le ⟨(c :: l).toArray⟩
        have hmn : (rdql (c :: l)).2 ≤ m + 1 := by omega
        have hfin' := quo_fin _ _ _ _ h
        rw [List.length_drop] at hfin'
        have hml : m + 1 ≤ (c :: l).length := by omega
        have hpre := rdql_pre (c :: l) (c :: (l.take m ++ r)) hz (by
          rw [← List.cons_append, ← List.take_succ_cons, List.take_append_of_le_length (by rw [List.length_take]; omega), List.take_take, Nat.min_eq_left hmn]) (by
          rw [← List.cons_append, ← List.take_succ_cons, List.length_append, List.length_take]; omega)
        rw [hpre, if_neg hz]
        have hd : List.drop (rdql (c :: l)).2 (c :: (l.take m ++ r)) = ((c :: l).drop (rdql (c :: l)).2).take (m + 1 - (rdql (c :: l)).2) ++ r := by
          rw [← List.cons_append, ← List.take_succ_cons, List.drop_append_of_le_length (by rw [List.length_take]; omega), List.drop_take]
        rw [hd]
        have e : m + 1 - (rdql (c :: l)).2 = (quo f ((c :: l).drop (rdql (c :: l)).2) (k + (rdql (c :: l)).2) (acc ++ [(rdql (c :: l)).1])).fin - (k + (rdql (c :: l)).2) := by omega
        rw [e]
        refine ih _ _ _ h f' r ?_
        rw [← e, List.length_take, List.length_drop]
        simp only [List.length_cons, List.length_take] at hf ⊢; omega
    · rw [if_neg h92] at h hm hfin ⊢
      rw [if_neg h92]
      by_cases hp : plainq c.toNat = true
      · rw [if_pos hp] at h hm hfin ⊢
        rw [if_pos hp]
        have hp2 := quo_pos _ _ _ _ h
        have e : m = (quo f l (k + 1) (acc ++ [c.toNat])).fin - (k + 1) := by omega
        rw [e]
        refine ih _ _ _ h f' r ?_
        rw [← e]; simp only [List.length_cons] at hf; omega
      · rw [if_neg hp] at h; simp at h
theorem clo_pos : ∀ (l : List UInt8) (k : Nat), clo l k ≠ 0 → k < clo l k
  | [], k, h => by simp [clo] at h
  | [c], k, h => by
    unfold clo at h ⊢
    split at h
    · rename_i h1; rw [if_pos h1]; omega
    · simp at h
  | c :: d :: l, k, h => by
    have h1 := clo_pos l (k + 2)
    have h2 := clo_pos (d :: l) (k + 1)
    unfold clo at h ⊢
    split at h
    · rename_i h3; rw [if_pos h3]; omega
    · rename_i h3
      rw [if_neg h3]
      split at h
      · rename_i h4; rw [if_pos h4]; have := h1 h; omega
      · rename_i h4; rw [if_neg h4]; have := h2 h; omega
theorem clo_pre : ∀ (l : List UInt8) (k : Nat), clo l k ≠ 0 → ∀ r, clo (l.take (clo l k - k) ++ r) k = clo l k
  | [], k, h, r => by simp [clo] at h
  | [c], k, h, r => by
    unfold clo at h
    split at h
    · rename_i h1
      rw [clo_end c [] k h1]
      rw [show k + 1 - k = 1 by omega]
      exact clo_end c r k h1
    · simp at h
  | c :: d :: l, k, h, r => by
    have hp := clo_pos _ _ h
    by_cases h1 : c.toNat = 93
    · rw [clo_end c _ k h1, show k + 1 - k = 1 by omega]
      exact clo_end c r k h1
    by_cases h2 : c.toNat = 92
    · have e : clo (c :: d :: l) k = clo l (k + 2) := clo_esc c (d :: l) k h2
      rw [e] at h ⊢
      have hp2 := clo_pos _ _ h
      have ih := clo_pre l (k + 2) h r
      obtain ⟨m, hm⟩ : ∃ m, clo l (k + 2) - k = m + 2 := ⟨clo l (k + 2) - k - 2, by omega⟩
      rw [hm, List.take_succ_cons, List.take_succ_cons, List.cons_append, clo_esc c _ k h2, List.cons_append, List.drop_succ_cons, List.drop_zero]
      rw [show clo l (k + 2) - (k + 2) = m by omega] at ih
      exact ih
    · have e : clo (c :: d :: l) k = clo (d :: l) (k + 1) := clo_on c (d :: l) k h1 h2
      rw [e] at h ⊢
      have hp2 := clo_pos _ _ h
      have ih := clo_pre (d :: l) (k + 1) h r
      obtain ⟨m, hm⟩ : ∃ m, clo (d :: l) (k + 1) - k = m + 1 := ⟨clo (d :: l) (k + 1) - k - 1, by omega⟩
      rw [hm, List.take_succ_cons, List.cons_append, clo_on c _ k h1 h2]
      rw [show clo (d :: l) (k + 1) - (k + 1) = m by omega] at ih
      exact ih
/-- A word is read off its own bytes, if no letter (of a number: no digit) stands behind it. -/
theorem rdw_pre (l r : List UInt8) (h : (rdw l).code = 0) (h7 : (rdw l).kind ≠ 7) (ha : (rdw l).kind ≤ 2 → stop alnum r) (hd : (rdw l).kind = 3 → stop digB r) : rdw (l.take (rdw l).len ++ r) = rdw l := by
  obtain ⟨hle, hpos, _⟩ := rdw_len l h
  have hpos := hpos h7
  cases l with
  | nil => exact absurd rfl h7
  | cons c l =>
    obtain ⟨m, hm⟩ : ∃ m, (rdw (c :: l)).len = m + 1 := ⟨(rdw (c :: l)).len - 1, by omega⟩
    have key : ∀ q : RW, rdw (c :: l) = q → q.len = m + 1 := fun q e => by rw [← e]; exact hm
    have hT : (c :: l).take (rdw (c :: l)).len ++ r = c :: (l.take m ++ r) := by rw [hm, List.take_succ_cons, List.cons_append]
    rw [hT, rdw_cons]
    rw [hm] at hle
    clear hT
    revert h ha hd key
    rw [rdw_cons]
    clear hm hpos h7
    have hT1 : c :: (l.take m ++ r) = (c :: l).take (m + 1) ++ r := by rw [List.take_succ_cons, List.cons_append]
    rw [hT1]
    intro h ha hd key
    by_cases hg : great c.toNat = true
    · rw [if_pos hg] at h ha hd ⊢
      rw [if_pos hg]
      have kk := key _ (if_pos hg)
      unfold rdLet at h ha hd kk ⊢
      split at h
      · simp [RW.fault] at h
      · rename_i h1
        rw [if_neg h1] at ha kk ⊢
        have hn : lspan alnum (c :: l) = m + 1 := kk
        have := lspan_take alnum (c :: l) r (ha (by simp [RW.plain]))
        rw [hn] at this
        rw [this, if_neg (by omega), hn]
    rw [if_neg hg] at h ha hd ⊢
    rw [if_neg hg]
    by_cases hs : small c.toNat = true
    · rw [if_pos hs] at h ha hd ⊢
      rw [if_pos hs]
      have kk := key _ (by rw [if_neg hg, if_pos hs])
      unfold rdLet at h ha hd kk ⊢
      split at h
      · simp [RW.fault] at h
      · rename_i h1
        rw [if_neg h1] at ha kk ⊢
        have hn : lspan alnum (c :: l) = m + 1 := kk
        have := lspan_take alnum (c :: l) r (ha (by simp [RW.plain]))
        rw [hn] at this
        rw [this, if_neg (by omega), hn]
    rw [if_neg hs] at h ha hd ⊢
    rw [if_neg hs]
    by_cases hdg : digB c.toNat = true
    · rw [if_pos hdg] at h ha hd ⊢
      rw [if_pos hdg]
      have kk := key _ (by rw [if_neg hg, if_neg hs, if_pos hdg])
      unfold rdNum at h ha hd kk ⊢
      split at h
      · simp [RW.fault] at h
      · rename_i h1
        rw [if_neg h1] at hd kk ⊢
        have hn : lspan digB (c :: l) = m + 1 := kk
        have := lspan_take digB (c :: l) r (hd rfl)
        rw [hn] at this h1
        rw [this, if_neg (by rw [List.take_succ_cons, List.cons_append]; exact h1), hn, take_app hle]
    rw [if_neg hdg] at h ha hd ⊢
    rw [if_neg hdg]
    by_cases h34 : c.toNat = 34
    · rw [if_pos h34] at h ha hd ⊢
      rw [if_pos h34]
      have kk := key _ (by rw [if_neg hg, if_neg hs, if_neg hdg, if_pos h34])
      unfold rdText at h kk ⊢
      split at h
      · rename_i h1
        rw [if_pos h1] at kk
        have hn : (quoted (c :: l)).fin = m + 1 := kk
        have e : quoted ((c :: l).take (m + 1) ++ r) = quoted (c :: l) := by
          unfold quoted at h1 hn ⊢
          rw [List.drop_succ_cons, List.drop_zero] at h1 hn ⊢
          have := quo_pre _ _ _ _ h1 ((c :: l).take (m + 1) ++ r).length r (by rw [hn, List.take_succ_cons]; simp; omega)
          rw [hn, Nat.add_sub_cancel] at this
          rw [List.take_succ_cons, List.cons_append, List.drop_succ_cons, List.drop_zero]
          rw [List.take_succ_cons, List.cons_append] at this
          exact this
        rw [e]
      · rename_i h1; exact absurd h h1
    rw [if_neg h34] at h ha hd ⊢
    rw [if_neg h34]
    by_cases h91 : c.toNat = 91
    · rw [if_pos h91] at h ha hd ⊢
      rw [if_pos h91]
      have kk := key _ (by rw [if_neg hg, if_neg hs, if_neg hdg, if_neg h34, if_pos h91])
      unfold rdSet at h kk ⊢
      split at h
      · simp [RW.fault] at h
      · rename_i h1
        rw [if_neg h1] at kk
        split at h
        · rename_i h2
          rw [if_pos h2] at kk
          have hn : clo ((c :: l).drop 1) 1 = m + 1 := kk
          have e : clo (((c :: l).take (m + 1) ++ r).drop 1) 1 = m + 1 := by
            rw [List.drop_succ_cons, List.drop_zero] at h1 hn
            have := clo_pre l 1 h1 r
            rw [hn, Nat.add_sub_cancel] at this
            rw [List.take_succ_cons, List.cons_append, List.drop_succ_cons, List.drop_zero]
            exact this
          rw [e, hn, take_app hle]
        · rename_i h2; exact absurd h h2
    rw [if_neg h91] at h ha hd ⊢
    rw [if_neg h91]
end Go.Proofs.Ytbbmjnhbmcbehaa
