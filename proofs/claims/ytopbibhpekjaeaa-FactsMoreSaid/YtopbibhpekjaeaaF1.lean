/- Taking away, one by one, what no step leads to: with no program in it. -/
import Derived.Test.YtopbibhpekjaeaaF0
namespace Go.Proofs.Ytopbibhpekjaeaa

/-- How many steps lead to n from the first i. -/
def tot (f : Nat → List Nat) (n : Nat) : Nat → Nat
  | 0 => 0
  | i + 1 => tot f n i + (f i).count n
/-- The same, without those of P. -/
def rem (f : Nat → List Nat) (P : List Nat) (n : Nat) : Nat → Nat
  | 0 => 0
  | i + 1 => rem f P n i + (if i ∈ P then 0 else (f i).count n)
theorem rem_nil (f : Nat → List Nat) (n : Nat) : ∀ i, rem f [] n i = tot f n i
  | 0 => rfl
  | i + 1 => by simp [rem, tot, rem_nil f n i]
theorem rem_snoc (f : Nat → List Nat) (P : List Nat) (n a : Nat) (ha : a ∉ P) : ∀ i, rem f (P ++ [a]) n i + (if a < i then (f a).count n else 0) = rem f P n i
  | 0 => by simp [rem]
  | i + 1 => by
    have ih := rem_snoc f P n a ha i
    simp only [rem]
    by_cases h : i = a
    · subst h
      rw [if_neg (Nat.lt_irrefl _)] at ih
      rw [if_pos (by simp), if_pos (Nat.lt_succ_self _), if_neg ha]; omega
    · have e : (if i ∈ P ++ [a] then 0 else (f i).count n) = (if i ∈ P then 0 else (f i).count n) := by simp [h]
      rw [e]
      by_cases h2 : a < i
      · rw [if_pos h2] at ih
        rw [if_pos (show a < i + 1 by omega)]; omega
      · rw [if_neg h2] at ih
        rw [if_neg (show ¬ a < i + 1 by omega)]; omega
theorem rem_zero (f : Nat → List Nat) (P : List Nat) (n : Nat) : ∀ i, rem f P n i = 0 → ∀ a, a < i → n ∈ f a → a ∈ P
  | 0, _, a, ha, _ => by omega
  | i + 1, h, a, ha, hn => by
    simp only [rem] at h
    by_cases e : a = i
    · subst e
      by_cases hp : a ∈ P
      · exact hp
      · rw [if_neg hp] at h
        have := List.count_pos_iff.2 hn
        omega
    · exact rem_zero f P n i (by omega) a (by omega) hn
theorem rem_pos (f : Nat → List Nat) (P : List Nat) (n : Nat) : ∀ i, 0 < rem f P n i → ∃ a, a < i ∧ a ∉ P ∧ n ∈ f a
  | 0, h => by simp [rem] at h
  | i + 1, h => by
    simp only [rem] at h
    by_cases h1 : 0 < rem f P n i
    · obtain ⟨a, h2, h3⟩ := rem_pos f P n i h1
      exact ⟨a, by omega, h3⟩
    · by_cases hp : i ∈ P
      · rw [if_pos hp] at h; omega
      · rw [if_neg hp] at h
        exact ⟨i, by omega, hp, List.count_pos_iff.1 (by omega)⟩
theorem count_le_rem (f : Nat → List Nat) (P : List Nat) (n a : Nat) (ha : a ∉ P) : ∀ i, a < i → (f a).count n ≤ rem f P n i
  | 0, h => by omega
  | i + 1, h => by
    simp only [rem]
    by_cases e : a = i
    · subst e; rw [if_neg ha]; omega
    · have := count_le_rem f P n a ha i (by omega); omega
theorem tot_le (f : Nat → List Nat) (n K : Nat) (h : ∀ a, (f a).length ≤ K) : ∀ i, tot f n i ≤ i * K
  | 0 => by simp [tot]
  | i + 1 => by
    have h1 := tot_le f n K h i
    have h2 := List.count_le_length (a := n) (l := f i)
    have h3 := h i
    simp only [tot]
    rw [Nat.add_mul]; omega
theorem rem_le_tot (f : Nat → List Nat) (P : List Nat) (n : Nat) : ∀ i, rem f P n i ≤ tot f n i
  | 0 => by simp [rem, tot]
  | i + 1 => by
    have := rem_le_tot f P n i
    simp only [rem, tot]
    split <;> omega

theorem nodup_inj : ∀ (l : List Nat) (q i x : Nat), l.Nodup → l[q]? = some x → l[i]? = some x → q = i
  | [], q, i, x, _, h, _ => by simp at h
  | a :: l, 0, 0, x, _, _, _ => rfl
  | a :: l, 0, i + 1, x, hn, h1, h2 => by
    simp at h1 h2
    subst h1
    exact absurd (List.mem_of_getElem? h2) (List.nodup_cons.1 hn).1
  | a :: l, q + 1, 0, x, hn, h1, h2 => by
    simp at h1 h2
    subst h2
    exact absurd (List.mem_of_getElem? h1) (List.nodup_cons.1 hn).1
  | a :: l, q + 1, i + 1, x, hn, h1, h2 => by
    simp at h1 h2
    have := nodup_inj l q i x (List.nodup_cons.1 hn).2 h1 h2
    omega
def plcN : List Nat → Nat → Nat
  | [], _ => 0
  | a :: l, n => if a = n then 0 else plcN l n + 1
theorem plcN_get : ∀ (l : List Nat) (n : Nat), n ∈ l → l[plcN l n]? = some n
  | [], n, h => by cases h
  | a :: l, n, h => by
    unfold plcN
    by_cases e : a = n
    · rw [if_pos e]; simp [e]
    · rw [if_neg e]
      rcases List.mem_cons.1 h with h | h
      · exact absurd h.symm e
      · simpa using plcN_get l n h
theorem count_one (b n : Nat) : (some b).toList.count n = if n = b then 1 else 0 := by
  by_cases e : n = b
  · subst e; simp
  · rw [if_neg e]; simp [List.count_singleton]; exact fun e' => e e'.symm
/-- Nodes that are gone, in order, while the steps of the one at place i are taken away, j of them so far. -/
structure KI (N : Nat) (f : Nat → List Nat) (st gone : List Nat) (i j : Nat) : Prop where
  len : st.length = N
  nodup : gone.Nodup
  lt : ∀ a ∈ gone, a < N
  le : i ≤ gone.length
  steps : ∀ n, n < N → st.getD n 0 + (match gone[i]? with | some a => ((f a).take j).count n | none => 0) = rem f (gone.take i) n N
  gz : ∀ n, n < N → (n ∈ gone ↔ st.getD n 0 = 0)
  rank : ∀ (k b : Nat), gone[k]? = some b → ∀ a, a < N → b ∈ f a → ∃ q : Nat, q < k ∧ gone[q]? = some a
section
variable {N : Nat} {f : Nat → List Nat} {st gone : List Nat} {i j : Nat}
theorem KI.next (h : KI N f st gone i j) {a : Nat} (ha : gone[i]? = some a) (hj : (f a).length ≤ j) : KI N f st gone (i + 1) 0 := by
  have hlt := (List.getElem?_eq_some_iff.1 ha).1
  refine ⟨h.len, h.nodup, h.lt, by omega, fun n hn => ?_, h.gz, h.rank⟩
  have h1 := h.steps n hn
  rw [ha] at h1
  simp only [List.take_of_length_le hj] at h1
  have hni : a ∉ gone.take i := fun hm => by
    obtain ⟨q, hq⟩ := List.mem_iff_getElem?.1 hm
    rw [List.getElem?_take] at hq
    split at hq
    · rename_i hqi
      have := nodup_inj gone q i a h.nodup hq ha
      omega
    · cases hq
  have h2 := rem_snoc f (gone.take i) n a hni N
  rw [if_pos (h.lt a (List.mem_of_getElem? ha))] at h2
  rw [List.take_add_one, ha]
  simp only [List.take_zero, List.count_nil]
  have e : (match gone[i + 1]? with | some a => 0 | none => 0) = 0 := by split <;> rfl
  simp only [Option.toList_some]
  rw [e]
  omega
theorem getD_set_nat (l : List Nat) (m n x : Nat) (hm : m < l.length) : (l.set m x).getD n 0 = if n = m then x else l.getD n 0 := by
  rw [List.getD_eq_getElem?_getD, List.getD_eq_getElem?_getD, List.getElem?_set]
  by_cases h : n = m
  · subst h; simp [hm]
  · rw [if_neg (fun e => h e.symm), if_neg h]
theorem KI.pos (h : KI N f st gone i j) {a b : Nat} (ha : gone[i]? = some a) (hb : (f a)[j]? = some b) (hbN : b < N) : 1 ≤ st.getD b 0 := by
  have h1 := h.steps b hbN
  rw [ha] at h1
  have hlt := (List.getElem?_eq_some_iff.1 ha).1
  have hni : a ∉ gone.take i := fun hm => by
    obtain ⟨q, hq⟩ := List.mem_iff_getElem?.1 hm
    rw [List.getElem?_take] at hq
    split at hq
    · rename_i hqi
      have := nodup_inj gone q i a h.nodup hq ha
      omega
    · cases hq
  have h2 := count_le_rem f (gone.take i) b a hni N (h.lt a (List.mem_of_getElem? ha))
  have h3 : ((f a).take j).count b + 1 ≤ (f a).count b := by
    conv => rhs; rw [← List.take_append_drop j (f a)]
    rw [List.count_append]
    have : b ∈ (f a).drop j := List.mem_iff_getElem?.2 ⟨0, by rw [List.getElem?_drop]; simpa using hb⟩
    have := List.count_pos_iff.2 this
    omega
  simp only at h1
  omega
/-- One step to b is taken away; it is not the last one. -/
theorem KI.dec (h : KI N f st gone i j) {a b : Nat} (ha : gone[i]? = some a) (hb : (f a)[j]? = some b) (hbN : b < N) (hn : st.getD b 0 ≠ 1) : KI N f (st.set b (st.getD b 0 - 1)) gone i (j + 1) := by
  have hp := h.pos ha hb hbN
  have hl : b < st.length := by rw [h.len]; exact hbN
  refine ⟨by rw [List.length_set]; exact h.len, h.nodup, h.lt, h.le, fun n hnN => ?_, fun n hnN => ?_, h.rank⟩
  · have h1 := h.steps n hnN
    rw [ha] at h1 ⊢
    simp only at h1 ⊢
    rw [getD_set_nat _ _ _ _ hl, List.take_add_one, hb, List.count_append, count_one]
    by_cases e : n = b
    · subst e; rw [if_pos rfl, if_pos rfl]; omega
    · rw [if_neg e, if_neg e]; omega
  · rw [getD_set_nat _ _ _ _ hl]
    by_cases e : n = b
    · subst e
      rw [if_pos rfl, h.gz n hnN]; omega
    · rw [if_neg e]; exact h.gz n hnN
/-- The last step to b is taken away: it is gone. -/
theorem KI.drop (h : KI N f st gone i j) {a b : Nat} (ha : gone[i]? = some a) (hb : (f a)[j]? = some b) (hbN : b < N) (hn : st.getD b 0 = 1) : KI N f (st.set b 0) (gone ++ [b]) i (j + 1) := by
  have hl : b < st.length := by rw [h.len]; exact hbN
  have hlt := (List.getElem?_eq_some_iff.1 ha).1
  have hbg : b ∉ gone := fun hm => by have := (h.gz b hbN).1 hm; omega
  have ha' : (gone ++ [b])[i]? = some a := by rw [List.getElem?_append_left hlt]; exact ha
  refine ⟨by rw [List.length_set]; exact h.len, ?_, fun x hx => ?_, by rw [List.length_append]; omega, fun n hnN => ?_, fun n hnN => ?_, fun k x hk y hy hxy => ?_⟩
  · exact List.nodup_append.2 ⟨h.nodup, by simp, fun x hx y hy => by simp at hy; subst hy; exact fun e => hbg (e ▸ hx)⟩
  · rcases List.mem_append.1 hx with hx | hx
    · exact h.lt x hx
    · simp at hx; omega
  · have h1 := h.steps n hnN
    rw [ha] at h1
    rw [ha', List.take_append_of_le_length (by omega)]
    simp only at h1 ⊢
    rw [getD_set_nat _ _ _ _ hl, List.take_add_one, hb, List.count_append, count_one]
    by_cases e : n = b
    · subst e; rw [if_pos rfl, if_pos rfl]; omega
    · rw [if_neg e, if_neg e]; omega
  · rw [getD_set_nat _ _ _ _ hl]
    by_cases e : n = b
    · subst e; simp
    · rw [if_neg e, ← h.gz n hnN]; simp [e]
  · by_cases hkl : k < gone.length
    · rw [List.getElem?_append_left hkl] at hk
      obtain ⟨q, hq, hq2⟩ := h.rank k x hk y hy hxy
      exact ⟨q, hq, by rw [List.getElem?_append_left (by omega)]; exact hq2⟩
    · have hke : k = gone.length := by
        have := (List.getElem?_eq_some_iff.1 hk).1
        rw [List.length_append] at this; simp at this; omega
      subst hke
      rw [List.getElem?_append_right (Nat.le_refl _)] at hk
      simp at hk
      subst hk
      have h1 := h.steps b hbN
      rw [ha] at h1
      simp only at h1
      by_cases hyg : y ∈ gone.take i
      · obtain ⟨q, hq⟩ := List.mem_iff_getElem?.1 hyg
        rw [List.getElem?_take] at hq
        split at hq
        · rename_i hqi
          exact ⟨q, by omega, by rw [List.getElem?_append_left (by omega)]; exact hq⟩
        · cases hq
      · by_cases hya : y = a
        · subst hya
          exact ⟨i, hlt, ha'⟩
        · exfalso
          have hni : a ∉ gone.take i := fun hm => by
            obtain ⟨q, hq⟩ := List.mem_iff_getElem?.1 hm
            rw [List.getElem?_take] at hq
            split at hq
            · rename_i hqi
              have := nodup_inj gone q i a h.nodup hq ha
              omega
            · cases hq
          have h2 := rem_snoc f (gone.take i) b a hni N
          rw [if_pos (h.lt a (List.mem_of_getElem? ha))] at h2
          have h3 := count_le_rem f (gone.take i ++ [a]) b y (by simp [hyg, hya]) N hy
          have h4 := List.count_pos_iff.2 hxy
          have h5 : ((f a).take j).count b + 1 ≤ (f a).count b := by
            conv => rhs; rw [← List.take_append_drop j (f a)]
            rw [List.count_append]
            have : b ∈ (f a).drop j := List.mem_iff_getElem?.2 ⟨0, by rw [List.getElem?_drop]; simpa using hb⟩
            have := List.count_pos_iff.2 this
            omega
          omega
theorem nodup_len {l : List Nat} {N : Nat} (h : l.Nodup) (hl : ∀ a ∈ l, a < N) : l.length ≤ N := by
  have := List.Nodup.length_le_of_subset h (l₂ := List.range N) (fun a ha => by simpa using hl a ha)
  simpa using this
/-- At the end: not all are gone just if no rank fits the steps. -/
theorem KI.done (h : KI N f st gone gone.length 0) (hf : ∀ a b, b ∈ f a → b < N) : (decide (gone.length < N) = true) ↔ ¬ ∃ rank : Nat → Nat, ∀ a b, a < N → b ∈ f a → rank a < rank b := by
  have hst : ∀ n, n < N → st.getD n 0 = rem f gone n N := fun n hn => by
    have := h.steps n hn
    rw [List.getElem?_eq_none (Nat.le_refl _), List.take_length] at this
    simpa using this
  simp only [decide_eq_true_eq]
  constructor
  · rintro hlt ⟨rank, hr⟩
    have key : ∀ (k n : Nat), rank n ≤ k → n < N → n ∉ gone → False := by
      intro k
      induction k with
      | zero =>
        intro n hk hn hg
        have h1 : 0 < rem f gone n N := by
          have := hst n hn
          have h2 := (h.gz n hn)
          rcases Nat.eq_zero_or_pos (st.getD n 0) with h0 | h0
          · exact absurd (h2.2 h0) hg
          · omega
        obtain ⟨a, ha, hag, han⟩ := rem_pos f gone n N h1
        have := hr a n ha han; omega
      | succ k ih =>
        intro n hk hn hg
        have h1 : 0 < rem f gone n N := by
          have := hst n hn
          have h2 := (h.gz n hn)
          rcases Nat.eq_zero_or_pos (st.getD n 0) with h0 | h0
          · exact absurd (h2.2 h0) hg
          · omega
        obtain ⟨a, ha, hag, han⟩ := rem_pos f gone n N h1
        have := hr a n ha han
        exact ih a (by omega) ha hag
    have : ∃ n, n < N ∧ n ∉ gone := by
      by_cases hall : ∀ n, n < N → n ∈ gone
      · exfalso
        have := List.Nodup.length_le_of_subset (List.nodup_range (n := N)) (l₂ := gone) (fun a ha => hall a (by simpa using ha))
        simp at this; omega
      · have ⟨n, hn⟩ := Classical.not_forall.1 hall
        exact ⟨n, Classical.not_imp.1 hn |>.1, Classical.not_imp.1 hn |>.2⟩
    obtain ⟨n, hn, hg⟩ := this
    exact key (rank n) n (Nat.le_refl _) hn hg
  · intro hno
    apply Classical.byContradiction
    intro hlt
    apply hno
    have hle := nodup_len h.nodup h.lt
    have hall : ∀ n, n < N → n ∈ gone := fun n hn => by
      apply Classical.byContradiction
      intro hg
      have h1 : (n :: gone).Nodup := List.nodup_cons.2 ⟨hg, h.nodup⟩
      have := nodup_len h1 (fun a ha => by
        rcases List.mem_cons.1 ha with e | ha
        · rw [e]; exact hn
        · exact h.lt a ha)
      simp at this; omega
    refine ⟨fun n => plcN gone n, fun a b ha hb => ?_⟩
    have hbN := hf a b hb
    have hbi := plcN_get gone b (hall b hbN)
    obtain ⟨q, hq, hq2⟩ := h.rank _ b hbi a ha hb
    have := nodup_inj gone q (plcN gone a) a h.nodup hq2 (plcN_get gone a (hall a ha))
    show plcN gone a < plcN gone b
    omega
end
end Go.Proofs.Ytopbibhpekjaeaa
