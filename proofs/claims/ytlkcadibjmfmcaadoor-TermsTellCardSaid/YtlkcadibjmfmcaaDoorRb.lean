/- What is read is right, and no longer than what was read; where reading stops: plain. -/
import Derived.Test.YtlkcadibjmfmcaaDoorRa
namespace Go.Proofs.YtlkcadibjmfmcaaDoor

theorem esc_short : ∀ n : Fin 256, (signq n.val).length ≤ 4 ∧ (0 ≤ idq n.val → (signq n.val).length ≤ 2) := by decide +kernel
theorem said_id : ∀ i : Fin 5, saidq i.val < 256 ∧ 0 ≤ idq (saidq i.val) := by decide +kernel
/-- What a sign says is written in no more bytes. -/
theorem rdql_short (l : List UInt8) (h : (rdql l).2 ≠ 0) : (signq (rdql l).1).length ≤ (rdql l).2 := by
  unfold rdql rdq at h ⊢
  split
  · rename_i h1; rw [if_pos h1] at h; exact absurd rfl h
  rename_i h1
  rw [if_neg h1] at h
  split
  · rename_i h2
    have hb := shortq_bd (bt ⟨l.toArray⟩ 1)
    obtain ⟨a, b⟩ := said_id ⟨(shortq (bt ⟨l.toArray⟩ 1)).toNat, by omega⟩
    exact (esc_short ⟨_, a⟩).2 b
  rename_i h2
  rw [if_neg h2] at h
  split
  · rename_i h3; rw [if_pos h3] at h; exact absurd rfl h
  rename_i h3
  rw [if_neg h3] at h
  split
  · rename_i h4; rw [if_pos h4] at h; exact absurd rfl h
  · rename_i h4
    have h5 := dig_hi (bt ⟨l.toArray⟩ 2)
    have h6 := dig_hi (bt ⟨l.toArray⟩ 3)
    exact (esc_short ⟨(dig (bt ⟨l.toArray⟩ 2)).toNat * 16 + (dig (bt ⟨l.toArray⟩ 3)).toNat, by omega⟩).1
theorem flat_snoc (acc : List Nat) (n : Nat) : ((acc ++ [n]).flatMap signq).length = (acc.flatMap signq).length + (signq n).length := by simp
theorem quo_flat : ∀ (f : Nat) (l : List UInt8) (k : Nat) (acc : List Nat), (quo f l k acc).code = 0 → ((quo f l k acc).bytes.flatMap signq).length + k + 1 ≤ (acc.flatMap signq).length + (quo f l k acc).fin := by
  intro f
  induction f with
  | zero => intro l k acc h; simp [quo] at h
  | succ f ih =>
    intro l k acc h
    cases l with
    | nil => simp [quo] at h
    | cons c l =>
      rw [quo] at h ⊢
      split
      · simp only; omega
      rename_i h1
      rw [if_neg h1] at h
      split
      · rename_i h2
        rw [if_pos h2] at h
        split
        · rename_i h3; rw [if_pos h3] at h; simp at h
        · rename_i h3; rw [if_neg h3] at h
          have a := ih _ _ _ h
          have b := rdql_short _ h3
          rw [flat_snoc] at a
          omega
      · rename_i h2
        rw [if_neg h2] at h
        split
        · rename_i h3; rw [if_pos h3] at h
          have a := ih _ _ _ h
          rw [flat_snoc] at a
          have : (signq c.toNat).length = 1 := by unfold signq; rw [if_pos h3]; rfl
          omega
        · rename_i h3; rw [if_neg h3] at h; simp at h
theorem unq_flat {l : List UInt8} (h : (unq l).2.2 = 0) : (quoteL (unq l).1).length ≤ l.length := by
  have h1 := unq_ok h
  have hp := (quo_places l.length (l.drop 1) 1 []).1
  rw [List.length_drop] at hp
  unfold unq at h ⊢
  split
  · rename_i a; rw [if_pos a] at h; simp at h
  rename_i a; rw [if_neg a] at h
  split
  · rename_i b; rw [if_pos b] at h; simp at h
  rename_i b; rw [if_neg b] at h
  split
  · rename_i c; rw [if_pos c] at h; exact absurd h c
  rename_i c; rw [if_neg c] at h
  split
  · rename_i d; rw [if_pos d] at h; simp at h
  · have := quo_flat l.length (l.drop 1) 1 [] (by simpa [quoted] using c)
    unfold quoteL
    simp only [List.length_append, List.length_cons, List.length_nil] at this ⊢
    unfold quoted
    simp only [List.flatMap_nil, List.length_nil] at this
    omega
theorem nums_un {t : List Nat} (h : ∀ n ∈ t, n < 256) : nums (unNums t) = t := by
  unfold nums unNums
  rw [List.map_map]
  conv => rhs; rw [← List.map_id t]
  exact List.map_congr_left (fun n hn => by have := h n hn; simp; omega)
theorem rquo_flat {s : ByteArray} {q m q' : Nat} {t : List Nat} (h : rquo s q m = .ok t q') : ¬ 200 < m ∧ q + (quoteL (nums (unNums t))).length ≤ q' := by
  rw [nums_un (rquo_lt h)]
  unfold rquo at h
  split at h
  · cases h
  rename_i a
  split at h
  · cases h
  rename_i b
  injection h with h1 h2
  subst h1
  subst h2
  have b' : (unq2 (s.data.toList.drop q)).1.2.2 = 0 := by simpa using b
  refine ⟨fun hm => a ⟨by rw [b']; decide, hm⟩, ?_⟩
  unfold unq2 at b' ⊢
  split
  · rename_i c
    rw [if_pos c] at b'
    have := unq_flat b'
    have h3 := List.length_take_le (unq (s.data.toList.drop q)).2.1 (s.data.toList.drop q)
    simp only at this ⊢
    omega
  · rename_i c
    rw [if_neg c] at b'
    have := unq_flat b'
    simp only at this ⊢
    omega
theorem lspan_take (p : Nat → Bool) : ∀ l : List UInt8, lspan p (l.take (lspan p l)) = lspan p l
  | [] => rfl
  | c :: l => by
    rw [lspan]
    by_cases h : p c.toNat = true
    · rw [if_pos h, List.take_succ_cons, lspan, if_pos h, lspan_take p l]
    · rw [if_neg h, List.take_zero]; rfl
theorem rname_name {s : ByteArray} {q m q' : Nat} {n : ByteArray} (h : rname s q m = .ok n q') (hq : q < s.size) : ¬ 200 < m ∧ nameB great n.data.toList = true ∧ q' = q + n.data.toList.length := by
  unfold rname at h
  split at h
  · cases h
  rename_i a
  split at h
  · cases h
  rename_i b
  split at h
  · cases h
  rename_i c
  injection h with h1 h2
  subst h1
  subst h2
  have hg : great (bt s q) = true := by simpa using a
  have hdr := drop_at s q hq
  have hb := bt_eq s q hq
  have hle := lspan_le alnum (s.data.toList.drop q)
  have hl : ((s.data.toList.drop q).take (lspan alnum (s.data.toList.drop q))).length = lspan alnum (s.data.toList.drop q) := by rw [List.length_take]; omega
  have hal : alnum (s[q]).toNat = true := by rw [hb]; unfold alnum; rw [hg]; rfl
  have hpos : 0 < lspan alnum (s.data.toList.drop q) := by rw [hdr, lspan, if_pos hal]; omega
  refine ⟨c, ?_, ?_⟩
  · show nameB great ((s.data.toList.drop q).take (lspan alnum (s.data.toList.drop q))) = true
    unfold nameB whole
    rw [lspan_take, hl]
    simp only [Bool.and_eq_true, decide_eq_true_eq]
    refine ⟨⟨?_, ?_⟩, by omega, trivial⟩
    · intro e
      rw [e] at hl
      simp at hl
      omega
    · rw [List.getD_eq_getElem?_getD, List.getElem?_take_of_lt hpos, hdr]
      simp
      rw [hb]; exact hg
  · show q + lspan alnum (s.data.toList.drop q) = q + ((s.data.toList.drop q).take (lspan alnum (s.data.toList.drop q))).length
    rw [hl]
/-- What is told of a term that was read. -/
structure Rd (p m : Nat) (d : Tm) (q : Nat) : Prop where
  wl' : wl d = true
  dp' : dp d + m ≤ 201
  tx : p + (txt d).length ≤ q
  sz' : p + sz d ≤ q
structure RdL (p m : Nat) (ds : List Tm) (q : Nat) : Prop where
  wl' : wlL ds = true
  dp' : dpL ds + m ≤ 201
  tx : p + (txtL false ds).length + 1 ≤ q
  sz' : p + szL ds + 1 ≤ q
theorem okC_list (k : Nat) : okC 3 ⟨#[]⟩ 0 k = true := by unfold okC; rw [if_neg (by decide), if_neg (by decide), if_neg (by simp), if_pos rfl]
theorem okC_lex (t : Nat) : okC 2 ⟨#[]⟩ t 0 = true := by unfold okC; rw [if_neg (by decide), if_neg (by decide), if_neg (by simp), if_neg (by decide), if_pos (by simp)]; simp
theorem okC_none : okC 4 ⟨#[]⟩ 0 0 = true := by unfold okC; rw [if_neg (by decide), if_neg (by decide), if_neg (by simp), if_neg (by decide), if_pos (by simp)]; simp
theorem okC_some : okC 5 ⟨#[]⟩ 0 1 = true := by unfold okC; rw [if_neg (by decide), if_neg (by decide), if_neg (by simp), if_neg (by decide), if_neg (by decide), if_pos (by simp)]; simp
theorem okC_app {n : ByteArray} (h : nameB great n.data.toList = true) (k : Nat) : okC 1 n 0 k = true := by unfold okC; rw [if_pos rfl, h]; simp
theorem rd_all (s : ByteArray) : ∀ f, (∀ p m d q, p ≤ s.size → rt s f p m = .ok d q → Rd p m d q) ∧ (∀ p m en l l' q, p ≤ s.size → m ≤ 201 → rk s f p m en l = .ok l' q → ∃ ds, l' = l ++ ds ∧ RdL p m ds q) := by
  intro f
  induction f with
  | zero => exact ⟨fun p m d q _ h => (by rw [rt] at h; cases h), fun p m en l l' q _ _ h => (by rw [rk] at h; cases h)⟩
  | succ f ih =>
    refine ⟨fun p m d q hp h => ?_, fun p m en l l' q hp hm h => ?_⟩
    · have g1 := skp_ge s p
      rw [rt] at h
      split at h
      · cases h
      rename_i hk
      have hk' : skp s p < s.size := by omega
      split at h
      · split at h
        · cases h
        · rename_i t q' hr
          cases h
          obtain ⟨a, b⟩ := rquo_flat hr
          have c := rquo_pos hr (by omega)
          exact ⟨by rw [wl, wlL, List.length_nil, okC_lex]; rfl, by rw [dp, dpL]; omega, by rw [txt, if_pos rfl]; omega, by rw [sz, szL]; omega⟩
      split at h
      · split at h
        · cases h
        rename_i hm
        split at h
        · cases h
        rename_i hk2
        have g2 := skp_ge s (skp s p + 1)
        split at h
        · cases h
          refine ⟨by rw [wl, wlL, List.length_nil, okC_list]; rfl, by rw [dp, dpL]; omega, ?_, by rw [sz, szL]; omega⟩
          rw [txt, if_neg (by decide), if_pos rfl]; simp [txtL]; omega
        · split at h
          · cases h
          · rename_i d1 q1 hr1
            have a1 := ih.1 _ _ _ _ (by omega) hr1
            have b1 := (rt_rk_pos s f).1 _ _ _ _ (by omega) hr1
            split at h
            · cases h
            · rename_i l2 q2 hr2
              obtain ⟨ds, rfl, a2⟩ := ih.2 _ _ _ _ _ _ (by omega) (by omega) hr2
              cases h
              have e1 := a1.tx
              have e2 := a2.tx
              have e3 := a1.sz'
              have e4 := a2.sz'
              have e5 := a1.dp'
              have e6 := a2.dp'
              refine ⟨?_, ?_, ?_, ?_⟩
              · rw [wl, List.length_nil, okC_list, List.singleton_append, wlL, a1.wl', a2.wl']; rfl
              · rw [dp, List.singleton_append, dpL]; omega
              · rw [txt, if_neg (by decide), if_pos rfl]; simp [txtL]; omega
              · rw [sz, List.singleton_append, szL]; omega
      split at h
      · split at h
        · cases h
        · cases h
          exact ⟨by rw [wl, wlL, List.length_nil, List.length_nil, okC_none]; rfl, by rw [dp, dpL]; omega, by rw [txt, if_neg (by decide), if_neg (by decide), if_pos rfl]; simp; omega, by rw [sz, szL]; omega⟩
      split at h
      · split at h
        · cases h
        rename_i hm
        split at h
        · cases h
        · rename_i d1 q1 hr1
          cases h
          have a1 := ih.1 _ _ _ _ (by omega) hr1
          have e1 := a1.tx
          have e3 := a1.sz'
          have e5 := a1.dp'
          refine ⟨?_, ?_, ?_, ?_⟩
          · rw [wl, List.length_nil, List.length_singleton, okC_some, wlL, wlL, a1.wl']; rfl
          · rw [dp, dpL, dpL]; omega
          · rw [txt, if_neg (by decide), if_neg (by decide), if_neg (by decide), if_pos rfl]; simp [txtL]; omega
          · rw [sz, szL, szL]; omega
      split at h
      · cases h
      · rename_i n q1 hr1
        obtain ⟨hm, hn, e⟩ := rname_name hr1 hk'
        have hp1 := rname_pos hr1 hk'
        have g3 := skp_ge s q1
        split at h
        · rename_i hop
          split at h
          · cases h
          · rename_i d1 q2 hr2
            have a1 := ih.1 _ _ _ _ (by omega) hr2
            have b1 := (rt_rk_pos s f).1 _ _ _ _ (by omega) hr2
            split at h
            · cases h
            · rename_i l2 q3 hr3
              obtain ⟨ds, rfl, a2⟩ := ih.2 _ _ _ _ _ _ (by omega) (by omega) hr3
              cases h
              have e1 := a1.tx
              have e2 := a2.tx
              have e3 := a1.sz'
              have e4 := a2.sz'
              have e5 := a1.dp'
              have e6 := a2.dp'
              refine ⟨?_, ?_, ?_, ?_⟩
              · rw [wl, List.length_nil, okC_app hn, List.singleton_append, wlL, a1.wl', a2.wl']; rfl
              · rw [dp, List.singleton_append, dpL]; omega
              · rw [txt, if_neg (by decide), if_neg (by decide), if_neg (by decide), if_neg (by decide)]; simp [txtL] at e ⊢; omega
              · rw [sz, List.singleton_append, szL]; omega
        · cases h
          refine ⟨by rw [wl, wlL, List.length_nil, List.length_nil, okC_app hn]; rfl, by rw [dp, dpL]; omega, ?_, by rw [sz, szL]; omega⟩
          rw [txt, if_neg (by decide), if_neg (by decide), if_neg (by decide), if_neg (by decide)]; simp at e ⊢; omega
    · have g1 := skp_ge s p
      rw [rk] at h
      split at h
      · cases h
      rename_i hk
      split at h
      · cases h
        exact ⟨[], by simp, by rw [wlL], by rw [dpL]; omega, by simp [txtL]; omega, by rw [szL]; omega⟩
      split at h
      · cases h
      split at h
      · cases h
      · rename_i d1 q1 hr1
        have a1 := ih.1 _ _ _ _ (by omega) hr1
        have b1 := (rt_rk_pos s f).1 _ _ _ _ (by omega) hr1
        obtain ⟨ds, e, a2⟩ := ih.2 _ _ _ _ _ _ (by omega) hm h
        have e1 := a1.tx
        have e2 := a2.tx
        have e3 := a1.sz'
        have e4 := a2.sz'
        have e5 := a1.dp'
        have e6 := a2.dp'
        refine ⟨d1 :: ds, by rw [e]; simp, ?_, ?_, ?_, ?_⟩
        · rw [wlL, a1.wl', a2.wl']; rfl
        · rw [dpL]; omega
        · simp [txtL]; omega
        · rw [szL]; omega
/-- A text that is read. -/
theorem rpar_ok {s : ByteArray} {d : Tm} {q : Nat} (h : rpar s = .ok d q) : wl d = true ∧ dp d ≤ 200 ∧ (txt d).length ≤ s.size ∧ sz d ≤ s.size ∧ s.size ≤ 65536 := by
  unfold rpar at h
  split at h
  · cases h
  rename_i hs
  split at h
  · cases h
  · rename_i d1 q1 hr
    have a := (rd_all s _).1 _ _ _ _ (Nat.zero_le _) hr
    have b := (rt_rk_pos s _).1 _ _ _ _ (Nat.zero_le _) hr
    split at h
    · cases h
    · cases h
      have e1 := a.tx
      have e2 := a.sz'
      have e3 := a.dp'
      exact ⟨a.wl', by omega, by omega, by omega, by omega⟩
theorem unq_le (l : List UInt8) : (unq l).2.1 ≤ l.length := by
  have h' := (quo_places l.length (l.drop 1) 1 []).2
  rw [List.length_drop] at h'
  unfold unq
  split
  · simp
  split
  · simp
  rename_i hne
  have hpos : 0 < l.length := by
    rcases Nat.eq_zero_or_pos l.length with h0 | h0
    · exact absurd h0 (by intro h0; rw [h0] at hne; simp at hne)
    · exact h0
  split
  · show (quoted l).fat ≤ _
    unfold quoted; omega
  split
  · rename_i hlt; simp only; omega
  · simp
theorem rquo_bad {s : ByteArray} {q m q' c : Nat} (h : rquo s q m = .bad q' c) (hq : q ≤ s.size) : q' ≤ s.size ∧ c ≠ 0 := by
  unfold rquo at h
  split at h
  · cases h; exact ⟨hq, by decide⟩
  split at h
  · rename_i b
    cases h
    refine ⟨?_, b⟩
    have hl : (s.data.toList.drop q).length = s.size - q := by rw [List.length_drop, list_len]
    unfold unq2
    split
    · have := unq_le ((s.data.toList.drop q).take (unq (s.data.toList.drop q)).2.1)
      have h2 := List.length_take_le' (unq (s.data.toList.drop q)).2.1 (s.data.toList.drop q)
      simp only
      omega
    · have := unq_le (s.data.toList.drop q)
      simp only
      omega
  · cases h
theorem rname_bad {s : ByteArray} {q m q' c : Nat} (h : rname s q m = .bad q' c) (hq : q ≤ s.size) : q' ≤ s.size ∧ c ≠ 0 := by
  unfold rname at h
  split at h
  · cases h; exact ⟨hq, by decide⟩
  split at h
  · cases h; exact ⟨hq, by decide⟩
  split at h
  · cases h; exact ⟨hq, by decide⟩
  · cases h
theorem rt_bad (s : ByteArray) : ∀ f, (∀ p m q c, p ≤ s.size → 2 * (s.size - p) < f → rt s f p m = .bad q c → q ≤ s.size ∧ c ≠ 0) ∧ (∀ p m en l q c, p ≤ s.size → 2 * (s.size - p) < f → rk s f p m en l = .bad q c → q ≤ s.size ∧ c ≠ 0) := by
  intro f
  induction f with
  | zero => exact ⟨fun p m q c _ h => absurd h (Nat.not_lt_zero _), fun p m en l q c _ h => absurd h (Nat.not_lt_zero _)⟩
  | succ f ih =>
    refine ⟨fun p m q c hp hf h => ?_, fun p m en l q c hp hf h => ?_⟩
    · have g1 := skp_ge s p
      have g2 := skp_le s p hp
      rw [rt] at h
      split at h
      · cases h; exact ⟨g2, by decide⟩
      rename_i hk
      split at h
      · split at h
        · rename_i hr; cases h; exact rquo_bad hr g2
        · cases h
      split at h
      · split at h
        · cases h; exact ⟨g2, by decide⟩
        have g3 := skp_ge s (skp s p + 1)
        have g4 := skp_le s (skp s p + 1) (by omega)
        split at h
        · cases h; exact ⟨g4, by decide⟩
        rename_i hk2
        split at h
        · cases h
        · split at h
          · rename_i hr1
            cases h
            exact ih.1 _ _ _ _ (by omega) (by omega) hr1
          · rename_i d1 q1 hr1
            have b1 := (rt_rk_pos s f).1 _ _ _ _ (by omega) hr1
            split at h
            · rename_i hr2
              cases h
              exact ih.2 _ _ _ _ _ _ (by omega) (by omega) hr2
            · cases h
      split at h
      · split at h
        · cases h; exact ⟨g2, by decide⟩
        · cases h
      split at h
      · split at h
        · cases h; exact ⟨g2, by decide⟩
        split at h
        · rename_i hr1
          cases h
          exact ih.1 _ _ _ _ (by omega) (by omega) hr1
        · cases h
      split at h
      · rename_i hr; cases h; exact rname_bad hr g2
      · rename_i n q1 hr1
        have hp1 := rname_pos hr1 (by omega)
        have g3 := skp_ge s q1
        split at h
        · rename_i hop
          split at h
          · rename_i hr2
            cases h
            exact ih.1 _ _ _ _ (by omega) (by omega) hr2
          · rename_i d1 q2 hr2
            have b1 := (rt_rk_pos s f).1 _ _ _ _ (by omega) hr2
            split at h
            · rename_i hr3
              cases h
              exact ih.2 _ _ _ _ _ _ (by omega) (by omega) hr3
            · cases h
        · cases h
    · have g1 := skp_ge s p
      have g2 := skp_le s p hp
      rw [rk] at h
      split at h
      · cases h; exact ⟨g2, by decide⟩
      rename_i hk
      split at h
      · cases h
      split at h
      · cases h; exact ⟨g2, by decide⟩
      split at h
      · rename_i hr1
        cases h
        exact ih.1 _ _ _ _ (by omega) (by omega) hr1
      · rename_i d1 q1 hr1
        have b1 := (rt_rk_pos s f).1 _ _ _ _ (by omega) hr1
        exact ih.2 _ _ _ _ _ _ (by omega) (by omega) h
/-- A text that is not read. -/
theorem rpar_bad {s : ByteArray} {q c : Nat} (h : rpar s = .bad q c) : q ≤ s.size ∧ c ≠ 0 := by
  unfold rpar at h
  split at h
  · cases h; exact ⟨Nat.zero_le _, by decide⟩
  split at h
  · rename_i hr
    cases h
    exact (rt_bad s _).1 _ _ _ _ (Nat.zero_le _) (by omega) hr
  · rename_i d1 q1 hr
    have b := (rt_rk_pos s _).1 _ _ _ _ (Nat.zero_le _) hr
    split at h
    · cases h; exact ⟨skp_le s q1 b.2, by decide⟩
    · cases h
end Go.Proofs.YtlkcadibjmfmcaaDoor
