/- No byte 10 in words; the document's own Scan; the law WordsScans, walked. -/
import Derived.Test.YtbbmjnhbmcbehaaP2
import Derived.Test.YtbbmjnhbmcbehaaN6
import Derived.Test.YtbbmjnhbmcbehaaE1
import Derived.Test.YtbbmjnhbmcbehaaN15
import Derived.Test.YtbbmjnhbmcbehaaN17
import Derived.Laws.IdiomCopy
namespace Go.Proofs.Ytbbmjnhbmcbehaa
open Go.RowKit

theorem skp_cons (c : UInt8) (l : List UInt8) (r : Bool) (p ln bg : Nat) : skp (c :: l) r p ln bg = if c.toNat = 10 then skp l false (p + 1) (ln + 1) (p + 1) else if r then skp l true (p + 1) ln bg else if c.toNat = 32 ∨ c.toNat = 9 ∨ c.toNat = 13 then skp l false (p + 1) ln bg else if c.toNat = 35 then skp l true (p + 1) ln bg else (c :: l, p, ln, bg) := rfl
/-- None of the first n bytes is a byte 10. -/
def no10 (l : List UInt8) (n : Nat) : Prop := ∀ i, i < n → (l.getD i 0).toNat ≠ 10
theorem lspan_no10 {p : Nat → Bool} (hp : p 10 = false) (l : List UInt8) : no10 l (lspan p l) := by
  intro i hi e
  have := lspan_at p l i hi
  rw [e, hp] at this; cases this
theorem sh_not10 : shortq 10 < 0 := by decide +kernel
theorem dig_not10 : dig 10 < 0 := by decide +kernel
theorem rdql_no10 (l : List UInt8) : no10 l (rdql l).2 := by
  intro i hi e
  have s10 := sh_not10
  have d10 := dig_not10
  revert hi
  unfold rdql rdq
  simp only [bt_mk', size_mk']
  split
  · intro h; simp at h
  · rename_i h1
    split
    · rename_i h2
      intro hi
      simp only at hi
      have : i = 0 ∨ i = 1 := by omega
      rcases this with rfl | rfl
      · omega
      · rw [e] at h2; omega
    · split
      · intro h; simp at h
      · rename_i h3
        split
        · intro h; simp at h
        · rename_i h4
          intro hi
          simp only at hi
          have : i = 0 ∨ i = 1 ∨ i = 2 ∨ i = 3 := by omega
          rcases this with rfl | rfl | rfl | rfl
          · omega
          · omega
          · rw [e] at h4; omega
          · rw [e] at h4; omega
theorem no10_cons {c : UInt8} {l : List UInt8} {n : Nat} (hc : c.toNat ≠ 10) (h : no10 l n) : no10 (c :: l) (n + 1) := by
  intro i hi
  cases i with
  | zero => simpa using hc
  | succ i => simpa using h i (by omega)
theorem no10_app {l : List UInt8} {m n : Nat} (h : no10 l m) (h2 : no10 (l.drop m) n) : no10 l (m + n) := by
  intro i hi
  by_cases hlt : i < m
  · exact h i hlt
  · have := h2 (i - m) (by omega)
    rw [List.getD_eq_getElem?_getD, List.getElem?_drop, show m + (i - m) = i by omega, ← List.getD_eq_getElem?_getD] at this
    exact this
theorem quo_no10 : ∀ (f : Nat) (l : List UInt8) (k : Nat) (acc : List Nat), (quo f l k acc).code = 0 → no10 l ((quo f l k acc).fin - k)
  | 0, l, k, acc, h => by simp [quo] at h
  | f + 1, [], k, acc, h => by simp [quo] at h
  | f + 1, c :: l, k, acc, h => by
    have hp := quo_pos _ _ _ _ h
    unfold quo at h hp ⊢
    split at h
    · rename_i h1
      rw [if_pos h1]
      intro i hi
      simp only at hi
      have : i = 0 := by omega
      subst this
      simp only [List.getD_cons_zero]; omega
    · rename_i h1
      rw [if_neg h1] at hp ⊢
      split at h
      · rename_i h2
        rw [if_pos h2] at hp ⊢
        split at h
        · simp at h
        · rename_i h3
          rw [if_neg h3] at hp ⊢
          have h4 := quo_no10 f _ _ _ h
          have h5 := quo_pos _ _ _ _ h
          have := no10_app (rdql_no10 (c :: l)) h4
          rw [show (rdql (c :: l)).2 + ((quo f (List.drop (rdql (c :: l)).2 (c :: l)) (k + (rdql (c :: l)).2) (acc ++ [(rdql (c :: l)).1])).fin - (k + (rdql (c :: l)).2)) = (quo f (List.drop (rdql (c :: l)).2 (c :: l)) (k + (rdql (c :: l)).2) (acc ++ [(rdql (c :: l)).1])).fin - k by omega] at this
          exact this
      · rename_i h2
        rw [if_neg h2] at hp ⊢
        split at h
        · rename_i h3
          rw [if_pos h3] at hp ⊢
          have h4 := quo_no10 f _ _ _ h
          have h5 := quo_pos _ _ _ _ h
          have hc : c.toNat ≠ 10 := by unfold plainq at h3; simp at h3; omega
          have := no10_cons hc h4
          rw [show (quo f l (k + 1) (acc ++ [c.toNat])).fin - (k + 1) + 1 = (quo f l (k + 1) (acc ++ [c.toNat])).fin - k by omega] at this
          exact this
        · simp at h
theorem bt_ext2 (x : ByteArray) (i j : Nat) : bt (x.extract i x.size) j = bt x (i + j) := by
  rw [bt_list, bt_list, extract_post, List.getD_eq_getElem?_getD, List.getElem?_drop, ← List.getD_eq_getElem?_getD]
theorem shs_not10 : short 10 < 0 := by decide +kernel
theorem plain_not10 : plain 10 = false := by decide +kernel
theorem rdr_no10 (y : ByteArray) (j : Nat) (hj : j < (rdr y).2) : bt y j ≠ 10 := by
  intro e
  have s10 := shs_not10
  have d10 := dig_not10
  revert hj
  unfold rdr
  split
  · intro h; simp at h
  · rename_i h1
    split
    · rename_i h2
      intro hj
      simp only at hj
      have : j = 0 ∨ j = 1 := by omega
      rcases this with rfl | rfl
      · omega
      · rw [e] at h2; omega
    · split
      · intro h; simp at h
      · rename_i h3
        split
        · intro h; simp at h
        · rename_i h4
          intro hj
          simp only at hj
          have : j = 0 ∨ j = 1 ∨ j = 2 ∨ j = 3 := by omega
          rcases this with rfl | rfl | rfl | rfl
          · omega
          · omega
          · rw [e] at h4; omega
          · rw [e] at h4; omega
theorem sgn_no10 (x : ByteArray) (i : Nat) (h : (sgn x i).2.2.2 = 0) (j : Nat) (h1 : i ≤ j) (h2 : j < (sgn x i).2.1) : bt x j ≠ 10 := by
  revert h h2
  unfold sgn
  split
  · intro h; simp at h
  · split
    · split
      · intro h; simp at h
      · intro _ h2
        simp only at h2
        have := rdr_no10 (x.extract i x.size) (j - i) (by omega)
        rw [bt_ext2, show i + (j - i) = j by omega] at this
        exact this
    · split
      · rename_i h3
        intro _ h2
        simp only at h2
        obtain rfl : j = i := by omega
        intro e
        rw [e, plain_not10] at h3; cases h3
      · intro h; simp at h
theorem itm_no10 (x : ByteArray) (i : Nat) (h : (itm x i).2.2.2 = 0) (j : Nat) (h1 : i ≤ j) (h2 : j < (itm x i).2.1) : bt x j ≠ 10 := by
  revert h h2
  unfold itm
  split
  · rename_i h3; intro h; exact absurd h h3
  · rename_i h3
    have h3' : (sgn x i).2.2.2 = 0 := by simpa using h3
    split
    · intro _ h2
      exact sgn_no10 x i h3' j h1 h2
    · rename_i h4
      split
      · rename_i h5; intro h; exact absurd h h5
      · rename_i h5
        have h5' : (sgn x ((sgn x i).2.1 + 1)).2.2.2 = 0 := by simpa using h5
        split
        · intro h; simp at h
        · intro _ h2
          simp only at h2
          rcases Nat.lt_trichotomy j (sgn x i).2.1 with hlt | heq | hgt
          · exact sgn_no10 x i h3' j h1 hlt
          · rw [heq]; omega
          · exact sgn_no10 x _ h5' j (by omega) h2
theorem items_no10 (x : ByteArray) : ∀ (m i : Nat) (s : St), (items x m i s).2.2.2 = 0 → bt x (items x m i s).2.1 = 93 ∧ ∀ j, i ≤ j → j < (items x m i s).2.1 → bt x j ≠ 10
  | 0, i, s, h => by simp [items] at h
  | m + 1, i, s, h => by
    have ih := items_no10 x m (itm x i).2.1 (s.or (itm x i).1)
    have hno := itm_no10 x i
    unfold items at h ⊢
    split at h
    · simp at h
    · rename_i h1
      rw [if_neg h1]
      split at h
      · rename_i h2
        rw [if_pos h2]
        exact ⟨h2, fun j a b => by simp only at b; omega⟩
      · rename_i h2
        rw [if_neg h2]
        split at h
        · rename_i h3; exact absurd h h3
        · rename_i h3
          rw [if_neg h3]
          obtain ⟨a, b⟩ := ih h
          refine ⟨a, fun j h4 h5 => ?_⟩
          by_cases hlt : j < (itm x i).2.1
          · exact hno (by simpa using h3) j h4 hlt
          · exact b j (by omega) h5
theorem prs_no10 (x : ByteArray) (h : (prs x).2.2 = 0) (j : Nat) (hj : j < x.size) : bt x j ≠ 10 := by
  have key : ∀ tr i, (prsB x tr (items x (x.size + 1) i St.zero)).2.2 = 0 → i ≤ j → bt x j ≠ 10 := by
    intro tr i hc hij
    have hno := items_no10 x (x.size + 1) i St.zero
    unfold prsB at hc
    split at hc
    · rename_i h1; exact absurd hc h1
    · rename_i h1
      split at hc
      · simp at hc
      · rename_i h2
        obtain ⟨a, b⟩ := hno (by simpa using h1)
        by_cases hlt : j < (items x (x.size + 1) i St.zero).2.1
        · exact b j hij hlt
        · have : j = (items x (x.size + 1) i St.zero).2.1 := by omega
          rw [this, a]; decide
  unfold prs at h
  split at h
  · simp at h
  · split at h
    · simp at h
    · rename_i h0
      have h0' : 0 < x.size ∧ bt x 0 = 91 := by simpa using h0
      split at h
      · rename_i h1
        rcases Nat.lt_or_ge j 2 with hl | hl
        · have : j = 0 ∨ j = 1 := by omega
          rcases this with rfl | rfl <;> omega
        · exact key true 2 h hl
      · rcases Nat.lt_or_ge j 1 with hl | hl
        · obtain rfl : j = 0 := by omega
          omega
        · exact key false 1 h hl
theorem rdw_no10 (r : List UInt8) (h : (rdw r).code = 0) : no10 r (rdw r).len := by
  cases r with
  | nil => intro i hi; simp [rdw, RW.plain] at hi
  | cons c l =>
    rw [rdw_cons] at h ⊢
    by_cases hg : great c.toNat = true
    · rw [if_pos hg] at h ⊢
      unfold rdLet at h ⊢
      split at h
      · simp [RW.fault] at h
      · rename_i h1; rw [if_neg h1]; exact lspan_no10 (by decide) _
    rw [if_neg hg] at h ⊢
    by_cases hs : small c.toNat = true
    · rw [if_pos hs] at h ⊢
      unfold rdLet at h ⊢
      split at h
      · simp [RW.fault] at h
      · rename_i h1; rw [if_neg h1]; exact lspan_no10 (by decide) _
    rw [if_neg hs] at h ⊢
    by_cases hd : digB c.toNat = true
    · rw [if_pos hd] at h ⊢
      unfold rdNum at h ⊢
      split at h
      · simp [RW.fault] at h
      · rename_i h1; rw [if_neg h1]; exact lspan_no10 (by decide) _
    rw [if_neg hd] at h ⊢
    by_cases h34 : c.toNat = 34
    · rw [if_pos h34] at h ⊢
      unfold rdText at h ⊢
      split at h
      · rename_i h1
        rw [if_pos h1]
        have h2 : no10 l ((quo (c :: l).length l 1 []).fin - 1) := quo_no10 _ _ _ _ h1
        have h3 := quo_pos _ _ _ _ h1
        have := no10_cons (c := c) (by omega) h2
        show no10 (c :: l) (quo (c :: l).length l 1 []).fin
        have h3' : 1 < (quo (c :: l).length l 1 []).fin := h3
        rw [show (quo (c :: l).length l 1 []).fin - 1 + 1 = (quo (c :: l).length l 1 []).fin by omega] at this
        exact this
      · rename_i h1; exact absurd h h1
    rw [if_neg h34] at h ⊢
    by_cases h91 : c.toNat = 91
    · rw [if_pos h91] at h ⊢
      unfold rdSet at h ⊢
      split at h
      · simp [RW.fault] at h
      · rename_i h1
        rw [if_neg h1]
        split at h
        · rename_i h2
          rw [if_pos h2]
          intro i hi
          simp only at hi
          have hle := clo_le ((c :: l).drop 1) 1
          have h3 := prs_no10 _ h2 i (by
            show i < ((c :: l).take (clo ((c :: l).drop 1) 1)).length
            rw [List.length_take]
            simp only [List.drop_succ_cons, List.drop_zero, List.length_cons] at *; omega)
          rw [bt_mk', List.getD_eq_getElem?_getD, List.getElem?_take, if_pos hi, ← List.getD_eq_getElem?_getD] at h3
          exact h3
        · rename_i h2; exact absurd h h2
    rw [if_neg h91] at h ⊢
    by_cases hsg : signB c.toNat = true
    · rw [if_pos hsg]
      intro i hi
      have : i = 0 := by simp [RW.plain] at hi; exact hi
      subst this
      intro e
      simp only [List.getD_cons_zero] at e
      rw [e] at hsg
      exact absurd hsg (by decide +kernel)
    · rw [if_neg hsg] at h; simp [RW.fault] at h
def inv (l : List UInt8) (p ln bg : Nat) : Prop := p ≤ l.length ∧ ln = lnOf (l.take p) ∧ bg ≤ p ∧ p - bg + 1 = coOf (l.take p)
theorem take_one {l : List UInt8} {p : Nat} {c : UInt8} {t : List UInt8} (h : l.drop p = c :: t) : l.take (p + 1) = l.take p ++ [c] ∧ l.drop (p + 1) = t ∧ p < l.length := by
  have hp : p < l.length := by
    rcases Nat.lt_or_ge p l.length with h' | h'
    · exact h'
    · rw [List.drop_eq_nil_of_le h'] at h; cases h
  rw [List.drop_eq_getElem_cons hp] at h
  have h1 : l[p] = c := by injection h
  have h2 : l.drop (p + 1) = t := by injection h
  exact ⟨by rw [List.take_succ_eq_append_getElem hp, h1], h2, hp⟩
theorem inv_nl {l : List UInt8} {p ln bg : Nat} {c : UInt8} {t : List UInt8} (h : inv l p ln bg) (hd : l.drop p = c :: t) (hc : c.toNat = 10) : inv l (p + 1) (ln + 1) (p + 1) := by
  obtain ⟨e1, _, e3⟩ := take_one hd
  have hc' : c = 10 := (u8_10 c).2 hc
  refine ⟨e3, ?_, Nat.le_refl _, ?_⟩
  · rw [e1, lnOf_snoc, if_pos hc', ← h.2.1]
  · rw [e1, coOf_snoc, if_pos hc']; omega
theorem inv_on {l : List UInt8} {p ln bg : Nat} {c : UInt8} {t : List UInt8} (h : inv l p ln bg) (hd : l.drop p = c :: t) (hc : c.toNat ≠ 10) : inv l (p + 1) ln bg := by
  obtain ⟨e1, _, e3⟩ := take_one hd
  have hc' : ¬ c = 10 := fun e => hc ((u8_10 c).1 e)
  obtain ⟨_, h2, h3, h4⟩ := h
  refine ⟨e3, ?_, by omega, ?_⟩
  · rw [e1, lnOf_snoc, if_neg hc', ← h2]
  · rw [e1, coOf_snoc, if_neg hc', ← h4]; omega
theorem skp_inv (l : List UInt8) : ∀ (rest : List UInt8) (r : Bool) (p ln bg : Nat), l.drop p = rest → inv l p ln bg → ∃ p' ln' bg', skp rest r p ln bg = (l.drop p', p', ln', bg') ∧ p ≤ p' ∧ inv l p' ln' bg'
  | [], r, p, ln, bg, hd, h => ⟨p, ln, bg, by rw [hd]; rfl, Nat.le_refl _, h⟩
  | c :: t, r, p, ln, bg, hd, h => by
    obtain ⟨_, e2, _⟩ := take_one hd
    rw [skp_cons]
    by_cases h10 : c.toNat = 10
    · rw [if_pos h10]
      obtain ⟨p', ln', bg', a, b, d⟩ := skp_inv l t false (p + 1) (ln + 1) (p + 1) e2 (inv_nl h hd h10)
      exact ⟨p', ln', bg', a, by omega, d⟩
    · rw [if_neg h10]
      have hn := inv_on h hd h10
      have on : ∀ r', ∃ p' ln' bg', skp t r' (p + 1) ln bg = (l.drop p', p', ln', bg') ∧ p ≤ p' ∧ inv l p' ln' bg' := fun r' => by
        obtain ⟨p', ln', bg', a, b, d⟩ := skp_inv l t r' (p + 1) ln bg e2 hn
        exact ⟨p', ln', bg', a, by omega, d⟩
      split
      · exact on true
      · split
        · exact on false
        · split
          · exact on true
          · exact ⟨p, ln, bg, by rw [hd], Nat.le_refl _, h⟩
theorem pass_inv (l : List UInt8) (p ln bg : Nat) : ∀ n, inv l p ln bg → no10 (l.drop p) n → p + n ≤ l.length → inv l (p + n) ln bg
  | 0, h, _, _ => h
  | n + 1, h, hn, hl => by
    have ih := pass_inv l p ln bg n h (fun i hi => hn i (by omega)) (by omega)
    have hd : l.drop (p + n) = l[p + n] :: l.drop (p + n + 1) := List.drop_eq_getElem_cons (by omega)
    have hc := hn n (by omega)
    rw [List.getD_eq_getElem?_getD, List.getElem?_drop, List.getElem?_eq_getElem (by omega)] at hc
    exact inv_on ih hd hc
theorem inv_one {l : List UInt8} {p a b c d : Nat} (h : inv l p a b) (h' : inv l p c d) : a = c ∧ b = d := by
  obtain ⟨_, h1, h2, h3⟩ := h
  obtain ⟨_, h4, h5, h6⟩ := h'
  exact ⟨h1.trans h4.symm, by omega⟩
theorem inv_le {l : List UInt8} {p a b : Nat} (h : inv l p a b) : p ≤ l.length ∧ a ≤ p + 1 ∧ b ≤ p := by
  obtain ⟨h0, h1, h2, _⟩ := h
  have := lnOf_le (l.take p)
  rw [List.length_take] at this
  exact ⟨h0, by omega, h2⟩
theorem inv_zero (l : List UInt8) : inv l 0 1 0 := ⟨Nat.zero_le _, by simp [lnOf], Nat.le_refl _, by simp [coOf]⟩
theorem txt_at (x : ByteArray) (p len : Nat) : x.extract p (p + len) = ⟨((x.data.toList.drop p).take len).toArray⟩ := by
  rw [ba_list (x.extract p (p + len)), extract_list]; congr 2; congr 1; omega
theorem ov_ge {l : List UInt8} {p a b : Nat} (h : inv l p a b) : p ≤ ov (l.drop p) false p := by
  obtain ⟨p', ln', bg', hsk, hpp, _⟩ := skp_inv l (l.drop p) false p a b rfl h
  rw [← ov_any _ _ _ a b, hsk]; exact hpp
set_option maxRecDepth 100000 in
set_option maxHeartbeats 8000000 in
theorem rscan_any (x : ByteArray) (w : World) (hx0 : x.size ≤ 65538) : Calls Try.prog 14 #[.string x] w (Scans w (scan x.data.toList)) := by
  obtain ⟨i0, hinf, hz0, hz1, hz2⟩ := info_parts info35
  obtain ⟨S, hS⟩ : ∃ S, scan x.data.toList = S := ⟨_, rfl⟩
  rw [hS]
  unfold scan at hS
  by_cases h1 : 65536 < x.size
  · rw [if_pos (by rw [list_len]; exact h1)] at hS
    have h1' : (65536 : Int) < x.size := by omega
    go_enter Try.func14, Try.ntmps14
    go_wp2
    exact bodyPost_ret (v := .tuple #[.slice none 0 0, .agg #[.int .i64 ((0 : Nat) : Int), .int .i64 ((2 : Nat) : Int)]]) (by simp [results, Try.results14, go_sem]) rfl ⟨_, [], scansV_eq hS.symm _, by rw [← hS]; rfl, Words.nil _ _, (Below.refl _ _).alloc (Nat.le_refl _) _⟩
  rw [if_neg (by rw [list_len]; exact h1), list_len] at hS
  have hx : x.size ≤ 65536 := by omega
  have hxi : (x.size : Int) ≤ 65536 := by omega
  clear h1 hx0
  have HS0 : Hid _ := hS
  clear hS
  have HO : Hid _ := fun w => rover_any x 0 w (by omega) (Nat.zero_le _)
  have hF0 := Blk.new w 26 #[.int .i64 0, .int .i64 0]
  have hB0 : Below w.heap.size w (w.alloc (.cells #[.int .i64 0, .int .i64 0] 26)) := (Below.refl _ _).alloc (Nat.le_refl _) _
  go_enter Try.func14, Try.ntmps14
  go_wp2_with (go_at_call 32; refine (HO.out _).mono ?_; rintro e w' ⟨rfl, rfl⟩)
  go_loopw [4, 5, 6, 7, 8] (fun lv lnv tpv frv atv wr => ∃ (f p ln bg fr lf bf : Nat) (L : List (Wd × Value)), p ≤ x.size ∧ inv x.data.toList p ln bg ∧ fr ≤ ov (x.data.toList.drop p) false p ∧ inv x.data.toList fr lf bf ∧ L.length ≤ p ∧ x.size < p + f ∧ lnv = .int .i64 lf ∧ tpv = .int .i64 bf ∧ frv = .int .i64 fr ∧ atv = .int .i64 (ov (x.data.toList.drop p) false p : Nat) ∧ scn f (x.data.toList.drop p) p ln bg (L.map (·.1)) = S ∧ Blk wr w.heap.size 26 #[.int .i64 0, .int .i64 0] ∧ Words wr (w.heap.size + 1) lv L ∧ Below w.heap.size w wr) (fun _ _ _ _ atv _ => x.size + 1 - (intOf atv).toNat)
  case atStart => exact ⟨x.size + 1, 0, 1, 0, 0, 1, 0, [], Nat.zero_le _, inv_zero _, Nat.zero_le _, inv_zero _, by simp, by omega, rfl, rfl, rfl, rfl, HS0.out, hF0, Words.nil _ _, hB0⟩
  case round =>
    clear hF0 hB0 HS0 HO
    obtain ⟨f, p, ln, bg, fr, lf, bf, L, hp, hinv, hfr, hinf2, hLp, hf, rfl, rfl, rfl, rfl, hS, hF, hWs, hB⟩ := hrel
    obtain ⟨p', ln', bg', hsk, hpp, hinv'⟩ := skp_inv x.data.toList (x.data.toList.drop p) false p ln bg rfl hinv
    have hov : ov (x.data.toList.drop p) false p = p' := by rw [← ov_any _ _ _ ln bg, hsk]
    rw [hov] at hfr ⊢
    have HMP : Hid _ := hov
    obtain ⟨f, rfl⟩ : ∃ f', f = f' + 1 := ⟨f - 1, by omega⟩
    simp only [scn, hsk] at hS
    have HS : Hid _ := hS
    have HI : Hid _ := hinv'
    have HI2 : Hid _ := hinf2
    obtain ⟨hp', hln', hbg'⟩ := inv_le hinv'
    rw [list_len] at hp'
    clear hS hsk hinv hinv' hinf2 hov
    have hfr' : (fr : Int) ≤ p' := by omega
    have lF := hF.lt
    go_wp2
    go_loop [5, 6, 7] (fun lnv tpv frv => ∃ k lk bk : Nat, k ≤ p' ∧ inv x.data.toList k lk bk ∧ lnv = .int .i64 lk ∧ tpv = .int .i64 bk ∧ frv = .int .i64 k) (fun _ _ frv => p' - (intOf frv).toNat)
    case atStart => exact ⟨fr, lf, bf, hfr, HI2.out, rfl, rfl, rfl⟩
    case round =>
      clear HI2 hfr hfr'
      obtain ⟨k, lk, bk, hk, hik, rfl, rfl, rfl⟩ := hrel
      obtain ⟨_, hlk, hbk⟩ := inv_le hik
      have HIK : Hid _ := hik
      clear hik
      by_cases hlt : k < p'
      · have hlt' : (k : Int) < p' := by omega
        have hkx : (k : Int) < x.size := by omega
        have b0 := bt_eq x k (by omega)
        have HD : Hid _ := drop_at x k (by omega)
        by_cases h10 : bt x k = 10
        · have HN : Hid _ := inv_nl HIK.out HD.out (b0.trans h10)
          rw [h10] at b0
          clear HD
          go_wp2
          go_round
          case rel => exact ⟨k + 1, lk + 1, k + 1, by omega, HN.out, by go_num, by go_num, by go_num⟩
          case measure => simp [intOf]; omega
        · have HN : Hid _ := inv_on HIK.out HD.out (by rw [b0]; exact h10)
          have h10' : ((bt x k : Int) == 10) = false := by simp; omega
          clear HD
          go_wp2
          go_round
          case rel => exact ⟨k + 1, lk, bk, by omega, HN.out, rfl, rfl, by go_num⟩
          case measure => simp [intOf]; omega
      · have hkp : k = p' := by omega
        subst hkp
        obtain ⟨rfl, rfl⟩ := inv_one HI.out HIK.out
        clear HIK hlt hk hlk hbk
        obtain ⟨co, hco⟩ : ∃ co, k - bg' + 1 = co := ⟨_, rfl⟩
        have hcoI : (k : Int) - bg' + 1 = co := by omega
        have HCO : Hid _ := hco
        clear hco
        by_cases hend : x.size ≤ k
        · obtain rfl : k = x.size := by omega
          have hend' : ¬ ((x.size : Int) < x.size) := by omega
          rw [drop_end x x.size (Nat.le_refl _), show rdw [] = RW.plain 7 0 from rfl] at HS
          rw [if_neg (show ¬ (RW.plain 7 0).code ≠ 0 by simp [RW.plain]), if_pos (show (RW.plain 7 0).kind = 7 from rfl)] at HS
          go_wp2_with (at_builtin; refine wpList_append_own _ rfl _ _ 23 rfl (w.heap.size + 1) 35 i0 (.agg #[.int .i64 0, .string ⟨#[]⟩, .slice none 0 0, .int .u64 0, .int .u64 0, .int .u64 0, .int .u64 0, .int .i64 0, .int .i64 0, .int .i64 0, .int .i64 0]) 11 112 Try.underlying23 hinf hz0 hz1 hz2 rfl (by decide) _ _ _ rfl (hWs.row.alloc _) ⟨wr.heap.size, 0, none⟩ 1 1 [.int .i64 7, .string ⟨#[]⟩, .slice none 0 0, .int .u64 0, .int .u64 0, .int .u64 0, .int .u64 0, .int .i64 0, .int .i64 (x.size : Int), .int .i64 (ln' : Int), .int .i64 (co : Int)] rfl rfl ?ca1 ?ca2 ?ca3 ?ca4 ?ca5 ?_)
          try case ca1 => exact eleven_new _ _ _ _ _ _ _ _ _ _ _ _ _
          case ca2 =>
              first | rfl | (intro u hu; simp at hu; rcases hu with rfl | rfl | rfl | rfl | rfl | rfl | rfl | rfl | rfl | rfl | rfl <;> rfl) | (repeat' apply And.intro) <;> rfl
          case ca3 => unfold maxLen; omega
          case ca4 => omega
          case ca5 => first | omega | (simp; omega)
          intro lv' w4 hown' hgrow _
          have hW5 : Words w4 (w.heap.size + 1) lv' (L ++ [(mkWd [] (RW.plain 7 0) x.size ln' bg', .slice none 0 0)]) := by
            refine hWs.push (World.ownsRow_nil _ _ _ _) ?_ hgrow
            have e : wcell (mkWd [] (RW.plain 7 0) x.size ln' bg') (.slice none 0 0) = [.int .i64 7, .string ⟨#[]⟩, .slice none 0 0, .int .u64 0, .int .u64 0, .int .u64 0, .int .u64 0, .int .i64 0, .int .i64 (x.size : Int), .int .i64 (ln' : Int), .int .i64 (co : Int)] := by
              simp [wcell, mkWd, RW.plain, St.zero, ← HCO.out]
            rw [e]; exact hown'
          have hF5 := (hF.alloc (.cells #[.int .i64 7, .string ⟨#[]⟩, .slice none 0 0, .int .u64 0, .int .u64 0, .int .u64 0, .int .u64 0, .int .i64 0, .int .i64 (x.size : Int), .int .i64 (ln' : Int), .int .i64 (co : Int)] 35)).kept hgrow (hF.not_row (by decide) hWs.row)
          have hB5 := (hB.alloc hB.size (.cells #[.int .i64 7, .string ⟨#[]⟩, .slice none 0 0, .int .u64 0, .int .u64 0, .int .u64 0, .int .u64 0, .int .i64 0, .int .i64 (x.size : Int), .int .i64 (ln' : Int), .int .i64 (co : Int)] 35)).grown hgrow (by have := hB.size; simp; omega) (fun j hj => by have := (hWs.row.lt j hj).1; omega)
          have l5 := hF5.lt
          obtain ⟨f0, f1⟩ := (show Blk w4 w.heap.size 26 #[.int .i64 0, .int .i64 0] from hF5).pair
          have z2 := hF5.frozen
          obtain ⟨va', vc', rfl⟩ := row_slice hown'
          clear hgrow hown' hWs hF hB
          go_wp2
          refine bodyPost_ret (v := .tuple #[.slice va' (L.length + 1) vc', .agg #[.int .i64 ((0 : Nat) : Int), .int .i64 ((0 : Nat) : Int)]]) (by simp [results, Try.results14, go_sem, f0, f1]) rfl ⟨_, _, scansV_eq HS.out.symm _, ?_, (hW5.put2 (Nat.lt_succ_self _) _ _).mono (by omega), put2 hB5⟩
          rw [← HS.out]; simp
        · have hend' : (k : Int) < x.size := by omega
          have HR : Hid _ := fun w => rword_any x k w hx (by omega)
          have hlen := rdw_len (x.data.toList.drop k)
          have hno := rdw_no10 (x.data.toList.drop k)
          have hfat := rdw_fat (x.data.toList.drop k)
          have hdl : (x.data.toList.drop k).length = x.size - k := by rw [List.length_drop, list_len]
          have hne : x.data.toList.drop k ≠ [] := fun h => by rw [h] at hdl; simp at hdl; omega
          rw [hdl] at hlen hfat
          have HNE : Hid _ := hne
          have HNO : Hid _ := hno
          clear hdl hne hno
          generalize rdw (x.data.toList.drop k) = q at *
          have hbs : w.heap.size + 1 ≤ wr.heap.size := lF
          go_wp2_with (go_at_call 33; refine (HR.out _).mono ?_)
          rintro e w2 ⟨kd, nn, en, st, va, vn, vc, rfl, hokk, hb2⟩
          have hF2 := hF.after hb2
          have hW2 := hWs.after hb2
          have hB2 := below_of hB hb2
          clear hF hWs hB
          obtain ⟨f0, f1⟩ := (show Blk w2 w.heap.size 26 #[.int .i64 0, .int .i64 0] from hF2).pair
          have z2 := hF2.frozen
          have l2 := hF2.lt
          simp only [wv, fv]
          have HOK : Hid _ := hokk
          clear hokk
          by_cases hcd : q.code = 0
          · obtain ⟨rfl, rfl, rfl, hen, hr2⟩ := HOK.out hcd
            clear HOK
            rw [if_pos hcd, hcd]
            obtain ⟨hl1, hl2, hl3⟩ := hlen hcd
            have hk7 : q.kind ≠ 7 := fun h => HNE.out (hl3.1 h)
            have hl4 := hl2 hk7
            rw [if_neg (by simpa using hcd), if_neg hk7, List.drop_drop, ← hen] at HS
            have HINV : Hid _ := pass_inv x.data.toList k ln' bg' q.len HI.out (HNO.out hcd) (by rw [list_len]; omega)
            rw [← hen] at HINV
            have HX : Hid _ := txt_at x k q.len
            rw [← hen] at HX
            have hken : k < en := by omega
            have henx : en ≤ x.size := by omega
            have hkenI : (k : Int) ≤ en := by omega
            have henxI : (en : Int) ≤ x.size := by omega
            have HOV : Hid _ := ov_ge HINV.out
            have HO2 : Hid _ := fun w => rover_any x en w (by omega) henx
            obtain ⟨o2, ho2⟩ : ∃ o2, ov (x.data.toList.drop en) false en = o2 := ⟨_, rfl⟩
            rw [ho2] at HO2 HOV
            have HO3 : Hid _ := ho2
            clear hlen hl1 hl2 hl3 hfat HNO HNE HR ho2 hen
            have hr3 := ((row_mono hr2 hbs).alloc (.cells #[.int .i64 (q.kind : Int), .string (x.extract k en), .slice va vn vc, .int .u64 (q.set.a : Int), .int .u64 (q.set.b : Int), .int .u64 (q.set.c : Int), .int .u64 (q.set.d : Int), .int .i64 (q.n : Int), .int .i64 (k : Int), .int .i64 (ln' : Int), .int .i64 (co : Int)] 35)).alloc (.cells #[.int .i64 0, .int .i64 0] 26)
            have hW3 := (hW2.alloc (.cells #[.int .i64 (q.kind : Int), .string (x.extract k en), .slice va vn vc, .int .u64 (q.set.a : Int), .int .u64 (q.set.b : Int), .int .u64 (q.set.c : Int), .int .u64 (q.set.d : Int), .int .i64 (q.n : Int), .int .i64 (k : Int), .int .i64 (ln' : Int), .int .i64 (co : Int)] 35)).alloc (.cells #[.int .i64 0, .int .i64 0] 26)
            have hF3 := (hF2.alloc (.cells #[.int .i64 (q.kind : Int), .string (x.extract k en), .slice va vn vc, .int .u64 (q.set.a : Int), .int .u64 (q.set.b : Int), .int .u64 (q.set.c : Int), .int .u64 (q.set.d : Int), .int .i64 (q.n : Int), .int .i64 (k : Int), .int .i64 (ln' : Int), .int .i64 (co : Int)] 35)).alloc (.cells #[.int .i64 0, .int .i64 0] 26)
            have hB3 := (hB2.alloc hB2.size (.cells #[.int .i64 (q.kind : Int), .string (x.extract k en), .slice va vn vc, .int .u64 (q.set.a : Int), .int .u64 (q.set.b : Int), .int .u64 (q.set.c : Int), .int .u64 (q.set.d : Int), .int .i64 (q.n : Int), .int .i64 (k : Int), .int .i64 (ln' : Int), .int .i64 (co : Int)] 35)).alloc (by have := hB2.size; simp; omega) (.cells #[.int .i64 0, .int .i64 0] 26)
            have hbs2 : w.heap.size + 1 ≤ w2.heap.size := l2
            clear hr2 hW2 hF2 hB2 f0 f1 z2
            go_wp2_with (at_builtin; refine wpList_append_own _ rfl _ _ 23 rfl (w.heap.size + 1) 35 i0 (.agg #[.int .i64 0, .string ⟨#[]⟩, .slice none 0 0, .int .u64 0, .int .u64 0, .int .u64 0, .int .u64 0, .int .i64 0, .int .i64 0, .int .i64 0, .int .i64 0]) 11 112 Try.underlying23 hinf hz0 hz1 hz2 rfl (by decide) _ _ _ rfl (hW3.row.alloc _) ⟨w2.heap.size + 1 + 1, 0, none⟩ 1 1 [.int .i64 (q.kind : Int), .string (x.extract k en), .slice va vn vc, .int .u64 (q.set.a : Int), .int .u64 (q.set.b : Int), .int .u64 (q.set.c : Int), .int .u64 (q.set.d : Int), .int .i64 (q.n : Int), .int .i64 (k : Int), .int .i64 (ln' : Int), .int .i64 (co : Int)] rfl rfl ?cb1 ?cb2 ?cb3 ?cb4 ?cb5 ?_)
            case cb1 =>
              have h11 := eleven_new ((w2.alloc (.cells #[.int .i64 (q.kind : Int), .string (x.extract k en), .slice va vn vc, .int .u64 (q.set.a : Int), .int .u64 (q.set.b : Int), .int .u64 (q.set.c : Int), .int .u64 (q.set.d : Int), .int .i64 (q.n : Int), .int .i64 (k : Int), .int .i64 (ln' : Int), .int .i64 (co : Int)] 35)).alloc (.cells #[.int .i64 0, .int .i64 0] 26)) 35 (.int .i64 (q.kind : Int)) (.string (x.extract k en)) (.slice va vn vc) (.int .u64 (q.set.a : Int)) (.int .u64 (q.set.b : Int)) (.int .u64 (q.set.c : Int)) (.int .u64 (q.set.d : Int)) (.int .i64 (q.n : Int)) (.int .i64 (k : Int)) (.int .i64 (ln' : Int)) (.int .i64 (co : Int))
              simp only [World.size_alloc] at h11
              exact h11
            case cb2 =>
              first | rfl | (intro u hu; simp at hu; rcases hu with rfl | rfl | rfl | rfl | rfl | rfl | rfl | rfl | rfl | rfl | rfl <;> rfl) | (repeat' apply And.intro) <;> rfl
            case cb3 => unfold maxLen; omega
            case cb4 => omega
            case cb5 => first | omega | (simp; omega)
            intro lv' w4 hown' hgrow _
            have hW5 : Words w4 (w.heap.size + 1) lv' (L ++ [(mkWd (x.data.toList.drop k) q k ln' bg', .slice va vn vc)]) := by
              refine hW3.push hr3 ?_ hgrow
              have e : wcell (mkWd (x.data.toList.drop k) q k ln' bg') (.slice va vn vc) = [.int .i64 (q.kind : Int), .string (x.extract k en), .slice va vn vc, .int .u64 (q.set.a : Int), .int .u64 (q.set.b : Int), .int .u64 (q.set.c : Int), .int .u64 (q.set.d : Int), .int .i64 (q.n : Int), .int .i64 (k : Int), .int .i64 (ln' : Int), .int .i64 (co : Int)] := by
                rw [HX.out]; simp [wcell, mkWd, ← HCO.out]
              rw [e]; exact hown'
            have hF5 := (hF3.alloc (.cells #[.int .i64 (q.kind : Int), .string (x.extract k en), .slice va vn vc, .int .u64 (q.set.a : Int), .int .u64 (q.set.b : Int), .int .u64 (q.set.c : Int), .int .u64 (q.set.d : Int), .int .i64 (q.n : Int), .int .i64 (k : Int), .int .i64 (ln' : Int), .int .i64 (co : Int)] 35)).kept hgrow (hF3.not_row (by decide) hW3.row)
            have hB5 := (hB3.alloc hB3.size (.cells #[.int .i64 (q.kind : Int), .string (x.extract k en), .slice va vn vc, .int .u64 (q.set.a : Int), .int .u64 (q.set.b : Int), .int .u64 (q.set.c : Int), .int .u64 (q.set.d : Int), .int .i64 (q.n : Int), .int .i64 (k : Int), .int .i64 (ln' : Int), .int .i64 (co : Int)] 35)).grown hgrow (by have := hB3.size; simp at this ⊢; omega) (fun j hj => by have := (hW3.row.lt j hj).1; omega)
            obtain ⟨va', vc', rfl⟩ := row_slice hown'
            clear hgrow hown' hW3 hF3 hB3 hr3
            go_wp2_with (go_at_call 32; refine (HO2.out _).mono ?_; rintro e w' ⟨rfl, rfl⟩)
            go_roundw
            case rel => exact ⟨f, en, ln', bg', k, ln', bg', _, henx, HINV.out, by rw [HO3.out]; have := HOV.out; omega, HI.out, by simp; omega, by omega, rfl, rfl, rfl, by rw [HO3.out], by rw [List.map_append]; exact HS.out, hF5, hW5, hB5⟩
            case measure => have := HOV.out; simp [intOf]; omega
          · rw [if_pos hcd] at HS
            rw [if_neg hcd]
            have hcd' : ((q.code : Int) != 0) = true := by simp; omega
            clear hlen HNO HNE HOK
            go_wp2
            go_region
            all_goals go_wp2
            have hB3 := (((put2 (u := .int .i64 ((k + q.fat : Nat) : Int)) (v := .int .i64 (q.code : Int)) hB2).alloc (by have := hB2.size; simp; omega) (.cells #[.int .i64 (kd : Int), .string ⟨#[]⟩, .slice va vn vc, .int .u64 (st.a : Int), .int .u64 (st.b : Int), .int .u64 (st.c : Int), .int .u64 (st.d : Int), .int .i64 (nn : Int), .int .i64 0, .int .i64 0, .int .i64 0] 35)).alloc (by have := hB2.size; simp; omega) (.cells #[.int .i64 ((k + q.fat : Nat) : Int), .int .i64 (q.code : Int)] 26)).drew
            refine bodyPost_ret (v := .tuple #[.slice none 0 0, .agg #[.int .i64 ((k + q.fat : Nat) : Int), .int .i64 (q.code : Int)]]) (by simp [results, Try.results14, go_sem, f0, f1, l2]) rfl ⟨_, [], scansV_eq HS.out.symm _, by rw [← HS.out]; rfl, Words.nil _ _, hB3⟩
/-- A cell that may be written. -/
def Can (W : World) (b o : Nat) : Prop := (∃ v, W.cell? ⟨b, o, none⟩ = some v) ∧ W.frozen? ⟨b, o, none⟩ = false
theorem Can.put {W : World} {b o : Nat} (h : Can W b o) (b' o' : Nat) (u : Value) : Can (W.setCell ⟨b', o', none⟩ u) b o := by
  obtain ⟨⟨v, hv⟩, hf⟩ := h
  refine ⟨?_, ?_⟩
  · by_cases he : (⟨b', o', none⟩ : Addr) = ⟨b, o, none⟩
    · rw [he]; exact ⟨u, World.cell?_setCell_same _ _ _ hv⟩
    · exact ⟨v, (World.cell?_setCell_other _ _ _ _ he).trans hv⟩
  · have := World.frozen?_setCells b' [u] o' W ⟨b, o, none⟩
    exact this.trans hf
def slA : Value → Option Addr
  | .slice a _ _ => a
  | _ => none
def slN : Value → Nat
  | .slice _ n _ => n
  | _ => 0
def slC : Value → Nat
  | .slice _ _ c => c
  | _ => 0
/-- A list of words whose kinds and bytes may be written. -/
structure Lw (W : World) (g n base top : Nat) (V : Nat → Value) : Prop where
  sl : ∀ i, i < n → W.cell? ⟨g, i * 11 + 2, none⟩ = some (.slice (slA (V i)) (slN (V i)) (slC (V i)))
  kd : ∀ i, i < n → Can W g (i * 11)
  by' : ∀ i, i < n → ∀ k, k < slN (V i) → ∃ gi, slA (V i) = some ⟨gi, 0, none⟩ ∧ gi ≠ g ∧ base ≤ gi ∧ gi < top ∧ Can W gi k
  ln : ∀ i, i < n → slN (V i) ≤ 9223372036854775807
  lo : base ≤ g
  hi : g < top
section
variable {W : World} {g n base top : Nat} {V : Nat → Value}
theorem Lw.put_kd (h : Lw W g n base top V) (i : Nat) (u : Value) : Lw (W.setCell ⟨g, i * 11, none⟩ u) g n base top V := by
  refine ⟨fun j hj => ?_, fun j hj => (h.kd j hj).put _ _ _, fun j hj k hk => ?_, h.ln, h.lo, h.hi⟩
  · rw [World.cell?_setCell_other _ _ _ _ (by intro e; injection e with _ e2; omega)]; exact h.sl j hj
  · obtain ⟨gi, e1, e2, e3, e4, e5⟩ := h.by' j hj k hk
    exact ⟨gi, e1, e2, e3, e4, e5.put _ _ _⟩
theorem Lw.put_by (h : Lw W g n base top V) (b k : Nat) (hb : b ≠ g) (u : Value) : Lw (W.setCell ⟨b, k, none⟩ u) g n base top V := by
  refine ⟨fun j hj => ?_, fun j hj => (h.kd j hj).put _ _ _, fun j hj k hk => ?_, h.ln, h.lo, h.hi⟩
  · rw [World.cell?_setCell_other _ _ _ _ (by intro e; injection e with e1 _; exact hb e1)]; exact h.sl j hj
  · obtain ⟨gi, e1, e2, e3, e4, e5⟩ := h.by' j hj k hk
    exact ⟨gi, e1, e2, e3, e4, e5.put _ _ _⟩
theorem Can.below {W W' : World} {b o B : Nat} (h : Can W b o) (hb : Below B W W') (hB : b < B) : Can W' b o := by
  obtain ⟨⟨v, hv⟩, hf⟩ := h
  refine ⟨⟨v, (hb.cell (p := ⟨b, o, none⟩) hB).trans hv⟩, ?_⟩
  rw [← hf]
  simp only [World.frozen?, hb.block b hB]
theorem Lw.below {W' : World} {B : Nat} (h : Lw W g n base top V) (hb : Below B W W') (hB : top ≤ B) : Lw W' g n base top V := by
  have hg := h.hi
  refine ⟨fun j hj => (hb.cell (p := ⟨g, j * 11 + 2, none⟩) (show g < B by omega)).trans (h.sl j hj), fun j hj => (h.kd j hj).below hb (by omega), fun j hj k hk => ?_, h.ln, h.lo, h.hi⟩
  obtain ⟨gi, e1, e2, e3, e4, e5⟩ := h.by' j hj k hk
  exact ⟨gi, e1, e2, e3, e4, e5.below hb (by omega)⟩
end
def valAt (L : List (Wd × Value)) (i : Nat) : Value := ((L[i]?).map (·.2)).getD (.slice none 0 0)
theorem Words.lw {W : World} {base cap g : Nat} {L : List (Wd × Value)} (h : Words W base (.slice (some ⟨g, 0, none⟩) L.length cap) L) : Lw W g L.length base W.heap.size (valAt L) := by
  have hlt := h.row.lt g rfl
  refine ⟨fun i hi => ?_, fun i hi => ?_, fun i hi k hk => ?_, fun i hi => ?_, hlt.1, hlt.2⟩
  · have hq : L[i]? = some L[i] := List.getElem?_eq_getElem hi
    obtain ⟨a, c, hv⟩ := row_slice (h.bytes L[i] (List.getElem_mem hi))
    rw [h.row.cellAt (i * 11 + 2) (by omega), wcells_get L i 2 L[i] hq (by decide)]
    unfold valAt
    rw [hq]
    simp only [Option.map_some, Option.getD_some, hv, slA, slN, slC, wcell]
    rfl
  · have hq : L[i]? = some L[i] := List.getElem?_eq_getElem hi
    refine ⟨⟨.int .i64 (L[i].1.kind : Int), ?_⟩, h.row.frozenAt _⟩
    have := h.row.cellAt (i * 11 + 0) (by omega)
    rw [wcells_get L i 0 L[i] hq (by decide)] at this
    exact this
  · have hq : L[i]? = some L[i] := List.getElem?_eq_getElem hi
    have hr := h.bytes L[i] (List.getElem_mem hi)
    unfold valAt at hk ⊢
    rw [hq] at hk ⊢
    simp only [Option.map_some, Option.getD_some] at hk ⊢
    have hne := row_ne hr h.row (by decide)
    rcases hr.2 with ⟨e, h1⟩ | ⟨gi, c, cur, e, hrest⟩
    · rw [e] at hk; simp [slN] at hk
    · rw [e] at hk hr hne ⊢
      simp only [slN, slA] at hk ⊢
      refine ⟨gi, rfl, ?_, (hr.lt gi rfl).1, (hr.lt gi rfl).2, ⟨(bytesV L[i].1.bytes)[k]?.getD (.int .u8 0), ?_⟩, hr.frozenAt _⟩
      · rcases hne with h1 | h1
        · simp [Value.ownBlock] at h1
        · intro e2; apply h1; simp [Value.ownBlock, e2]
      · rw [hr.cellAt k (by omega)]
        have hkl : k < (bytesV L[i].1.bytes).length := by simp [bytesV]; omega
        rw [List.getElem?_eq_getElem hkl]; rfl
  · have hq : L[i]? = some L[i] := List.getElem?_eq_getElem hi
    have hr := h.bytes L[i] (List.getElem_mem hi)
    unfold valAt
    rw [hq]
    simp only [Option.map_some, Option.getD_some]
    rcases hr.2 with ⟨e, h1⟩ | ⟨gi, c, cur, e, _, _, hc1, hc2, _⟩
    · rw [e]; simp [slN]
    · rw [e]; simp only [slN]; unfold maxLen at hc2; omega
theorem scn_le : ∀ (f : Nat) (l : List UInt8) (p ln bg : Nat) (acc : List Wd), (scn f l p ln bg acc).1.length ≤ acc.length + f
  | 0, _, _, _, _, _ => Nat.zero_le _
  | f + 1, l, p, ln, bg, acc => by
    simp only [scn]
    split
    · exact Nat.zero_le _
    · split
      · simp
      · refine Nat.le_trans (scn_le f _ _ _ _ _) ?_
        simp; omega
theorem scan_le (l : List UInt8) : (scan l).1.length ≤ 65537 := by
  unfold scan
  split
  · exact Nat.zero_le _
  · refine Nat.le_trans (scn_le _ _ _ _ _ _) ?_
    simp; omega
theorem fst_cw {L M : List (Wd × Value)} (h : L.map (·.1) = M.map (·.1)) : L.map (fun q => cw q.1) = M.map (fun q => cw q.1) := by
  have := congrArg (List.map cw) h
  rw [List.map_map, List.map_map] at this; exact this
/-- What stands while the law writes into what it was told. -/
structure Sk (w : World) (la : Option Addr) (n t1 b2 : Nat) (V : Nat → Value) (mv : Value) (M : List (Wd × Value)) (W : World) : Prop where
  lw : 0 < n → ∃ g, la = some ⟨g, 0, none⟩ ∧ Lw W g n w.heap.size t1 V
  mw : Words W b2 mv M
  le : t1 ≤ b2
  bel : Below w.heap.size w W
set_option maxRecDepth 100000 in
set_option maxHeartbeats 8000000 in
theorem scans_walk (x : ByteArray) (w : World) : Calls Try.prog 3 #[.string x] w fun e w' => e = .returned (.bool true) ∧ Below w.heap.size w w' := by
  have HL : Hid _ := fun w => alive_any w
  by_cases h1 : 65538 < x.size
  · have h1' : (65538 : Int) < x.size := by omega
    go_enter Try.func3, Try.ntmps3
    go_wp2_with (go_at_call 12; refine (HL.out _).mono ?_; rintro e w1 ⟨rfl, hb1⟩)
    go_ret
    exact ⟨rfl, hb1⟩
  have h1' : ¬ (65538 : Int) < x.size := by omega
  have H1 : Hid _ := fun w => scan_any x w
  have H2 : Hid _ := fun w => rscan_any x w (by omega)
  have hle := scan_le x.data.toList
  generalize scan x.data.toList = S at *
  obtain ⟨ws, p, q⟩ := S
  simp only at hle
  clear h1
  go_enter Try.func3, Try.ntmps3
  go_wp2_with (go_at_call 13; refine (H1.out _).mono ?_)
  rintro e w1 ⟨lv, L, rfl, hL, hW1, hb1⟩
  simp only at hL
  simp only [fv]
  obtain ⟨la, lc, rfl⟩ := row_slice hW1.row
  have hLn : L.length ≤ 65537 := by rw [← hL, List.length_map] at hle; exact hle
  go_wp2_with (go_at_call 14; refine (H2.out _).mono ?_)
  rintro e w2 ⟨mv, M, rfl, hM, hW2, hb2⟩
  simp only at hM
  simp only [fv]
  obtain ⟨ma, mc, rfl⟩ := row_slice hW2.row
  have hn1 : Below w1.heap.size w1 (w1.alloc (.cells #[.int .i64 (p : Int), .int .i64 (q : Int)] 26)) := (Below.refl _ _).alloc (Nat.le_refl _) _
  have hn2 : Below w2.heap.size w2 (w2.alloc (.cells #[.int .i64 (p : Int), .int .i64 (q : Int)] 26)) := (Below.refl _ _).alloc (Nat.le_refl _) _
  have hB1 := below_of hb1 hn1
  have hB2 := below_of hB1 hb2
  have hB3 := below_of hB2 hn2
  have hWl := ((hW1.after hn1).after hb2).after hn2
  have hWm := hW2.after hn2
  have FB := ((Blk.new w1 26 #[.int .i64 (p : Int), .int .i64 (q : Int)]).after hb2).after hn2
  have GB := Blk.new w2 26 #[.int .i64 (p : Int), .int .i64 (q : Int)]
  have hLM : L.map (·.1) = M.map (·.1) := hL.trans hM.symm
  have HLM : Hid _ := hLM
  have HM : Hid _ := hM
  have HLn : Hid _ := hLn
  have hsz : w1.heap.size < w2.heap.size := by have := hb2.size; simp at this; omega
  have HLw : Hid (0 < L.length → ∃ g, la = some ⟨g, 0, none⟩ ∧ Lw w1 g L.length w.heap.size w1.heap.size (valAt L)) := by
    intro h0
    rcases hW1.row.2 with ⟨_, h⟩ | ⟨g, cap, cur, e, _⟩
    · omega
    · cases e
      exact ⟨g, rfl, hW1.lw⟩
  have HSW : Hid _ := fun (_ : Unit) => same_any true _ _ L M _ _ _ hWl hWm (fst_cw hLM) (fun _ => hLM) hLn
  have HSZ : Hid _ := hsz
  have HB3 : Hid _ := hB3
  have HWm : Hid _ := hWm
  have HFB : Hid _ := FB
  have HGB : Hid _ := GB
  have HX1 : Hid (Below w1.heap.size w1 (w2.alloc (.cells #[.int .i64 (p : Int), .int .i64 (q : Int)] 26))) := below_of (below_of hn1 hb2) hn2
  clear hL hM hLM hle hW1 hW2 hWl hn1 hn2 hb1 hb2 hB1 hB2 hsz hLn hB3 hWm FB GB
  go_wp2_with (go_at_call 15; refine (HSW.out ()).mono ?_)
  rintro e w3 rfl hb3
  replace hb3 : Below (w2.alloc (.cells #[.int .i64 (p : Int), .int .i64 (q : Int)] 26)).heap.size (w2.alloc (.cells #[.int .i64 (p : Int), .int .i64 (q : Int)] 26)) w3 := by rw [World.size_alloc]; exact hb3
  have FB3 : Blk w3 w1.heap.size 26 #[.int .i64 (p : Int), .int .i64 (q : Int)] := Blk.after HFB.out hb3
  have GB3 : Blk w3 w2.heap.size 26 #[.int .i64 (p : Int), .int .i64 (q : Int)] := Blk.after HGB.out hb3
  have hWm3 := HWm.out.after hb3
  have hB4 := below_of HB3.out hb3
  obtain ⟨a0, a1⟩ := FB3.pair
  obtain ⟨c0, c1⟩ := GB3.pair
  clear HSW
  have hLn' : (L.length : Int) ≤ 65537 := by have := HLn.out; omega
  have T0 : Sk w la L.length w1.heap.size (w1.heap.size + 1) (valAt L) (.slice ma M.length mc) M w3 :=
    ⟨fun h0 => by
      obtain ⟨g, e, hlw⟩ := HLw.out h0
      exact ⟨g, e, hlw.below (below_of HX1.out hb3) (Nat.le_refl _)⟩, by rw [World.size_alloc] at hWm3; exact hWm3, Nat.le_succ _, hB4⟩
  clear FB3 GB3 hWm3 hB4 hb3 HFB HGB HX1 HLw HWm HB3
  go_wp2
  clear a0 a1 c0 c1
  go_loopw [7] (fun iv W => ∃ i : Nat, i ≤ L.length ∧ iv = .int .i64 i ∧ Sk w la L.length w1.heap.size (w1.heap.size + 1) (valAt L) (.slice ma M.length mc) M W) (fun iv _ => L.length - (intOf iv).toNat)
  case atStart => exact ⟨0, Nat.zero_le _, rfl, T0⟩
  case round =>
    clear T0
    obtain ⟨i, hi, rfl, T⟩ := hrel
    by_cases hlt : i < L.length
    · have hlt' : (i : Int) < L.length := by omega
      obtain ⟨g, rfl, hlw⟩ := T.lw (by omega)
      have sl := hlw.sl i hlt
      have hlnn := hlw.ln i hlt
      have Tm := T.mw
      have Tb := T.bel
      have Tl := T.le
      clear T
      have HLW : Hid _ := hlw
      have HTm : Hid _ := Tm
      clear hlw Tm
      go_wp2
      clear sl
      go_loopw [8] (fun kv W => ∃ k : Nat, k ≤ slN (valAt L i) ∧ kv = .int .i64 k ∧ Lw W g L.length w.heap.size w1.heap.size (valAt L) ∧ Words W (w1.heap.size + 1) (.slice ma M.length mc) M ∧ Below w.heap.size w W) (fun kv _ => slN (valAt L i) - (intOf kv).toNat)
      case atStart => exact ⟨0, Nat.zero_le _, rfl, HLW.out, HTm.out, Tb⟩
      case round =>
        clear Tb HLW HTm
        obtain ⟨k, hk, rfl, hlw, hm, hB⟩ := hrel
        have sl := hlw.sl i hlt
        by_cases hkn : k < slN (valAt L i)
        · obtain ⟨gi, e, hne, hlo, hhi, ⟨⟨v0, hv0⟩, hz⟩⟩ := hlw.by' i hlt k hkn
          rw [e] at sl
          have hkn' : (k : Int) < slN (valAt L i) := by omega
          have hlnn' : (slN (valAt L i) : Int) ≤ 9223372036854775807 := by omega
          have HLW : Hid _ := hlw.put_by gi k hne (.int .u8 99)
          have HTm : Hid _ := hm.kept (grownBy_setCell wr gi k (.int .u8 99)) (show gi < w1.heap.size + 1 by omega)
          have HBB : Hid _ := hB.setCell (p := ⟨gi, k, none⟩) hlo (.int .u8 99)
          clear hlw hm e
          generalize slC (valAt L i) = cc at *
          obtain ⟨bn, hbn⟩ : ∃ bn, slN (valAt L i) = bn := ⟨_, rfl⟩
          clear hbn
          go_wp2
          exact ⟨⟨k + 1, by omega, by go_num, HLW.out, HTm.out, HBB.out⟩, by simp [intOf]; omega⟩
        · have hkn' : ¬ (k : Int) < slN (valAt L i) := by omega
          obtain ⟨⟨v1, hv1⟩, hz1⟩ := hlw.kd i hlt
          have HLW : Hid _ := hlw.put_kd i (.int .i64 0)
          have HTm : Hid _ := hm.kept (grownBy_setCell wr g (i * 11) (.int .i64 0)) (show g < w1.heap.size + 1 by have := hlw.hi; omega)
          have HBB : Hid _ := hB.setCell (p := ⟨g, i * 11, none⟩) hlw.lo (.int .i64 0)
          clear hlw hm
          go_wp2
          exact ⟨⟨i + 1, by omega, by go_num, ⟨fun _ => ⟨g, rfl, HLW.out⟩, HTm.out, Tl, HBB.out⟩⟩, by simp [intOf]; omega⟩
    · have hlt' : ¬ (i : Int) < L.length := by omega
      have Tm := T.mw
      have Tb := T.bel
      clear T
      go_wp2_with (go_at_call 13; refine (H1.out _).mono ?_)
      rintro e w5 ⟨nv, N, rfl, hN, hWn, hb5⟩
      simp only at hN
      simp only [fv]
      have hNM : N.map (·.1) = M.map (·.1) := hN.trans HM.out.symm
      have hNl : N.length ≤ 65537 := by
        have h2 := congrArg List.length HLM.out
        have h3 := congrArg List.length hNM
        have h4 := HLn.out
        simp only [List.length_map] at h2 h3
        omega
      have hn5 : Below w5.heap.size w5 (w5.alloc (.cells #[.int .i64 (p : Int), .int .i64 (q : Int)] 26)) := (Below.refl _ _).alloc (Nat.le_refl _) _
      obtain ⟨na, nc, rfl⟩ := row_slice hWn.row
      have Tm5 := Tm.after hb5
      have Tb5 := below_of Tb hb5
      have HNN : Hid _ := fun w7 (hb : Below w5.heap.size w5 w7) => same_any true _ _ N M _ _ w7 (hWn.after hb) (Tm5.after hb) (fst_cw hNM) (fun _ => hNM) hNl
      have HTB : Hid _ := Tb5
      clear hN hNM hNl hn5 hWn Tm Tm5 Tb Tb5 hb5
      go_wp2_with (go_at_call 12; refine (HL.out _).mono ?_)
      rintro e w6 ⟨rfl, hb6⟩
      have hb56 : Below w5.heap.size w5 w6 := below_of ((Below.refl _ _).alloc (Nat.le_refl _) (.cells #[.int .i64 (p : Int), .int .i64 (q : Int)] 26)) hb6
      have HB6 : Hid _ := below_of HTB.out hb56
      have HNN6 : Hid _ := fun (_ : Unit) => HNN.out w6 hb56
      clear hb6 hb56 HNN HTB
      go_wp2_with (go_at_call 15; refine (HNN6.out ()).mono ?_)
      first | rintro e w7 ⟨rfl, hb7⟩ | rintro e w7 rfl hb7
      have HB7 : Hid _ := below_of HB6.out hb7
      clear hb7 HB6 HNN6
      go_wp2
      go_ret
      exact ⟨rfl, HB7.out⟩
end Go.Proofs.Ytbbmjnhbmcbehaa
