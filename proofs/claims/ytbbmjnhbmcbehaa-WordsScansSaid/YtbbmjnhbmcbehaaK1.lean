/- What is printed of a set is read as it: reading at the signs, items and runs of a set's text. -/
import Derived.Test.YtbbmjnhbmcbehaaX5
import Derived.Test.YtbbmjnhbmcbehaaW9
namespace Go.Proofs.Ytbbmjnhbmcbehaa

theorem step_any (rs : List (Nat × Nat)) (b n : Nat) (h : ∀ r ∈ rs, r.1 ≤ r.2) (h' : ∀ r ∈ rs, r.2 < b) : ((runStep rs b).any fun r => decide (r.1 ≤ n) && decide (n ≤ r.2)) = ((rs.any fun r => decide (r.1 ≤ n) && decide (n ≤ r.2)) || decide (n = b)) := by
  rcases List.eq_nil_or_concat rs with rfl | ⟨rs', ⟨lo, hi⟩, rfl⟩
  · rw [runStep_nil, Bool.eq_iff_iff]; simp; omega
  · rw [List.concat_eq_append] at *
    by_cases hh : hi + 1 = b
    · rw [runStep_on _ _ _ _ hh, List.any_append, List.any_append, Bool.or_assoc]
      congr 1
      have := h (lo, hi) (by simp)
      simp only at this
      rw [Bool.eq_iff_iff]; simp; omega
    · rw [runStep_off _ _ _ _ hh, List.any_append (xs := rs' ++ [(lo, hi)])]
      congr 1
      rw [Bool.eq_iff_iff]; simp; omega
theorem runs_any_has (s : St) (n : Nat) (hn : n < 256) : ∀ k, k ≤ 256 → ((runsOf (upTo s k)).any fun r => decide (r.1 ≤ n) && decide (n ≤ r.2)) = (decide (n < k) && s.has n)
  | 0, _ => by simp [upTo, runsOf]
  | k + 1, hk => by
    have ih := runs_any_has s n hn k (by omega)
    obtain ⟨h1, h2⟩ := runs_small s k (by omega)
    have hv : (Fin.ofNat 256 k).val = k := by simp [Fin.ofNat]; omega
    cases hh : s.has k with
    | true =>
      rw [upTo_yes hh, runsOf_snoc, hv, step_any _ _ _ (fun r hr => (h1 r hr).2.2) h2, ih]
      by_cases e : n = k
      · subst e; simp [hh]
      · rw [Bool.eq_iff_iff]; simp [e]; omega
    | false =>
      rw [upTo_no hh, ih]
      by_cases e : n = k
      · subst e; simp [hh]
      · rw [Bool.eq_iff_iff]; simp; omega

theorem bt_drop (x : ByteArray) (i j : Nat) : bt x (i + j) = ((x.data.toList.drop i).getD j 0).toNat := by
  unfold bt
  rw [List.getD_eq_getElem?_getD, List.getElem?_drop, Array.getD_eq_getD_getElem?, Array.getElem?_toList]
theorem bt_ext (x : ByteArray) (i j : Nat) (hj : i + j < x.size) : bt (x.extract i x.size) j = bt x (i + j) := by
  have h1 : j < (x.extract i x.size).size := by rw [ext_size]; omega
  rw [← bt_eq _ _ h1, ← bt_eq _ _ hj, ByteArray.getElem_extract]
theorem size_drop (x : ByteArray) (i : Nat) : (x.data.toList.drop i).length = x.size - i := by
  rw [List.length_drop, Array.length_toList]; rfl
theorem plain_sign : ∀ k : Fin 256, plain k.val = true → k.val ≠ 92 ∧ UInt8.toNat (UInt8.ofNat k.val) = k.val := by decide +kernel
theorem short_sign : ∀ k : Fin 256, 0 ≤ Lib.indexByte [10, 9, 13, 32, 91, 93, 92, 45, 94] k.val.toUInt8 → 0 ≤ short (shortL (Lib.indexByte [10, 9, 13, 32, 91, 93, 92, 45, 94] k.val.toUInt8).toNat).toNat ∧ saidB (short (shortL (Lib.indexByte [10, 9, 13, 32, 91, 93, 92, 45, 94] k.val.toUInt8).toNat).toNat).toNat = k.val := by decide +kernel
theorem hex_sign : ∀ k : Fin 256, dig (hexd (k.val / 16)).toNat = ((k.val / 16 : Nat) : Int) ∧ dig (hexd (k.val % 16)).toNat = ((k.val % 16 : Nat) : Int) := by decide +kernel
theorem short_x : short 120 < 0 := by decide +kernel
theorem sgn_at (x : ByteArray) (i k : Nat) (rest : List UInt8) (hk : k < 256) (h : x.data.toList.drop i = signL k ++ rest) : sgn x i = (k, i + (signL k).length, 0, 0) := by
  have hz := size_drop x i
  rw [h, List.length_append] at hz
  have hb : ∀ j, bt x (i + j) = ((signL k ++ rest).getD j 0).toNat := fun j => by rw [bt_drop, h]
  have b0 := hb 0
  rw [Nat.add_zero] at b0
  cases hp : plain k with
  | true =>
    obtain ⟨h1, h2⟩ := plain_sign ⟨k, hk⟩ hp
    have e : signL k = [UInt8.ofNat k] := by unfold signL; rw [if_pos hp]
    rw [e] at b0 hz ⊢
    simp at b0 hz h1 h2
    rw [Nat.mod_eq_of_lt hk] at b0
    unfold sgn
    rw [if_neg (by omega), if_neg (by omega), b0, if_pos hp]
    rfl
  | false =>
    have e0 : signL k = escL k := by unfold signL; rw [if_neg (by simp [hp])]
    by_cases hi : 0 ≤ Lib.indexByte [10, 9, 13, 32, 91, 93, 92, 45, 94] k.toUInt8
    · obtain ⟨h1, h2⟩ := short_sign ⟨k, hk⟩ hi
      simp only at h1 h2
      have e : signL k = [92, shortL (Lib.indexByte [10, 9, 13, 32, 91, 93, 92, 45, 94] k.toUInt8).toNat] := by rw [e0]; unfold escL; rw [if_neg (by omega)]
      have b1 := hb 1
      rw [e] at b0 b1 hz ⊢
      generalize shortL (Lib.indexByte [10, 9, 13, 32, 91, 93, 92, 45, 94] k.toUInt8).toNat = c at *
      simp at b0 b1 hz
      have r : rdr (x.extract i x.size) = (k, 2) := by
        unfold rdr
        rw [ext_size, bt_ext x i 0 (by omega), bt_ext x i 1 (by omega), Nat.add_zero, b0, b1, if_neg (by omega), if_pos h1, h2]
      unfold sgn
      rw [if_neg (by omega), if_pos b0, r, if_neg (by simp)]
      rfl
    · obtain ⟨h1, h2⟩ := hex_sign ⟨k, hk⟩
      simp only at h1 h2
      have e : signL k = [92, 120, hexd (k / 16), hexd (k % 16)] := by rw [e0]; unfold escL; rw [if_pos (by omega)]
      have b1 := hb 1
      have b2 := hb 2
      have b3 := hb 3
      rw [e] at b0 b1 b2 b3 hz ⊢
      generalize hexd (k / 16) = c at *
      generalize hexd (k % 16) = d at *
      simp at b0 b1 b2 b3 hz
      have r : rdr (x.extract i x.size) = (k, 4) := by
        unfold rdr
        rw [ext_size, bt_ext x i 0 (by omega), bt_ext x i 1 (by omega), bt_ext x i 2 (by omega), bt_ext x i 3 (by omega), Nat.add_zero, b0, b1, b2, b3, if_neg (by omega), if_neg (by have := short_x; omega), if_neg (by omega), h1, h2, if_neg (by omega)]
        simp; omega
      unfold sgn
      rw [if_neg (by omega), if_pos b0, r, if_neg (by simp)]
      rfl
theorem head_sign : ∀ k : Fin 256, (signL k.val).head? ≠ some 93 ∧ (signL k.val).head? ≠ some 45 ∧ (signL k.val).head? ≠ some 94 ∧ signL k.val ≠ [] := by decide +kernel
/-- What stands behind an item begins with none of these bytes. -/
def good (l : List UInt8) : Prop := ∃ c l', l = c :: l' ∧ c ≠ 45 ∧ c ≠ 94
theorem good_sign (k : Nat) (hk : k < 256) (rest : List UInt8) : good (signL k ++ rest) ∧ ∀ c l', signL k ++ rest = c :: l' → c ≠ 93 := by
  have h := head_sign ⟨k, hk⟩
  simp only at h
  match e : signL k, h with
  | [], h => exact absurd rfl h.2.2.2
  | c :: l, h =>
    simp only [List.head?_cons, ne_eq, Option.some.injEq] at h
    refine ⟨⟨c, l ++ rest, rfl, h.2.1, h.2.2.1⟩, ?_⟩
    intro c' l' h'
    simp only [List.cons_append, List.cons.injEq] at h'
    rw [← h'.1]; exact h.1
theorem good_text : ∀ rs : List (Nat × Nat), (∀ r ∈ rs, r.1 < 256 ∧ r.2 < 256 ∧ r.1 ≤ r.2) → good (rs.flatMap itemL ++ [93])
  | [], _ => ⟨93, [], rfl, by decide, by decide⟩
  | r :: rs, h => by
    rw [List.flatMap_cons]
    unfold itemL
    simp only [List.append_assoc]
    exact (good_sign r.1 (h r (by simp)).1 _).1
theorem drop_next (x : ByteArray) (i : Nat) (a b : List UInt8) (h : x.data.toList.drop i = a ++ b) : x.data.toList.drop (i + a.length) = b := by
  rw [← List.drop_drop, h, List.drop_left]
theorem bt_head (x : ByteArray) (i : Nat) (c : UInt8) (l : List UInt8) (h : x.data.toList.drop i = c :: l) : bt x i = c.toNat ∧ i < x.size := by
  have hz := size_drop x i
  have := bt_drop x i 0
  rw [Nat.add_zero, h] at this
  rw [h] at hz
  simp at hz this
  exact ⟨this, by omega⟩
theorem u8_ne {c : UInt8} {n : Nat} (h : c ≠ UInt8.ofNat n) : c.toNat ≠ n := by
  intro e; apply h; rw [← e]; simp
/-- One sign alone is read as an item of one byte. -/
theorem itm_one (x : ByteArray) (i k : Nat) (rest : List UInt8) (hk : k < 256) (h : x.data.toList.drop i = signL k ++ rest) (hg : good rest) : itm x i = (ofL [k], i + (signL k).length, 0, 0) := by
  have hs := sgn_at x i k rest hk h
  obtain ⟨c, l, rfl, hc, _⟩ := hg
  obtain ⟨b, _⟩ := bt_head x _ c l (drop_next x i _ _ h)
  have hc' := u8_ne (n := 45) hc
  unfold itm
  rw [hs]
  simp only
  rw [if_neg (by simp), if_pos (Or.inr (by omega))]
theorem itm_two (x : ByteArray) (i k j : Nat) (rest : List UInt8) (hk : k < 256) (hj : j < 256) (hkj : k ≤ j) (h : x.data.toList.drop i = signL k ++ (45 :: (signL j ++ rest))) : itm x i = (rng k (j + 1 - k), i + (signL k).length + 1 + (signL j).length, 0, 0) := by
  have hs := sgn_at x i k _ hk h
  have h2 := drop_next x i _ _ h
  obtain ⟨b, hl⟩ := bt_head x _ 45 _ h2
  have h3 : x.data.toList.drop (i + (signL k).length + 1) = signL j ++ rest := drop_next x _ [45] _ h2
  have hs2 := sgn_at x _ j rest hj h3
  have b' : bt x (i + (signL k).length) = 45 := b
  unfold itm
  rw [hs]
  simp only
  rw [if_neg (by simp), if_neg (by omega), hs2]
  simp only
  rw [if_neg (by simp), if_neg (by omega)]
theorem ofL_has (k n : Nat) (hk : k < 256) (hn : n < 256) : (ofL [k]).has n = decide (n = k) := by
  show (St.zero.add k).has n = _
  rw [St.has_add _ _ _ hk hn, St.has_zero, Bool.false_or]
theorem rng_has (lo n : Nat) (hn : n < 256) : ∀ k, lo + k ≤ 256 → (rng lo k).has n = (decide (lo ≤ n) && decide (n < lo + k))
  | 0, _ => by rw [rng, St.has_zero, eq_comm, Bool.and_eq_false_iff]; simp; omega
  | k + 1, h => by
    rw [rng, St.has_add _ _ _ (by omega) hn, rng_has lo n hn k (by omega), Bool.eq_iff_iff]
    simp; omega
theorem items_step (x : ByteArray) (m i : Nat) (s : St) (k : Nat) (rest : List UInt8) (hk : k < 256) (h : x.data.toList.drop i = signL k ++ rest) (q : St) (n : Nat) (hi : itm x i = (q, n, 0, 0)) : items x (m + 1) i s = items x m n (s.or q) := by
  obtain ⟨⟨c, l, e, _, _⟩, h93⟩ := good_sign k hk rest
  rw [e] at h
  obtain ⟨b, hl⟩ := bt_head x i c l h
  have := u8_ne (n := 93) (h93 c l e)
  rw [items, if_neg (by omega), if_neg (by omega), hi]
  simp
theorem items_runs (x : ByteArray) : ∀ (rs : List (Nat × Nat)) (i m : Nat) (s : St), s.ok → (∀ r ∈ rs, r.1 < 256 ∧ r.2 < 256 ∧ r.1 ≤ r.2) → x.data.toList.drop i = rs.flatMap itemL ++ [93] → x.size < i + m → i ≤ x.size →
    ∃ t : St, t.ok ∧ items x m i s = (t, x.size - 1, 0, 0) ∧ ∀ n, n < 256 → t.has n = (s.has n || rs.any fun r => decide (r.1 ≤ n) && decide (n ≤ r.2))
  | [], i, m, s, hs, _, hd, hm, hi => by
    have hd' : x.data.toList.drop i = 93 :: [] := hd
    obtain ⟨b, hl⟩ := bt_head x i 93 [] hd'
    have hz := size_drop x i
    rw [hd'] at hz
    simp at hz
    obtain ⟨m, rfl⟩ : ∃ m', m = m' + 1 := ⟨m - 1, by omega⟩
    refine ⟨s, hs, ?_, fun n _ => by simp⟩
    rw [items, if_neg (by omega), if_pos (show bt x i = 93 from b)]
    simp; omega
  | (lo, hi) :: rs, i, m, s, hs, hr, hd, hm, hi' => by
    obtain ⟨h1, h2, h3⟩ := hr (lo, hi) (by simp)
    simp only at h1 h2 h3
    have hr' : ∀ r ∈ rs, r.1 < 256 ∧ r.2 < 256 ∧ r.1 ≤ r.2 := fun r h => hr r (by simp [h])
    have hg := good_text rs hr'
    have p1 := sign_pos lo h1
    have p2 := sign_pos hi h2
    rw [List.flatMap_cons] at hd
    unfold itemL at hd
    simp only [List.append_assoc] at hd
    obtain ⟨m, rfl⟩ : ∃ m', m = m' + 1 := ⟨m - 1, by omega⟩
    by_cases a : lo + 1 < hi
    · rw [if_pos a, if_pos (by omega)] at hd
      have hd2 : x.data.toList.drop i = signL lo ++ (45 :: (signL hi ++ (rs.flatMap itemL ++ [93]))) := hd
      have hit := itm_two x i lo hi _ h1 h2 h3 hd2
      have hdn : x.data.toList.drop (i + (signL lo).length + 1 + (signL hi).length) = rs.flatMap itemL ++ [93] := drop_next x _ _ _ (drop_next x _ [45] _ (drop_next x i _ _ hd2))
      have hz := size_drop x (i + (signL lo).length + 1 + (signL hi).length)
      rw [hdn, List.length_append] at hz
      simp only [List.length_cons, List.length_nil] at hz
      obtain ⟨t, ht, he, hh⟩ := items_runs x rs _ m (s.or (rng lo (hi + 1 - lo))) (St.or_ok hs (rng_ok _ _)) hr' hdn (by omega) (by omega)
      refine ⟨t, ht, by rw [items_step x m i s lo _ h1 hd2 _ _ hit, he], fun n hn => ?_⟩
      rw [hh n hn, St.has_or, rng_has lo n hn _ (by omega), List.any_cons, Bool.or_assoc]
      congr 1; congr 1
      rw [Bool.eq_iff_iff]; simp; omega
    · rw [if_neg a] at hd
      by_cases b : lo < hi
      · rw [if_pos b] at hd
        have hd2 : x.data.toList.drop i = signL lo ++ (signL hi ++ (rs.flatMap itemL ++ [93])) := hd
        have hit := itm_one x i lo _ h1 hd2 (good_sign hi h2 _).1
        have hd3 := drop_next x i _ _ hd2
        have hit2 := itm_one x _ hi _ h2 hd3 hg
        have hdn := drop_next x _ _ _ hd3
        have hz := size_drop x (i + (signL lo).length + (signL hi).length)
        rw [hdn, List.length_append] at hz
        simp only [List.length_cons, List.length_nil] at hz
        obtain ⟨m, rfl⟩ : ∃ m', m = m' + 1 := ⟨m - 1, by omega⟩
        obtain ⟨t, ht, he, hh⟩ := items_runs x rs _ m ((s.or (ofL [lo])).or (ofL [hi])) (St.or_ok (St.or_ok hs (ofL_one_ok _)) (ofL_one_ok _)) hr' hdn (by omega) (by omega)
        refine ⟨t, ht, by rw [items_step x _ i s lo _ h1 hd2 _ _ hit, items_step x m _ _ hi _ h2 hd3 _ _ hit2, he], fun n hn => ?_⟩
        rw [hh n hn, St.has_or, St.has_or, ofL_has lo n h1 hn, ofL_has hi n h2 hn, List.any_cons, Bool.or_assoc, Bool.or_assoc]
        congr 1
        rw [← Bool.or_assoc]
        congr 1
        rw [Bool.eq_iff_iff]; simp; omega
      · rw [if_neg b] at hd
        have hd2 : x.data.toList.drop i = signL lo ++ (rs.flatMap itemL ++ [93]) := hd
        have hit := itm_one x i lo _ h1 hd2 hg
        have hdn := drop_next x i _ _ hd2
        have hz := size_drop x (i + (signL lo).length)
        rw [hdn, List.length_append] at hz
        simp only [List.length_cons, List.length_nil] at hz
        obtain ⟨t, ht, he, hh⟩ := items_runs x rs _ m (s.or (ofL [lo])) (St.or_ok hs (ofL_one_ok _)) hr' hdn (by omega) (by omega)
        refine ⟨t, ht, by rw [items_step x m i s lo _ h1 hd2 _ _ hit, he], fun n hn => ?_⟩
        rw [hh n hn, St.has_or, ofL_has lo n h1 hn, List.any_cons, Bool.or_assoc]
        congr 1; congr 1
        rw [Bool.eq_iff_iff]; simp; omega
theorem back (s : St) (hs : s.ok) : prs ⟨(printL s).toArray⟩ = (s, 0, 0) := by
  have hr := (runs_small s 256 (Nat.le_refl _)).1
  have hh := fun n hn => runs_any_has s n hn 256 (Nat.le_refl _)
  have hc := runs_count s
  have hlen := text_le _ (fun r h => ⟨(hr r h).1, (hr r h).2.1⟩)
  have hg := good_text _ hr
  unfold printL
  generalize runsOf (upTo s 256) = rs at *
  have hx : (⟨(textL rs ++ [93]).toArray⟩ : ByteArray).data.toList = 91 :: (rs.flatMap itemL ++ [93]) := rfl
  have hz : (⟨(textL rs ++ [93]).toArray⟩ : ByteArray).size = (textL rs).length + 1 := by
    show (textL rs ++ [93]).toArray.size = _
    simp
  generalize (⟨(textL rs ++ [93]).toArray⟩ : ByteArray) = x at *
  obtain ⟨b0, hl⟩ := bt_head x 0 91 _ hx
  have hd : x.data.toList.drop 1 = rs.flatMap itemL ++ [93] := by rw [hx]; rfl
  obtain ⟨c, l, e, _, h94⟩ := hg
  have hd' := hd
  rw [e] at hd'
  obtain ⟨b1, hl1⟩ := bt_head x 1 c l hd'
  have h94' := u8_ne (n := 94) h94
  obtain ⟨t, ht, he, hth⟩ := items_runs x rs 1 (x.size + 1) St.zero St.zero_ok hr hd (by omega) (by omega)
  have ets : t = s := St.ext' ht hs (fun n hn => by rw [hth n hn, St.has_zero, hh n hn]; simp [hn])
  have b0' : bt x 0 = 91 := b0
  unfold prs
  rw [if_neg (by omega), if_neg (by simp; omega), if_neg (by omega), he]
  unfold prsB
  simp only
  rw [if_neg (by simp), if_neg (by omega), ets]
  simp
end Go.Proofs.Ytbbmjnhbmcbehaa
