/- A term's text, with blanks where they may stand, is read as the term: plain. -/
import Derived.Test.YtlkcadibjmfmcaaDoorQe
import Derived.Test.YtlkcadibjmfmcaaDoorPa
namespace Go.Proofs.YtlkcadibjmfmcaaDoor

def idq (n : Nat) : Int := Lib.indexByte [10, 9, 13, 34, 92] n.toUInt8
theorem escq_eq (n : Nat) : escq n = if idq n < 0 then [92, 120, hexd (n / 16), hexd (n % 16)] else [92, shortqL (idq n).toNat] := rfl
theorem sh_back : ∀ n : Fin 256, 0 ≤ idq n.val → 0 ≤ shortq (shortqL (idq n.val).toNat).toNat ∧ saidq (shortq (shortqL (idq n.val).toNat).toNat).toNat = n.val := by decide +kernel
theorem hx_back : ∀ n : Fin 256, 0 ≤ dig (hexd (n.val / 16)).toNat ∧ 0 ≤ dig (hexd (n.val % 16)).toNat ∧ (dig (hexd (n.val / 16)).toNat).toNat * 16 + (dig (hexd (n.val % 16)).toNat).toNat = n.val := by decide +kernel
theorem sh_x : shortq 120 < 0 := by decide +kernel
theorem bt_mk (l : List UInt8) (i : Nat) : bt ⟨l.toArray⟩ i = (l.getD i 0).toNat := by rw [bt_list]
theorem size_mk (l : List UInt8) : (⟨l.toArray⟩ : ByteArray).size = l.length := rfl
theorem rdql_esc (n : Nat) (h : n < 256) (r : List UInt8) : rdql (escq n ++ r) = (n, (escq n).length) := by
  rw [escq_eq]
  by_cases hi : idq n < 0
  · rw [if_pos hi]
    obtain ⟨h1, h2, h3⟩ := hx_back ⟨n, h⟩
    simp only at h1 h2 h3
    have hx := sh_x
    unfold rdql rdq
    simp only [bt_mk, size_mk, List.cons_append, List.nil_append, List.length_cons, List.getD_cons_zero, List.getD_cons_succ, List.length_nil]
    rw [if_neg (by simp)]
    rw [if_neg (by show ¬ (0 ≤ shortq 120); omega)]
    rw [if_neg (by simp)]
    rw [if_neg (by omega), h3]
  · rw [if_neg hi]
    obtain ⟨h1, h2⟩ := sh_back ⟨n, h⟩ (by show 0 ≤ idq n; omega)
    simp only at h1 h2
    unfold rdql rdq
    simp only [bt_mk, size_mk, List.cons_append, List.nil_append, List.length_cons, List.getD_cons_zero, List.getD_cons_succ, List.length_nil]
    rw [if_neg (by simp), if_pos h1, h2]
theorem esc_head (n : Nat) : ∃ t, escq n = 92 :: t := by rw [escq_eq]; split <;> exact ⟨_, rfl⟩
theorem esc_pos (n : Nat) : 2 ≤ (escq n).length := by rw [escq_eq]; split <;> simp
theorem quo_back : ∀ (L : List Nat) (f k : Nat) (acc : List Nat) (t : List UInt8), (∀ n ∈ L, n < 256) → (L.flatMap signq ++ 34 :: t).length ≤ f → quo f (L.flatMap signq ++ 34 :: t) k acc = ⟨acc ++ L, k + (L.flatMap signq).length + 1, 0, 0⟩
  | [], f, k, acc, t, _, hf => by
    obtain ⟨f, rfl⟩ : ∃ g, f = g + 1 := ⟨f - 1, by simp at hf; omega⟩
    simp [quo]
  | n :: L, f, k, acc, t, hL, hf => by
    have hn : n < 256 := hL n (by simp)
    have ih := fun f k acc => quo_back L f k acc t (fun m hm => hL m (by simp [hm]))
    obtain ⟨f, rfl⟩ : ∃ g, f = g + 1 := ⟨f - 1, by simp at hf; omega⟩
    rw [List.flatMap_cons, List.append_assoc] at hf ⊢
    by_cases hp : plainq n = true
    · have hs : signq n = [UInt8.ofNat n] := by unfold signq; rw [if_pos hp]
      have hv : (UInt8.ofNat n).toNat = n := by simp; omega
      have hp' := hp
      unfold plainq at hp'
      simp at hp'
      rw [hs] at hf ⊢
      simp only [List.cons_append, List.nil_append, quo, hv]
      rw [if_neg (by omega), if_neg (by omega), if_pos hp]
      rw [ih f (k + 1) (acc ++ [n]) (by simp at hf ⊢; omega)]
      simp; omega
    · have hs : signq n = escq n := by unfold signq; rw [if_neg hp]
      rw [hs] at hf ⊢
      have hr := rdql_esc n hn (L.flatMap signq ++ 34 :: t)
      have hl := esc_pos n
      obtain ⟨t', ht'⟩ := esc_head n
      generalize escq n = E at *
      subst ht'
      simp only [List.cons_append] at hr hf ⊢
      simp only [quo, hr]
      rw [if_neg (by decide), if_pos (by decide), if_neg (by omega)]
      have hd : List.drop (92 :: t').length (92 :: (t' ++ (L.flatMap signq ++ 34 :: t))) = L.flatMap signq ++ 34 :: t := by
        simp
      rw [hd, ih f _ _ (by simp at hf ⊢; omega)]
      simp; omega
theorem quoted_back (L : List Nat) (hL : ∀ n ∈ L, n < 256) (t : List UInt8) : quoted (quoteL L ++ t) = ⟨L, (quoteL L).length, 0, 0⟩ := by
  have e : quoteL L ++ t = 34 :: (L.flatMap signq ++ 34 :: t) := by unfold quoteL; simp
  unfold quoted
  rw [e, List.drop_succ_cons, List.drop_zero, quo_back L _ 1 [] t hL (by simp)]
  unfold quoteL
  rw [List.length_append, List.length_append, List.nil_append]
  rfl
theorem unq_one (L : List Nat) (hL : ∀ n ∈ L, n < 256) (hl : (quoteL L).length ≤ 65536) : unq (quoteL L) = (L, 0, 0) := by
  have h2 := quoted_back L hL []
  rw [List.append_nil] at h2
  unfold unq
  rw [if_neg (by omega), if_neg (by unfold quoteL; simp), h2]
  simp
theorem unq2_back (L : List Nat) (hL : ∀ n ∈ L, n < 256) (t : List UInt8) (hl : (quoteL L ++ t).length ≤ 65536) : unq2 (quoteL L ++ t) = ((L, 0, 0), (quoteL L).length) := by
  cases t with
  | nil =>
    rw [List.append_nil] at hl ⊢
    unfold unq2
    rw [unq_one L hL hl, if_neg (by simp)]
  | cons c t =>
    have h2 := quoted_back L hL (c :: t)
    have e : unq (quoteL L ++ c :: t) = ([], (quoteL L).length, 15) := by
      unfold unq
      rw [if_neg (by omega), if_neg (by unfold quoteL; simp), h2]
      simp
    unfold unq2
    rw [e, if_pos rfl]
    simp only
    rw [List.take_left' rfl, unq_one L hL (by simp at hl; omega)]
theorem numsB_lt (t : List UInt8) : ∀ n ∈ nums t, n < 256 := by
  intro n hn
  unfold nums at hn
  obtain ⟨c, _, rfl⟩ := List.mem_map.1 hn
  exact UInt8.toNat_lt c
theorem unNums_nums (t : List UInt8) : unNums (nums t) = t := by
  unfold unNums nums
  rw [List.map_map]
  conv => rhs; rw [← List.map_id t]
  exact List.map_congr_left (fun c _ => by simp)

/-- Bytes that are all blanks. -/
def Bl (b : List UInt8) : Prop := ∀ c ∈ b, blq c.toNat = true
theorem Bl.nil : Bl [] := fun c h => by cases h
theorem lspan_bl {b : List UInt8} (h : Bl b) (r : List UInt8) : lspan blq (b ++ r) = b.length + lspan blq r := by
  induction b with
  | nil => simp
  | cons c b ih =>
    rw [List.cons_append, lspan, if_pos (h c (by simp)), ih (fun x hx => h x (by simp [hx]))]
    simp; omega
/-- How terms are spelled: their text, blanks ahead of signs and behind them; not ahead of the first sign. -/
inductive Core : Bool → List Tm → List UInt8 → Prop
  | lex (t : List UInt8) : Core true [.mk 2 ⟨#[]⟩ t []] (quoteL (nums t))
  | none : Core true [.mk 4 ⟨#[]⟩ [] []] [45]
  | some {b l : List UInt8} {d : Tm} : Bl b → Core true [d] l → Core true [.mk 5 ⟨#[]⟩ [] [d]] (63 :: (b ++ l))
  | list0 {b : List UInt8} : Bl b → Core true [.mk 3 ⟨#[]⟩ [] []] (91 :: (b ++ [93]))
  | list {b l m : List UInt8} {d : Tm} {ds : List Tm} : Bl b → Core true [d] l → Core false ds m → Core true [.mk 3 ⟨#[]⟩ [] (d :: ds)] (91 :: (b ++ (l ++ (m ++ [93]))))
  | app0 {n : ByteArray} : nameB great n.data.toList = true → Core true [.mk 1 n [] []] n.data.toList
  | app {n : ByteArray} {b b2 l m : List UInt8} {d : Tm} {ds : List Tm} : nameB great n.data.toList = true → Bl b → Bl b2 → Core true [d] l → Core false ds m → Core true [.mk 1 n [] (d :: ds)] (n.data.toList ++ (b ++ (40 :: (b2 ++ (l ++ (m ++ [41]))))))
  | tail0 {b : List UInt8} : Bl b → Core false [] b
  | tail {b b2 l m : List UInt8} {d : Tm} {ds : List Tm} : Bl b → Bl b2 → Core true [d] l → Core false ds m → Core false (d :: ds) (b ++ (44 :: (b2 ++ (l ++ m))))
theorem name_facts {l : List UInt8} (h : nameB great l = true) : (∃ c t, l = c :: t ∧ great c.toNat = true) ∧ l.length ≤ 32 ∧ lspan alnum l = l.length := by
  unfold nameB whole at h
  simp only [Bool.and_eq_true, decide_eq_true_eq] at h
  obtain ⟨⟨h1, h2⟩, h3, h4⟩ := h
  refine ⟨?_, h3, h4⟩
  cases l with
  | nil => exact absurd rfl h1
  | cons c t => exact ⟨c, t, rfl, h2⟩
theorem great_of {c : Nat} (h : great c = true) : blq c = false ∧ c ≠ 93 ∧ c ≠ 34 ∧ c ≠ 91 ∧ c ≠ 45 ∧ c ≠ 63 := by
  unfold great at h; simp at h
  refine ⟨?_, by omega, by omega, by omega, by omega, by omega⟩
  unfold blq; simp; omega
theorem core_head {ds : List Tm} {l : List UInt8} (h : Core true ds l) : ∃ c t, l = c :: t ∧ blq c.toNat = false ∧ c.toNat ≠ 93 := by
  cases h with
  | lex t => exact ⟨34, _, by unfold quoteL; rfl, by decide, by decide⟩
  | none => exact ⟨45, _, rfl, by decide, by decide⟩
  | some _ _ => exact ⟨63, _, rfl, by decide, by decide⟩
  | list0 _ => exact ⟨91, _, rfl, by decide, by decide⟩
  | list _ _ _ => exact ⟨91, _, rfl, by decide, by decide⟩
  | app0 hn =>
    obtain ⟨⟨c, t, e, hg⟩, _⟩ := name_facts hn
    exact ⟨c, t, e, (great_of hg).1, (great_of hg).2.1⟩
  | app hn _ _ _ _ =>
    obtain ⟨⟨c, t, e, hg⟩, _⟩ := name_facts hn
    exact ⟨c, _, by rw [e]; rfl, (great_of hg).1, (great_of hg).2.1⟩
/-- What may stand behind a term. -/
def Bd (r : List UInt8) : Prop := ∃ b t, r = b ++ t ∧ Bl b ∧ (t = [] ∨ ∃ c t', t = c :: t' ∧ (c = 44 ∨ c = 93 ∨ c = 41))
theorem Bd.of {b : List UInt8} (h : Bl b) (c : UInt8) (t : List UInt8) (hc : c = 44 ∨ c = 93 ∨ c = 41) : Bd (b ++ c :: t) := ⟨b, _, rfl, h, .inr ⟨c, t, rfl, hc⟩⟩
theorem lspan_all {p : Nat → Bool} : ∀ (l r : List UInt8), lspan p l = l.length → (∀ c t, r = c :: t → p c.toNat = false) → lspan p (l ++ r) = l.length
  | [], r, _, h => by
    rw [List.nil_append]
    cases r with
    | nil => rfl
    | cons c t => rw [lspan, if_neg (by rw [h c t rfl]; simp)]; rfl
  | c :: l, r, h1, h => by
    rw [lspan] at h1
    have := lspan_le p l
    split at h1
    · rename_i hc
      rw [List.cons_append, lspan, if_pos hc, lspan_all l r (by simpa using h1) h]
      rfl
    · simp at h1
theorem bl_alnum : ∀ c : Fin 256, blq c.val = true → alnum c.val = false := by decide +kernel
theorem Bd.no_letter {r : List UInt8} (h : Bd r) : ∀ c t, r = c :: t → alnum c.toNat = false := by
  obtain ⟨b, t, rfl, hb, ht⟩ := h
  intro c t' e
  cases b with
  | cons x b =>
    cases e
    exact bl_alnum ⟨c.toNat, UInt8.toNat_lt c⟩ (hb c (by simp))
  | nil =>
    rcases ht with rfl | ⟨y, t2, rfl, hy⟩
    · cases e
    · cases e
      rcases hy with rfl | rfl | rfl <;> decide
/-- A text from a place on. -/
theorem drop_facts {s : ByteArray} {p : Nat} {c : UInt8} {t : List UInt8} (h : s.data.toList.drop p = c :: t) : p < s.size ∧ bt s p = c.toNat ∧ s.data.toList.drop (p + 1) = t := by
  have h1 : p < s.data.toList.length := by
    rcases Nat.lt_or_ge p s.data.toList.length with h2 | h2
    · exact h2
    · rw [List.drop_eq_nil_of_le h2] at h; cases h
  rw [List.drop_eq_getElem_cons h1] at h
  injection h with h2 h3
  rw [list_len] at h1
  refine ⟨h1, ?_, h3⟩
  rw [bt_list, List.getD_eq_getElem?_getD, List.getElem?_eq_getElem (by rw [list_len]; exact h1)]
  simp [h2]
theorem drop_more {s : ByteArray} {p : Nat} {a t : List UInt8} (h : s.data.toList.drop p = a ++ t) : s.data.toList.drop (p + a.length) = t := by
  rw [← List.drop_drop, h, List.drop_left' rfl]
theorem skp_bl {s : ByteArray} {p : Nat} {b t : List UInt8} (h : s.data.toList.drop p = b ++ t) (hb : Bl b) (ht : ∀ c t', t = c :: t' → blq c.toNat = false) : skp s p = p + b.length := by
  unfold skp
  rw [h, lspan_bl hb]
  have : lspan blq t = 0 := by
    cases t with
    | nil => rfl
    | cons c t' => rw [lspan, if_neg (by rw [ht c t' rfl]; simp)]
  omega
theorem skp_one {s : ByteArray} {p : Nat} {c : UInt8} {t : List UInt8} (h : s.data.toList.drop p = c :: t) (hc : blq c.toNat = false) : skp s p = p := by
  have := skp_bl (b := []) (t := c :: t) h Bl.nil (fun x y e => by cases e; exact hc)
  simpa using this
theorem Bd.no_open {s : ByteArray} {p : Nat} {r : List UInt8} (h : s.data.toList.drop p = r) (hr : Bd r) : ¬ (skp s p < s.size ∧ bt s (skp s p) = 40) := by
  obtain ⟨b, t, rfl, hb, ht⟩ := hr
  have hs : skp s p = p + b.length := skp_bl h hb (fun c t' e => by
    rcases ht with rfl | ⟨y, t2, rfl, hy⟩
    · cases e
    · cases e; rcases hy with rfl | rfl | rfl <;> decide)
  rw [hs]
  have h2 := drop_more h
  rintro ⟨h3, h4⟩
  rcases ht with rfl | ⟨y, t2, rfl, hy⟩
  · have := congrArg List.length h2
    rw [List.length_drop, list_len] at this
    simp at this
    omega
  · rw [(drop_facts h2).2.1] at h4
    rcases hy with rfl | rfl | rfl <;> simp at h4
theorem rt_skp (s : ByteArray) (f p m : Nat) (h : 0 < f) : rt s f (skp s p) m = rt s f p m := by
  obtain ⟨f, rfl⟩ : ∃ g, f = g + 1 := ⟨f - 1, by omega⟩
  rw [rt, rt, skp_skp]
theorem rk_skp (s : ByteArray) (f p q m en : Nat) (l : List Tm) (h : 0 < f) (e : skp s p = skp s q) : rk s f p m en l = rk s f q m en l := by
  obtain ⟨f, rfl⟩ : ∃ g, f = g + 1 := ⟨f - 1, by omega⟩
  rw [rk, rk, e]
theorem drop_len {s : ByteArray} {p : Nat} {l : List UInt8} (h : s.data.toList.drop p = l) (hl : l ≠ []) : p + l.length = s.size := by
  have := congrArg List.length h
  rw [List.length_drop, list_len] at this
  have : 0 < l.length := List.length_pos_iff.2 hl
  omega
/-- What is spelled is read. -/
theorem core_read (s : ByteArray) (hs : s.size ≤ 65536) : ∀ (N : Nat),
    (∀ (d : Tm) (l : List UInt8), l.length ≤ N → Core true [d] l → ∀ p m f r, s.data.toList.drop p = l ++ r → Bd r → m + dp d ≤ 201 → 2 * (s.size - p) < f → ∃ q, rt s f p m = .ok d q ∧ skp s q = skp s (p + l.length)) ∧
    (∀ (ds : List Tm) (l : List UInt8), l.length ≤ N → Core false ds l → ∀ p m f (en : UInt8) r acc, s.data.toList.drop p = l ++ en :: r → (en = 93 ∨ en = 41) → m + dpL ds ≤ 201 → 2 * (s.size - p) < f → rk s f p m en.toNat acc = .ok (acc ++ ds) (p + l.length + 1)) := by
  intro N
  induction N with
  | zero =>
    refine ⟨fun d l hl h => ?_, fun ds l hl h p m f en r acc hd hen hm hf => ?_⟩
    · obtain ⟨c, t, rfl, _⟩ := core_head h
      simp at hl
    · obtain ⟨f, rfl⟩ : ∃ g, f = g + 1 := ⟨f - 1, by omega⟩
      have : l = [] := List.length_eq_zero_iff.1 (by omega)
      cases h with
      | tail0 hb =>
        subst this
        rw [List.nil_append] at hd
        obtain ⟨h1, h2, h3⟩ := drop_facts hd
        have hk : skp s p = p := skp_one hd (by rcases hen with rfl | rfl <;> decide)
        rw [rk, hk, if_neg (by omega), if_pos h2]
        simp
      | tail _ _ _ _ => simp at this
  | succ N ih =>
    obtain ⟨ihT, ihL⟩ := ih
    have dsE : ∀ (d : Tm) (ds : List Tm), dpL (d :: ds) = max (dp d) (dpL ds) := fun d ds => by rw [dpL]
    refine ⟨fun d l hl h p m f r hd hr hm hf => ?_, fun ds l hl h p m f en r acc hd hen hm hf => ?_⟩
    · obtain ⟨f, rfl⟩ : ∃ g, f = g + 1 := ⟨f - 1, by omega⟩
      have hm0 : ¬ 200 < m := by have := dp_eq d; omega
      have hsk : skp s p = p := by
        obtain ⟨c, t, e, hc, _⟩ := core_head h
        rw [e] at hd
        exact skp_one hd hc
      cases h with
      | lex t =>
        have hq : s.data.toList.drop p = 34 :: ((nums t).flatMap signq ++ [34] ++ r) := by rw [hd]; unfold quoteL; simp
        obtain ⟨h1, h2, h3⟩ := drop_facts hq
        have h2 : bt s p = 34 := h2
        have hln : (quoteL (nums t) ++ r).length ≤ 65536 := by rw [← hd, List.length_drop, list_len]; omega
        have hu := unq2_back (nums t) (numsB_lt t) r hln
        have hrq : rquo s p m = .ok (nums t) (p + (quoteL (nums t)).length) := by
          unfold rquo
          rw [hd, hu, if_neg (by omega), if_neg (by simp)]
        refine ⟨p + (quoteL (nums t)).length, ?_, rfl⟩
        rw [rt, hsk, if_neg (by omega), if_pos h2, hrq]
        simp only
        rw [unNums_nums]
      | none =>
        obtain ⟨h1, h2, h3⟩ := drop_facts hd
        have h2 : bt s p = 45 := h2
        refine ⟨p + 1, ?_, rfl⟩
        rw [rt, hsk, if_neg (by omega), if_neg (by omega), if_neg (by omega), if_pos h2, if_neg hm0]
      | @some b l d hb hc =>
        obtain ⟨h1, h2, h3⟩ := drop_facts hd
        have h2 : bt s p = 63 := h2
        rw [dp, dpL, dpL] at hm
        have h4 : s.data.toList.drop (p + 1) = b ++ (l ++ r) := by rw [h3]; simp
        have h5 := drop_more h4
        have hk1 : skp s (p + 1) = p + 1 + b.length := skp_bl h4 hb (fun c t e => by
          obtain ⟨c', t', e', hc', _⟩ := core_head hc
          rw [e'] at e; cases e; exact hc')
        obtain ⟨q, hq1, hq2⟩ := ihT d l (by simp at hl; omega) hc (p + 1 + b.length) (m + 1) f r h5 hr (by omega) (by omega)
        refine ⟨q, ?_, ?_⟩
        · rw [rt, hsk, if_neg (by omega), if_neg (by omega), if_neg (by omega), if_neg (by omega), if_pos h2, if_neg hm0]
          rw [← rt_skp s f (p + 1) (m + 1) (by omega), hk1, hq1]
        · rw [hq2]; congr 1; simp; omega
      | @list0 b hb =>
        obtain ⟨h1, h2, h3⟩ := drop_facts hd
        have h2 : bt s p = 91 := h2
        have h4 : s.data.toList.drop (p + 1) = b ++ (93 :: r) := by rw [h3]; simp
        have h5 := drop_more h4
        have hk1 : skp s (p + 1) = p + 1 + b.length := skp_bl h4 hb (fun c t e => by cases e; decide)
        obtain ⟨h6, h7, _⟩ := drop_facts h5
        have h7 : bt s (p + 1 + b.length) = 93 := h7
        refine ⟨p + 1 + b.length + 1, ?_, ?_⟩
        · rw [rt, hsk, if_neg (by omega), if_neg (by omega), if_pos h2, if_neg hm0, hk1, if_neg (by omega), if_pos h7]
        · congr 1; simp; omega
      | @list b l m' d ds hb hc ht =>
        obtain ⟨h1, h2, h3⟩ := drop_facts hd
        have h2 : bt s p = 91 := h2
        rw [dp, dsE] at hm
        have h4 : s.data.toList.drop (p + 1) = b ++ (l ++ (m' ++ 93 :: r)) := by rw [h3]; simp
        have h5 := drop_more h4
        obtain ⟨c', t', e', hc', hn'⟩ := core_head hc
        have hk1 : skp s (p + 1) = p + 1 + b.length := skp_bl h4 hb (fun c t e => by rw [e'] at e; cases e; exact hc')
        have h6 : s.data.toList.drop (p + 1 + b.length) = c' :: (t' ++ (m' ++ 93 :: r)) := by rw [h5, e']; rfl
        obtain ⟨h7, h8, _⟩ := drop_facts h6
        have hbd : Bd (m' ++ 93 :: r) := by
          cases ht with
          | tail0 hb => exact Bd.of hb 93 r (by simp)
          | @tail b b2 l m d ds hb _ _ _ => exact ⟨b, 44 :: (b2 ++ (l ++ m) ++ 93 :: r), by simp, hb, .inr ⟨44, _, rfl, by simp⟩⟩
        obtain ⟨q, hq1, hq2⟩ := ihT d l (by simp at hl; omega) hc (p + 1 + b.length) (m + 1) f _ h5 hbd (by omega) (by omega)
        have hq3 := (rt_rk_pos s f).1 _ _ _ _ (by omega) hq1
        have h9 := drop_more h5
        have hrk := ihL ds m' (by simp at hl; omega) ht (p + 1 + b.length + l.length) (m + 1) f 93 r [d] h9 (by simp) (by omega) (by omega)
        refine ⟨p + 1 + b.length + l.length + m'.length + 1, ?_, ?_⟩
        · rw [rt, hsk, if_neg (by omega), if_neg (by omega), if_pos h2, if_neg hm0, hk1, if_neg (by omega), if_neg (by rw [h8]; exact hn'), hq1]
          simp only
          rw [rk_skp s f q (p + 1 + b.length + l.length) (m + 1) 93 [d] (by omega) hq2]
          have : (93 : UInt8).toNat = 93 := rfl
          rw [this] at hrk
          rw [hrk]
          rfl
        · congr 1; simp; omega
      | @app0 n hn =>
        obtain ⟨⟨c, t, e, hg⟩, hl32, hal⟩ := name_facts hn
        obtain ⟨g1, g2, g3, g4, g5, g6⟩ := great_of hg
        have hd' : s.data.toList.drop p = c :: (t ++ r) := by rw [hd, e]; rfl
        obtain ⟨h1, h2, h3⟩ := drop_facts hd'
        have hsp : lspan alnum (s.data.toList.drop p) = n.data.toList.length := by rw [hd]; exact lspan_all _ _ hal hr.no_letter
        have hnm : rname s p m = .ok n (p + n.data.toList.length) := by
          unfold rname
          rw [hsp, h2, hg, if_neg (by simp), if_neg (by omega), if_neg hm0, hd, List.take_left' rfl]
          rfl
        have hnb := Bd.no_open (drop_more hd) hr
        refine ⟨skp s (p + n.data.toList.length), ?_, skp_skp _ _⟩
        rw [rt, hsk, if_neg (by omega), if_neg (by omega), if_neg (by omega), if_neg (by omega), if_neg (by omega), hnm]
        simp only
        rw [if_neg hnb]
      | @app n b b2 l m' d ds hn hb hb2 hc ht =>
        rw [dp, dsE] at hm
        obtain ⟨⟨c, t, e, hg⟩, hl32, hal⟩ := name_facts hn
        obtain ⟨g1, g2, g3, g4, g5, g6⟩ := great_of hg
        have hd2 : s.data.toList.drop p = n.data.toList ++ (b ++ (40 :: (b2 ++ (l ++ (m' ++ 41 :: r))))) := by rw [hd]; simp
        have hd' : s.data.toList.drop p = c :: (t ++ (b ++ (40 :: (b2 ++ (l ++ (m' ++ 41 :: r)))))) := by rw [hd2, e]; rfl
        obtain ⟨h1, h2, h3⟩ := drop_facts hd'
        have hnl : ∀ c t, b ++ (40 :: (b2 ++ (l ++ (m' ++ 41 :: r)))) = c :: t → alnum c.toNat = false := by
          intro x y e
          cases b with
          | nil => cases e; decide
          | cons z b => cases e; exact bl_alnum ⟨x.toNat, UInt8.toNat_lt x⟩ (hb x (by simp))
        have hsp : lspan alnum (s.data.toList.drop p) = n.data.toList.length := by rw [hd2]; exact lspan_all _ _ hal hnl
        have hnm : rname s p m = .ok n (p + n.data.toList.length) := by
          unfold rname
          rw [hsp, h2, hg, if_neg (by simp), if_neg (by omega), if_neg hm0, hd2, List.take_left' rfl]
          rfl
        have h4 := drop_more hd2
        have hk0 : skp s (p + n.data.toList.length) = p + n.data.toList.length + b.length := skp_bl h4 hb (fun c t e => by cases e; decide)
        have h5 := drop_more h4
        obtain ⟨h6, h7, h8⟩ := drop_facts h5
        have h7 : bt s (p + n.data.toList.length + b.length) = 40 := h7
        obtain ⟨c', t', e', hc', hn'⟩ := core_head hc
        have hk1 : skp s (p + n.data.toList.length + b.length + 1) = p + n.data.toList.length + b.length + 1 + b2.length := skp_bl h8 hb2 (fun c t e => by rw [e'] at e; cases e; exact hc')
        have h9 := drop_more h8
        have hbd : Bd (m' ++ 41 :: r) := by
          cases ht with
          | tail0 hb => exact Bd.of hb 41 r (by simp)
          | @tail b b2 l m d ds hb _ _ _ => exact ⟨b, 44 :: (b2 ++ (l ++ m) ++ 41 :: r), by simp, hb, .inr ⟨44, _, rfl, by simp⟩⟩
        have hln : b.length + b2.length + l.length + m'.length + 1 + n.data.toList.length ≤ N := by simp only [List.length_append, List.length_cons, List.length_nil] at hl; omega
        obtain ⟨q, hq1, hq2⟩ := ihT d l (by omega) hc _ (m + 1) f _ h9 hbd (by omega) (by omega)
        have h10 := drop_more h9
        have hrk := ihL ds m' (by omega) ht _ (m + 1) f 41 r [d] h10 (by simp) (by omega) (by omega)
        refine ⟨p + n.data.toList.length + b.length + 1 + b2.length + l.length + m'.length + 1, ?_, ?_⟩
        · rw [rt, hsk, if_neg (by omega), if_neg (by omega), if_neg (by omega), if_neg (by omega), if_neg (by omega), hnm]
          simp only
          rw [hk0, if_pos ⟨h6, h7⟩, ← rt_skp s f (p + n.data.toList.length + b.length + 1) (m + 1) (by omega), hk1, hq1]
          simp only
          rw [rk_skp s f q _ (m + 1) 41 [d] (by omega) hq2]
          have : (41 : UInt8).toNat = 41 := rfl
          rw [this] at hrk
          rw [hrk]
          rfl
        · congr 1; simp only [List.length_append, List.length_cons, List.length_nil]; omega
    · obtain ⟨f, rfl⟩ : ∃ g, f = g + 1 := ⟨f - 1, by omega⟩
      have hen93 : blq en.toNat = false := by rcases hen with rfl | rfl <;> decide
      cases h with
      | tail0 hb =>
        have hk : skp s p = p + l.length := skp_bl hd hb (fun c t e => by cases e; exact hen93)
        obtain ⟨h1, h2, h3⟩ := drop_facts (drop_more hd)
        rw [rk, hk, if_neg (by omega), if_pos h2]
        simp
      | @tail b b2 l m' d ds hb hb2 hc ht =>
        rw [dsE] at hm
        have hd1 : s.data.toList.drop p = b ++ (44 :: (b2 ++ (l ++ (m' ++ en :: r)))) := by rw [hd]; simp
        have hk : skp s p = p + b.length := skp_bl hd1 hb (fun c t e => by cases e; decide)
        obtain ⟨h1, h2, h3⟩ := drop_facts (drop_more hd1)
        have h2 : bt s (p + b.length) = 44 := h2
        have hne : ¬ bt s (p + b.length) = en.toNat := by rw [h2]; rcases hen with rfl | rfl <;> decide
        obtain ⟨c', t', e', hc', hn'⟩ := core_head hc
        have hk1 : skp s (p + b.length + 1) = p + b.length + 1 + b2.length := skp_bl h3 hb2 (fun c t e => by rw [e'] at e; cases e; exact hc')
        have h5 := drop_more h3
        have hbd : Bd (m' ++ en :: r) := by
          cases ht with
          | tail0 hb => exact Bd.of hb en r (by rcases hen with rfl | rfl <;> simp)
          | @tail b b2 l m d ds hb _ _ _ => exact ⟨b, 44 :: (b2 ++ (l ++ m) ++ en :: r), by simp, hb, .inr ⟨44, _, rfl, by simp⟩⟩
        have hln : b.length + b2.length + l.length + m'.length ≤ N := by simp only [List.length_append, List.length_cons] at hl; omega
        obtain ⟨q, hq1, hq2⟩ := ihT d l (by omega) hc _ m f _ h5 hbd (by omega) (by omega)
        have h6 := drop_more h5
        have hrk := ihL ds m' (by omega) ht _ m f en r (acc ++ [d]) h6 hen (by omega) (by omega)
        rw [rk, hk, if_neg (by omega), if_neg hne, if_neg (by omega), ← rt_skp s f (p + b.length + 1) m (by omega), hk1, hq1]
        simp only
        rw [rk_skp s f q _ m en.toNat (acc ++ [d]) (by omega) hq2, hrk]
        rw [List.append_assoc]
        congr 1
        simp only [List.length_append, List.length_cons]; omega
/-- A whole text. -/
theorem core_par {d : Tm} {b l b' : List UInt8} (hb : Bl b) (hc : Core true [d] l) (hb' : Bl b') (s : ByteArray) (hs : s.data.toList = b ++ (l ++ b')) (h6 : s.size ≤ 65536) (hdp : dp d ≤ 200) : rpar s = .ok d s.size := by
  have hd0 : s.data.toList.drop 0 = b ++ (l ++ b') := by simpa using hs
  obtain ⟨c', t', e', hc', hn'⟩ := core_head hc
  have hk : skp s 0 = 0 + b.length := skp_bl hd0 hb (fun c t e => by rw [e'] at e; cases e; exact hc')
  have h1 := drop_more hd0
  obtain ⟨q, hq1, hq2⟩ := (core_read s h6 l.length).1 d l (Nat.le_refl _) hc _ 1 (2 * s.size + 2) b' h1 ⟨b', [], by simp, hb', .inl rfl⟩ (by omega) (by omega)
  have h2 : s.data.toList.drop (0 + b.length + l.length) = b' ++ [] := by rw [List.append_nil]; exact drop_more h1
  have hk2 := skp_bl h2 hb' (fun c t e => by cases e)
  have hsz : s.size = b.length + l.length + b'.length := by rw [← list_len, hs]; simp; omega
  unfold rpar
  rw [if_neg (by omega), ← rt_skp s _ 0 1 (by omega), hk, hq1]
  simp only
  rw [hq2, hk2, if_neg (by omega)]
  congr 1
  omega
/-- A term's text is one of its spellings. -/
theorem okC_size {c : ByteArray} (h : c.size = 0) : c = ⟨#[]⟩ := by
  rcases c with ⟨⟨l⟩⟩
  cases l with
  | nil => rfl
  | cons x l => cases h
mutual
theorem txt_core : ∀ (d : Tm), wl d = true → Core true [d] (txt d)
  | .mk k c t l, h => by
    rw [wl, Bool.and_eq_true] at h
    obtain ⟨h1, h2⟩ := h
    have hk := okC_kind h1
    rw [txt]
    rcases hk with rfl | rfl | rfl | rfl | rfl
    · obtain ⟨hn, ht⟩ := okC_one h1
      obtain rfl : t = [] := List.length_eq_zero_iff.1 ht
      rw [if_neg (by decide), if_neg (by decide), if_neg (by decide), if_neg (by decide)]
      cases l with
      | nil => simpa using Core.app0 hn
      | cons d ds =>
        rw [wlL, Bool.and_eq_true] at h2
        have a := txt_core d h2.1
        have b := txtL_core ds h2.2
        have := Core.app (b := []) (b2 := []) hn Bl.nil Bl.nil a b
        simpa [txtL] using this
    · obtain ⟨hc, hl⟩ := okC_two h1
      obtain rfl := okC_size hc
      obtain rfl : l = [] := List.length_eq_zero_iff.1 hl
      rw [if_pos rfl]
      exact Core.lex t
    · obtain ⟨hc, ht⟩ := okC_three h1
      obtain rfl := okC_size hc
      obtain rfl : t = [] := List.length_eq_zero_iff.1 ht
      rw [if_neg (by decide), if_pos rfl]
      cases l with
      | nil => simpa [txtL] using Core.list0 (b := []) Bl.nil
      | cons d ds =>
        rw [wlL, Bool.and_eq_true] at h2
        have a := txt_core d h2.1
        have b := txtL_core ds h2.2
        have := Core.list (b := []) Bl.nil a b
        simpa [txtL] using this
    · obtain ⟨hc, ht, hl⟩ := okC_four h1
      obtain rfl := okC_size hc
      obtain rfl : t = [] := List.length_eq_zero_iff.1 ht
      obtain rfl : l = [] := List.length_eq_zero_iff.1 hl
      rw [if_neg (by decide), if_neg (by decide), if_pos rfl]
      exact Core.none
    · obtain ⟨hc, ht, hl⟩ := okC_five h1
      obtain rfl := okC_size hc
      obtain rfl : t = [] := List.length_eq_zero_iff.1 ht
      match l, hl, h2 with
      | [d], _, h2 =>
        rw [wlL, Bool.and_eq_true] at h2
        have a := txt_core d h2.1
        rw [if_neg (by decide), if_neg (by decide), if_neg (by decide), if_pos rfl]
        have := Core.some (b := []) Bl.nil a
        simpa [txtL] using this
theorem txtL_core : ∀ (l : List Tm), wlL l = true → Core false l (txtL false l)
  | [], _ => by rw [txtL]; exact Core.tail0 Bl.nil
  | d :: l, h => by
    rw [wlL, Bool.and_eq_true] at h
    have a := txt_core d h.1
    have b := txtL_core l h.2
    have := Core.tail (b := []) (b2 := []) Bl.nil Bl.nil a b
    rw [txtL]
    simpa using this
end
theorem rpar_txt {d : Tm} (h : wl d = true) (hd : dp d ≤ 200) (hl : (txt d).length ≤ 65536) : rpar (bstr (txt d)) = .ok d (txt d).length := by
  have := core_par Bl.nil (txt_core d h) Bl.nil (bstr (txt d)) (by simp [bstr]) (by show (txt d).toArray.size ≤ _; simpa using hl) hd
  rw [this]
  congr 1
/-- Terms whose texts are the same are the same. -/
theorem txt_inj {a b : Tm} (ha : wl a = true) (hb : wl b = true) (da : dp a ≤ 200) (db : dp b ≤ 200) (la : (txt a).length ≤ 65536) (h : txt a = txt b) : a = b := by
  have h1 := rpar_txt ha da la
  have h2 := rpar_txt hb db (h ▸ la)
  rw [h, h2] at h1
  injection h1 with h3 _
  exact h3.symm
end Go.Proofs.YtlkcadibjmfmcaaDoor
