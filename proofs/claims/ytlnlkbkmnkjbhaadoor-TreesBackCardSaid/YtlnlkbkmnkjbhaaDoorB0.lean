/- What is written of a tree is read as it, and what is read is written as it stood: plain. -/
import Derived.Test.YtlnlkbkmnkjbhaaDoorQb
import Derived.Test.YtlnlkbkmnkjbhaaDoorT6
import Derived.Lib.ItoaMem
namespace Go.Proofs.YtlnlkbkmnkjbhaaDoor

/-- A text's bytes, from a place on. -/
def Ps (s : ByteArray) (p : Nat) (l : List UInt8) : Prop := p + l.length ≤ s.size ∧ ∀ i (h : i < l.length), bt s (p + i) = (l[i]).toNat
theorem Ps_nil (s : ByteArray) (p : Nat) : Ps s p [] ↔ p ≤ s.size := by simp [Ps]
theorem Ps_cons (s : ByteArray) (p : Nat) (c : UInt8) (l : List UInt8) : Ps s p (c :: l) ↔ (p < s.size ∧ bt s p = c.toNat) ∧ Ps s (p + 1) l := by
  unfold Ps
  constructor
  · rintro ⟨h1, h2⟩
    simp only [List.length_cons] at h1
    refine ⟨⟨by omega, by have := h2 0 (by simp); simpa using this⟩, by omega, fun i hi => ?_⟩
    have := h2 (i + 1) (by simpa using hi)
    rw [List.getElem_cons_succ] at this
    rw [← this]; congr 1; omega
  · rintro ⟨⟨h1, h2⟩, h3, h4⟩
    refine ⟨by simp only [List.length_cons]; omega, fun i hi => ?_⟩
    cases i with
    | zero => simpa using h2
    | succ i =>
      rw [List.getElem_cons_succ, ← h4 i (by simpa using hi)]; congr 1; omega
theorem Ps_append (s : ByteArray) : ∀ (a b : List UInt8) (p : Nat), Ps s p (a ++ b) ↔ Ps s p a ∧ Ps s (p + a.length) b
  | [], b, p => by
    rw [Ps_nil]
    simp only [List.nil_append, List.length_nil, Nat.add_zero]
    constructor
    · intro h; exact ⟨by have := h.1; omega, h⟩
    · exact fun h => h.2
  | c :: a, b, p => by
    rw [List.cons_append, Ps_cons, Ps_cons, Ps_append s a b (p + 1), List.length_cons, show p + (a.length + 1) = p + 1 + a.length by omega]
    exact and_assoc.symm
theorem ofNat_toNat {n : Nat} (h : n < 256) : (UInt8.ofNat n).toNat = n := by simp; omega
theorem dec_small {n : Nat} (h : n < 10) : Lib.decDigits n = [UInt8.ofNat (48 + n)] := by rw [Lib.decDigits, dif_pos h]
theorem dec_big {n : Nat} (h : ¬ n < 10) : Lib.decDigits n = Lib.decDigits (n / 10) ++ [UInt8.ofNat (48 + n % 10)] := by rw [Lib.decDigits, dif_neg h]
theorem dec_snoc {n k : Nat} (h : n ≠ 0) (hk : k < 10) : Lib.decDigits (10 * n + k) = Lib.decDigits n ++ [UInt8.ofNat (48 + k)] := by
  rw [dec_big (by omega), show (10 * n + k) / 10 = n by omega, show (10 * n + k) % 10 = k by omega]
theorem dec_head (n : Nat) : ∃ c r, Lib.decDigits n = c :: r ∧ digq c.toNat = true := by
  induction n using Nat.strongRecOn with
  | _ n ih =>
    by_cases h : n < 10
    · refine ⟨_, [], dec_small h, ?_⟩
      rw [ofNat_toNat (by omega)]; simp [digq]; omega
    · obtain ⟨c, r, h1, h2⟩ := ih (n / 10) (by omega)
      exact ⟨c, r ++ [UInt8.ofNat (48 + n % 10)], by rw [dec_big h, h1]; rfl, h2⟩
theorem rnum_dec (s : ByteArray) (p : Nat) (n : Nat) : (Lib.decDigits n).length ≤ 6 → Ps s p (Lib.decDigits n) → rnum s p 8 p 0 = rnum s p (8 - (Lib.decDigits n).length) (p + (Lib.decDigits n).length) n := by
  induction n using Nat.strongRecOn with
  | _ n ih =>
    intro hl hp
    by_cases h : n < 10
    · rw [dec_small h] at hp ⊢
      rw [Ps_cons] at hp
      obtain ⟨⟨h1, h2⟩, _⟩ := hp
      rw [ofNat_toNat (by omega)] at h2
      have hd : digq (bt s p) = true := by rw [h2]; simp [digq]; omega
      rw [rnum, if_neg (by omega), if_neg (by rw [hd]; simp), if_neg (by omega)]
      simp only [List.length_cons, List.length_nil]
      rw [h2]; congr 1; omega
    · have hb := dec_big h
      have hlen : (Lib.decDigits n).length = (Lib.decDigits (n / 10)).length + 1 := by rw [hb]; simp
      rw [hb, Ps_append, Ps_cons] at hp
      obtain ⟨hp1, ⟨h1, h2⟩, _⟩ := hp
      rw [ofNat_toNat (by omega)] at h2
      have hI := ih (n / 10) (by omega) (by omega) hp1
      rw [hI, hlen]
      generalize (Lib.decDigits (n / 10)).length = k at *
      obtain ⟨f, hf⟩ : ∃ f, 8 - k = f + 1 := ⟨7 - k, by omega⟩
      have hd : digq (bt s (p + k)) = true := by rw [h2]; simp [digq]; omega
      rw [hf, rnum, if_neg (by omega), if_neg (by rw [hd]; simp), if_neg (by omega), h2]
      rw [show 8 - (k + 1) = f by omega, show p + (k + 1) = p + k + 1 by omega]
      congr 1; omega
theorem rnum_txt (s : ByteArray) (p n : Nat) (hn : n ≤ 999999) (hp : Ps s p (Lib.decDigits n)) (hlt : p + (Lib.decDigits n).length < s.size) (hd : digq (bt s (p + (Lib.decDigits n).length)) = false) : rnum s p 8 p 0 = .ok n (p + (Lib.decDigits n).length) := by
  have hl := decDigits_len 5 n (by omega)
  rw [rnum_dec s p n hl hp]
  obtain ⟨f, hf⟩ : ∃ f, 8 - (Lib.decDigits n).length = f + 1 := ⟨7 - (Lib.decDigits n).length, by omega⟩
  rw [hf, rnum, if_neg (by omega), if_pos hd]
theorem rnum_back (s : ByteArray) (p : Nat) : ∀ (f q n k r : Nat), rnum s p f q n = .ok k r → p ≤ q → q - p ≤ 6 → n < 10 ^ (q - p) → (q = p → digq (bt s p) = true) → (p < q → Ps s p (Lib.decDigits n) ∧ (Lib.decDigits n).length = q - p) → Ps s p (Lib.decDigits k) ∧ r = p + (Lib.decDigits k).length ∧ k ≤ 999999 := by
  intro f
  induction f with
  | zero => intro q n k r h; rw [rnum] at h; cases h
  | succ f ih =>
    intro q n k r h hpq h6 hb h0 h1
    rw [rnum] at h
    split at h
    · cases h
    · rename_i hs
      split at h
      · rename_i hd
        cases h
        have hlt : p < q := by
          rcases Nat.lt_or_ge p q with hh | hh
          · exact hh
          · have e : q = p := by omega
            have := h0 e
            rw [e, this] at hd; cases hd
        obtain ⟨a, b⟩ := h1 hlt
        refine ⟨a, by omega, ?_⟩
        have : 10 ^ (q - p) ≤ 10 ^ 6 := Nat.pow_le_pow_right (by decide) h6
        omega
      · rename_i hd
        have hdt : digq (bt s q) = true := by simpa using hd
        have hdd : 48 ≤ bt s q ∧ bt s q ≤ 57 := by unfold digq at hdt; simp only [Bool.and_eq_true, decide_eq_true_eq] at hdt; exact hdt
        split at h
        · cases h
        · rename_i hz
          refine ih (q + 1) _ k r h (by omega) (by omega) ?_ (fun e => absurd e (by omega)) (fun _ => ?_)
          · rw [show q + 1 - p = (q - p) + 1 by omega, Nat.pow_succ]; omega
          · by_cases e : q = p
            · subst e
              have hn0 : n = 0 := by simpa using hb
              subst hn0
              rw [show 10 * 0 + (bt s q - 48) = bt s q - 48 by omega, dec_small (by omega)]
              refine ⟨?_, by simp⟩
              rw [Ps_cons, Ps_nil, ofNat_toNat (by omega)]
              exact ⟨⟨by omega, by omega⟩, by omega⟩
            · obtain ⟨a, b⟩ := h1 (by omega)
              have hn : n ≠ 0 := fun e' => hz (.inr ⟨by omega, e'⟩)
              rw [dec_snoc hn (by omega)]
              refine ⟨?_, by rw [List.length_append, b]; simp; omega⟩
              rw [Ps_append, b, Ps_cons, Ps_nil, ofNat_toNat (by omega), show p + (q - p) = q by omega]
              exact ⟨a, ⟨by omega, by omega⟩, by omega⟩
theorem hv_hexd : ∀ n, n < 16 → hv (hexd n).toNat = n := by decide
theorem hexd_hv (c : Nat) (hc : c < 256) (h : hv c ≠ 16) : (hexd (hv c)).toNat = c := by
  unfold hv at h ⊢
  have hx : ∀ k, k < 10 → (hexd k).toNat = k + 48 := by decide
  have hy : ∀ k, k < 16 → 10 ≤ k → (hexd k).toNat = k + 87 := by decide
  split
  · rw [hx _ (by omega)]; omega
  · rename_i h1
    rw [if_neg h1] at h
    split
    · rw [hy _ (by omega) (by omega)]; omega
    · rename_i h2
      rw [if_neg h2] at h
      exact absurd rfl h
theorem txt_head (d : Tr) (h : pl d = true) : ∃ c r, txt d = c :: r ∧ (c.toNat = 120 ∨ digq c.toNat = true) := by
  by_cases hr : d.rule = -1
  · exact ⟨120, _, txt_leaf hr, .inl rfl⟩
  · rw [pl_node hr] at h
    simp only [Bool.and_eq_true, isPl, hr, if_false, decide_eq_true_eq] at h
    obtain ⟨c, r, h1, h2⟩ := dec_head d.rule.toNat
    rw [txt_node hr, itoa_nat h.1.1.2, h1]
    exact ⟨c, _, rfl, .inr h2⟩
theorem txt_pos (d : Tr) (h : pl d = true) : 3 ≤ (txt d).length := by
  by_cases hr : d.rule = -1
  · rw [txt_leaf hr]; simp
  · rw [pl_node hr] at h
    simp only [Bool.and_eq_true, isPl, hr, if_false, decide_eq_true_eq] at h
    obtain ⟨c, r, h1, h2⟩ := dec_head d.rule.toNat
    rw [txt_node hr, itoa_nat h.1.1.2, h1]
    simp; omega
theorem head_not {c : Nat} (h : c = 120 ∨ digq c = true) : c ≠ 41 ∧ c ≠ 32 ∧ ¬ (c ≠ 120 ∧ digq c = false) := by
  rcases h with h | h
  · subst h; exact ⟨by omega, by omega, fun h => h.1 rfl⟩
  · exact ⟨fun e => (by rw [e] at h; cases h), fun e => (by rw [e] at h; cases h), fun e => (by rw [h] at e; cases e.2)⟩
/-- What is written is read. -/
theorem rt_txt (s : ByteArray) : ∀ f, (∀ p m d, pl d = true → 1 ≤ m → m - 1 + dp d ≤ 200 → Ps s p (txt d) → (txt d).length ≤ f → rt s f p m = .ok d (p + (txt d).length)) ∧ (∀ p m l0 l, plL l = true → 1 ≤ m → (∀ d ∈ l, m - 1 + dp d ≤ 200) → Ps s p (txtL l0.isEmpty l ++ [41]) → (txtL l0.isEmpty l).length + 1 ≤ f → rk s f p m l0 = .ok (l0 ++ l) (p + (txtL l0.isEmpty l).length + 1)) := by
  intro f
  induction f with
  | zero => exact ⟨fun p m d hd _ _ _ hf => absurd hf (by have := txt_pos d hd; omega), fun p m l0 l _ _ _ _ hf => absurd hf (by omega)⟩
  | succ f ih =>
    refine ⟨fun p m d hd hm hdp hp hf => ?_, fun p m l0 l hl hm hdp hp hf => ?_⟩
    · obtain ⟨c, r, hc1, hc2⟩ := txt_head d hd
      have hp1 := hp
      rw [hc1, Ps_cons] at hp1
      obtain ⟨⟨hlt, hbc⟩, _⟩ := hp1
      rw [← hbc] at hc2
      have hn := head_not hc2
      have hdd := dp_eq d
      rw [rt, if_neg (by omega), if_neg hn.2.2, if_neg (by omega)]
      by_cases hr : d.rule = -1
      · have ht := txt_leaf hr
        rw [ht] at hp ⊢
        have hk : d.kids = [] := by rw [pl_leaf hr] at hd; simpa using hd
        simp only [Ps_cons, Ps_nil] at hp
        obtain ⟨⟨_, a0⟩, ⟨b1, a1⟩, ⟨b2, a2⟩, _⟩ := hp
        have hu := UInt8.toNat_lt d.byte
        have g1 := hv_hexd (d.byte.toNat / 16) (by omega)
        have g2 := hv_hexd (d.byte.toNat % 16) (by omega)
        rw [if_pos (by rw [a0]; rfl)]
        have e1 : rhalf s (p + 1) = .ok (d.byte.toNat / 16) (p + 1 + 1) := by unfold rhalf; rw [if_neg (by omega), a1, g1, if_neg (by omega)]
        have e2 : rhalf s (p + 1 + 1) = .ok (d.byte.toNat % 16) (p + 1 + 1 + 1) := by unfold rhalf; rw [if_neg (by omega), a2, g2, if_neg (by omega)]
        unfold rleaf
        rw [e1]
        simp only []
        rw [e2]
        simp only [List.length_cons, List.length_nil]
        rw [show 16 * (d.byte.toNat / 16) + d.byte.toNat % 16 = d.byte.toNat by omega]
        obtain ⟨dr, db, dk⟩ := d
        simp only [Tr.rule, Tr.byte, Tr.kids] at hr hk ⊢
        subst hr hk
        simp
      · have ht := txt_node hr
        have hd2 := hd
        rw [pl_node hr] at hd2
        simp only [Bool.and_eq_true, isPl, hr, if_false, decide_eq_true_eq, beq_iff_eq] at hd2
        obtain ⟨⟨⟨hby, hr0⟩, hr9⟩, hkids⟩ := hd2
        obtain ⟨n, hn'⟩ : ∃ n : Nat, d.rule = n := ⟨d.rule.toNat, by omega⟩
        have hit : Lib.itoa d.rule = Lib.decDigits n := by rw [itoa_nat hr0, hn']; simp
        rw [ht, hit] at hp
        rw [ht, hit] at hf ⊢
        simp only [List.append_assoc, List.cons_append] at hp hf ⊢
        rw [Ps_append, Ps_cons] at hp
        obtain ⟨hp1, ⟨h2a, h2b⟩, hp3⟩ := hp
        have h40 : bt s (p + (Lib.decDigits n).length) = 40 := h2b
        have h120 : bt s p ≠ 120 := by
          obtain ⟨c', r', g1, g2⟩ := dec_head n
          rw [g1, Ps_cons] at hp1
          rw [hp1.1.2]; intro e; rw [e] at g2; cases g2
        have hnum := rnum_txt s p n (by omega) hp1 h2a (by rw [h40]; rfl)
        rw [if_neg h120, hnum]
        simp only []
        have hw : rwant s (p + (Lib.decDigits n).length) 40 = .ok () (p + (Lib.decDigits n).length + 1) := by unfold rwant; rw [if_neg (by omega), if_pos h40]
        rw [hw]
        simp only []
        simp only [List.length_append, List.length_cons, List.length_nil] at hf ⊢
        have hkk := ih.2 (p + (Lib.decDigits n).length + 1) (m + 1) [] d.kids hkids (by omega) (fun x hx => by
          have := (dpL_le_iff d.kids (200 - m)).1 (by omega) x hx
          have := dp_eq d
          omega) hp3 (by show (txtL true d.kids).length + 1 ≤ f; omega)
        rw [hkk]
        simp only [List.nil_append, List.isEmpty_nil]
        obtain ⟨dr, db, dk⟩ := d
        simp only [Tr.rule, Tr.byte, Tr.kids] at hn' hby ⊢
        subst hn' hby
        congr 1
        omega
    · cases l with
      | nil =>
        simp only [txtL, List.nil_append, List.length_nil] at hp ⊢
        rw [Ps_cons] at hp
        rw [rk, if_neg (by omega), if_pos (by rw [hp.1.2]; rfl)]
        simp
      | cons d l =>
        rw [plL] at hl
        simp only [Bool.and_eq_true] at hl
        obtain ⟨c, r, hc1, hc2⟩ := txt_head d hl.1
        have hn := head_not hc2
        have h3 := txt_pos d hl.1
        have hstep : ∀ q, Ps s q (txt d ++ txtL false l ++ [41]) → (txt d).length + (txtL false l).length + 1 ≤ f + 1 → (match rt s f q m with | .bad q c => PR.bad q c | .ok d q => rk s f q m (l0 ++ [d])) = PR.ok (l0 ++ d :: l) (q + (txt d).length + (txtL false l).length + 1) := fun q hq hfq => by
          rw [List.append_assoc, Ps_append] at hq
          rw [ih.1 q m d hl.1 hm (hdp d (by simp)) hq.1 (by omega)]
          simp only []
          have e : (l0 ++ [d]).isEmpty = false := by simp
          have := ih.2 (q + (txt d).length) m (l0 ++ [d]) l hl.2 hm (fun x hx => hdp x (by simp [hx])) (by rw [e]; exact hq.2) (by rw [e]; omega)
          rw [this, e]; simp
        cases l0 with
        | nil =>
          simp only [List.isEmpty_nil, txtL, if_true, List.nil_append] at hp hf ⊢
          have hp1 := hp
          rw [hc1] at hp1
          simp only [List.cons_append] at hp1
          rw [Ps_cons] at hp1
          rw [rk, if_neg (by omega), if_neg (by rw [hp1.1.2]; exact hn.1), if_pos rfl]
          simp only []
          simp only [List.length_append] at hf ⊢
          have := hstep p hp (by omega)
          simp only [List.nil_append] at this
          rw [show p + ((txt d).length + (txtL false l).length) + 1 = p + (txt d).length + (txtL false l).length + 1 by omega]
          exact this
        | cons x l0 =>
          simp only [List.isEmpty_cons, txtL, Bool.false_eq_true, if_false, List.cons_append, List.nil_append] at hp hf ⊢
          rw [Ps_cons] at hp
          have h32 : bt s p = 32 := hp.1.2
          have hw : rwant s p 32 = .ok () (p + 1) := by unfold rwant; rw [if_neg (by omega), if_pos h32]
          rw [rk, if_neg (by omega), if_neg (by omega), if_neg (by simp), hw]
          simp only []
          simp only [List.length_append, List.length_cons] at hf ⊢
          have := hstep (p + 1) hp.2 (by omega)
          rw [show p + ((txt d).length + (txtL false l).length + 1) + 1 = p + 1 + (txt d).length + (txtL false l).length + 1 by omega]
          exact this
/-- What is read is written so. -/
theorem rt_back (s : ByteArray) : ∀ f, (∀ p m d q, rt s f p m = .ok d q → 1 ≤ m → pl d = true ∧ m - 1 + dp d ≤ 200 ∧ Ps s p (txt d) ∧ q = p + (txt d).length) ∧ (∀ p m l0 r q, rk s f p m l0 = .ok r q → 1 ≤ m → ∃ l, r = l0 ++ l ∧ plL l = true ∧ (∀ d ∈ l, m - 1 + dp d ≤ 200) ∧ Ps s p (txtL l0.isEmpty l ++ [41]) ∧ q = p + (txtL l0.isEmpty l).length + 1) := by
  intro f
  induction f with
  | zero => exact ⟨fun p m d q h => (by rw [rt] at h; cases h), fun p m l l' q h => (by rw [rk] at h; cases h)⟩
  | succ f ih =>
    refine ⟨fun p m d q h hm => ?_, fun p m l0 r q h hm => ?_⟩
    · rw [rt] at h
      split at h
      · cases h
      rename_i hs
      split at h
      · cases h
      rename_i hdg
      split at h
      · cases h
      rename_i hmm
      split at h
      · rename_i h120
        unfold rleaf at h
        split at h
        · cases h
        rename_i a q1 ha
        split at h
        · cases h
        rename_i b q2 hb
        have ha2 := rhalf_pos ha
        have hb2 := rhalf_pos hb
        unfold rhalf at ha hb
        rw [if_neg (by omega)] at ha hb
        split at ha
        · cases ha
        rename_i ha3
        split at hb
        · cases hb
        rename_i hb3
        cases ha
        cases hb
        cases h
        have l1 := bt_lt s (p + 1)
        have l2 := bt_lt s (p + 1 + 1)
        have x1 := hexd_hv _ l1 ha3
        have x2 := hexd_hv _ l2 hb3
        have u1 : hv (bt s (p + 1)) < 16 := ha2.2.2
        have u2 : hv (bt s (p + 1 + 1)) < 16 := hb2.2.2
        refine ⟨by simp [pl], by simp [dp, dpL]; omega, ?_, by simp [txt]⟩
        have e : (UInt8.ofNat (16 * hv (bt s (p + 1)) + hv (bt s (p + 1 + 1)))).toNat = 16 * hv (bt s (p + 1)) + hv (bt s (p + 1 + 1)) := ofNat_toNat (by omega)
        rw [txt_leaf (d := .mk (-1) _ []) rfl]
        simp only [Tr.byte, e, Ps_cons, Ps_nil]
        rw [show (16 * hv (bt s (p + 1)) + hv (bt s (p + 1 + 1))) / 16 = hv (bt s (p + 1)) by omega, show (16 * hv (bt s (p + 1)) + hv (bt s (p + 1 + 1))) % 16 = hv (bt s (p + 1 + 1)) by omega, x1, x2]
        exact ⟨⟨by omega, h120⟩, ⟨by omega, rfl⟩, ⟨by omega, rfl⟩, by omega⟩
      · rename_i h120
        have hdt : digq (bt s p) = true := by
          cases hx : digq (bt s p) with
          | true => rfl
          | false => exact absurd ⟨h120, hx⟩ hdg
        split at h
        · cases h
        rename_i n q1 hn
        split at h
        · cases h
        rename_i u q2 hw
        split at h
        · cases h
        rename_i l q3 hk
        cases h
        obtain ⟨a1, a2, a3⟩ := rnum_back s p 8 p 0 n q1 hn (Nat.le_refl _) (by omega) (by simp) (fun _ => hdt) (fun e => absurd e (by omega))
        obtain ⟨l', b1, b2, b3, b4, b5⟩ := ih.2 _ _ _ _ _ hk (by omega)
        simp only [List.nil_append] at b1
        subst b1
        have hw1 := rwant_pos hw
        have h40 : bt s q1 = 40 := by
          unfold rwant at hw
          split at hw
          · cases hw
          split at hw
          · rename_i hx; exact hx
          · cases hw
        have hr : (Tr.mk (n : Int) 0 l).rule ≠ -1 := by simp only [Tr.rule]; omega
        have hit : Lib.itoa (n : Int) = Lib.decDigits n := by rw [itoa_nat (by omega)]; simp
        have ht : txt (.mk (n : Int) 0 l) = Lib.decDigits n ++ 40 :: (txtL true l ++ [41]) := by rw [txt_node hr]; simp only [Tr.rule, Tr.kids, hit]; simp
        refine ⟨?_, ?_, ?_, ?_⟩
        · rw [pl]; rw [if_neg (by omega)]; simp [b2]; omega
        · rw [dp]
          have := (dpL_le_iff l (200 - m)).2 (fun d hd => by have := b3 d hd; omega)
          omega
        · rw [ht, Ps_append, Ps_cons, ← a2]
          refine ⟨a1, ⟨by omega, h40⟩, ?_⟩
          rw [← hw1.1]; exact b4
        · rw [ht, b5]; simp only [List.length_append, List.length_cons, List.length_nil, List.isEmpty_nil]; omega
    · rw [rk] at h
      split at h
      · cases h
      rename_i hs
      split at h
      · rename_i h41
        cases h
        refine ⟨[], by simp, rfl, by simp, ?_, by simp [txtL]⟩
        simp only [txtL, List.nil_append, Ps_cons, Ps_nil]
        exact ⟨⟨by omega, h41⟩, by omega⟩
      · rename_i h41
        split at h
        · cases h
        rename_i u q1 hq1
        split at h
        · cases h
        rename_i d q2 hd
        obtain ⟨c1, c2, c3, c4⟩ := ih.1 _ _ _ _ hd hm
        obtain ⟨l, d1, d2, d3, d4, d5⟩ := ih.2 _ _ _ _ _ h hm
        have e : (l0 ++ [d]).isEmpty = false := by simp
        rw [e] at d4 d5
        refine ⟨d :: l, by rw [d1]; simp, by rw [plL, c1, d2]; rfl, ?_, ?_, ?_⟩
        · intro x hx
          rcases List.mem_cons.1 hx with rfl | hx
          · exact c2
          · exact d3 x hx
        · cases l0 with
          | nil =>
            simp only [if_true] at hq1
            cases hq1
            simp only [List.isEmpty_nil, txtL, if_true, List.nil_append, List.append_assoc]
            rw [Ps_append, ← c4]
            exact ⟨c3, d4⟩
          | cons x l0 =>
            rw [if_neg (by simp)] at hq1
            have hw := rwant_pos hq1
            have h32 : bt s p = 32 := by
              unfold rwant at hq1
              split at hq1
              · cases hq1
              split at hq1
              · rename_i hx; exact hx
              · cases hq1
            simp only [List.isEmpty_cons, txtL, Bool.false_eq_true, if_false, List.cons_append, List.nil_append, List.append_assoc]
            rw [Ps_cons, Ps_append, ← hw.1, ← c4]
            exact ⟨⟨by omega, h32⟩, c3, d4⟩
        · cases l0 with
          | nil =>
            simp only [if_true] at hq1
            cases hq1
            simp only [List.isEmpty_nil, txtL, if_true, List.nil_append, List.length_append]
            omega
          | cons x l0 =>
            rw [if_neg (by simp)] at hq1
            have hw := rwant_pos hq1
            simp only [List.isEmpty_cons, txtL, Bool.false_eq_true, if_false, List.length_append, List.length_cons, List.length_nil]
            omega
theorem rnum_bad {s : ByteArray} {fr : Nat} : ∀ {f p n q c : Nat}, rnum s fr f p n = .bad q c → fr ≤ p → p ≤ s.size → 7 - (p - fr) < f → p - fr ≤ 6 → c ≠ 0 ∧ q ≤ s.size := by
  intro f
  induction f with
  | zero => intro p n q c h _ _ hf; omega
  | succ f ih =>
    intro p n q c h h1 h2 h3 h4
    rw [rnum] at h
    split at h
    · cases h; exact ⟨by omega, h2⟩
    split at h
    · cases h
    split at h
    · cases h; exact ⟨by omega, h2⟩
    · exact ih h (by omega) (by omega) (by omega) (by omega)
theorem rwant_bad {s : ByteArray} {p k q c : Nat} (h : rwant s p k = .bad q c) (hp : p ≤ s.size) : c ≠ 0 ∧ q ≤ s.size := by
  unfold rwant at h
  split at h
  · cases h; exact ⟨by omega, hp⟩
  split at h
  · cases h
  · cases h; exact ⟨by omega, hp⟩
theorem rhalf_bad {s : ByteArray} {p q c : Nat} (h : rhalf s p = .bad q c) (hp : p ≤ s.size) : c ≠ 0 ∧ q ≤ s.size := by
  unfold rhalf at h
  split at h
  · cases h; exact ⟨by omega, hp⟩
  split at h
  · cases h; exact ⟨by omega, hp⟩
  · cases h
/-- A fault has a code and a place. -/
theorem rt_bad (s : ByteArray) : ∀ f, (∀ p m q c, rt s f p m = .bad q c → p ≤ s.size → 2 * (s.size - p) < f → c ≠ 0 ∧ q ≤ s.size) ∧ (∀ p m l q c, rk s f p m l = .bad q c → p ≤ s.size → 2 * (s.size - p) + 1 < f → c ≠ 0 ∧ q ≤ s.size) := by
  intro f
  induction f with
  | zero => exact ⟨fun p m q c _ _ hf => absurd hf (by omega), fun p m l q c _ _ hf => absurd hf (by omega)⟩
  | succ f ih =>
    refine ⟨fun p m q c h hp hf => ?_, fun p m l q c h hp hf => ?_⟩
    · rw [rt] at h
      split at h
      · cases h; exact ⟨by omega, hp⟩
      split at h
      · cases h; exact ⟨by omega, hp⟩
      split at h
      · cases h; exact ⟨by omega, hp⟩
      split at h
      · unfold rleaf at h
        split at h
        · rename_i ha; cases h; exact rhalf_bad ha (by omega)
        rename_i ha
        split at h
        · rename_i hb; cases h; exact rhalf_bad hb (by have := rhalf_pos ha; omega)
        · cases h
      · split at h
        · rename_i hn; cases h; exact rnum_bad hn (Nat.le_refl _) hp (by omega) (by omega)
        rename_i hn
        have hn2 := rnum_pos hn
        split at h
        · rename_i hw; cases h; exact rwant_bad hw (by omega)
        rename_i hw
        have hw2 := rwant_pos hw
        split at h
        · rename_i hk; cases h; exact ih.2 _ _ _ _ _ hk (by omega) (by omega)
        · cases h
    · rw [rk] at h
      split at h
      · cases h; exact ⟨by omega, hp⟩
      split at h
      · cases h
      split at h
      · rename_i hw
        cases h
        split at hw
        · cases hw
        · exact rwant_bad hw hp
      rename_i u q1 hq1
      have hq : p ≤ q1 ∧ q1 ≤ s.size := by
        split at hq1
        · cases hq1; exact ⟨Nat.le_refl _, hp⟩
        · have := rwant_pos hq1; omega
      split at h
      · rename_i hd; cases h; exact ih.1 _ _ _ _ hd hq.2 (by omega)
      rename_i d q2 hd
      have hd2 := (rt_rk_pos s f).1 _ _ _ _ hd
      exact ih.2 _ _ _ _ _ h hd2.2 (by omega)
theorem Ps_bstr (l : List UInt8) : Ps (bstr l) 0 l := by
  refine ⟨by show 0 + l.length ≤ l.toArray.size; simp, fun i h => ?_⟩
  unfold bt
  have hs : 0 + i < (bstr l).size := by show _ < l.toArray.size; simpa using h
  rw [dif_pos hs]
  show ((l.toArray)[0 + i]).toNat = _
  simp
theorem bstr_of_Ps {s : ByteArray} {l : List UInt8} (h : Ps s 0 l) (hl : l.length = s.size) : bstr l = s := by
  obtain ⟨⟨a⟩⟩ := s
  unfold bstr
  congr 2
  apply List.ext_getElem
  · exact hl
  · intro i h1 h2
    have := h.2 i h1
    unfold bt at this
    have hs : 0 + i < (ByteArray.mk ⟨a⟩).size := by show 0 + i < a.length; omega
    rw [dif_pos hs] at this
    have e : ((ByteArray.mk ⟨a⟩)[0 + i]'hs).toNat = (a[i]).toNat := by
      have : (ByteArray.mk ⟨a⟩)[0 + i]'hs = a[0 + i]'(by omega) := rfl
      rw [this]; simp
    rw [e] at this
    exact (UInt8.toNat_inj.1 this).symm
/-- A plain tree's text, read. -/
theorem rpar_txt (d : Tr) (h1 : pl d = true) (h2 : dp d ≤ 200) (h3 : (txt d).length ≤ 65536) : rpar (bstr (txt d)) = .ok d (txt d).length := by
  have hs : (bstr (txt d)).size = (txt d).length := by show (txt d).toArray.size = _; simp
  unfold rpar
  rw [hs, if_neg (by omega), (rt_txt (bstr (txt d)) (2 * (txt d).length + 2)).1 0 1 d h1 (Nat.le_refl _) (by omega) (Ps_bstr _) (by omega)]
  simp
/-- A text that is read, written. -/
theorem rpar_back {s : ByteArray} {d : Tr} {q : Nat} (h : rpar s = .ok d q) : pl d = true ∧ dp d ≤ 200 ∧ (txt d).length ≤ 65536 ∧ bstr (txt d) = s := by
  unfold rpar at h
  split at h
  · cases h
  rename_i hs
  split at h
  · cases h
  rename_i d' q' hr
  split at h
  · cases h
  rename_i hq
  cases h
  obtain ⟨a, b, c, e⟩ := (rt_back s _).1 _ _ _ _ hr (Nat.le_refl _)
  have := c.1
  exact ⟨a, by omega, by omega, bstr_of_Ps c (by omega)⟩
theorem rpar_bad {s : ByteArray} {q c : Nat} (h : rpar s = .bad q c) : c ≠ 0 ∧ q ≤ s.size := by
  unfold rpar at h
  split at h
  · cases h; exact ⟨by omega, by omega⟩
  split at h
  · rename_i hr; cases h; exact (rt_bad s _).1 _ _ _ _ hr (by omega) (by omega)
  rename_i hr
  split at h
  · cases h; exact ⟨by omega, by omega⟩
  · cases h
end Go.Proofs.YtlnlkbkmnkjbhaaDoor
