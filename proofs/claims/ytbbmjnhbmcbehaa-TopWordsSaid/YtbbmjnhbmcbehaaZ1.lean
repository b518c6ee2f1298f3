/- A set's text with a quoted text behind it: their words. -/
import Derived.Test.YtbbmjnhbmcbehaaK1
import Derived.Test.YtbbmjnhbmcbehaaQ1
namespace Go.Proofs.Ytbbmjnhbmcbehaa

theorem sign_plain : ∀ n : Fin 256, plain n.val = true → (UInt8.ofNat n.val).toNat ≠ 93 ∧ (UInt8.ofNat n.val).toNat ≠ 92 := by decide +kernel
theorem hex_plain : ∀ n : Fin 16, (hexd n.val).toNat ≠ 93 ∧ (hexd n.val).toNat ≠ 92 := by decide +kernel
theorem clo_sign (n : Nat) (h : n < 256) (r : List UInt8) (k : Nat) : clo (signL n ++ r) k = clo r (k + (signL n).length) := by
  unfold signL
  split
  · rename_i hp
    obtain ⟨h1, h2⟩ := sign_plain ⟨n, h⟩ hp
    rw [List.singleton_append, clo_on _ _ _ h1 h2]; rfl
  · unfold escL
    split
    · obtain ⟨h1, h2⟩ := hex_plain ⟨n / 16, by omega⟩
      obtain ⟨h3, h4⟩ := hex_plain ⟨n % 16, by omega⟩
      simp only [List.cons_append, List.nil_append]
      rw [clo_esc _ _ _ (by decide)]
      simp only [List.drop_succ_cons, List.drop_zero]
      rw [clo_on _ _ _ h1 h2, clo_on _ _ _ h3 h4]
      rfl
    · simp only [List.cons_append, List.nil_append]
      rw [clo_esc _ _ _ (by decide)]
      simp only [List.drop_succ_cons, List.drop_zero]
      rfl
theorem clo_item (r : Nat × Nat) (h1 : r.1 < 256) (h2 : r.2 < 256) (t : List UInt8) (k : Nat) : clo (itemL r ++ t) k = clo t (k + (itemL r).length) := by
  unfold itemL
  rw [List.append_assoc, clo_sign _ h1]
  by_cases ha : r.1 + 1 < r.2
  · rw [if_pos ha, if_pos (by omega : r.1 < r.2)]
    simp only [List.cons_append, List.nil_append]
    rw [clo_on _ _ _ (by decide) (by decide), clo_sign _ h2]
    congr 1
    simp; omega
  · rw [if_neg ha]
    by_cases hb : r.1 < r.2
    · rw [if_pos hb]
      simp only [List.nil_append]
      rw [clo_sign _ h2]
      congr 1
      simp; omega
    · rw [if_neg hb]; simp
theorem clo_items : ∀ (rs : List (Nat × Nat)), (∀ r ∈ rs, r.1 < 256 ∧ r.2 < 256 ∧ r.1 ≤ r.2) → ∀ (t : List UInt8) (k : Nat), clo (rs.flatMap itemL ++ 93 :: t) k = k + (rs.flatMap itemL).length + 1
  | [], _, t, k => by
    simp only [List.flatMap_nil, List.nil_append]
    rw [clo_end _ _ _ (by decide)]; rfl
  | r :: rs, h, t, k => by
    have hr := h r (by simp)
    rw [List.flatMap_cons, List.append_assoc, clo_item r hr.1 hr.2.1, clo_items rs (fun q hq => h q (by simp [hq])), List.length_append]
    omega
theorem clo_print (s : St) (t : List UInt8) : clo ((printL s ++ t).drop 1) 1 = (printL s).length := by
  have h := (runs_small s 256 (by omega)).1
  unfold printL textL
  simp only [List.cons_append, List.append_assoc, List.drop_succ_cons, List.drop_zero, List.nil_append]
  rw [clo_items _ h]
  simp; omega
theorem rdw_print (s : St) (hs : s.ok) (t : List UInt8) : rdw (printL s ++ t) = ⟨5, (printL s).length, [], s, 0, 0, 0⟩ := by
  have hc := clo_print s t
  have e : ∃ q, printL s ++ t = 91 :: q := ⟨_, rfl⟩
  obtain ⟨q, e⟩ := e
  have hz : (printL s).length ≠ 0 := by unfold printL; simp
  have ht : (printL s ++ t).take (printL s).length = printL s := by simp
  have hp := back s hs
  have hr : rdSet (printL s ++ t) = ⟨5, (printL s).length, [], s, 0, 0, 0⟩ := by
    unfold rdSet
    rw [hc, if_neg hz, ht, hp, if_pos rfl]
  rw [e] at hr ⊢
  rw [← hr]
  rfl
theorem rdw_quote (L : List Nat) (hL : ∀ n ∈ L, n < 256) : rdw (quoteL L) = ⟨4, (quoteL L).length, L, St.zero, 0, 0, 0⟩ := by
  have hq := quoted_back L hL []
  rw [List.append_nil] at hq
  have e : ∃ q, quoteL L = 34 :: q := ⟨_, rfl⟩
  obtain ⟨q, e⟩ := e
  have hr : rdText (quoteL L) = ⟨4, (quoteL L).length, L, St.zero, 0, 0, 0⟩ := by
    unfold rdText
    rw [hq, if_pos rfl]
  rw [e] at hr ⊢
  rw [← hr]
  rfl
theorem print_len (s : St) : (printL s).length ≤ 2306 := by
  have h := text_le (runsOf (upTo s 256)) (fun r hr => ⟨((runs_small s 256 (by omega)).1 r hr).1, ((runs_small s 256 (by omega)).1 r hr).2.1⟩)
  have h2 := runs_count s
  unfold printL
  rw [List.length_append, List.length_singleton]
  omega
/-- The set and the text are two words, and behind them is the end. -/
theorem top_words (s : St) (hs : s.ok) (L : List Nat) (hL : ∀ n ∈ L, n < 256) (hl : L.length ≤ 10000) :
    ∃ a b c : Wd, scan (printL s ++ quoteL L) = ([a, b, c], 0, 0) ∧ a.kind = 5 ∧ a.set = s ∧ b.kind = 4 ∧ b.bytes = L ∧ c.kind = 7 := by
  have h1 := print_len s
  have h2 := quoteL_len L hL
  have hz : (printL s).length ≠ 0 := by unfold printL; simp
  have hy : (quoteL L).length ≠ 0 := by unfold quoteL; simp
  have r1 := rdw_print s hs (quoteL L)
  have r2 := rdw_quote L hL
  have k1 : ∀ p ln bg, skp (printL s ++ quoteL L) false p ln bg = (printL s ++ quoteL L, p, ln, bg) := by
    intro p ln bg
    obtain ⟨q, e⟩ : ∃ q, printL s ++ quoteL L = 91 :: q := ⟨_, rfl⟩
    rw [e]; rfl
  have k2 : ∀ p ln bg, skp (quoteL L) false p ln bg = (quoteL L, p, ln, bg) := by
    intro p ln bg
    obtain ⟨q, e⟩ : ∃ q, quoteL L = 34 :: q := ⟨_, rfl⟩
    rw [e]; rfl
  have d1 : (printL s ++ quoteL L).drop (printL s).length = quoteL L := by simp
  have d2 : (quoteL L).drop (quoteL L).length = [] := by simp
  obtain ⟨m, hm⟩ : ∃ m, (printL s ++ quoteL L).length + 1 = m + 3 := ⟨(printL s ++ quoteL L).length - 2, by rw [List.length_append]; omega⟩
  unfold scan
  rw [if_neg (by rw [List.length_append]; omega), hm]
  unfold scn
  simp only [k1, r1]
  rw [if_neg (by decide), if_neg (by decide), d1]
  unfold scn
  simp only [k2, r2]
  rw [if_neg (by decide), if_neg (by decide), d2]
  unfold scn
  exact ⟨_, _, _, rfl, rfl, rfl, rfl, rfl, rfl⟩
end Go.Proofs.Ytbbmjnhbmcbehaa
