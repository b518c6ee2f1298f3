/- The document's own Right. -/
import Derived.Test.YtlkcadibjmfmcaaDoorNd
import Derived.BigQuiet
import Derived.Deep.QuietTactic
namespace Go.Proofs.YtlkcadibjmfmcaaDoor
open Go.RowKit

mutual
/-- May each part stand, wherever it stands? -/
def wl : Tm → Bool | .mk k c t l => okC k c t.length l.length && wlL l
def wlL : List Tm → Bool | [] => true | d :: l => wl d && wlL l
end
theorem wl_eq (d : Tm) : wl d = (okK d && wlL d.kids) := by cases d; rw [wl]; rfl
theorem wlL_take {l : List Tm} {k : Nat} {d : Tm} (h : l[k]? = some d) : wlL (l.take (k + 1)) = (wlL (l.take k) && wl d) := by
  induction l generalizing k with
  | nil => cases h
  | cons x l ih =>
    cases k with
    | zero => simp at h; subst h; simp [wlL]
    | succ k =>
      simp at h
      rw [List.take_succ_cons, List.take_succ_cons, wlL, wlL, ih h, Bool.and_assoc]
theorem wlL_bad {l : List Tm} {k : Nat} {d : Tm} (h : l[k]? = some d) (hb : wl d = false) : wlL l = false := by
  induction l generalizing k with
  | nil => cases h
  | cons x l ih =>
    cases k with
    | zero => simp at h; subst h; simp [wlL, hb]
    | succ k => simp at h; rw [wlL, ih h, Bool.and_false]
mutual
theorem pre_ok : ∀ (d : Tm) (m : Nat), 1 ≤ m → (pre d m).all okP = (decide (m - 1 + dp d ≤ 200) && wl d)
  | .mk k c t l, m, h => by
    rw [pre, List.all_cons, dp, wl]
    show (decide (m ≤ 200) && okC k c t.length l.length && _) = _
    by_cases hm : m ≤ 200
    · rw [preL_ok l (m + 1) (by omega) (by omega)]
      have e : (m + 1 - 1 + dpL l ≤ 200) = (m - 1 + (1 + dpL l) ≤ 200) := by rw [show m + 1 - 1 + dpL l = m - 1 + (1 + dpL l) by omega]
      simp only [e, decide_eq_true hm, Bool.true_and]
      cases okC k c t.length l.length <;> cases wlL l <;> simp
    · rw [decide_eq_false hm, decide_eq_false (show ¬ m - 1 + (1 + dpL l) ≤ 200 by omega)]; simp
theorem preL_ok : ∀ (l : List Tm) (m : Nat), 1 ≤ m → m ≤ 201 → (preL l m).all okP = (decide (m - 1 + dpL l ≤ 200) && wlL l)
  | [], m, h, h2 => by rw [preL, dpL, wlL, decide_eq_true (show m - 1 + 0 ≤ 200 by omega)]; rfl
  | d :: l, m, h, h2 => by
    rw [preL, dpL, wlL, List.all_append, pre_ok d m h, preL_ok l m h h2]
    by_cases h3 : m - 1 + dp d ≤ 200
    · by_cases h4 : m - 1 + dpL l ≤ 200
      · rw [decide_eq_true h3, decide_eq_true h4, decide_eq_true (show m - 1 + max (dp d) (dpL l) ≤ 200 by omega)]; simp
      · rw [decide_eq_false h4, decide_eq_false (show ¬ m - 1 + max (dp d) (dpL l) ≤ 200 by omega)]; simp
    · rw [decide_eq_false h3, decide_eq_false (show ¬ m - 1 + max (dp d) (dpL l) ≤ 200 by omega)]; simp
end
theorem rightT_eq (d : Tm) : rightT d = (decide (dp d ≤ 200) && wl d) := by
  have := pre_ok d 1 (Nat.le_refl 1)
  rw [Nat.sub_self, Nat.zero_add] at this
  exact this
set_option maxRecDepth 100000 in
set_option maxHeartbeats 8000000 in
theorem well_any (f : Nat) : ∀ (N : Nat) (d : Tm) (ta : Option Addr) (tc : Nat) (sa : Option Addr) (sc : Nat) (w : World), sz d ≤ N → MAt w w.heap.size f sa d.kids →
    Calls Tryd.prog 40 #[.agg #[.int .i64 d.kind, .string d.cons, .slice ta d.text.length tc, .slice sa d.kids.length sc]] w fun e w' => e = .returned (.bool (wl d)) ∧ Below w.heap.size w w' := by
  intro N
  induction N with
  | zero => intro d ta tc sa sc w hN; rw [sz_eq] at hN; omega
  | succ N ih =>
  intro d ta tc sa sc w hN hk
  obtain ⟨kd, cn, t, l⟩ := d
  simp only [Tm.kind, Tm.cons, Tm.text, Tm.kids] at hk ⊢
  have hlen := hk.len
  have hsz : sz (.mk kd cn t l) = 1 + szL l := sz_eq _
  have hwl : wl (.mk kd cn t l) = (okC kd cn t.length l.length && wlL l) := wl_eq _
  obtain ⟨w1, hw1⟩ : ∃ w1, w.alloc (.cells #[.int .i64 kd, .string cn, .slice ta t.length tc, .slice sa l.length sc] 25) = w1 := ⟨_, rfl⟩
  have hB1 : Below w.heap.size w w1 := by rw [← hw1]; exact (Below.refl _ _).alloc (Nat.le_refl _) _
  have s1 : w1.heap.size = w.heap.size + 1 := by rw [← hw1]; simp
  have a0 : w1.cell? ⟨w.heap.size, 0, none⟩ = some (.int .i64 kd) := by rw [← hw1]; exact cell_new 0 rfl
  have a1 : w1.cell? ⟨w.heap.size, 1, none⟩ = some (.string cn) := by rw [← hw1]; exact cell_new 1 rfl
  have a2 : w1.cell? ⟨w.heap.size, 2, none⟩ = some (.slice ta t.length tc) := by rw [← hw1]; exact cell_new 2 rfl
  have a3 : w1.cell? ⟨w.heap.size, 3, none⟩ = some (.slice sa l.length sc) := by rw [← hw1]; exact cell_new 3 rfl
  generalize wl (.mk kd cn t l) = R at *
  have HW : Hid _ := hwl
  have HI : Hid _ := ih
  have HK : Hid _ := hk
  have HN' : Hid (szL l ≤ N) := by show _ ≤ _; omega
  have HB1 : Hid _ := hB1
  have HS1 : Hid _ := s1
  clear hsz hwl ih hk hN hB1 s1
  go_enter Tryd.func40, Tryd.ntmps40
  go_wp2
  go_loopw [3] (fun i W => ∃ k : Nat, k ≤ l.length ∧ i = .int .i64 k ∧ wlL (l.take k) = true ∧ Below w1.heap.size w1 W) (fun i _ => l.length - (intOf i).toNat)
  case atStart => exact ⟨0, by omega, rfl, by simp [wlL], Below.refl _ _⟩
  case round =>
    obtain ⟨k, hk, rfl, hwk, hB⟩ := hrel
    have hs1 := HS1.out
    have bb : ∀ j, wr.cell? ⟨w.heap.size, j, none⟩ = w1.cell? ⟨w.heap.size, j, none⟩ := fun j => hB.cell (p := ⟨w.heap.size, j, none⟩) (by show w.heap.size < _; omega)
    have b0 := (bb 0).trans a0
    have b1 := (bb 1).trans a1
    have b2 := (bb 2).trans a2
    have b3 := (bb 3).trans a3
    have HBw : Hid (Below w.heap.size w wr) := HB1.out.trans (hB.mono (by omega))
    have HB : Hid _ := hB
    clear hB hs1 bb a0 a1 a2 a3
    by_cases hlt : k < l.length
    · obtain ⟨x, hx⟩ : ∃ x, l[k]? = some x := ⟨l[k], by simp [hlt]⟩
      obtain ⟨b, o, hsa, hb, xa, xc, c0, c1, ⟨ya, yc, c2, _⟩, c3, hxc, hxk⟩ := ((HK.out.keep HBw.out).mono HBw.out.size).one hx
      have hzx := szL_take hx
      have hle := szL_take_le l (k + 1)
      have HC : Hid _ := fun (_ : Unit) => HI.out x ya yc xa xc wr (by have := HN'.out; omega) hxk
      have HT : Hid _ := wlL_take hx
      have HX : Hid (wl x = false → R = false) := fun h => by rw [HW.out, wlL_bad hx h, Bool.and_false]
      subst hsa
      clear hzx hle hx hxk
      cases hg : wl x with
      | true =>
        rw [hg] at HC HT
        have HT' : Hid (wlL (l.take (k + 1)) = true) := by show _ = _; rw [HT.out, hwk]; rfl
        clear hg HT hwk HX
        go_wp2_with (go_at_call 40; refine (HC.out ()).mono ?_; rintro e w2 ⟨rfl, hb2⟩)
        exact ⟨⟨k + 1, by omega, by go_num, HT'.out, HB.out.trans (hb2.mono HB.out.size)⟩, by simp [intOf]; omega⟩
      | false =>
        have HR : Hid _ := HX.out hg
        rw [hg] at HC
        clear hg HT hwk HX
        go_wp2_with (go_at_call 40; refine (HC.out ()).mono ?_; rintro e w2 ⟨rfl, hb2⟩)
        go_ret
        exact ⟨ret_bool (by rw [HR.out]), HBw.out.trans (hb2.mono HBw.out.size)⟩
    · obtain rfl : k = l.length := by omega
      rw [List.take_length] at hwk
      have HE : Hid (R = okC kd cn t.length l.length) := by show _ = _; rw [HW.out, hwk, Bool.and_true]
      have HN : Hid _ := fun w => rname_any cn w
      clear hwk HW HI HK HN' hlt hk
      generalize l.length = kl at *
      go_wp2
      by_cases h0 : cn.size = 0
      · obtain rfl := str_empty cn h0
        by_cases ht : t.length = 0
        · rw [ht] at b2 HE
          clear ht
          go_quiet (fail)
          by_cases h1 : kd = 1
          · subst h1
            go_wp2_with (go_at_call 58; refine (HN.out _).mono ?_; rintro e w' ⟨rfl, rfl⟩)
            all_goals (go_ret; refine ⟨ret_bool ?_, HBw.out.trans ⟨rfl, rfl, rfl, Nat.le_refl _, fun _ _ => rfl⟩⟩; rw [HE.out]; simp [okC, *]; try (rw [Bool.eq_iff_iff]; simp; try omega))
          have g1 : (kd == 1) = false := by simpa using h1
          by_cases h2 : kd = 2
          · subst h2
            go_wp2_with (go_at_call 58; refine (HN.out _).mono ?_; rintro e w' ⟨rfl, rfl⟩)
            all_goals (go_ret; refine ⟨ret_bool ?_, HBw.out.trans ⟨rfl, rfl, rfl, Nat.le_refl _, fun _ _ => rfl⟩⟩; rw [HE.out]; simp [okC, *]; try (rw [Bool.eq_iff_iff]; simp; try omega))
          have g2 : (kd == 2) = false := by simpa using h2
          by_cases h3 : kd = 3
          · subst h3
            go_wp2_with (go_at_call 58; refine (HN.out _).mono ?_; rintro e w' ⟨rfl, rfl⟩)
            all_goals (go_ret; refine ⟨ret_bool ?_, HBw.out.trans ⟨rfl, rfl, rfl, Nat.le_refl _, fun _ _ => rfl⟩⟩; rw [HE.out]; simp [okC, *]; try (rw [Bool.eq_iff_iff]; simp; try omega))
          have g3 : (kd == 3) = false := by simpa using h3
          by_cases h4 : kd = 4
          · subst h4
            go_wp2_with (go_at_call 58; refine (HN.out _).mono ?_; rintro e w' ⟨rfl, rfl⟩)
            all_goals (go_ret; refine ⟨ret_bool ?_, HBw.out.trans ⟨rfl, rfl, rfl, Nat.le_refl _, fun _ _ => rfl⟩⟩; rw [HE.out]; simp [okC, *]; try (rw [Bool.eq_iff_iff]; simp; try omega))
          have g4 : (kd == 4) = false := by simpa using h4
          by_cases h5 : kd = 5
          · subst h5
            go_wp2_with (go_at_call 58; refine (HN.out _).mono ?_; rintro e w' ⟨rfl, rfl⟩)
            all_goals (go_ret; refine ⟨ret_bool ?_, HBw.out.trans ⟨rfl, rfl, rfl, Nat.le_refl _, fun _ _ => rfl⟩⟩; rw [HE.out]; simp [okC, *]; try (rw [Bool.eq_iff_iff]; simp; try omega))
          have g5 : (kd == 5) = false := by simpa using h5
          go_wp2_with (go_at_call 58; refine (HN.out _).mono ?_; rintro e w' ⟨rfl, rfl⟩)
          all_goals (go_ret; refine ⟨ret_bool ?_, HBw.out.trans ⟨rfl, rfl, rfl, Nat.le_refl _, fun _ _ => rfl⟩⟩; rw [HE.out]; simp [okC, *]; try (rw [Bool.eq_iff_iff]; simp; try omega))
        · have ht2 : 0 < t.length := by omega
          have ht' : ((t.length : Int) == 0) = false := by rw [beq_eq_false_iff_ne]; omega
          go_quiet (fail)
          by_cases h1 : kd = 1
          · subst h1
            go_wp2_with (go_at_call 58; refine (HN.out _).mono ?_; rintro e w' ⟨rfl, rfl⟩)
            all_goals (go_ret; refine ⟨ret_bool ?_, HBw.out.trans ⟨rfl, rfl, rfl, Nat.le_refl _, fun _ _ => rfl⟩⟩; rw [HE.out]; simp [okC, *]; try (rw [Bool.eq_iff_iff]; simp; try omega))
          have g1 : (kd == 1) = false := by simpa using h1
          by_cases h2 : kd = 2
          · subst h2
            go_wp2_with (go_at_call 58; refine (HN.out _).mono ?_; rintro e w' ⟨rfl, rfl⟩)
            all_goals (go_ret; refine ⟨ret_bool ?_, HBw.out.trans ⟨rfl, rfl, rfl, Nat.le_refl _, fun _ _ => rfl⟩⟩; rw [HE.out]; simp [okC, *]; try (rw [Bool.eq_iff_iff]; simp; try omega))
          have g2 : (kd == 2) = false := by simpa using h2
          by_cases h3 : kd = 3
          · subst h3
            go_wp2_with (go_at_call 58; refine (HN.out _).mono ?_; rintro e w' ⟨rfl, rfl⟩)
            all_goals (go_ret; refine ⟨ret_bool ?_, HBw.out.trans ⟨rfl, rfl, rfl, Nat.le_refl _, fun _ _ => rfl⟩⟩; rw [HE.out]; simp [okC, *]; try (rw [Bool.eq_iff_iff]; simp; try omega))
          have g3 : (kd == 3) = false := by simpa using h3
          by_cases h4 : kd = 4
          · subst h4
            go_wp2_with (go_at_call 58; refine (HN.out _).mono ?_; rintro e w' ⟨rfl, rfl⟩)
            all_goals (go_ret; refine ⟨ret_bool ?_, HBw.out.trans ⟨rfl, rfl, rfl, Nat.le_refl _, fun _ _ => rfl⟩⟩; rw [HE.out]; simp [okC, *]; try (rw [Bool.eq_iff_iff]; simp; try omega))
          have g4 : (kd == 4) = false := by simpa using h4
          by_cases h5 : kd = 5
          · subst h5
            go_wp2_with (go_at_call 58; refine (HN.out _).mono ?_; rintro e w' ⟨rfl, rfl⟩)
            all_goals (go_ret; refine ⟨ret_bool ?_, HBw.out.trans ⟨rfl, rfl, rfl, Nat.le_refl _, fun _ _ => rfl⟩⟩; rw [HE.out]; simp [okC, *]; try (rw [Bool.eq_iff_iff]; simp; try omega))
          have g5 : (kd == 5) = false := by simpa using h5
          go_wp2_with (go_at_call 58; refine (HN.out _).mono ?_; rintro e w' ⟨rfl, rfl⟩)
          all_goals (go_ret; refine ⟨ret_bool ?_, HBw.out.trans ⟨rfl, rfl, rfl, Nat.le_refl _, fun _ _ => rfl⟩⟩; rw [HE.out]; simp [okC, *]; try (rw [Bool.eq_iff_iff]; simp; try omega))
      · have hne := ne_empty cn h0
        have hne' : ¬ cn.toList = [] := by intro h; rw [h] at hne; cases hne
        by_cases ht : t.length = 0
        · rw [ht] at b2 HE
          clear ht
          go_quiet (fail)
          by_cases h1 : kd = 1
          · subst h1
            go_wp2_with (go_at_call 58; refine (HN.out _).mono ?_; rintro e w' ⟨rfl, rfl⟩)
            all_goals (go_ret; refine ⟨ret_bool ?_, HBw.out.trans ⟨rfl, rfl, rfl, Nat.le_refl _, fun _ _ => rfl⟩⟩; rw [HE.out]; simp [okC, *]; try (rw [Bool.eq_iff_iff]; simp; try omega))
          have g1 : (kd == 1) = false := by simpa using h1
          by_cases h2 : kd = 2
          · subst h2
            go_wp2_with (go_at_call 58; refine (HN.out _).mono ?_; rintro e w' ⟨rfl, rfl⟩)
            all_goals (go_ret; refine ⟨ret_bool ?_, HBw.out.trans ⟨rfl, rfl, rfl, Nat.le_refl _, fun _ _ => rfl⟩⟩; rw [HE.out]; simp [okC, *]; try (rw [Bool.eq_iff_iff]; simp; try omega))
          have g2 : (kd == 2) = false := by simpa using h2
          by_cases h3 : kd = 3
          · subst h3
            go_wp2_with (go_at_call 58; refine (HN.out _).mono ?_; rintro e w' ⟨rfl, rfl⟩)
            all_goals (go_ret; refine ⟨ret_bool ?_, HBw.out.trans ⟨rfl, rfl, rfl, Nat.le_refl _, fun _ _ => rfl⟩⟩; rw [HE.out]; simp [okC, *]; try (rw [Bool.eq_iff_iff]; simp; try omega))
          have g3 : (kd == 3) = false := by simpa using h3
          by_cases h4 : kd = 4
          · subst h4
            go_wp2_with (go_at_call 58; refine (HN.out _).mono ?_; rintro e w' ⟨rfl, rfl⟩)
            all_goals (go_ret; refine ⟨ret_bool ?_, HBw.out.trans ⟨rfl, rfl, rfl, Nat.le_refl _, fun _ _ => rfl⟩⟩; rw [HE.out]; simp [okC, *]; try (rw [Bool.eq_iff_iff]; simp; try omega))
          have g4 : (kd == 4) = false := by simpa using h4
          by_cases h5 : kd = 5
          · subst h5
            go_wp2_with (go_at_call 58; refine (HN.out _).mono ?_; rintro e w' ⟨rfl, rfl⟩)
            all_goals (go_ret; refine ⟨ret_bool ?_, HBw.out.trans ⟨rfl, rfl, rfl, Nat.le_refl _, fun _ _ => rfl⟩⟩; rw [HE.out]; simp [okC, *]; try (rw [Bool.eq_iff_iff]; simp; try omega))
          have g5 : (kd == 5) = false := by simpa using h5
          go_wp2_with (go_at_call 58; refine (HN.out _).mono ?_; rintro e w' ⟨rfl, rfl⟩)
          all_goals (go_ret; refine ⟨ret_bool ?_, HBw.out.trans ⟨rfl, rfl, rfl, Nat.le_refl _, fun _ _ => rfl⟩⟩; rw [HE.out]; simp [okC, *]; try (rw [Bool.eq_iff_iff]; simp; try omega))
        · have ht2 : 0 < t.length := by omega
          have ht' : ((t.length : Int) == 0) = false := by rw [beq_eq_false_iff_ne]; omega
          go_quiet (fail)
          by_cases h1 : kd = 1
          · subst h1
            go_wp2_with (go_at_call 58; refine (HN.out _).mono ?_; rintro e w' ⟨rfl, rfl⟩)
            all_goals (go_ret; refine ⟨ret_bool ?_, HBw.out.trans ⟨rfl, rfl, rfl, Nat.le_refl _, fun _ _ => rfl⟩⟩; rw [HE.out]; simp [okC, *]; try (rw [Bool.eq_iff_iff]; simp; try omega))
          have g1 : (kd == 1) = false := by simpa using h1
          by_cases h2 : kd = 2
          · subst h2
            go_wp2_with (go_at_call 58; refine (HN.out _).mono ?_; rintro e w' ⟨rfl, rfl⟩)
            all_goals (go_ret; refine ⟨ret_bool ?_, HBw.out.trans ⟨rfl, rfl, rfl, Nat.le_refl _, fun _ _ => rfl⟩⟩; rw [HE.out]; simp [okC, *]; try (rw [Bool.eq_iff_iff]; simp; try omega))
          have g2 : (kd == 2) = false := by simpa using h2
          by_cases h3 : kd = 3
          · subst h3
            go_wp2_with (go_at_call 58; refine (HN.out _).mono ?_; rintro e w' ⟨rfl, rfl⟩)
            all_goals (go_ret; refine ⟨ret_bool ?_, HBw.out.trans ⟨rfl, rfl, rfl, Nat.le_refl _, fun _ _ => rfl⟩⟩; rw [HE.out]; simp [okC, *]; try (rw [Bool.eq_iff_iff]; simp; try omega))
          have g3 : (kd == 3) = false := by simpa using h3
          by_cases h4 : kd = 4
          · subst h4
            go_wp2_with (go_at_call 58; refine (HN.out _).mono ?_; rintro e w' ⟨rfl, rfl⟩)
            all_goals (go_ret; refine ⟨ret_bool ?_, HBw.out.trans ⟨rfl, rfl, rfl, Nat.le_refl _, fun _ _ => rfl⟩⟩; rw [HE.out]; simp [okC, *]; try (rw [Bool.eq_iff_iff]; simp; try omega))
          have g4 : (kd == 4) = false := by simpa using h4
          by_cases h5 : kd = 5
          · subst h5
            go_wp2_with (go_at_call 58; refine (HN.out _).mono ?_; rintro e w' ⟨rfl, rfl⟩)
            all_goals (go_ret; refine ⟨ret_bool ?_, HBw.out.trans ⟨rfl, rfl, rfl, Nat.le_refl _, fun _ _ => rfl⟩⟩; rw [HE.out]; simp [okC, *]; try (rw [Bool.eq_iff_iff]; simp; try omega))
          have g5 : (kd == 5) = false := by simpa using h5
          go_wp2_with (go_at_call 58; refine (HN.out _).mono ?_; rintro e w' ⟨rfl, rfl⟩)
          all_goals (go_ret; refine ⟨ret_bool ?_, HBw.out.trans ⟨rfl, rfl, rfl, Nat.le_refl _, fun _ _ => rfl⟩⟩; rw [HE.out]; simp [okC, *]; try (rw [Bool.eq_iff_iff]; simp; try omega))

set_option maxRecDepth 100000 in
set_option maxHeartbeats 4000000 in
theorem refRight_any (d : Tm) (ta : Option Addr) (tc : Nat) (sa : Option Addr) (sc f : Nat) (w : World) (hk : MAt w w.heap.size f sa d.kids) (hlen : sz d ≤ 1000000000000) :
    Calls Tryd.prog 20 #[.agg #[.int .i64 d.kind, .string d.cons, .slice ta d.text.length tc, .slice sa d.kids.length sc]] w fun e w' => e = .returned (.bool (rightT d)) ∧ Below w.heap.size w w' := by
  obtain ⟨w1, hw1⟩ : ∃ w1, w.alloc (.cells #[.int .i64 d.kind, .string d.cons, .slice ta d.text.length tc, .slice sa d.kids.length sc] 25) = w1 := ⟨_, rfl⟩
  have hB1 : Below w.heap.size w w1 := by rw [← hw1]; exact (Below.refl _ _).alloc (Nat.le_refl _) _
  have s1 : w1.heap.size = w.heap.size + 1 := by rw [← hw1]; simp
  have aa : ∀ j v, (#[.int .i64 d.kind, .string d.cons, .slice ta d.text.length tc, .slice sa d.kids.length sc] : Array Value)[j]? = some v → w1.cell? ⟨w.heap.size, j, none⟩ = some v := fun j v hv => by rw [← hw1]; exact cell_new j hv
  have a0 := aa 0 _ rfl
  have a1 := aa 1 _ rfl
  have a2 := aa 2 _ rfl
  have a3 := aa 3 _ rfl
  have HQ : Hid (∀ W, Below w1.heap.size w1 W → W.cell? ⟨w.heap.size, 0, none⟩ = some (.int .i64 d.kind) ∧ W.cell? ⟨w.heap.size, 1, none⟩ = some (.string d.cons) ∧ W.cell? ⟨w.heap.size, 2, none⟩ = some (.slice ta d.text.length tc) ∧ W.cell? ⟨w.heap.size, 3, none⟩ = some (.slice sa d.kids.length sc)) := fun W hW => by
    have k : ∀ j, W.cell? ⟨w.heap.size, j, none⟩ = w1.cell? ⟨w.heap.size, j, none⟩ := fun j => hW.cell (p := ⟨w.heap.size, j, none⟩) (by show w.heap.size < _; omega)
    exact ⟨(k 0).trans a0, (k 1).trans a1, (k 2).trans a2, (k 3).trans a3⟩
  have HS : Hid _ := fun (_ : Unit) => refSize_any f (sz d) d (.slice ta d.text.length tc) sa sc w1 (Nat.le_refl _) ((hk.keep hB1).mono hB1.size) hlen
  have HW : Hid _ := fun (W : World) (hW : Below w1.heap.size w1 W) => well_any f (sz d) d ta tc sa sc W (Nat.le_refl _) ((hk.keep (hB1.trans (hW.mono hB1.size))).mono (Nat.le_trans hB1.size hW.size))
  have HE : Hid _ := rightT_eq d
  have HB : Hid _ := hB1
  clear aa hk hB1 s1
  generalize rightT d = R at *
  generalize wl d = g at *
  by_cases h : dp d ≤ 200
  · have h' : (dp d : Int) ≤ 200 := by omega
    rw [decide_eq_true h, Bool.true_and] at HE
    go_enter Tryd.func20, Tryd.ntmps20
    go_wp2_with (go_at_call 16; refine (HS.out ()).mono ?_)
    rintro e w2 ⟨rfl, hb2⟩
    obtain ⟨c0, c1, c2, c3⟩ := HQ.out w2 hb2
    have HC : Hid _ := fun (_ : Unit) => HW.out w2 hb2
    go_wp2_with (go_at_call 40; refine (HC.out ()).mono ?_)
    rintro e w3 ⟨rfl, hb3⟩
    go_wp2
    go_ret
    exact ⟨ret_bool (by rw [HE.out]), HB.out.trans ((hb2.mono HB.out.size).trans (hb3.mono (Nat.le_trans HB.out.size hb2.size)))⟩
  · have h' : ¬ (dp d : Int) ≤ 200 := by omega
    rw [decide_eq_false h, Bool.false_and] at HE
    go_enter Tryd.func20, Tryd.ntmps20
    go_wp2_with (go_at_call 16; refine (HS.out ()).mono ?_; rintro e w2 ⟨rfl, hb2⟩)
    go_ret
    exact ⟨ret_bool (by rw [HE.out]), HB.out.trans (hb2.mono HB.out.size)⟩
end Go.Proofs.YtlkcadibjmfmcaaDoor
