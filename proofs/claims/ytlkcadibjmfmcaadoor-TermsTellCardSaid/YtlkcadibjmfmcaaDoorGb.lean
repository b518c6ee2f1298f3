/- The law TermsApart, walked. -/
import Derived.Test.YtlkcadibjmfmcaaDoorGa
namespace Go.Proofs.YtlkcadibjmfmcaaDoor
open Go.RowKit

/-- A place where a walk is to stand. -/
def Held (p : Prop) : Prop := p
theorem hold_it {p : Prop} (h : Held p) : p := h
theorem prt_cases (d : Tm) : (prt d = (bstr (txt d), 0) ∧ wl d = true ∧ dp d ≤ 200 ∧ (txt d).length ≤ 65536) ∨ ∃ c : Int, prt d = (⟨#[]⟩, c) ∧ c ≠ 0 := by
  unfold prt
  split
  · rename_i h
    rw [rightT_eq, Bool.and_eq_true, decide_eq_true_eq] at h
    split
    · rename_i h2
      exact .inl ⟨rfl, h.2, h.1, h2⟩
    · exact .inr ⟨2, rfl, by decide⟩
  · exact .inr ⟨110, rfl, by decide⟩
set_option maxRecDepth 100000 in
set_option maxHeartbeats 8000000 in
theorem termsApart_walk (a : Tm) (ta : Option Addr) (tc : Nat) (sa : Option Addr) (sc : Nat) (b : Tm) (tb : Option Addr) (td : Nat) (sb : Option Addr) (sd : Nat) (w : World) (hka : TA w a ta tc sa sc) (hkb : TA w b tb td sb sd) :
    Calls Tryd.prog 10 #[.agg #[.int .i64 a.kind, .string a.cons, .slice ta a.text.length tc, .slice sa a.kids.length sc], .agg #[.int .i64 b.kind, .string b.cons, .slice tb b.text.length td, .slice sb b.kids.length sd]] w fun e w' => e = .returned (.bool true) ∧ Below w.heap.size w w' := by
  obtain ⟨w2, hw2⟩ : ∃ w2, (w.alloc (.cells #[.int .i64 a.kind, .string a.cons, .slice ta a.text.length tc, .slice sa a.kids.length sc] 25)).alloc (.cells #[.int .i64 b.kind, .string b.cons, .slice tb b.text.length td, .slice sb b.kids.length sd] 25) = w2 := ⟨_, rfl⟩
  have T0 := Tw.first hka hkb w2 hw2
  obtain ⟨e0, e1, e2, e3, g0, g1, g2, g3⟩ := T0.facts
  have HT0 : Hid _ := T0
  clear hka hkb T0
  have HALV : Hid (∀ W, Calls Tryd.prog 13 #[] W fun e w' => e = .returned (.bool true) ∧ Below W.heap.size W w') := fun W => alive_any W
  have HHA : Hid (∀ W, Tw w a b ta tc sa sc tb td sb sd W → Calls Tryd.prog 12 #[.agg #[.int .i64 a.kind, .string a.cons, .slice ta a.text.length tc, .slice sa a.kids.length sc]] W fun e w' => e = .returned (.bool (decide (1000 < wt a))) ∧ Below W.heap.size W w') := fun W h => heavy_t a ta tc sa sc W h.ka
  have HHB : Hid (∀ W, Tw w a b ta tc sa sc tb td sb sd W → Calls Tryd.prog 12 #[.agg #[.int .i64 b.kind, .string b.cons, .slice tb b.text.length td, .slice sb b.kids.length sd]] W fun e w' => e = .returned (.bool (decide (1000 < wt b))) ∧ Below W.heap.size W w') := fun W h => heavy_t b tb td sb sd W h.kb
  by_cases ha : 1000 < wt a
  · rw [decide_eq_true ha] at HHA
    clear ha
    obtain ⟨w1, hw1⟩ : ∃ w1, w.alloc (.cells #[.int .i64 a.kind, .string a.cons, .slice ta a.text.length tc, .slice sa a.kids.length sc] 25) = w1 := ⟨_, rfl⟩
    rw [hw1] at hw2
    have s1 : w1.heap.size = w.heap.size + 1 := by rw [← hw1]; simp
    go_enter Tryd.func10, Tryd.ntmps10
    go_wp2_with (go_at_call 12; refine (HHA.out _ HT0.out).mono ?_; rintro e w3 ⟨rfl, hb3⟩; have HT3 : Hid _ := HT0.out.nx hb3; clear hb3)
    refine (HALV.out _).mono ?_
    rintro e w4 ⟨rfl, hb4⟩
    have HT4 : Hid _ := HT3.out.nx hb4
    clear hb4
    go_wp2
    go_ret
    exact ⟨rfl, HT4.out.bel⟩
  · rw [decide_eq_false ha] at HHA
    by_cases hb : 1000 < wt b
    · rw [decide_eq_true hb] at HHB
      clear ha hb
      obtain ⟨w1, hw1⟩ : ∃ w1, w.alloc (.cells #[.int .i64 a.kind, .string a.cons, .slice ta a.text.length tc, .slice sa a.kids.length sc] 25) = w1 := ⟨_, rfl⟩
      rw [hw1] at hw2
      have s1 : w1.heap.size = w.heap.size + 1 := by rw [← hw1]; simp
      go_enter Tryd.func10, Tryd.ntmps10
      go_wp2_with (go_at_call 12; refine (HHA.out _ HT0.out).mono ?_; rintro e w3 ⟨rfl, hb3⟩; have HT3 : Hid _ := HT0.out.nx hb3; clear hb3; obtain ⟨e0, e1, e2, e3, g0, g1, g2, g3⟩ := HT3.out.facts)
      refine (HHB.out _ HT3.out).mono ?_
      rintro e w5 ⟨rfl, hb5⟩
      have HT5 : Hid _ := HT3.out.nx hb5
      clear hb5
      go_wp2_with (go_at_call 13; refine (HALV.out _).mono ?_; rintro e w4 ⟨rfl, hb4⟩)
      go_ret
      exact ⟨rfl, (HT5.out.nx hb4).bel⟩
    · rw [decide_eq_false hb] at HHB
      have hsz := sz_wt a
      have hszb := sz_wt b
      have HS1 : Hid (∀ W, Tw w a b ta tc sa sc tb td sb sd W → Calls Tryd.prog 22 #[.agg #[.int .i64 a.kind, .string a.cons, .slice ta a.text.length tc, .slice sa a.kids.length sc], .agg #[.int .i64 b.kind, .string b.cons, .slice tb b.text.length td, .slice sb b.kids.length sd]] W fun e w' => e = .returned (.bool (eqT a b)) ∧ Below W.heap.size W w') := fun W h => same_t a b ta tc sa sc tb td sb sd W h.ka h.kb (by omega)
      have HPA : Hid (∀ W, Tw w a b ta tc sa sc tb td sb sd W → Calls Tryd.prog 28 #[.agg #[.int .i64 a.kind, .string a.cons, .slice ta a.text.length tc, .slice sa a.kids.length sc]] W fun e w' => e = .returned (.tuple #[.string (prt a).1, .int .i64 (prt a).2]) ∧ Below W.heap.size W w') := fun W h => print_t a ta tc sa sc W h.ka (by omega)
      have HPB : Hid (∀ W, Tw w a b ta tc sa sc tb td sb sd W → Calls Tryd.prog 28 #[.agg #[.int .i64 b.kind, .string b.cons, .slice tb b.text.length td, .slice sb b.kids.length sd]] W fun e w' => e = .returned (.tuple #[.string (prt b).1, .int .i64 (prt b).2]) ∧ Below W.heap.size W w') := fun W h => print_t b tb td sb sd W h.kb (by omega)
      clear ha hb hsz hszb
      rcases prt_cases a with ⟨ea, wa, da, la⟩ | ⟨ca, ea, hca⟩
      · rw [ea] at HPA
        rcases prt_cases b with ⟨eb, wb, db, lb⟩ | ⟨cb, eb, hcb⟩
        · rw [eb] at HPB
          have hq : ((bstr (txt a)).toList == (bstr (txt b)).toList) = eqT a b := by
            by_cases h : a = b
            · subst h; rw [eqT_true rfl]; simp
            · rw [eqT_false h]
              exact str_bne (fun e => h (txt_inj wa wb da db la (bstr_inj e)))
          generalize bstr (txt a) = X at HPA hq
          generalize bstr (txt b) = Y at HPB hq
          generalize eqT a b = q at HS1 hq
          clear ea eb wa wb da db la lb
          have hqq : (q == q) = true := by simp
          obtain ⟨w1, hw1⟩ : ∃ w1, w.alloc (.cells #[.int .i64 a.kind, .string a.cons, .slice ta a.text.length tc, .slice sa a.kids.length sc] 25) = w1 := ⟨_, rfl⟩
          rw [hw1] at hw2
          have s1 : w1.heap.size = w.heap.size + 1 := by rw [← hw1]; simp
          go_enter Tryd.func10, Tryd.ntmps10
          go_wp2_with (go_at_call 12; refine (HHA.out _ HT0.out).mono ?_; rintro e w3 ⟨rfl, hb3⟩; have HT3 : Hid _ := HT0.out.nx hb3; clear hb3; obtain ⟨e0, e1, e2, e3, g0, g1, g2, g3⟩ := HT3.out.facts)
          refine (HHB.out _ HT3.out).mono ?_
          rintro e w5 ⟨rfl, hb5⟩
          have HT5 : Hid _ := HT3.out.nx hb5
          clear hb5 e0 e1 e2 e3 g0 g1 g2 g3
          obtain ⟨e0, e1, e2, e3, g0, g1, g2, g3⟩ := HT5.out.facts
          go_wp2_with (go_at_call 28; refine (HPA.out _ HT5.out).mono ?_; rintro e w6 ⟨rfl, hb6⟩; have HT6 : Hid _ := HT5.out.nx hb6; clear hb6 e0 e1 e2 e3 g0 g1 g2 g3; obtain ⟨e0, e1, e2, e3, g0, g1, g2, g3⟩ := HT6.out.facts; refine hold_it ?_)
          unfold Held
          go_wp2_with (go_at_call 28; refine (HPB.out _ HT6.out).mono ?_; rintro e w7 ⟨rfl, hb7⟩; have HT7 : Hid _ := HT6.out.nx hb7; clear hb7 e0 e1 e2 e3 g0 g1 g2 g3; obtain ⟨e0, e1, e2, e3, g0, g1, g2, g3⟩ := HT7.out.facts; refine hold_it ?_)
          unfold Held
          go_wp2_with (go_at_call 13; refine (HALV.out _).mono ?_; rintro e w8 ⟨rfl, hb8⟩; have HT8 : Hid _ := HT7.out.nx hb8; clear hb8 e0 e1 e2 e3 g0 g1 g2 g3; obtain ⟨e0, e1, e2, e3, g0, g1, g2, g3⟩ := HT8.out.facts)
          refine (HS1.out _ HT8.out).mono ?_
          rintro e w9 ⟨rfl, hb9⟩
          have HT9 : Hid _ := HT8.out.nx hb9
          clear hb9
          go_wp2
          go_ret
          exact ⟨by simp, HT9.out.bel⟩
        · rw [eb] at HPB
          generalize bstr (txt a) = X at HPA
          have hc1 : (cb == 0) = false := by simpa using hcb
          have hc2 : (cb != 0) = true := by simpa using hcb
          clear ea eb wa da la HS1
          obtain ⟨w1, hw1⟩ : ∃ w1, w.alloc (.cells #[.int .i64 a.kind, .string a.cons, .slice ta a.text.length tc, .slice sa a.kids.length sc] 25) = w1 := ⟨_, rfl⟩
          rw [hw1] at hw2
          have s1 : w1.heap.size = w.heap.size + 1 := by rw [← hw1]; simp
          go_enter Tryd.func10, Tryd.ntmps10
          go_wp2_with (go_at_call 12; refine (HHA.out _ HT0.out).mono ?_; rintro e w3 ⟨rfl, hb3⟩; have HT3 : Hid _ := HT0.out.nx hb3; clear hb3; obtain ⟨e0, e1, e2, e3, g0, g1, g2, g3⟩ := HT3.out.facts)
          refine (HHB.out _ HT3.out).mono ?_
          rintro e w5 ⟨rfl, hb5⟩
          have HT5 : Hid _ := HT3.out.nx hb5
          clear hb5 e0 e1 e2 e3 g0 g1 g2 g3
          obtain ⟨e0, e1, e2, e3, g0, g1, g2, g3⟩ := HT5.out.facts
          go_wp2_with (go_at_call 28; refine (HPA.out _ HT5.out).mono ?_; rintro e w6 ⟨rfl, hb6⟩; have HT6 : Hid _ := HT5.out.nx hb6; clear hb6 e0 e1 e2 e3 g0 g1 g2 g3; obtain ⟨e0, e1, e2, e3, g0, g1, g2, g3⟩ := HT6.out.facts; refine hold_it ?_)
          unfold Held
          go_wp2_with (go_at_call 28; refine (HPB.out _ HT6.out).mono ?_; rintro e w7 ⟨rfl, hb7⟩; have HT7 : Hid _ := HT6.out.nx hb7; clear hb7 e0 e1 e2 e3 g0 g1 g2 g3; obtain ⟨e0, e1, e2, e3, g0, g1, g2, g3⟩ := HT7.out.facts; refine hold_it ?_)
          unfold Held
          go_wp2_with (go_at_call 13; refine (HALV.out _).mono ?_; rintro e w8 ⟨rfl, hb8⟩; have HT8 : Hid _ := HT7.out.nx hb8; clear hb8)
          go_ret
          exact ⟨rfl, HT8.out.bel⟩
      · rw [ea] at HPA
        have hc1 : (ca == 0) = false := by simpa using hca
        have hc2 : (ca != 0) = true := by simpa using hca
        rcases prt_cases b with ⟨eb, wb, db, lb⟩ | ⟨cb, eb, hcb⟩
        · rw [eb] at HPB
          generalize bstr (txt b) = Y at HPB
          clear ea eb wb db lb HS1
          obtain ⟨w1, hw1⟩ : ∃ w1, w.alloc (.cells #[.int .i64 a.kind, .string a.cons, .slice ta a.text.length tc, .slice sa a.kids.length sc] 25) = w1 := ⟨_, rfl⟩
          rw [hw1] at hw2
          have s1 : w1.heap.size = w.heap.size + 1 := by rw [← hw1]; simp
          go_enter Tryd.func10, Tryd.ntmps10
          go_wp2_with (go_at_call 12; refine (HHA.out _ HT0.out).mono ?_; rintro e w3 ⟨rfl, hb3⟩; have HT3 : Hid _ := HT0.out.nx hb3; clear hb3; obtain ⟨e0, e1, e2, e3, g0, g1, g2, g3⟩ := HT3.out.facts)
          refine (HHB.out _ HT3.out).mono ?_
          rintro e w5 ⟨rfl, hb5⟩
          have HT5 : Hid _ := HT3.out.nx hb5
          clear hb5 e0 e1 e2 e3 g0 g1 g2 g3
          obtain ⟨e0, e1, e2, e3, g0, g1, g2, g3⟩ := HT5.out.facts
          go_wp2_with (go_at_call 28; refine (HPA.out _ HT5.out).mono ?_; rintro e w6 ⟨rfl, hb6⟩; have HT6 : Hid _ := HT5.out.nx hb6; clear hb6 e0 e1 e2 e3 g0 g1 g2 g3; obtain ⟨e0, e1, e2, e3, g0, g1, g2, g3⟩ := HT6.out.facts; refine hold_it ?_)
          unfold Held
          go_wp2_with (go_at_call 28; refine (HPB.out _ HT6.out).mono ?_; rintro e w7 ⟨rfl, hb7⟩; have HT7 : Hid _ := HT6.out.nx hb7; clear hb7 e0 e1 e2 e3 g0 g1 g2 g3; obtain ⟨e0, e1, e2, e3, g0, g1, g2, g3⟩ := HT7.out.facts; refine hold_it ?_)
          unfold Held
          go_wp2_with (go_at_call 13; refine (HALV.out _).mono ?_; rintro e w8 ⟨rfl, hb8⟩; have HT8 : Hid _ := HT7.out.nx hb8; clear hb8)
          go_ret
          exact ⟨rfl, HT8.out.bel⟩
        · rw [eb] at HPB
          have hd1 : (cb == 0) = false := by simpa using hcb
          have hd2 : (cb != 0) = true := by simpa using hcb
          clear ea eb HS1
          obtain ⟨w1, hw1⟩ : ∃ w1, w.alloc (.cells #[.int .i64 a.kind, .string a.cons, .slice ta a.text.length tc, .slice sa a.kids.length sc] 25) = w1 := ⟨_, rfl⟩
          rw [hw1] at hw2
          have s1 : w1.heap.size = w.heap.size + 1 := by rw [← hw1]; simp
          go_enter Tryd.func10, Tryd.ntmps10
          go_wp2_with (go_at_call 12; refine (HHA.out _ HT0.out).mono ?_; rintro e w3 ⟨rfl, hb3⟩; have HT3 : Hid _ := HT0.out.nx hb3; clear hb3; obtain ⟨e0, e1, e2, e3, g0, g1, g2, g3⟩ := HT3.out.facts)
          refine (HHB.out _ HT3.out).mono ?_
          rintro e w5 ⟨rfl, hb5⟩
          have HT5 : Hid _ := HT3.out.nx hb5
          clear hb5 e0 e1 e2 e3 g0 g1 g2 g3
          obtain ⟨e0, e1, e2, e3, g0, g1, g2, g3⟩ := HT5.out.facts
          go_wp2_with (go_at_call 28; refine (HPA.out _ HT5.out).mono ?_; rintro e w6 ⟨rfl, hb6⟩; have HT6 : Hid _ := HT5.out.nx hb6; clear hb6 e0 e1 e2 e3 g0 g1 g2 g3; obtain ⟨e0, e1, e2, e3, g0, g1, g2, g3⟩ := HT6.out.facts; refine hold_it ?_)
          unfold Held
          go_wp2_with (go_at_call 28; refine (HPB.out _ HT6.out).mono ?_; rintro e w7 ⟨rfl, hb7⟩; have HT7 : Hid _ := HT6.out.nx hb7; clear hb7 e0 e1 e2 e3 g0 g1 g2 g3; obtain ⟨e0, e1, e2, e3, g0, g1, g2, g3⟩ := HT7.out.facts; refine hold_it ?_)
          unfold Held
          go_wp2_with (go_at_call 13; refine (HALV.out _).mono ?_; rintro e w8 ⟨rfl, hb8⟩; have HT8 : Hid _ := HT7.out.nx hb8; clear hb8)
          go_ret
          exact ⟨rfl, HT8.out.bel⟩
end Go.Proofs.YtlkcadibjmfmcaaDoor
