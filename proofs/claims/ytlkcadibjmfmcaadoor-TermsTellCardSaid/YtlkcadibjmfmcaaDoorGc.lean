/- The law TermsBack, walked. -/
import Derived.Test.YtlkcadibjmfmcaaDoorGb
import Derived.Test.YtlkcadibjmfmcaaDoorRb
namespace Go.Proofs.YtlkcadibjmfmcaaDoor
open Go.RowKit

/-- A term in its box. -/
structure To (w : World) (t : Tm) (ta : Option Addr) (tc : Nat) (sa : Option Addr) (sc : Nat) (W : World) : Prop where
  bel : Below w.heap.size w W
  a0 : W.cell? ⟨w.heap.size, 0, none⟩ = some (.int .i64 t.kind)
  a1 : W.cell? ⟨w.heap.size, 1, none⟩ = some (.string t.cons)
  a2 : W.cell? ⟨w.heap.size, 2, none⟩ = some (.slice ta t.text.length tc)
  a3 : W.cell? ⟨w.heap.size, 3, none⟩ = some (.slice sa t.kids.length sc)
  ka : TA W t ta tc sa sc
  lt : w.heap.size < W.heap.size
section
variable {w : World} {t : Tm} {ta : Option Addr} {tc : Nat} {sa : Option Addr} {sc : Nat} {W W' : World}
theorem To.nx (hb : Below W.heap.size W W') (h : To w t ta tc sa sc W) : To w t ta tc sa sc W' := by
  have hl := h.lt
  have k : ∀ b q, b < W.heap.size → W'.cell? ⟨b, q, none⟩ = W.cell? ⟨b, q, none⟩ := fun b q hlt => hb.cell (p := ⟨b, q, none⟩) hlt
  exact ⟨below_of h.bel hb, (k _ _ hl).trans h.a0, (k _ _ hl).trans h.a1, (k _ _ hl).trans h.a2, (k _ _ hl).trans h.a3, h.ka.nx hb, Nat.lt_of_lt_of_le hl hb.size⟩
theorem To.facts (h : To w t ta tc sa sc W) : W.cell? ⟨w.heap.size, 0, none⟩ = some (.int .i64 t.kind) ∧ W.cell? ⟨w.heap.size, 1, none⟩ = some (.string t.cons) ∧ W.cell? ⟨w.heap.size, 2, none⟩ = some (.slice ta t.text.length tc) ∧ W.cell? ⟨w.heap.size, 3, none⟩ = some (.slice sa t.kids.length sc) := ⟨h.a0, h.a1, h.a2, h.a3⟩
theorem To.first (ha : TA w t ta tc sa sc) (W : World) (hW : w.alloc (.cells #[.int .i64 t.kind, .string t.cons, .slice ta t.text.length tc, .slice sa t.kids.length sc] 25) = W) : To w t ta tc sa sc W := by
  have hB : Below w.heap.size w W := by rw [← hW]; exact (Below.refl _ _).alloc (Nat.le_refl _) _
  have c1 : ∀ j v, (#[.int .i64 t.kind, .string t.cons, .slice ta t.text.length tc, .slice sa t.kids.length sc] : Array Value)[j]? = some v → W.cell? ⟨w.heap.size, j, none⟩ = some v := fun j v hv => by rw [← hW]; exact cell_new j hv
  exact ⟨hB, c1 0 _ rfl, c1 1 _ rfl, c1 2 _ rfl, c1 3 _ rfl, ha.nx hB, by rw [← hW]; simp⟩
end
theorem par_ok {s : ByteArray} {d : Tm} {q : Nat} (h : rpar s = .ok d q) (hs : s.size ≤ maxLen) (W : World) : Calls Tryd.prog 30 #[.string s] W fun e w' => (∃ ya yc yb yd, e = .returned (.tuple #[.agg #[.int .i64 d.kind, .string d.cons, .slice ya d.text.length yc, .slice yb d.kids.length yd], .agg #[.int .i64 0, .int .i64 0]]) ∧ TA w' d ya yc yb yd) ∧ Below W.heap.size W w' := by
  have := parse_t s W hs
  rw [h] at this
  exact this
theorem par_bad {s : ByteArray} {q c : Nat} (h : rpar s = .bad q c) (hs : s.size ≤ maxLen) (W : World) : Calls Tryd.prog 30 #[.string s] W fun e w' => e = .returned (.tuple #[.agg #[.int .i64 0, .string ⟨#[]⟩, .slice none 0 0, .slice none 0 0], .agg #[.int .i64 (q : Int), .int .i64 (c : Int)]]) ∧ Below W.heap.size W w' := by
  have := parse_t s W hs
  rw [h] at this
  exact this
def zeroD : Tm := .mk 0 ⟨#[]⟩ [] []
theorem zero_ta (W : World) : TA W zeroD none 0 none 0 := ⟨Nat.le_refl _, by decide, fun i c hi => (by cases hi), Nat.le_refl _, 0, rfl⟩
theorem bstr_size (l : List UInt8) : (bstr l).size = l.length := by show l.toArray.size = _; simp
set_option maxRecDepth 100000 in
set_option maxHeartbeats 8000000 in
theorem termsBack_walk (t : Tm) (ta : Option Addr) (tc : Nat) (sa : Option Addr) (sc : Nat) (s : ByteArray) (w : World) (hka : TA w t ta tc sa sc) (hs : s.size ≤ maxLen) :
    Calls Tryd.prog 7 #[.agg #[.int .i64 t.kind, .string t.cons, .slice ta t.text.length tc, .slice sa t.kids.length sc], .string s] w fun e w' => e = .returned (.bool true) ∧ Below w.heap.size w w' := by
  obtain ⟨w2, hw2⟩ : ∃ w2, w.alloc (.cells #[.int .i64 t.kind, .string t.cons, .slice ta t.text.length tc, .slice sa t.kids.length sc] 25) = w2 := ⟨_, rfl⟩
  have T0 := To.first hka w2 hw2
  obtain ⟨e0, e1, e2, e3⟩ := T0.facts
  have HT0 : Hid _ := T0
  clear hka T0
  have HALV : Hid (∀ W, Calls Tryd.prog 13 #[] W fun e w' => e = .returned (.bool true) ∧ Below W.heap.size W w') := fun W => alive_any W
  have HHA : Hid (∀ W, To w t ta tc sa sc W → Calls Tryd.prog 12 #[.agg #[.int .i64 t.kind, .string t.cons, .slice ta t.text.length tc, .slice sa t.kids.length sc]] W fun e w' => e = .returned (.bool (decide (1000 < wt t))) ∧ Below W.heap.size W w') := fun W h => heavy_t t ta tc sa sc W h.ka
  have HSM : Hid (∀ W (x : Tm) (xa : Option Addr) (xc : Nat) (xb : Option Addr) (xd : Nat) (za : Option Addr) (zc : Nat) (zb : Option Addr) (zd : Nat), TA W x xa xc xb xd → TA W x za zc zb zd → Calls Tryd.prog 21 #[.agg #[.int .i64 x.kind, .string x.cons, .slice xa x.text.length xc, .slice xb x.kids.length xd], .agg #[.int .i64 x.kind, .string x.cons, .slice za x.text.length zc, .slice zb x.kids.length zd]] W fun e w' => e = .returned (.bool true) ∧ Below W.heap.size W w') := fun W x xa xc xb xd za zc zb zd h1 h2 => by
    have := refSame_t x x xa xc xb xd za zc zb zd W h1 h2
    rw [eqT_true rfl] at this
    exact this
  by_cases ha : 1000 < wt t
  · rw [decide_eq_true ha] at HHA
    clear ha hs
    go_enter Tryd.func7, Tryd.ntmps7
    go_wp2_with (go_at_call 12; refine (HHA.out _ HT0.out).mono ?_; rintro e w3 ⟨rfl, hb3⟩; have HT3 : Hid _ := HT0.out.nx hb3; clear hb3)
    refine (HALV.out _).mono ?_
    rintro e w4 ⟨rfl, hb4⟩
    have HT4 : Hid _ := HT3.out.nx hb4
    clear hb4
    go_wp2
    go_ret
    exact ⟨rfl, HT4.out.bel⟩
  · rw [decide_eq_false ha] at HHA
    by_cases hl : 9000 < s.size
    · have hlI : (9000 : Int) < (s.size : Int) := by omega
      clear ha hl hs
      go_enter Tryd.func7, Tryd.ntmps7
      go_wp2_with (go_at_call 12; refine (HHA.out _ HT0.out).mono ?_; rintro e w3 ⟨rfl, hb3⟩; have HT3 : Hid _ := HT0.out.nx hb3; clear hb3; refine hold_it ?_)
      unfold Held
      go_wp2_with (go_at_call 13; refine (HALV.out _).mono ?_; rintro e w4 ⟨rfl, hb4⟩)
      go_ret
      exact ⟨rfl, (HT3.out.nx hb4).bel⟩
    · have hlI : ¬ (9000 : Int) < (s.size : Int) := by omega
      have hsz := sz_wt t
      have HP1 : Hid (∀ W, To w t ta tc sa sc W → Calls Tryd.prog 28 #[.agg #[.int .i64 t.kind, .string t.cons, .slice ta t.text.length tc, .slice sa t.kids.length sc]] W fun e w' => e = .returned (.tuple #[.string (prt t).1, .int .i64 (prt t).2]) ∧ Below W.heap.size W w') := fun W h => print_t t ta tc sa sc W h.ka (by omega)
      cases hr : rpar s with
      | ok d q =>
        obtain ⟨hd1, hd2, hd3, hd4, hd5⟩ := rpar_ok hr
        have hrd : rightT d = true := by rw [rightT_eq, decide_eq_true hd2, hd1]; rfl
        have hpd : prt d = (bstr (txt d), 0) := by unfold prt; rw [if_pos hrd, if_pos (by omega)]
        have HR2 : Hid _ := fun W => par_ok hr hs W
        have HP2 : Hid (∀ W (xa : Option Addr) (xc : Nat) (xb : Option Addr) (xd : Nat), TA W d xa xc xb xd → Calls Tryd.prog 28 #[.agg #[.int .i64 d.kind, .string d.cons, .slice xa d.text.length xc, .slice xb d.kids.length xd]] W fun e w' => e = .returned (.tuple #[.string (bstr (txt d)), .int .i64 0]) ∧ Below W.heap.size W w') := fun W xa xc xb xd h => by
          have := print_t d xa xc xb xd W h (by omega)
          rw [hpd] at this
          exact this
        have HR3 : Hid _ := fun W => par_ok (rpar_txt hd1 hd2 (by omega)) (by rw [bstr_size]; unfold maxLen at hs ⊢; omega) W
        have HG2 : Hid (∀ W (xa : Option Addr) (xc : Nat) (xb : Option Addr) (xd : Nat), TA W d xa xc xb xd → Calls Tryd.prog 19 #[.agg #[.int .i64 d.kind, .string d.cons, .slice xa d.text.length xc, .slice xb d.kids.length xd]] W fun e w' => e = .returned (.bool true) ∧ Below W.heap.size W w') := fun W xa xc xb xd h => by
          have := right_t d xa xc xb xd W h (by omega)
          rw [hrd] at this
          exact this
        clear hr hd1 hd2 hd3 hd4 hd5 hrd hpd ha hl hsz hs
        generalize bstr (txt d) = Z at HP2 HR3
        rcases prt_cases t with ⟨ea, wa, da, la⟩ | ⟨ca, ea, hca⟩
        · rw [ea] at HP1
          have HR1 : Hid _ := fun W => par_ok (rpar_txt wa da la) (by rw [bstr_size]; unfold maxLen; omega) W
          generalize bstr (txt t) = X at HP1 HR1
          clear ea wa da la
          go_enter Tryd.func7, Tryd.ntmps7
          go_wp2_with (go_at_call 12; refine (HHA.out _ HT0.out).mono ?_; rintro e w3 ⟨rfl, hb3⟩; have HT3 : Hid _ := HT0.out.nx hb3; clear hb3; clear e0 e1 e2 e3; obtain ⟨e0, e1, e2, e3⟩ := HT3.out.facts; refine hold_it ?_)
          unfold Held
          go_wp2_with (go_at_call 28; refine (HP1.out _ HT3.out).mono ?_; rintro e w4 ⟨rfl, hb4⟩; have HT4 : Hid _ := HT3.out.nx hb4; clear hb4; clear e0 e1 e2 e3; obtain ⟨e0, e1, e2, e3⟩ := HT4.out.facts; refine hold_it ?_)
          unfold Held
          go_wp2_with (go_at_call 30; refine (HR1.out _).mono ?_; rintro e w5 ⟨⟨ya1, yc1, yb1, yd1, rfl, hy5⟩, hb5⟩; have HT5 : Hid _ := HT4.out.nx hb5; clear hb5; clear e0 e1 e2 e3; obtain ⟨e0, e1, e2, e3⟩ := HT5.out.facts; have hlt5 := HT5.out.lt; refine hold_it ?_)
          unfold Held
          have HX : Hid _ := two_boxes w w5 HT5.out.bel #[.int .i64 t.kind, .string t.cons, .slice ya1 t.text.length yc1, .slice yb1 t.kids.length yd1] #[.int .i64 0, .int .i64 0]
          have HY6 : Hid _ := hy5.nx HX.out.2.1
          have HT6 : Hid _ := HT5.out.nx HX.out.2.1
          go_wp2_with (go_at_call 21; refine (HSM.out _ _ _ _ _ _ _ _ _ _ HY6.out HT6.out.ka).mono ?_; rintro e w7 ⟨rfl, hb7⟩; have HT7 : Hid _ := HT6.out.nx hb7; clear hb7 HX HY6 HT6; clear e0 e1 e2 e3; obtain ⟨e0, e1, e2, e3⟩ := HT7.out.facts; refine hold_it ?_)
          unfold Held
          go_wp2_with (go_at_call 30; refine (HR2.out _).mono ?_; rintro e w8 ⟨⟨ya2, yc2, yb2, yd2, rfl, hy8⟩, hb8⟩; have HT8 : Hid _ := HT7.out.nx hb8; clear hb8; refine hold_it ?_)
          unfold Held
          have HX : Hid _ := two_boxes w w8 HT8.out.bel #[.int .i64 d.kind, .string d.cons, .slice ya2 d.text.length yc2, .slice yb2 d.kids.length yd2] #[.int .i64 0, .int .i64 0]
          have HY9 : Hid _ := hy8.nx HX.out.2.1
          clear hy8 HT8 e0 e1 e2 e3
          go_wp2_with (go_at_call 28; refine (HP2.out _ _ _ _ _ HY9.out).mono ?_; rintro e w9 ⟨rfl, hb9⟩; refine hold_it ?_)
          unfold Held
          have HW9 : Hid (Below w.heap.size w w9 ∧ (∀ (j : Nat) v, (#[.int .i64 d.kind, .string d.cons, .slice ya2 d.text.length yc2, .slice yb2 d.kids.length yd2] : Array Value)[j]? = some v → w9.cell? ⟨w8.heap.size, j, none⟩ = some v) ∧ TA w9 d ya2 yc2 yb2 yd2 ∧ w8.heap.size < w9.heap.size) := by
            obtain ⟨h1, h2, h3, h4, h5⟩ := HX.out
            exact ⟨below_of h1 hb9, fun j v hv => (hb9.cell (p := ⟨w8.heap.size, j, none⟩) (by show w8.heap.size < _; rw [h5]; omega)).trans (h3 j v hv), HY9.out.nx hb9, by have := hb9.size; omega⟩
          clear hb9 HX HY9
          go_wp2_with (go_at_call 30; refine (HR3.out _).mono ?_; rintro e w10 ⟨⟨ya3, yc3, yb3, yd3, rfl, hy10⟩, hb10⟩; refine hold_it ?_)
          unfold Held
          have HX : Hid _ := two_boxes w w10 (below_of HW9.out.1 hb10) #[.int .i64 d.kind, .string d.cons, .slice ya3 d.text.length yc3, .slice yb3 d.kids.length yd3] #[.int .i64 0, .int .i64 0]
          have HW11 : Hid (∀ W, Below ((w10.alloc (.cells #[.int .i64 d.kind, .string d.cons, .slice ya3 d.text.length yc3, .slice yb3 d.kids.length yd3] 25)).alloc (.cells #[.int .i64 0, .int .i64 0] 44)).heap.size ((w10.alloc (.cells #[.int .i64 d.kind, .string d.cons, .slice ya3 d.text.length yc3, .slice yb3 d.kids.length yd3] 25)).alloc (.cells #[.int .i64 0, .int .i64 0] 44)) W → Below w.heap.size w W ∧ (∀ (j : Nat) v, (#[.int .i64 d.kind, .string d.cons, .slice ya2 d.text.length yc2, .slice yb2 d.kids.length yd2] : Array Value)[j]? = some v → W.cell? ⟨w8.heap.size, j, none⟩ = some v) ∧ (∀ (j : Nat) v, (#[.int .i64 d.kind, .string d.cons, .slice ya3 d.text.length yc3, .slice yb3 d.kids.length yd3] : Array Value)[j]? = some v → W.cell? ⟨w10.heap.size, j, none⟩ = some v) ∧ (∀ (j : Nat) v, (#[.int .i64 0, .int .i64 0] : Array Value)[j]? = some v → W.cell? ⟨w10.heap.size + 1, j, none⟩ = some v) ∧ TA W d ya2 yc2 yb2 yd2 ∧ TA W d ya3 yc3 yb3 yd3) := by
            intro W hW
            obtain ⟨h1, h2, h3, h4, h5⟩ := HX.out
            obtain ⟨k1, k2, k3, k4⟩ := HW9.out
            have hl : w8.heap.size < w10.heap.size := Nat.lt_of_lt_of_le k4 hb10.size
            refine ⟨below_of h1 hW, fun j v hv => (hW.cell (p := ⟨w8.heap.size, j, none⟩) (by show w8.heap.size < _; rw [h5]; omega)).trans ((h2.cell (p := ⟨w8.heap.size, j, none⟩) hl).trans ((hb10.cell (p := ⟨w8.heap.size, j, none⟩) k4).trans (k2 j v hv))), fun j v hv => (hW.cell (p := ⟨w10.heap.size, j, none⟩) (by show w10.heap.size < _; rw [h5]; omega)).trans (h3 j v hv), fun j v hv => (hW.cell (p := ⟨w10.heap.size + 1, j, none⟩) (by show w10.heap.size + 1 < _; rw [h5]; omega)).trans (h4 j v hv), ((k3.nx hb10).nx h2).nx hW, (hy10.nx h2).nx hW⟩
          clear hb10 hy10 HX HW9
          go_wp2_with (go_at_call 13; refine (HALV.out _).mono ?_; rintro e w12 ⟨rfl, hb12⟩; have HK12 : Hid _ := hb12; clear hb12; refine hold_it ?_)
          unfold Held
          have y0 := (HW11.out _ HK12.out).2.1 0 _ rfl
          have y1 := (HW11.out _ HK12.out).2.1 1 _ rfl
          have y2 := (HW11.out _ HK12.out).2.1 2 _ rfl
          have y3 := (HW11.out _ HK12.out).2.1 3 _ rfl
          have HY12 : Hid _ := (HW11.out _ HK12.out).2.2.2.2.1
          go_wp2_with (go_at_call 19; refine (HG2.out _ _ _ _ _ HY12.out).mono ?_; rintro e w13 ⟨rfl, hb13⟩; have HK13 : Hid _ := below_of HK12.out hb13; clear hb13; refine hold_it ?_)
          unfold Held
          clear y0 y1 y2 y3 HY12 HK12
          have HK13' : Hid _ := HW11.out _ HK13.out
          have y0 := HK13'.out.2.1 0 _ rfl
          have y1 := HK13'.out.2.1 1 _ rfl
          have y2 := HK13'.out.2.1 2 _ rfl
          have y3 := HK13'.out.2.1 3 _ rfl
          have x0 := HK13'.out.2.2.1 0 _ rfl
          have x1 := HK13'.out.2.2.1 1 _ rfl
          have x2 := HK13'.out.2.2.1 2 _ rfl
          have x3 := HK13'.out.2.2.1 3 _ rfl
          have f0 := HK13'.out.2.2.2.1 0 _ rfl
          have f1 := HK13'.out.2.2.2.1 1 _ rfl
          have HYa : Hid _ := HK13'.out.2.2.2.2.1
          have HYb : Hid _ := HK13'.out.2.2.2.2.2
          have HBE : Hid _ := HK13'.out.1
          clear HK13' HK13 HW11
          go_wp2_with (go_at_call 21; refine (HSM.out _ _ _ _ _ _ _ _ _ _ HYb.out HYa.out).mono ?_; rintro e w14 ⟨rfl, hb14⟩; have HE : Hid _ := below_of HBE.out hb14; clear hb14)
          go_ret
          exact ⟨rfl, HE.out⟩
        · rw [ea] at HP1
          have hc1 : (ca == 0) = false := by simpa using hca
          clear ea
          go_enter Tryd.func7, Tryd.ntmps7
          go_wp2_with (go_at_call 12; refine (HHA.out _ HT0.out).mono ?_; rintro e w3 ⟨rfl, hb3⟩; have HT3 : Hid _ := HT0.out.nx hb3; clear hb3; clear e0 e1 e2 e3; obtain ⟨e0, e1, e2, e3⟩ := HT3.out.facts; refine hold_it ?_)
          unfold Held
          go_wp2_with (go_at_call 28; refine (HP1.out _ HT3.out).mono ?_; rintro e w4 ⟨rfl, hb4⟩; have HT4 : Hid _ := HT3.out.nx hb4; clear hb4; clear e0 e1 e2 e3; obtain ⟨e0, e1, e2, e3⟩ := HT4.out.facts; refine hold_it ?_)
          unfold Held
          go_wp2_with (go_at_call 30; refine (HR2.out _).mono ?_; rintro e w8 ⟨⟨ya2, yc2, yb2, yd2, rfl, hy8⟩, hb8⟩; have HT8 : Hid _ := HT4.out.nx hb8; clear hb8; refine hold_it ?_)
          unfold Held
          have HX : Hid _ := two_boxes w w8 HT8.out.bel #[.int .i64 d.kind, .string d.cons, .slice ya2 d.text.length yc2, .slice yb2 d.kids.length yd2] #[.int .i64 0, .int .i64 0]
          have HY9 : Hid _ := hy8.nx HX.out.2.1
          clear hy8 HT8 e0 e1 e2 e3
          go_wp2_with (go_at_call 28; refine (HP2.out _ _ _ _ _ HY9.out).mono ?_; rintro e w9 ⟨rfl, hb9⟩; refine hold_it ?_)
          unfold Held
          have HW9 : Hid (Below w.heap.size w w9 ∧ (∀ (j : Nat) v, (#[.int .i64 d.kind, .string d.cons, .slice ya2 d.text.length yc2, .slice yb2 d.kids.length yd2] : Array Value)[j]? = some v → w9.cell? ⟨w8.heap.size, j, none⟩ = some v) ∧ TA w9 d ya2 yc2 yb2 yd2 ∧ w8.heap.size < w9.heap.size) := by
            obtain ⟨h1, h2, h3, h4, h5⟩ := HX.out
            exact ⟨below_of h1 hb9, fun j v hv => (hb9.cell (p := ⟨w8.heap.size, j, none⟩) (by show w8.heap.size < _; rw [h5]; omega)).trans (h3 j v hv), HY9.out.nx hb9, by have := hb9.size; omega⟩
          clear hb9 HX HY9
          go_wp2_with (go_at_call 30; refine (HR3.out _).mono ?_; rintro e w10 ⟨⟨ya3, yc3, yb3, yd3, rfl, hy10⟩, hb10⟩; refine hold_it ?_)
          unfold Held
          have HX : Hid _ := two_boxes w w10 (below_of HW9.out.1 hb10) #[.int .i64 d.kind, .string d.cons, .slice ya3 d.text.length yc3, .slice yb3 d.kids.length yd3] #[.int .i64 0, .int .i64 0]
          have HW11 : Hid (∀ W, Below ((w10.alloc (.cells #[.int .i64 d.kind, .string d.cons, .slice ya3 d.text.length yc3, .slice yb3 d.kids.length yd3] 25)).alloc (.cells #[.int .i64 0, .int .i64 0] 44)).heap.size ((w10.alloc (.cells #[.int .i64 d.kind, .string d.cons, .slice ya3 d.text.length yc3, .slice yb3 d.kids.length yd3] 25)).alloc (.cells #[.int .i64 0, .int .i64 0] 44)) W → Below w.heap.size w W ∧ (∀ (j : Nat) v, (#[.int .i64 d.kind, .string d.cons, .slice ya2 d.text.length yc2, .slice yb2 d.kids.length yd2] : Array Value)[j]? = some v → W.cell? ⟨w8.heap.size, j, none⟩ = some v) ∧ (∀ (j : Nat) v, (#[.int .i64 d.kind, .string d.cons, .slice ya3 d.text.length yc3, .slice yb3 d.kids.length yd3] : Array Value)[j]? = some v → W.cell? ⟨w10.heap.size, j, none⟩ = some v) ∧ (∀ (j : Nat) v, (#[.int .i64 0, .int .i64 0] : Array Value)[j]? = some v → W.cell? ⟨w10.heap.size + 1, j, none⟩ = some v) ∧ TA W d ya2 yc2 yb2 yd2 ∧ TA W d ya3 yc3 yb3 yd3) := by
            intro W hW
            obtain ⟨h1, h2, h3, h4, h5⟩ := HX.out
            obtain ⟨k1, k2, k3, k4⟩ := HW9.out
            have hl : w8.heap.size < w10.heap.size := Nat.lt_of_lt_of_le k4 hb10.size
            refine ⟨below_of h1 hW, fun j v hv => (hW.cell (p := ⟨w8.heap.size, j, none⟩) (by show w8.heap.size < _; rw [h5]; omega)).trans ((h2.cell (p := ⟨w8.heap.size, j, none⟩) hl).trans ((hb10.cell (p := ⟨w8.heap.size, j, none⟩) k4).trans (k2 j v hv))), fun j v hv => (hW.cell (p := ⟨w10.heap.size, j, none⟩) (by show w10.heap.size < _; rw [h5]; omega)).trans (h3 j v hv), fun j v hv => (hW.cell (p := ⟨w10.heap.size + 1, j, none⟩) (by show w10.heap.size + 1 < _; rw [h5]; omega)).trans (h4 j v hv), ((k3.nx hb10).nx h2).nx hW, (hy10.nx h2).nx hW⟩
          clear hb10 hy10 HX HW9
          go_wp2_with (go_at_call 13; refine (HALV.out _).mono ?_; rintro e w12 ⟨rfl, hb12⟩; have HK12 : Hid _ := hb12; clear hb12; refine hold_it ?_)
          unfold Held
          have y0 := (HW11.out _ HK12.out).2.1 0 _ rfl
          have y1 := (HW11.out _ HK12.out).2.1 1 _ rfl
          have y2 := (HW11.out _ HK12.out).2.1 2 _ rfl
          have y3 := (HW11.out _ HK12.out).2.1 3 _ rfl
          have HY12 : Hid _ := (HW11.out _ HK12.out).2.2.2.2.1
          go_wp2_with (go_at_call 19; refine (HG2.out _ _ _ _ _ HY12.out).mono ?_; rintro e w13 ⟨rfl, hb13⟩; have HK13 : Hid _ := below_of HK12.out hb13; clear hb13; refine hold_it ?_)
          unfold Held
          clear y0 y1 y2 y3 HY12 HK12
          have HK13' : Hid _ := HW11.out _ HK13.out
          have y0 := HK13'.out.2.1 0 _ rfl
          have y1 := HK13'.out.2.1 1 _ rfl
          have y2 := HK13'.out.2.1 2 _ rfl
          have y3 := HK13'.out.2.1 3 _ rfl
          have x0 := HK13'.out.2.2.1 0 _ rfl
          have x1 := HK13'.out.2.2.1 1 _ rfl
          have x2 := HK13'.out.2.2.1 2 _ rfl
          have x3 := HK13'.out.2.2.1 3 _ rfl
          have f0 := HK13'.out.2.2.2.1 0 _ rfl
          have f1 := HK13'.out.2.2.2.1 1 _ rfl
          have HYa : Hid _ := HK13'.out.2.2.2.2.1
          have HYb : Hid _ := HK13'.out.2.2.2.2.2
          have HBE : Hid _ := HK13'.out.1
          clear HK13' HK13 HW11
          go_wp2_with (go_at_call 21; refine (HSM.out _ _ _ _ _ _ _ _ _ _ HYb.out HYa.out).mono ?_; rintro e w14 ⟨rfl, hb14⟩; have HE : Hid _ := below_of HBE.out hb14; clear hb14)
          go_ret
          exact ⟨rfl, HE.out⟩
      | bad q c =>
        obtain ⟨hq1, hq2⟩ := rpar_bad hr
        have HR2 : Hid _ := fun W => par_bad hr hs W
        have HS0 : Hid (∀ W, Calls Tryd.prog 21 #[.agg #[.int .i64 0, .string ⟨#[]⟩, .slice none 0 0, .slice none 0 0], .agg #[.int .i64 0, .string ⟨#[]⟩, .slice none 0 0, .slice none 0 0]] W fun e w' => e = .returned (.bool true) ∧ Below W.heap.size W w') := fun W => by
          have := refSame_t zeroD zeroD none 0 none 0 none 0 none 0 W (zero_ta W) (zero_ta W)
          rw [eqT_true rfl] at this
          exact this
        have k1 : ((c : Int) != 0) = true := by simp; omega
        have k2 : ¬ (c : Int) = 0 := by omega
        have k3 : (0 : Int) ≤ (q : Int) := by omega
        have k4 : (q : Int) ≤ (s.size : Int) := by omega
        clear hr ha hl hsz hs hq1 hq2
        rcases prt_cases t with ⟨ea, wa, da, la⟩ | ⟨ca, ea, hca⟩
        · rw [ea] at HP1
          have HR1 : Hid _ := fun W => par_ok (rpar_txt wa da la) (by rw [bstr_size]; unfold maxLen; omega) W
          generalize bstr (txt t) = X at HP1 HR1
          clear ea wa da la
          go_enter Tryd.func7, Tryd.ntmps7
          go_wp2_with (go_at_call 12; refine (HHA.out _ HT0.out).mono ?_; rintro e w3 ⟨rfl, hb3⟩; have HT3 : Hid _ := HT0.out.nx hb3; clear hb3; clear e0 e1 e2 e3; obtain ⟨e0, e1, e2, e3⟩ := HT3.out.facts; refine hold_it ?_)
          unfold Held
          go_wp2_with (go_at_call 28; refine (HP1.out _ HT3.out).mono ?_; rintro e w4 ⟨rfl, hb4⟩; have HT4 : Hid _ := HT3.out.nx hb4; clear hb4; clear e0 e1 e2 e3; obtain ⟨e0, e1, e2, e3⟩ := HT4.out.facts; refine hold_it ?_)
          unfold Held
          go_wp2_with (go_at_call 30; refine (HR1.out _).mono ?_; rintro e w5 ⟨⟨ya1, yc1, yb1, yd1, rfl, hy5⟩, hb5⟩; have HT5 : Hid _ := HT4.out.nx hb5; clear hb5; clear e0 e1 e2 e3; obtain ⟨e0, e1, e2, e3⟩ := HT5.out.facts; have hlt5 := HT5.out.lt; refine hold_it ?_)
          unfold Held
          have HX : Hid _ := two_boxes w w5 HT5.out.bel #[.int .i64 t.kind, .string t.cons, .slice ya1 t.text.length yc1, .slice yb1 t.kids.length yd1] #[.int .i64 0, .int .i64 0]
          have HY6 : Hid _ := hy5.nx HX.out.2.1
          have HT6 : Hid _ := HT5.out.nx HX.out.2.1
          go_wp2_with (go_at_call 21; refine (HSM.out _ _ _ _ _ _ _ _ _ _ HY6.out HT6.out.ka).mono ?_; rintro e w7 ⟨rfl, hb7⟩; have HT7 : Hid _ := HT6.out.nx hb7; clear hb7 HX HY6 HT6; clear e0 e1 e2 e3; obtain ⟨e0, e1, e2, e3⟩ := HT7.out.facts; refine hold_it ?_)
          unfold Held
          go_wp2_with (go_at_call 30; refine (HR2.out _).mono ?_; rintro e w8 ⟨rfl, hb8⟩; have HT8 : Hid _ := HT7.out.nx hb8; clear hb8; clear e0 e1 e2 e3; obtain ⟨e0, e1, e2, e3⟩ := HT8.out.facts; have hlt8 := HT8.out.lt; refine hold_it ?_)
          unfold Held
          have HX : Hid _ := two_boxes w w8 HT8.out.bel #[.int .i64 0, .string ⟨#[]⟩, .slice none 0 0, .slice none 0 0] #[.int .i64 (q : Int), .int .i64 (c : Int)]
          go_wp2_with (go_at_call 13; refine (HALV.out _).mono ?_; rintro e w9 ⟨rfl, hb9⟩; refine hold_it ?_)
          unfold Held
          have HZ : Hid (Below w.heap.size w w9 ∧ (∀ (j : Nat) v, (#[.int .i64 0, .string ⟨#[]⟩, .slice none 0 0, .slice none 0 0] : Array Value)[j]? = some v → w9.cell? ⟨w8.heap.size, j, none⟩ = some v) ∧ (∀ (j : Nat) v, (#[.int .i64 (q : Int), .int .i64 (c : Int)] : Array Value)[j]? = some v → w9.cell? ⟨w8.heap.size + 1, j, none⟩ = some v) ∧ w8.heap.size + 2 ≤ w9.heap.size) := by
            obtain ⟨h1, h2, h3, h4, h5⟩ := HX.out
            refine ⟨below_of h1 hb9, fun j v hv => (hb9.cell (p := ⟨w8.heap.size, j, none⟩) (by show w8.heap.size < _; rw [h5]; omega)).trans (h3 j v hv), fun j v hv => (hb9.cell (p := ⟨w8.heap.size + 1, j, none⟩) (by show w8.heap.size + 1 < _; rw [h5]; omega)).trans (h4 j v hv), by have := hb9.size; omega⟩
          have z0 := HZ.out.2.1 0 _ rfl
          have z1 := HZ.out.2.1 1 _ rfl
          have z2 := HZ.out.2.1 2 _ rfl
          have z3 := HZ.out.2.1 3 _ rfl
          clear hb9 HX
          go_wp2_with (go_at_call 21; refine (HS0.out _).mono ?_; rintro e w10 ⟨rfl, hb10⟩; refine hold_it ?_)
          unfold Held
          have HE : Hid (Below w.heap.size w w10) := below_of HZ.out.1 hb10
          have z4 : w10.cell? ⟨w8.heap.size + 1, 0, none⟩ = some (.int .i64 (q : Int)) := (hb10.cell (p := ⟨w8.heap.size + 1, 0, none⟩) (by show w8.heap.size + 1 < _; have := HZ.out.2.2.2; omega)).trans (HZ.out.2.2.1 0 _ rfl)
          clear hb10 HZ
          go_wp2
          go_ret
          exact ⟨rfl, HE.out⟩
        · rw [ea] at HP1
          have hc1 : (ca == 0) = false := by simpa using hca
          clear ea
          go_enter Tryd.func7, Tryd.ntmps7
          go_wp2_with (go_at_call 12; refine (HHA.out _ HT0.out).mono ?_; rintro e w3 ⟨rfl, hb3⟩; have HT3 : Hid _ := HT0.out.nx hb3; clear hb3; clear e0 e1 e2 e3; obtain ⟨e0, e1, e2, e3⟩ := HT3.out.facts; refine hold_it ?_)
          unfold Held
          go_wp2_with (go_at_call 28; refine (HP1.out _ HT3.out).mono ?_; rintro e w4 ⟨rfl, hb4⟩; have HT4 : Hid _ := HT3.out.nx hb4; clear hb4; clear e0 e1 e2 e3; obtain ⟨e0, e1, e2, e3⟩ := HT4.out.facts; refine hold_it ?_)
          unfold Held
          go_wp2_with (go_at_call 30; refine (HR2.out _).mono ?_; rintro e w8 ⟨rfl, hb8⟩; have HT8 : Hid _ := HT4.out.nx hb8; clear hb8; clear e0 e1 e2 e3; obtain ⟨e0, e1, e2, e3⟩ := HT8.out.facts; have hlt8 := HT8.out.lt; refine hold_it ?_)
          unfold Held
          have HX : Hid _ := two_boxes w w8 HT8.out.bel #[.int .i64 0, .string ⟨#[]⟩, .slice none 0 0, .slice none 0 0] #[.int .i64 (q : Int), .int .i64 (c : Int)]
          go_wp2_with (go_at_call 13; refine (HALV.out _).mono ?_; rintro e w9 ⟨rfl, hb9⟩; refine hold_it ?_)
          unfold Held
          have HZ : Hid (Below w.heap.size w w9 ∧ (∀ (j : Nat) v, (#[.int .i64 0, .string ⟨#[]⟩, .slice none 0 0, .slice none 0 0] : Array Value)[j]? = some v → w9.cell? ⟨w8.heap.size, j, none⟩ = some v) ∧ (∀ (j : Nat) v, (#[.int .i64 (q : Int), .int .i64 (c : Int)] : Array Value)[j]? = some v → w9.cell? ⟨w8.heap.size + 1, j, none⟩ = some v) ∧ w8.heap.size + 2 ≤ w9.heap.size) := by
            obtain ⟨h1, h2, h3, h4, h5⟩ := HX.out
            refine ⟨below_of h1 hb9, fun j v hv => (hb9.cell (p := ⟨w8.heap.size, j, none⟩) (by show w8.heap.size < _; rw [h5]; omega)).trans (h3 j v hv), fun j v hv => (hb9.cell (p := ⟨w8.heap.size + 1, j, none⟩) (by show w8.heap.size + 1 < _; rw [h5]; omega)).trans (h4 j v hv), by have := hb9.size; omega⟩
          have z0 := HZ.out.2.1 0 _ rfl
          have z1 := HZ.out.2.1 1 _ rfl
          have z2 := HZ.out.2.1 2 _ rfl
          have z3 := HZ.out.2.1 3 _ rfl
          clear hb9 HX
          go_wp2_with (go_at_call 21; refine (HS0.out _).mono ?_; rintro e w10 ⟨rfl, hb10⟩; refine hold_it ?_)
          unfold Held
          have HE : Hid (Below w.heap.size w w10) := below_of HZ.out.1 hb10
          have z4 : w10.cell? ⟨w8.heap.size + 1, 0, none⟩ = some (.int .i64 (q : Int)) := (hb10.cell (p := ⟨w8.heap.size + 1, 0, none⟩) (by show w8.heap.size + 1 < _; have := HZ.out.2.2.2; omega)).trans (HZ.out.2.2.1 0 _ rfl)
          clear hb10 HZ
          go_wp2
          go_ret
          exact ⟨rfl, HE.out⟩
end Go.Proofs.YtlkcadibjmfmcaaDoor
