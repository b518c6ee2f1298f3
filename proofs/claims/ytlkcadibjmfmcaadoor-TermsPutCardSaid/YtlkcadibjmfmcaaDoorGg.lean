/- The law TermsPut, walked. -/
import Derived.Test.YtlkcadibjmfmcaaDoorPx
import Derived.Test.YtlkcadibjmfmcaaDoorGa
namespace Go.Proofs.YtlkcadibjmfmcaaDoor
open Go.RowKit

/-- A term in a box. -/
structure Bx (d : Tm) (n : Nat) (ta : Option Addr) (tc : Nat) (sa : Option Addr) (sc : Nat) (W : World) : Prop where
  c0 : W.cell? ⟨n, 0, none⟩ = some (.int .i64 d.kind)
  c1 : W.cell? ⟨n, 1, none⟩ = some (.string d.cons)
  c2 : W.cell? ⟨n, 2, none⟩ = some (.slice ta d.text.length tc)
  c3 : W.cell? ⟨n, 3, none⟩ = some (.slice sa d.kids.length sc)
  ka : TA W d ta tc sa sc
  lt : n < W.heap.size
section
variable {d : Tm} {n : Nat} {ta : Option Addr} {tc : Nat} {sa : Option Addr} {sc : Nat} {W W' : World}
theorem Bx.nx (hb : Below W.heap.size W W') (h : Bx d n ta tc sa sc W) : Bx d n ta tc sa sc W' := by
  have k : ∀ q, W'.cell? ⟨n, q, none⟩ = W.cell? ⟨n, q, none⟩ := fun q => hb.cell (p := ⟨n, q, none⟩) h.lt
  exact ⟨(k 0).trans h.c0, (k 1).trans h.c1, (k 2).trans h.c2, (k 3).trans h.c3, h.ka.nx hb, Nat.lt_of_lt_of_le h.lt hb.size⟩
theorem Bx.nx' (h : Bx d n ta tc sa sc W) (hb : Below W.heap.size W W') : Bx d n ta tc sa sc W' := h.nx hb
theorem Bx.facts (h : Bx d n ta tc sa sc W) : W.cell? ⟨n, 0, none⟩ = some (.int .i64 d.kind) ∧ W.cell? ⟨n, 1, none⟩ = some (.string d.cons) ∧ W.cell? ⟨n, 2, none⟩ = some (.slice ta d.text.length tc) ∧ W.cell? ⟨n, 3, none⟩ = some (.slice sa d.kids.length sc) := ⟨h.c0, h.c1, h.c2, h.c3⟩
theorem al_below (W : World) (o : Obj) : Below W.heap.size W (W.alloc o) := (Below.refl _ _).alloc (Nat.le_refl _) _
theorem Bx.start (h : TA W d ta tc sa sc) : Bx d W.heap.size ta tc sa sc (W.alloc (.cells #[.int .i64 d.kind, .string d.cons, .slice ta d.text.length tc, .slice sa d.kids.length sc] 25)) :=
  ⟨cell_new 0 rfl, cell_new 1 rfl, cell_new 2 rfl, cell_new 3 rfl, h.nx (al_below _ _), by simp⟩
end
theorem at_s {x y : Tm} {ps : List Int} {W : World} {ta : Option Addr} {tc : Nat} {sa : Option Addr} {sc : Nat} (pa : Option Addr) (pc n : Nat) (h : TA W x ta tc sa sc) (hp : IAt W W.heap.size pa ps) (hn : ps.length = n) (hpl : n ≤ 1000000) (hz : sz x ≤ 1000000) (hy : atP x ps = some y) :
    Calls Tryd.prog 23 #[.agg #[.int .i64 x.kind, .string x.cons, .slice ta x.text.length tc, .slice sa x.kids.length sc], .slice pa n pc] W fun e w' => (∃ ua uc va vc, e = .returned (.tuple #[.agg #[.int .i64 y.kind, .string y.cons, .slice ua y.text.length uc, .slice va y.kids.length vc], .int .i64 0]) ∧ TA w' y ua uc va vc) ∧ Below W.heap.size W w' := by
  obtain ⟨f, hf⟩ := h.mat
  have := at_any x ta tc sa sc f ps pa pc W h.txt hf h.sc' (by omega) hp (by omega)
  rw [hy, hn] at this
  refine this.mono ?_
  rintro e w' ⟨⟨F, ua, uc, va, vc, rfl, h1, h2, h3⟩, hb⟩
  exact ⟨⟨ua, uc, va, vc, rfl, TA.of (fun b hb => hb.2) h2 h3 h1⟩, hb⟩
theorem at_n {x : Tm} {ps : List Int} {W : World} {ta : Option Addr} {tc : Nat} {sa : Option Addr} {sc : Nat} (pa : Option Addr) (pc n : Nat) (h : TA W x ta tc sa sc) (hp : IAt W W.heap.size pa ps) (hn : ps.length = n) (hpl : n ≤ 1000000) (hz : sz x ≤ 1000000) (hy : atP x ps = none) :
    Calls Tryd.prog 23 #[.agg #[.int .i64 x.kind, .string x.cons, .slice ta x.text.length tc, .slice sa x.kids.length sc], .slice pa n pc] W fun e w' => (∃ ua uc, e = .returned (.tuple #[.agg #[.int .i64 0, .string ⟨#[]⟩, .slice ua 0 uc, .slice none 0 0], .int .i64 4])) ∧ Below W.heap.size W w' := by
  obtain ⟨f, hf⟩ := h.mat
  have := at_any x ta tc sa sc f ps pa pc W h.txt hf h.sc' (by omega) hp (by omega)
  rw [hy, hn] at this
  exact this
theorem put_s {x s y : Tm} {ps : List Int} {W : World} {ta : Option Addr} {tc : Nat} {sa : Option Addr} {sc : Nat} {tb : Option Addr} {td : Nat} {sb : Option Addr} {sd : Nat} (pa : Option Addr) (pc n : Nat) (h : TA W x ta tc sa sc) (hs : TA W s tb td sb sd) (hp : IAt W W.heap.size pa ps) (hn : ps.length = n) (hpl : n ≤ 1000000) (hz : sz x + sz s ≤ 1000000) (hy : putP x ps s = some y) :
    Calls Tryd.prog 25 #[.agg #[.int .i64 x.kind, .string x.cons, .slice ta x.text.length tc, .slice sa x.kids.length sc], .slice pa n pc, .agg #[.int .i64 s.kind, .string s.cons, .slice tb s.text.length td, .slice sb s.kids.length sd]] W fun e w' => (∃ ua uc va vc, e = .returned (.tuple #[.agg #[.int .i64 y.kind, .string y.cons, .slice ua y.text.length uc, .slice va y.kids.length vc], .int .i64 0]) ∧ TA w' y ua uc va vc) ∧ Below W.heap.size W w' := by
  obtain ⟨f, hf⟩ := h.mat
  obtain ⟨g, hg⟩ := hs.mat
  have := put_any x s ta tb tc td sa sb sc sd (f + g) ps pa pc W h.txt hs.txt (hf.ups g) h.sc' (hg.ups' f) hs.sc' (by omega) hp (by omega)
  rw [hy, hn] at this
  refine this.mono ?_
  rintro e w' ⟨⟨F, ua, uc, va, vc, rfl, h1, h2, h3⟩, hb⟩
  exact ⟨⟨ua, uc, va, vc, rfl, TA.of (fun b hb => hb.2) h2 h3 h1⟩, hb⟩
theorem put_n {x s : Tm} {ps : List Int} {W : World} {ta : Option Addr} {tc : Nat} {sa : Option Addr} {sc : Nat} {tb : Option Addr} {td : Nat} {sb : Option Addr} {sd : Nat} (pa : Option Addr) (pc n : Nat) (h : TA W x ta tc sa sc) (hs : TA W s tb td sb sd) (hp : IAt W W.heap.size pa ps) (hn : ps.length = n) (hpl : n ≤ 1000000) (hz : sz x + sz s ≤ 1000000) (hy : putP x ps s = none) :
    Calls Tryd.prog 25 #[.agg #[.int .i64 x.kind, .string x.cons, .slice ta x.text.length tc, .slice sa x.kids.length sc], .slice pa n pc, .agg #[.int .i64 s.kind, .string s.cons, .slice tb s.text.length td, .slice sb s.kids.length sd]] W fun e w' => (∃ ua uc, e = .returned (.tuple #[.agg #[.int .i64 0, .string ⟨#[]⟩, .slice ua 0 uc, .slice none 0 0], .int .i64 4])) ∧ Below W.heap.size W w' := by
  obtain ⟨f, hf⟩ := h.mat
  obtain ⟨g, hg⟩ := hs.mat
  have := put_any x s ta tb tc td sa sb sc sd (f + g) ps pa pc W h.txt hs.txt (hf.ups g) h.sc' (hg.ups' f) hs.sc' (by omega) hp (by omega)
  rw [hy, hn] at this
  exact this
set_option maxRecDepth 100000 in
set_option maxHeartbeats 16000000 in
theorem termsPut_walk (a : Tm) (ta : Option Addr) (tc : Nat) (sa : Option Addr) (sc : Nat) (ps : List Int) (pa : Option Addr) (pc : Nat) (b : Tm) (tb : Option Addr) (td : Nat) (sb : Option Addr) (sd : Nat) (w : World) (hka : TA w a ta tc sa sc) (hpa : IAt w w.heap.size pa ps) (hpm : ps.length ≤ maxLen) (_ : ps.length ≤ pc) (hkb : TA w b tb td sb sd) :
    Calls Tryd.prog 9 #[.agg #[.int .i64 a.kind, .string a.cons, .slice ta a.text.length tc, .slice sa a.kids.length sc], .slice pa ps.length pc, .agg #[.int .i64 b.kind, .string b.cons, .slice tb b.text.length td, .slice sb b.kids.length sd]] w fun e w' => e = .returned (.bool true) ∧ Below w.heap.size w w' := by
  obtain ⟨w2, hw2⟩ : ∃ w2, (w.alloc (.cells #[.int .i64 a.kind, .string a.cons, .slice ta a.text.length tc, .slice sa a.kids.length sc] 25)).alloc (.cells #[.int .i64 b.kind, .string b.cons, .slice tb b.text.length td, .slice sb b.kids.length sd] 25) = w2 := ⟨_, rfl⟩
  have T0 := Tw.first hka hkb w2 hw2
  obtain ⟨e0, e1, e2, e3, g0, g1, g2, g3⟩ := T0.facts
  have HT0 : Hid _ := T0
  have HI0 : Hid (∀ W, Below w.heap.size w W → IAt W W.heap.size pa ps) := fun W hb => hpa.nx hb
  obtain ⟨n, hn⟩ : ∃ n, ps.length = n := ⟨_, rfl⟩
  have HNN : Hid _ := hn
  rw [hn] at hpm ⊢
  unfold maxLen at hpm
  clear hka hkb T0 hpa hn
  have HALV : Hid (∀ W, Calls Tryd.prog 13 #[] W fun e w' => e = .returned (.bool true) ∧ Below W.heap.size W w') := fun W => alive_any W
  have HHA : Hid (∀ W, Tw w a b ta tc sa sc tb td sb sd W → Calls Tryd.prog 12 #[.agg #[.int .i64 a.kind, .string a.cons, .slice ta a.text.length tc, .slice sa a.kids.length sc]] W fun e w' => e = .returned (.bool (decide (1000 < wt a))) ∧ Below W.heap.size W w') := fun W h => heavy_t a ta tc sa sc W h.ka
  have HHB : Hid (∀ W, Tw w a b ta tc sa sc tb td sb sd W → Calls Tryd.prog 12 #[.agg #[.int .i64 b.kind, .string b.cons, .slice tb b.text.length td, .slice sb b.kids.length sd]] W fun e w' => e = .returned (.bool (decide (1000 < wt b))) ∧ Below W.heap.size W w') := fun W h => heavy_t b tb td sb sd W h.kb
  obtain ⟨w1, hw1⟩ : ∃ w1, w.alloc (.cells #[.int .i64 a.kind, .string a.cons, .slice ta a.text.length tc, .slice sa a.kids.length sc] 25) = w1 := ⟨_, rfl⟩
  rw [hw1] at hw2
  have s1 : w1.heap.size = w.heap.size + 1 := by rw [← hw1]; simp
  by_cases ha : 1000 < wt a
  · rw [decide_eq_true ha] at HHA
    clear ha
    go_enter Tryd.func9, Tryd.ntmps9
    go_wp2_with (go_at_call 12; refine (HHA.out _ HT0.out).mono ?_; rintro e w3 ⟨rfl, hb3⟩; have HT3 : Hid _ := HT0.out.nx hb3; clear hb3)
    refine (HALV.out _).mono ?_
    rintro e w4 ⟨rfl, hb4⟩
    have HT4 : Hid _ := HT3.out.nx hb4
    clear hb4
    go_wp2
    go_ret
    exact ⟨rfl, HT4.out.bel⟩
  rw [decide_eq_false ha] at HHA
  have hszA : sz a ≤ 1000 := by have := sz_wt a; omega
  clear ha
  by_cases hb : 1000 < wt b
  · rw [decide_eq_true hb] at HHB
    clear hb
    go_enter Tryd.func9, Tryd.ntmps9
    go_wp2_with (go_at_call 12; refine (HHA.out _ HT0.out).mono ?_; rintro e w3 ⟨rfl, hb3⟩; have HT3 : Hid _ := HT0.out.nx hb3; clear hb3; obtain ⟨e0, e1, e2, e3, g0, g1, g2, g3⟩ := HT3.out.facts)
    refine (HHB.out _ HT3.out).mono ?_
    rintro e w4 ⟨rfl, hb4⟩
    have HT4 : Hid _ := HT3.out.nx hb4
    clear hb4
    go_wp2_with (go_at_call 13; refine (HALV.out _).mono ?_; rintro e w5 ⟨rfl, hb5⟩; have HT5 : Hid _ := HT4.out.nx hb5; clear hb5)
    go_ret
    exact ⟨rfl, HT5.out.bel⟩
  rw [decide_eq_false hb] at HHB
  have hszB : sz b ≤ 1000 := by have := sz_wt b; omega
  clear hb
  by_cases hl : 1000 < n
  · have hlI : (1000 : Int) < (n : Int) := by omega
    clear hl
    go_enter Tryd.func9, Tryd.ntmps9
    go_wp2_with (go_at_call 12; refine (HHA.out _ HT0.out).mono ?_; rintro e w3 ⟨rfl, hb3⟩; have HT3 : Hid _ := HT0.out.nx hb3; clear hb3; obtain ⟨e0, e1, e2, e3, g0, g1, g2, g3⟩ := HT3.out.facts)
    refine (HHB.out _ HT3.out).mono ?_
    rintro e w4 ⟨rfl, hb4⟩
    have HT4 : Hid _ := HT3.out.nx hb4
    clear hb4
    go_wp2_with (go_at_call 13; refine (HALV.out _).mono ?_; rintro e w5 ⟨rfl, hb5⟩; have HT5 : Hid _ := HT4.out.nx hb5; clear hb5)
    go_ret
    exact ⟨rfl, HT5.out.bel⟩
  have hlI : ¬ (1000 : Int) < (n : Int) := by omega
  have HPL : Hid (n ≤ 1000000) := by show _ ≤ _; omega
  have HSZ : Hid (sz a ≤ 1000 ∧ sz b ≤ 1000) := ⟨hszA, hszB⟩
  clear hl hpm hszA hszB
  cases hq : atP a ps with
  | none =>
    have HN1 : Hid _ := hq
    have HN2 : Hid _ := putP_none b hq
    clear hq
    go_enter Tryd.func9, Tryd.ntmps9
    go_wp2_with (go_at_call 12; refine (HHA.out _ HT0.out).mono ?_; rintro e w3 ⟨rfl, hb3⟩; have HT3 : Hid _ := HT0.out.nx hb3; clear hb3; obtain ⟨e0, e1, e2, e3, g0, g1, g2, g3⟩ := HT3.out.facts)
    refine (HHB.out _ HT3.out).mono ?_
    rintro e w4 ⟨rfl, hb4⟩
    have HT4 : Hid _ := HT3.out.nx hb4
    clear hb4 e0 e1 e2 e3 g0 g1 g2 g3
    obtain ⟨e0, e1, e2, e3, g0, g1, g2, g3⟩ := HT4.out.facts
    go_wp2_with (go_at_call 23; refine (at_n pa pc n HT4.out.ka (HI0.out _ HT4.out.bel) HNN.out HPL.out (by have := HSZ.out.1; omega) HN1.out).mono ?_; rintro e w5 ⟨⟨u5, c5, rfl⟩, hb5⟩; have HT5 : Hid _ := (HT4.out.nx hb5).nx (al_below _ (.cells #[.int .i64 0, .string ⟨#[]⟩, .slice u5 0 c5, .slice none 0 0] 25)); clear hb5 e0 e1 e2 e3 g0 g1 g2 g3; obtain ⟨e0, e1, e2, e3, g0, g1, g2, g3⟩ := HT5.out.facts)
    refine (put_n pa pc n HT5.out.ka HT5.out.kb (HI0.out _ HT5.out.bel) HNN.out HPL.out (by have := HSZ.out.1; have := HSZ.out.2; omega) HN2.out).mono ?_
    rintro e w6 ⟨⟨u6, c6, rfl⟩, hb6⟩
    have HT6 : Hid _ := (HT5.out.nx hb6).nx (al_below _ (.cells #[.int .i64 0, .string ⟨#[]⟩, .slice u6 0 c6, .slice none 0 0] 25))
    clear hb6 e0 e1 e2 e3 g0 g1 g2 g3
    go_wp2_with (go_at_call 13; refine (HALV.out _).mono ?_; rintro e w7 ⟨rfl, hb7⟩; have HT7 : Hid _ := HT6.out.nx hb7; clear hb7)
    go_ret
    exact ⟨by simp, HT7.out.bel⟩
  | some old =>
    obtain ⟨nw, hnw⟩ := putP_some b hq
    have HN1 : Hid _ := hq
    have HN2 : Hid _ := hnw
    have HN3 : Hid _ := put_at hnw
    have HN4 : Hid _ := put_back hq hnw
    have HZ1 : Hid _ := at_sz hq
    have HZ2 : Hid _ := put_sz hnw
    clear hq hnw
    go_enter Tryd.func9, Tryd.ntmps9
    go_wp2_with (go_at_call 12; refine (HHA.out _ HT0.out).mono ?_; rintro e w3 ⟨rfl, hb3⟩; have HT3 : Hid _ := HT0.out.nx hb3; clear hb3; obtain ⟨e0, e1, e2, e3, g0, g1, g2, g3⟩ := HT3.out.facts)
    refine (HHB.out _ HT3.out).mono ?_
    rintro e w4 ⟨rfl, hb4⟩
    have HT4 : Hid _ := HT3.out.nx hb4
    clear hb4 e0 e1 e2 e3 g0 g1 g2 g3
    obtain ⟨e0, e1, e2, e3, g0, g1, g2, g3⟩ := HT4.out.facts
    go_wp2_with (go_at_call 23; refine (at_s pa pc n HT4.out.ka (HI0.out _ HT4.out.bel) HNN.out HPL.out (by have := HSZ.out.1; have := HSZ.out.2; have := HZ1.out; have := HZ2.out; omega) HN1.out).mono ?_; rintro e w5 ⟨⟨u5, k5, v5, l5, rfl, hta5⟩, hb5⟩; have HT5 : Hid _ := (HT4.out.nx hb5).nx (al_below _ (.cells #[.int .i64 old.kind, .string old.cons, .slice u5 old.text.length k5, .slice v5 old.kids.length l5] 25)); have HO5 : Hid _ := Bx.start hta5; clear hb5 hta5 e0 e1 e2 e3 g0 g1 g2 g3; obtain ⟨e0, e1, e2, e3, g0, g1, g2, g3⟩ := HT5.out.facts; obtain ⟨HOf0, HOf1, HOf2, HOf3⟩ := HO5.out.facts)
    refine (put_s pa pc n HT5.out.ka HT5.out.kb (HI0.out _ HT5.out.bel) HNN.out HPL.out (by have := HSZ.out.1; have := HSZ.out.2; have := HZ1.out; have := HZ2.out; omega) HN2.out).mono ?_
    rintro e w6 ⟨⟨u6, k6, v6, l6, rfl, hta6⟩, hb6⟩
    have HT6 : Hid _ := (HT5.out.nx hb6).nx (al_below _ (.cells #[.int .i64 nw.kind, .string nw.cons, .slice u6 nw.text.length k6, .slice v6 nw.kids.length l6] 25))
    have HO6 : Hid _ := (HO5.out.nx' hb6).nx' (al_below _ (.cells #[.int .i64 nw.kind, .string nw.cons, .slice u6 nw.text.length k6, .slice v6 nw.kids.length l6] 25))
    have HW6 : Hid _ := Bx.start hta6
    clear hb6 hta6 e0 e1 e2 e3 g0 g1 g2 g3 HOf0 HOf1 HOf2 HOf3
    obtain ⟨e0, e1, e2, e3, g0, g1, g2, g3⟩ := HT6.out.facts
    obtain ⟨HOf0, HOf1, HOf2, HOf3⟩ := HO6.out.facts
    obtain ⟨HWf0, HWf1, HWf2, HWf3⟩ := HW6.out.facts
    go_wp2_with (go_at_call 23; refine (at_s pa pc n HW6.out.ka (HI0.out _ HT6.out.bel) HNN.out HPL.out (by have := HSZ.out.1; have := HSZ.out.2; have := HZ1.out; have := HZ2.out; omega) HN3.out).mono ?_; rintro e w7 ⟨⟨u7, k7, v7, l7, rfl, hta7⟩, hb7⟩; have HT7 : Hid _ := (HT6.out.nx hb7).nx (al_below _ (.cells #[.int .i64 b.kind, .string b.cons, .slice u7 b.text.length k7, .slice v7 b.kids.length l7] 25)); have HO7 : Hid _ := (HO6.out.nx' hb7).nx' (al_below _ (.cells #[.int .i64 b.kind, .string b.cons, .slice u7 b.text.length k7, .slice v7 b.kids.length l7] 25)); have HW7 : Hid _ := (HW6.out.nx' hb7).nx' (al_below _ (.cells #[.int .i64 b.kind, .string b.cons, .slice u7 b.text.length k7, .slice v7 b.kids.length l7] 25)); have HV7 : Hid _ := Bx.start hta7; clear hb7 hta7 e0 e1 e2 e3 g0 g1 g2 g3 HOf0 HOf1 HOf2 HOf3 HWf0 HWf1 HWf2 HWf3; obtain ⟨e0, e1, e2, e3, g0, g1, g2, g3⟩ := HT7.out.facts; obtain ⟨HOf0, HOf1, HOf2, HOf3⟩ := HO7.out.facts; obtain ⟨HWf0, HWf1, HWf2, HWf3⟩ := HW7.out.facts; obtain ⟨HVf0, HVf1, HVf2, HVf3⟩ := HV7.out.facts)
    refine (put_s pa pc n HW7.out.ka HO7.out.ka (HI0.out _ HT7.out.bel) HNN.out HPL.out (by have := HSZ.out.1; have := HSZ.out.2; have := HZ1.out; have := HZ2.out; omega) HN4.out).mono ?_
    rintro e w8 ⟨⟨u8, k8, v8, l8, rfl, hta8⟩, hb8⟩
    have HT8 : Hid _ := (HT7.out.nx hb8).nx (al_below _ (.cells #[.int .i64 a.kind, .string a.cons, .slice u8 a.text.length k8, .slice v8 a.kids.length l8] 25))
    have HO8 : Hid _ := (HO7.out.nx' hb8).nx' (al_below _ (.cells #[.int .i64 a.kind, .string a.cons, .slice u8 a.text.length k8, .slice v8 a.kids.length l8] 25))
    have HW8 : Hid _ := (HW7.out.nx' hb8).nx' (al_below _ (.cells #[.int .i64 a.kind, .string a.cons, .slice u8 a.text.length k8, .slice v8 a.kids.length l8] 25))
    have HV8 : Hid _ := (HV7.out.nx' hb8).nx' (al_below _ (.cells #[.int .i64 a.kind, .string a.cons, .slice u8 a.text.length k8, .slice v8 a.kids.length l8] 25))
    have HK8 : Hid _ := Bx.start hta8
    clear hb8 hta8 e0 e1 e2 e3 g0 g1 g2 g3 HOf0 HOf1 HOf2 HOf3 HWf0 HWf1 HWf2 HWf3 HVf0 HVf1 HVf2 HVf3
    obtain ⟨e0, e1, e2, e3, g0, g1, g2, g3⟩ := HT8.out.facts
    obtain ⟨HOf0, HOf1, HOf2, HOf3⟩ := HO8.out.facts
    obtain ⟨HWf0, HWf1, HWf2, HWf3⟩ := HW8.out.facts
    obtain ⟨HVf0, HVf1, HVf2, HVf3⟩ := HV8.out.facts
    obtain ⟨HKf0, HKf1, HKf2, HKf3⟩ := HK8.out.facts
    have HSM : Hid (∀ W (x : Tm) n1 n2 xt xtc xa xc yt ytc ya yc, Bx x n1 xt xtc xa xc W → TA W x yt ytc ya yc → n2 = n1 → Calls Tryd.prog 21 #[.agg #[.int .i64 x.kind, .string x.cons, .slice xt x.text.length xtc, .slice xa x.kids.length xc], .agg #[.int .i64 x.kind, .string x.cons, .slice yt x.text.length ytc, .slice ya x.kids.length yc]] W fun e w' => e = .returned (.bool true) ∧ Below W.heap.size W w') := fun W x n1 n2 xt xtc xa xc yt ytc ya yc h1 h2 _ => by
      have := refSame_t x x xt xtc xa xc yt ytc ya yc W h1.ka h2
      rw [eqT_true rfl] at this
      exact this
    clear HOf0 HOf1 HOf2 HOf3 HWf0 HWf1 HWf2 HWf3
    go_wp2_with (go_at_call 13; refine (HALV.out _).mono ?_; rintro e w9 ⟨rfl, hb9⟩; have HT9 : Hid _ := HT8.out.nx hb9; have HV9 : Hid _ := HV8.out.nx' hb9; have HK9 : Hid _ := HK8.out.nx' hb9; clear hb9 e0 e1 e2 e3 g0 g1 g2 g3 HVf0 HVf1 HVf2 HVf3 HKf0 HKf1 HKf2 HKf3; obtain ⟨e0, e1, e2, e3, g0, g1, g2, g3⟩ := HT9.out.facts; obtain ⟨HVf0, HVf1, HVf2, HVf3⟩ := HV9.out.facts; obtain ⟨HKf0, HKf1, HKf2, HKf3⟩ := HK9.out.facts)
    refine (HSM.out _ _ _ _ _ _ _ _ _ _ _ _ HV9.out HT9.out.kb rfl).mono ?_
    rintro e w10 ⟨rfl, hb10⟩
    have HT10 : Hid _ := HT9.out.nx hb10
    have HV10 : Hid _ := HV9.out.nx' hb10
    have HK10 : Hid _ := HK9.out.nx' hb10
    clear hb10 e0 e1 e2 e3 g0 g1 g2 g3 HVf0 HVf1 HVf2 HVf3 HKf0 HKf1 HKf2 HKf3
    obtain ⟨e0, e1, e2, e3, g0, g1, g2, g3⟩ := HT10.out.facts
    obtain ⟨HVf0, HVf1, HVf2, HVf3⟩ := HV10.out.facts
    obtain ⟨HKf0, HKf1, HKf2, HKf3⟩ := HK10.out.facts
    go_wp2_with (go_at_call 21; refine (HSM.out _ _ _ _ _ _ _ _ _ _ _ _ HK10.out HT10.out.ka rfl).mono ?_; rintro e w11 ⟨rfl, hb11⟩; have HT11 : Hid _ := HT10.out.nx hb11; have HV11 : Hid _ := HV10.out.nx' hb11; have HK11 : Hid _ := HK10.out.nx' hb11; clear hb11 e0 e1 e2 e3 g0 g1 g2 g3 HVf0 HVf1 HVf2 HVf3 HKf0 HKf1 HKf2 HKf3; obtain ⟨e0, e1, e2, e3, g0, g1, g2, g3⟩ := HT11.out.facts; obtain ⟨HVf0, HVf1, HVf2, HVf3⟩ := HV11.out.facts; obtain ⟨HKf0, HKf1, HKf2, HKf3⟩ := HK11.out.facts)
    go_ret
    exact ⟨by simp, HT11.out.bel⟩
end Go.Proofs.YtlkcadibjmfmcaaDoor
