/- The law TreesStay, walked. -/
import Derived.Test.YtlnlkbkmnkjbhaaDoorGj
import Derived.Test.YtlnlkbkmnkjbhaaDoorG5
namespace Go.Proofs.YtlnlkbkmnkjbhaaDoor
open Go.RowKit

/-- A grammar and two trees in their boxes, and a path. -/
structure Sy (w : World) (G : Gm) (ga : Option Addr) (gc : Nat) (a b : Tr) (fa fb : Nat) (sa sb : Option Addr) (sc sd : Nat) (pa : Option Addr) (ps : List Int) (W : World) : Prop where
  bel : Below w.heap.size w W
  g0 : W.cell? ⟨w.heap.size, 0, none⟩ = some (.int .i64 G.nts)
  g1 : W.cell? ⟨w.heap.size, 1, none⟩ = some (.int .i64 G.start)
  g2 : W.cell? ⟨w.heap.size, 2, none⟩ = some (.slice ga G.rules.length gc)
  gr : RAt W W.heap.size ga G.rules
  ta : Bo a (w.heap.size + 1) fa sa sc W
  tb : Bo b (w.heap.size + 2) fb sb sd W
  pt : IAt W W.heap.size pa ps
section
variable {w : World} {G : Gm} {ga : Option Addr} {gc : Nat} {a b : Tr} {fa fb : Nat} {sa sb : Option Addr} {sc sd : Nat} {pa : Option Addr} {ps : List Int} {W W' : World}
theorem Sy.nx (h : Sy w G ga gc a b fa fb sa sb sc sd pa ps W) (hb : Below W.heap.size W W') : Sy w G ga gc a b fa fb sa sb sc sd pa ps W' := by
  have hl := h.ta.lt
  have k : ∀ q, W'.cell? ⟨w.heap.size, q, none⟩ = W.cell? ⟨w.heap.size, q, none⟩ := fun q => hb.cell (p := ⟨w.heap.size, q, none⟩) (by show w.heap.size < _; omega)
  exact ⟨below_of h.bel hb, (k 0).trans h.g0, (k 1).trans h.g1, (k 2).trans h.g2, (h.gr.keep hb).mono hb.size, h.ta.nx hb, h.tb.nx hb, h.pt.nx hb⟩
theorem Sy.facts (h : Sy w G ga gc a b fa fb sa sb sc sd pa ps W) : (W.cell? ⟨w.heap.size, 0, none⟩ = some (.int .i64 G.nts) ∧ W.cell? ⟨w.heap.size, 1, none⟩ = some (.int .i64 G.start) ∧ W.cell? ⟨w.heap.size, 2, none⟩ = some (.slice ga G.rules.length gc)) ∧ (W.cell? ⟨w.heap.size + 1, 0, none⟩ = some (.int .i64 a.rule) ∧ W.cell? ⟨w.heap.size + 1, 1, none⟩ = some (.int .u8 (a.byte.toNat : Int)) ∧ W.cell? ⟨w.heap.size + 1, 2, none⟩ = some (.slice sa a.kids.length sc)) ∧ (W.cell? ⟨w.heap.size + 2, 0, none⟩ = some (.int .i64 b.rule) ∧ W.cell? ⟨w.heap.size + 2, 1, none⟩ = some (.int .u8 (b.byte.toNat : Int)) ∧ W.cell? ⟨w.heap.size + 2, 2, none⟩ = some (.slice sb b.kids.length sd)) := ⟨⟨h.g0, h.g1, h.g2⟩, h.ta.facts, h.tb.facts⟩
theorem Bo.factsm {d : Tr} {b f : Nat} {va : Option Addr} {vc m : Nat} {W : World} (h : Bo d b f va vc W) (hm : d.rule = (m : Int)) : W.cell? ⟨b, 0, none⟩ = some (.int .i64 (m : Int)) ∧ W.cell? ⟨b, 1, none⟩ = some (.int .u8 (d.byte.toNat : Int)) ∧ W.cell? ⟨b, 2, none⟩ = some (.slice va d.kids.length vc) := by
  refine ⟨?_, h.a1, h.a2⟩
  rw [← hm]; exact h.a0
end
set_option maxRecDepth 100000 in
set_option maxHeartbeats 16000000 in
theorem treesStay_walk (G : Gm) (ga : Option Addr) (gc : Nat) (a : Tr) (sa : Option Addr) (sc fa : Nat) (ps : List Int) (pa : Option Addr) (pc : Nat) (b : Tr) (sb : Option Addr) (sd fb : Nat) (w : World) (hR : RAt w w.heap.size ga G.rules) (hka : TAt w w.heap.size fa sa a.kids) (hsc : a.kids.length ≤ sc) (hps : IAt w w.heap.size pa ps) (hpl : ps.length ≤ maxLen) (hkb : TAt w w.heap.size fb sb b.kids) (hsd : b.kids.length ≤ sd) (hTab : Tab w.heap.size w) :
    Calls Tryd.prog 12 #[.agg #[.int .i64 G.nts, .int .i64 G.start, .slice ga G.rules.length gc], .agg #[.int .i64 a.rule, .int .u8 (a.byte.toNat : Int), .slice sa a.kids.length sc], .slice pa ps.length pc, .agg #[.int .i64 b.rule, .int .u8 (b.byte.toNat : Int), .slice sb b.kids.length sd]] w fun e w' => e = .returned (.bool true) ∧ Below w.heap.size w w' := by
  obtain ⟨w1, hw1⟩ : ∃ w1, w.alloc (.cells #[.int .i64 G.nts, .int .i64 G.start, .slice ga G.rules.length gc] 24) = w1 := ⟨_, rfl⟩
  obtain ⟨w2, hw2⟩ : ∃ w2, w1.alloc (.cells #[.int .i64 a.rule, .int .u8 (a.byte.toNat : Int), .slice sa a.kids.length sc] 27) = w2 := ⟨_, rfl⟩
  obtain ⟨w3, hw3⟩ : ∃ w3, w2.alloc (.cells #[.int .i64 b.rule, .int .u8 (b.byte.toNat : Int), .slice sb b.kids.length sd] 27) = w3 := ⟨_, rfl⟩
  have s1 : w1.heap.size = w.heap.size + 1 := by rw [← hw1]; simp
  have s2 : w2.heap.size = w.heap.size + 2 := by rw [← hw2]; simp [s1]
  have s3 : w3.heap.size = w.heap.size + 3 := by rw [← hw3]; simp [s2]
  have hB1 : Below w.heap.size w w1 := by rw [← hw1]; exact al_below _ _
  have hB2 : Below w1.heap.size w1 w2 := by rw [← hw2]; exact al_below _ _
  have hB3 : Below w2.heap.size w2 w3 := by rw [← hw3]; exact al_below _ _
  have hB13 : Below w1.heap.size w1 w3 := hB2.trans (hB3.mono hB2.size)
  have hBw : Below w.heap.size w w3 := hB1.trans (hB13.mono hB1.size)
  have gg : ∀ j v, (#[.int .i64 G.nts, .int .i64 G.start, .slice ga G.rules.length gc] : Array Value)[j]? = some v → w3.cell? ⟨w.heap.size, j, none⟩ = some v := fun j v hv => (hB13.cell (p := ⟨w.heap.size, j, none⟩) (by show w.heap.size < _; omega)).trans (by rw [← hw1]; exact cell_new j hv)
  have T0 : Sy w G ga gc a b fa fb sa sb sc sd pa ps w3 := by
    refine ⟨hBw, gg 0 _ rfl, gg 1 _ rfl, gg 2 _ rfl, (hR.keep hBw).mono hBw.size, ?_, ?_, (hps.keep hBw).mono hBw.size⟩
    · have h : Bo a w1.heap.size fa sa sc w2 := by rw [← hw2]; exact Bo.start ((hka.keep hB1).mono hB1.size) hsc
      rw [s1] at h
      exact h.nx hB3
    · have hBw2 : Below w.heap.size w w2 := hB1.trans (hB2.mono hB1.size)
      have h : Bo b w2.heap.size fb sb sd w3 := by rw [← hw3]; exact Bo.start ((hkb.keep hBw2).mono hBw2.size) hsd
      rw [s2] at h
      exact h
  have HT0 : Hid _ := T0
  obtain ⟨⟨e0, e1, e2⟩, ⟨t0, t1, t2⟩, ⟨u0, u1, u2⟩⟩ := T0.facts
  have HALV : Hid (∀ W, Below w.heap.size w W → Calls Tryd.prog 15 #[] W fun e w' => e = .returned (.bool true) ∧ Below W.heap.size W w') := fun W h => alive_any W (hTab.nx h)
  have HHA : Hid (∀ W, Sy w G ga gc a b fa fb sa sb sc sd pa ps W → Calls Tryd.prog 13 #[.agg #[.int .i64 a.rule, .int .u8 (a.byte.toNat : Int), .slice sa a.kids.length sc]] W fun e w' => e = .returned (.bool (decide (1500 < sz a))) ∧ Below W.heap.size W w') := fun W h => heavy_any a sa sc fa W h.ta.ka
  have HHB : Hid (∀ W, Sy w G ga gc a b fa fb sa sb sc sd pa ps W → Calls Tryd.prog 13 #[.agg #[.int .i64 b.rule, .int .u8 (b.byte.toNat : Int), .slice sb b.kids.length sd]] W fun e w' => e = .returned (.bool (decide (1500 < sz b))) ∧ Below W.heap.size W w') := fun W h => heavy_any b sb sd fb W h.tb.ka
  have HHG : Hid (∀ W, Sy w G ga gc a b fa fb sa sb sc sd pa ps W → Calls Tryd.prog 14 #[.agg #[.int .i64 G.nts, .int .i64 G.start, .slice ga G.rules.length gc], .int .i64 500] W fun e w' => (∃ x, e = .returned (.bool x)) ∧ Below W.heap.size W w') := fun W h => gheavy_any G ga gc 500 W h.gr
  have HRT : Hid (∀ W nt x bx fx xa xc, Sy w G ga gc a b fa fb sa sb sc sd pa ps W → Bo x bx fx xa xc W → sz x ≤ 10000 → Calls Tryd.prog 17 #[.agg #[.int .i64 G.nts, .int .i64 G.start, .slice ga G.rules.length gc], .int .i64 nt, .agg #[.int .i64 x.rule, .int .u8 (x.byte.toNat : Int), .slice xa x.kids.length xc]] W fun e w' => e = .returned (.int .i64 (rightC G nt x)) ∧ Below W.heap.size W w') := fun W nt x bx fx xa xc h1 h2 h3 => tright_any G ga gc nt x xa xc fx W h1.gr h2.ka (by omega)
  have HRR : Hid _ := hR
  obtain ⟨n, hn⟩ : ∃ n, ps.length = n := ⟨_, rfl⟩
  rw [hn] at hpl ⊢
  unfold maxLen at hpl
  have HNN : Hid _ := hn
  clear hB1 hB2 hB3 hB13 hBw gg T0 hTab hka hkb hps hsc hsd hn hR
  by_cases ha : 1500 < sz a
  · rw [decide_eq_true ha] at HHA
    clear ha
    go_enter Tryd.func12, Tryd.ntmps12
    go_wp2_with (go_at_call 13; refine (HHA.out _ HT0.out).mono ?_; rintro e w3' ⟨rfl, hb3⟩; have HT3 : Hid _ := HT0.out.nx hb3; clear hb3 e0 e1 e2 t0 t1 t2 u0 u1 u2; obtain ⟨⟨e0, e1, e2⟩, ⟨t0, t1, t2⟩, ⟨u0, u1, u2⟩⟩ := HT3.out.facts)
    refine (HALV.out _ HT3.out.bel).mono ?_
    rintro e wz ⟨rfl, hbz⟩
    have HTZ : Hid _ := HT3.out.nx hbz
    clear hbz
    go_wp2
    go_ret
    exact ⟨by simp, HTZ.out.bel⟩
  rw [decide_eq_false ha] at HHA
  have HZA : Hid (sz a ≤ 1500) := by show _ ≤ _; omega
  clear ha
  by_cases hb : 1500 < sz b
  · rw [decide_eq_true hb] at HHB
    clear hb
    go_enter Tryd.func12, Tryd.ntmps12
    go_wp2_with (go_at_call 13; refine (HHA.out _ HT0.out).mono ?_; rintro e w3' ⟨rfl, hb3⟩; have HT3 : Hid _ := HT0.out.nx hb3; clear hb3 e0 e1 e2 t0 t1 t2 u0 u1 u2; obtain ⟨⟨e0, e1, e2⟩, ⟨t0, t1, t2⟩, ⟨u0, u1, u2⟩⟩ := HT3.out.facts)
    refine (HHB.out _ HT3.out).mono ?_
    rintro e w4 ⟨rfl, hb4⟩
    have HT4 : Hid _ := HT3.out.nx hb4
    clear hb4 e0 e1 e2 t0 t1 t2 u0 u1 u2
    obtain ⟨⟨e0, e1, e2⟩, ⟨t0, t1, t2⟩, ⟨u0, u1, u2⟩⟩ := HT4.out.facts
    go_wp2_with (go_at_call 15; refine (HALV.out _ HT4.out.bel).mono ?_; rintro e w6 ⟨rfl, hb6⟩; have HT6 : Hid _ := HT4.out.nx hb6; clear hb6)
    go_ret
    exact ⟨by simp, HT6.out.bel⟩
  rw [decide_eq_false hb] at HHB
  have HZB : Hid (sz b ≤ 1500) := by show _ ≤ _; omega
  clear hb
  by_cases hl : 1000 < n
  · have hlI : (1000 : Int) < (n : Int) := by omega
    clear hl
    go_enter Tryd.func12, Tryd.ntmps12
    go_wp2_with (go_at_call 13; refine (HHA.out _ HT0.out).mono ?_; rintro e w3' ⟨rfl, hb3⟩; have HT3 : Hid _ := HT0.out.nx hb3; clear hb3 e0 e1 e2 t0 t1 t2 u0 u1 u2; obtain ⟨⟨e0, e1, e2⟩, ⟨t0, t1, t2⟩, ⟨u0, u1, u2⟩⟩ := HT3.out.facts)
    refine (HHB.out _ HT3.out).mono ?_
    rintro e w4 ⟨rfl, hb4⟩
    have HT4 : Hid _ := HT3.out.nx hb4
    clear hb4 e0 e1 e2 t0 t1 t2 u0 u1 u2
    obtain ⟨⟨e0, e1, e2⟩, ⟨t0, t1, t2⟩, ⟨u0, u1, u2⟩⟩ := HT4.out.facts
    go_wp2_with (go_at_call 14; refine (HHG.out _ HT4.out).mono ?_)
    first | rintro e w5 x rfl hb5 | rintro e w5 ⟨⟨x, rfl⟩, hb5⟩
    have HT5 : Hid _ := HT4.out.nx hb5
    clear hb5 e0 e1 e2 t0 t1 t2 u0 u1 u2
    obtain ⟨⟨e0, e1, e2⟩, ⟨t0, t1, t2⟩, ⟨u0, u1, u2⟩⟩ := HT5.out.facts
    cases x with
    | true =>
      go_wp2_with (go_at_call 15; refine (HALV.out _ HT5.out.bel).mono ?_; rintro e w6 ⟨rfl, hb6⟩; have HT6 : Hid _ := HT5.out.nx hb6; clear hb6)
      go_ret
      exact ⟨by simp, HT6.out.bel⟩
    | false =>
      go_wp2_with (go_at_call 15; refine (HALV.out _ HT5.out.bel).mono ?_; rintro e w6 ⟨rfl, hb6⟩; have HT6 : Hid _ := HT5.out.nx hb6; clear hb6)
      go_ret
      exact ⟨by simp, HT6.out.bel⟩
  have hlI : ¬ (1000 : Int) < (n : Int) := by omega
  have HPL : Hid (ps.length ≤ 1000000000000) := by show _ ≤ _; rw [HNN.out]; omega
  clear hl hpl
  have HAT : Hid (∀ W x y bx fx xa xc, Bo x bx fx xa xc W → IAt W W.heap.size pa ps → sz x ≤ 10000 → atP x ps = y → Calls Tryd.prog 28 #[.agg #[.int .i64 x.rule, .int .u8 (x.byte.toNat : Int), .slice xa x.kids.length xc], .slice pa n pc] W fun e w' => APost W y e w') := fun W x y bx fx xa xc h1 h2 h3 h4 => by
    have := at_any x xa xc fx ps pa pc W h1.ka h1.hc (by omega) h2 HPL.out
    rw [h4, HNN.out] at this
    exact this
  have HPT : Hid (∀ W x y z bx fx xa xc bY fy ya yc, Bo x bx fx xa xc W → Bo y bY fy ya yc W → IAt W W.heap.size pa ps → sz x + sz y ≤ 10000 → putP x ps y = z → Calls Tryd.prog 30 #[.agg #[.int .i64 x.rule, .int .u8 (x.byte.toNat : Int), .slice xa x.kids.length xc], .slice pa n pc, .agg #[.int .i64 y.rule, .int .u8 (y.byte.toNat : Int), .slice ya y.kids.length yc]] W fun e w' => APost W z e w') := fun W x y z bx fx xa xc bY fy ya yc h1 h2 h3 h4 h5 => by
    have := put_any x y xa ya xc yc (fx + fy) ps pa pc W (h1.ka.more fy) h1.hc (by rw [Nat.add_comm]; exact h2.ka.more fx) h2.hc (by omega) h3 HPL.out
    rw [h5, HNN.out] at this
    exact this
  have HR1 : Hid (∀ W, Sy w G ga gc a b fa fb sa sb sc sd pa ps W → Calls Tryd.prog 17 #[.agg #[.int .i64 G.nts, .int .i64 G.start, .slice ga G.rules.length gc], .int .i64 G.start, .agg #[.int .i64 a.rule, .int .u8 (a.byte.toNat : Int), .slice sa a.kids.length sc]] W fun e w' => e = .returned (.int .i64 (rightC G G.start a)) ∧ Below W.heap.size W w') := fun W h => HRT.out _ G.start a _ _ _ _ h h.ta (by have := HZA.out; omega)
  by_cases h1 : rightC G G.start a = 0
  · rw [h1] at HR1
    have HOK : Hid _ := h1
    clear h1
    cases hq : atP a ps with
    | none =>
      have HQ : Hid _ := hq
      clear hq
      go_enter Tryd.func12, Tryd.ntmps12
      go_wp2_with (go_at_call 13; refine (HHA.out _ HT0.out).mono ?_; rintro e w3' ⟨rfl, hb3⟩; have HT3 : Hid _ := HT0.out.nx hb3; clear hb3 e0 e1 e2 t0 t1 t2 u0 u1 u2; obtain ⟨⟨e0, e1, e2⟩, ⟨t0, t1, t2⟩, ⟨u0, u1, u2⟩⟩ := HT3.out.facts)
      refine (HHB.out _ HT3.out).mono ?_
      rintro e w4 ⟨rfl, hb4⟩
      have HT4 : Hid _ := HT3.out.nx hb4
      clear hb4 e0 e1 e2 t0 t1 t2 u0 u1 u2
      obtain ⟨⟨e0, e1, e2⟩, ⟨t0, t1, t2⟩, ⟨u0, u1, u2⟩⟩ := HT4.out.facts
      go_wp2_with (go_at_call 14; refine (HHG.out _ HT4.out).mono ?_)
      first | rintro e w5 x rfl hb5 | rintro e w5 ⟨⟨x, rfl⟩, hb5⟩
      have HT5 : Hid _ := HT4.out.nx hb5
      clear hb5 e0 e1 e2 t0 t1 t2 u0 u1 u2
      obtain ⟨⟨e0, e1, e2⟩, ⟨t0, t1, t2⟩, ⟨u0, u1, u2⟩⟩ := HT5.out.facts
      cases x with
      | true =>
        go_wp2_with (go_at_call 15; refine (HALV.out _ HT5.out.bel).mono ?_; rintro e w6 ⟨rfl, hb6⟩; have HT6 : Hid _ := HT5.out.nx hb6; clear hb6)
        go_ret
        exact ⟨by simp, HT6.out.bel⟩
      | false =>
        go_wp2_with (go_at_call 17; refine (HR1.out _ HT5.out).mono ?_; rintro e w6 ⟨rfl, hb6⟩; have HT6 : Hid _ := HT5.out.nx hb6; clear hb6 e0 e1 e2 t0 t1 t2 u0 u1 u2; obtain ⟨⟨e0, e1, e2⟩, ⟨t0, t1, t2⟩, ⟨u0, u1, u2⟩⟩ := HT6.out.facts)
        refine (HAT.out _ _ _ _ _ _ _ HT6.out.ta HT6.out.pt (by have := HZA.out; omega) HQ.out).mono ?_
        rintro e w7 ⟨rfl, hb7⟩
        have HT7 : Hid _ := (HT6.out.nx hb7).nx (al_below _ (.cells #[.int .i64 0, .int .u8 0, .slice none 0 0] 27))
        clear hb7 e0 e1 e2 t0 t1 t2 u0 u1 u2
        go_wp2_with (go_at_call 15; refine (HALV.out _ HT7.out.bel).mono ?_; rintro e w8 ⟨rfl, hb8⟩; have HT8 : Hid _ := HT7.out.nx hb8; clear hb8)
        go_ret
        exact ⟨by simp, HT8.out.bel⟩
    | some old =>
      have HQ : Hid _ := hq
      have hst := stay_plain HOK.out hq
      have HZ1 : Hid _ := at_sz hq
      by_cases hlo : old.rule < 0
      · have hm1 : (old.rule == -1) = true := by have := hst.1 (.inl hlo); simp [this]
        clear hq hst
        go_enter Tryd.func12, Tryd.ntmps12
        go_wp2_with (go_at_call 13; refine (HHA.out _ HT0.out).mono ?_; rintro e w3' ⟨rfl, hb3⟩; have HT3 : Hid _ := HT0.out.nx hb3; clear hb3 e0 e1 e2 t0 t1 t2 u0 u1 u2; obtain ⟨⟨e0, e1, e2⟩, ⟨t0, t1, t2⟩, ⟨u0, u1, u2⟩⟩ := HT3.out.facts)
        refine (HHB.out _ HT3.out).mono ?_
        rintro e w4 ⟨rfl, hb4⟩
        have HT4 : Hid _ := HT3.out.nx hb4
        clear hb4 e0 e1 e2 t0 t1 t2 u0 u1 u2
        obtain ⟨⟨e0, e1, e2⟩, ⟨t0, t1, t2⟩, ⟨u0, u1, u2⟩⟩ := HT4.out.facts
        go_wp2_with (go_at_call 14; refine (HHG.out _ HT4.out).mono ?_)
        first | rintro e w5 x rfl hb5 | rintro e w5 ⟨⟨x, rfl⟩, hb5⟩
        have HT5 : Hid _ := HT4.out.nx hb5
        clear hb5 e0 e1 e2 t0 t1 t2 u0 u1 u2
        obtain ⟨⟨e0, e1, e2⟩, ⟨t0, t1, t2⟩, ⟨u0, u1, u2⟩⟩ := HT5.out.facts
        cases x with
        | true =>
          go_wp2_with (go_at_call 15; refine (HALV.out _ HT5.out.bel).mono ?_; rintro e w6 ⟨rfl, hb6⟩; have HT6 : Hid _ := HT5.out.nx hb6; clear hb6)
          go_ret
          exact ⟨by simp, HT6.out.bel⟩
        | false =>
          go_wp2_with (go_at_call 17; refine (HR1.out _ HT5.out).mono ?_; rintro e w6 ⟨rfl, hb6⟩; have HT6 : Hid _ := HT5.out.nx hb6; clear hb6 e0 e1 e2 t0 t1 t2 u0 u1 u2; obtain ⟨⟨e0, e1, e2⟩, ⟨t0, t1, t2⟩, ⟨u0, u1, u2⟩⟩ := HT6.out.facts)
          refine (HAT.out _ _ _ _ _ _ _ HT6.out.ta HT6.out.pt (by have := HZA.out; omega) HQ.out).mono ?_
          rintro e w7 ⟨⟨F7, v7, c7, rfl, hvc7, htin7⟩, hb7⟩
          have HT7 : Hid _ := (HT6.out.nx hb7).nx (al_below _ (.cells #[.int .i64 old.rule, .int .u8 (old.byte.toNat : Int), .slice v7 old.kids.length c7] 27))
          have HO7 : Hid _ := Bo.start (d := old) (f := F7) (va := v7) (vc := c7) (W := w7) (htin7.tat (fun b h => h.2)) hvc7
          clear hb7 htin7 hvc7 e0 e1 e2 t0 t1 t2 u0 u1 u2
          obtain ⟨⟨e0, e1, e2⟩, ⟨t0, t1, t2⟩, ⟨u0, u1, u2⟩⟩ := HT7.out.facts
          obtain ⟨o0, o1, o2⟩ := HO7.out.facts
          go_wp2_with (go_at_call 15; refine (HALV.out _ HT7.out.bel).mono ?_; rintro e w8 ⟨rfl, hb8⟩; have HT8 : Hid _ := HT7.out.nx hb8; have HO8 : Hid _ := HO7.out.nx hb8; clear hb8; obtain ⟨o0, o1, o2⟩ := HO8.out.facts)
          go_ret
          exact ⟨by simp, HT8.out.bel⟩
      by_cases hhi : (G.rules.length : Int) ≤ old.rule
      · exact absurd (hst.1 (.inr hhi)) (by omega)
      have hgo := hst.2 (by omega) (by omega)
      obtain ⟨nw, hnw⟩ := putP_some b hq
      have HN2 : Hid _ := hnw
      have HCC : Hid _ := hgo.2 b nw hnw
      have HZ2 : Hid _ := put_sz hnw
      obtain ⟨r, hr⟩ : ∃ r, G.rules[old.rule.toNat]? = some r := ⟨G.rules[old.rule.toNat]'(by omega), by simp⟩
      have hro : ruleOf G old.rule = r := by unfold ruleOf; rw [List.getD_eq_getElem?_getD, hr]; rfl
      obtain ⟨m, hm⟩ : ∃ m : Nat, old.rule = (m : Int) := ⟨old.rule.toNat, by omega⟩
      obtain ⟨rb, ro, ka, kc, rfl, hrb, _, c0, _⟩ := HRR.out.cells _ r hr
      have hmm : old.rule.toNat = m := by omega
      rw [hmm] at c0
      rw [hro] at HCC
      have hml : (m : Int) < (G.rules.length : Int) := by omega
      have hml' : ¬ (G.rules.length : Int) ≤ (m : Int) := by omega
      have hm0 : ¬ (m : Int) < 0 := by omega
      have HM : Hid _ := hm
      have ho0 := hgo.1
      rw [hro] at ho0
      have HRO : Hid (∀ W bx fx xa xc, Sy w G (some ⟨rb, ro, none⟩) gc a b fa fb sa sb sc sd pa ps W → Bo old bx fx xa xc W → Calls Tryd.prog 17 #[.agg #[.int .i64 G.nts, .int .i64 G.start, .slice (some ⟨rb, ro, none⟩) G.rules.length gc], .int .i64 r.lhs, .agg #[.int .i64 (m : Int), .int .u8 (old.byte.toNat : Int), .slice xa old.kids.length xc]] W fun e w' => e = .returned (.int .i64 0) ∧ Below W.heap.size W w') := fun W bx fx xa xc h1 h2 => by
        have := HRT.out W r.lhs old bx fx xa xc h1 h2 (by have := HZ1.out; have := HZA.out; omega)
        rw [hm, ho0] at this
        exact this
      clear hq hst hgo hnw hr hro hm hmm hlo hhi ho0
      go_enter Tryd.func12, Tryd.ntmps12
      go_wp2_with (go_at_call 13; refine (HHA.out _ HT0.out).mono ?_; rintro e w3' ⟨rfl, hb3⟩; have HT3 : Hid _ := HT0.out.nx hb3; clear hb3 e0 e1 e2 t0 t1 t2 u0 u1 u2; obtain ⟨⟨e0, e1, e2⟩, ⟨t0, t1, t2⟩, ⟨u0, u1, u2⟩⟩ := HT3.out.facts)
      refine (HHB.out _ HT3.out).mono ?_
      rintro e w4 ⟨rfl, hb4⟩
      have HT4 : Hid _ := HT3.out.nx hb4
      clear hb4 e0 e1 e2 t0 t1 t2 u0 u1 u2
      obtain ⟨⟨e0, e1, e2⟩, ⟨t0, t1, t2⟩, ⟨u0, u1, u2⟩⟩ := HT4.out.facts
      go_wp2_with (go_at_call 14; refine (HHG.out _ HT4.out).mono ?_)
      first | rintro e w5 x rfl hb5 | rintro e w5 ⟨⟨x, rfl⟩, hb5⟩
      have HT5 : Hid _ := HT4.out.nx hb5
      clear hb5 e0 e1 e2 t0 t1 t2 u0 u1 u2
      obtain ⟨⟨e0, e1, e2⟩, ⟨t0, t1, t2⟩, ⟨u0, u1, u2⟩⟩ := HT5.out.facts
      cases x with
      | true =>
        go_wp2_with (go_at_call 15; refine (HALV.out _ HT5.out.bel).mono ?_; rintro e w6 ⟨rfl, hb6⟩; have HT6 : Hid _ := HT5.out.nx hb6; clear hb6)
        go_ret
        exact ⟨by simp, HT6.out.bel⟩
      | false =>
        go_wp2_with (go_at_call 17; refine (HR1.out _ HT5.out).mono ?_; rintro e w6 ⟨rfl, hb6⟩; have HT6 : Hid _ := HT5.out.nx hb6; clear hb6 e0 e1 e2 t0 t1 t2 u0 u1 u2; obtain ⟨⟨e0, e1, e2⟩, ⟨t0, t1, t2⟩, ⟨u0, u1, u2⟩⟩ := HT6.out.facts)
        refine (HAT.out _ _ _ _ _ _ _ HT6.out.ta HT6.out.pt (by have := HZA.out; omega) HQ.out).mono ?_
        rintro e w7 ⟨⟨F7, v7, c7, rfl, hvc7, htin7⟩, hb7⟩
        have HT7 : Hid _ := (HT6.out.nx hb7).nx (al_below _ (.cells #[.int .i64 old.rule, .int .u8 (old.byte.toNat : Int), .slice v7 old.kids.length c7] 27))
        have HO7 : Hid _ := Bo.start (d := old) (f := F7) (va := v7) (vc := c7) (W := w7) (htin7.tat (fun b h => h.2)) hvc7
        clear hb7 htin7 hvc7 e0 e1 e2 t0 t1 t2 u0 u1 u2
        obtain ⟨⟨e0, e1, e2⟩, ⟨t0, t1, t2⟩, ⟨u0, u1, u2⟩⟩ := HT7.out.facts
        obtain ⟨o0, o1, o2⟩ := HO7.out.factsm HM.out
        have c0' := (HT7.out.bel.cell (p := ⟨rb, ro + m * 2, none⟩) hrb).trans c0
        go_wp2_with (go_at_call 30; refine (HPT.out _ _ _ _ _ _ _ _ _ _ _ _ HT7.out.ta HT7.out.tb HT7.out.pt (by have := HZA.out; have := HZB.out; omega) HN2.out).mono ?_; rintro e w8 ⟨⟨F8, v8, c8, rfl, hvc8, htin8⟩, hb8⟩; have HT8 : Hid _ := (HT7.out.nx hb8).nx (al_below _ (.cells #[.int .i64 nw.rule, .int .u8 (nw.byte.toNat : Int), .slice v8 nw.kids.length c8] 27)); have HO8 : Hid _ := (HO7.out.nx hb8).nx (al_below _ (.cells #[.int .i64 nw.rule, .int .u8 (nw.byte.toNat : Int), .slice v8 nw.kids.length c8] 27)); have HW8 : Hid _ := Bo.start (d := nw) (f := F8) (va := v8) (vc := c8) (W := w8) (htin8.tat (fun b h => h.2)) hvc8; clear hb8 htin8 hvc8 c0' e0 e1 e2 t0 t1 t2 u0 u1 u2 o0 o1 o2; obtain ⟨⟨e0, e1, e2⟩, ⟨t0, t1, t2⟩, ⟨u0, u1, u2⟩⟩ := HT8.out.facts; obtain ⟨o0, o1, o2⟩ := HO8.out.factsm HM.out; obtain ⟨p0, p1, p2⟩ := HW8.out.facts)
        refine (HRT.out _ _ _ _ _ _ _ HT8.out HT8.out.tb (by have := HZB.out; omega)).mono ?_
        rintro e w9 ⟨rfl, hb9⟩
        have HT9 : Hid _ := HT8.out.nx hb9
        have HO9 : Hid _ := HO8.out.nx hb9
        have HW9 : Hid _ := HW8.out.nx hb9
        clear hb9 e0 e1 e2 t0 t1 t2 u0 u1 u2 o0 o1 o2 p0 p1 p2
        obtain ⟨⟨e0, e1, e2⟩, ⟨t0, t1, t2⟩, ⟨u0, u1, u2⟩⟩ := HT9.out.facts
        obtain ⟨o0, o1, o2⟩ := HO9.out.factsm HM.out
        obtain ⟨p0, p1, p2⟩ := HW9.out.facts
        go_wp2_with (go_at_call 15; refine (HALV.out _ HT9.out.bel).mono ?_; rintro e w10 ⟨rfl, hb10⟩; have HT10 : Hid _ := HT9.out.nx hb10; have HO10 : Hid _ := HO9.out.nx hb10; have HW10 : Hid _ := HW9.out.nx hb10; clear hb10 e0 e1 e2 t0 t1 t2 u0 u1 u2 o0 o1 o2 p0 p1 p2; obtain ⟨⟨e0, e1, e2⟩, ⟨t0, t1, t2⟩, ⟨u0, u1, u2⟩⟩ := HT10.out.facts; obtain ⟨o0, o1, o2⟩ := HO10.out.factsm HM.out; obtain ⟨p0, p1, p2⟩ := HW10.out.facts)
        refine (HRO.out _ _ _ _ _ HT10.out HO10.out).mono ?_
        rintro e w11 ⟨rfl, hb11⟩
        have HT11 : Hid _ := HT10.out.nx hb11
        have HO11 : Hid _ := HO10.out.nx hb11
        have HW11 : Hid _ := HW10.out.nx hb11
        clear hb11 e0 e1 e2 t0 t1 t2 u0 u1 u2 o0 o1 o2 p0 p1 p2
        obtain ⟨⟨e0, e1, e2⟩, ⟨t0, t1, t2⟩, ⟨u0, u1, u2⟩⟩ := HT11.out.facts
        obtain ⟨o0, o1, o2⟩ := HO11.out.factsm HM.out
        obtain ⟨p0, p1, p2⟩ := HW11.out.facts
        go_wp2_with (go_at_call 17; refine (HRT.out _ _ _ _ _ _ _ HT11.out HW11.out (by have := HZA.out; have := HZB.out; have := HZ2.out; omega)).mono ?_; rintro e w12 ⟨rfl, hb12⟩; have HT12 : Hid _ := HT11.out.nx hb12; clear hb12)
        go_ret
        exact ⟨by simp [HCC.out], HT12.out.bel⟩
  · have hne : (rightC G G.start a != 0) = true := by simp [h1]
    generalize rightC G G.start a = c1 at HR1 hne
    clear h1
    go_enter Tryd.func12, Tryd.ntmps12
    go_wp2_with (go_at_call 13; refine (HHA.out _ HT0.out).mono ?_; rintro e w3' ⟨rfl, hb3⟩; have HT3 : Hid _ := HT0.out.nx hb3; clear hb3 e0 e1 e2 t0 t1 t2 u0 u1 u2; obtain ⟨⟨e0, e1, e2⟩, ⟨t0, t1, t2⟩, ⟨u0, u1, u2⟩⟩ := HT3.out.facts)
    refine (HHB.out _ HT3.out).mono ?_
    rintro e w4 ⟨rfl, hb4⟩
    have HT4 : Hid _ := HT3.out.nx hb4
    clear hb4 e0 e1 e2 t0 t1 t2 u0 u1 u2
    obtain ⟨⟨e0, e1, e2⟩, ⟨t0, t1, t2⟩, ⟨u0, u1, u2⟩⟩ := HT4.out.facts
    go_wp2_with (go_at_call 14; refine (HHG.out _ HT4.out).mono ?_)
    first | rintro e w5 x rfl hb5 | rintro e w5 ⟨⟨x, rfl⟩, hb5⟩
    have HT5 : Hid _ := HT4.out.nx hb5
    clear hb5 e0 e1 e2 t0 t1 t2 u0 u1 u2
    obtain ⟨⟨e0, e1, e2⟩, ⟨t0, t1, t2⟩, ⟨u0, u1, u2⟩⟩ := HT5.out.facts
    cases x with
    | true =>
      go_wp2_with (go_at_call 15; refine (HALV.out _ HT5.out.bel).mono ?_; rintro e w6 ⟨rfl, hb6⟩; have HT6 : Hid _ := HT5.out.nx hb6; clear hb6)
      go_ret
      exact ⟨by simp, HT6.out.bel⟩
    | false =>
      go_wp2_with (go_at_call 17; refine (HR1.out _ HT5.out).mono ?_; rintro e w6 ⟨rfl, hb6⟩; have HT6 : Hid _ := HT5.out.nx hb6; clear hb6)
      refine (HALV.out _ HT6.out.bel).mono ?_
      rintro e wz ⟨rfl, hbz⟩
      have HTZ : Hid _ := HT6.out.nx hbz
      clear hbz
      go_wp2
      go_ret
      exact ⟨by simp, HTZ.out.bel⟩
end Go.Proofs.YtlnlkbkmnkjbhaaDoor
