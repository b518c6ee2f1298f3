/- The law TreesPut, walked. -/
import Derived.Test.YtlnlkbkmnkjbhaaDoorP4
import Derived.Test.YtlnlkbkmnkjbhaaDoorG1
namespace Go.Proofs.YtlnlkbkmnkjbhaaDoor
open Go.RowKit

/-- A tree in a box. -/
structure Bo (d : Tr) (b f : Nat) (va : Option Addr) (vc : Nat) (W : World) : Prop where
  a0 : W.cell? ⟨b, 0, none⟩ = some (.int .i64 d.rule)
  a1 : W.cell? ⟨b, 1, none⟩ = some (.int .u8 (d.byte.toNat : Int))
  a2 : W.cell? ⟨b, 2, none⟩ = some (.slice va d.kids.length vc)
  ka : TAt W W.heap.size f va d.kids
  hc : d.kids.length ≤ vc
  lt : b < W.heap.size
section
variable {d : Tr} {b f : Nat} {va : Option Addr} {vc : Nat} {W W' : World}
theorem Bo.nx (h : Bo d b f va vc W) (hb : Below W.heap.size W W') : Bo d b f va vc W' := by
  have k : ∀ q, W'.cell? ⟨b, q, none⟩ = W.cell? ⟨b, q, none⟩ := fun q => hb.cell (p := ⟨b, q, none⟩) h.lt
  exact ⟨(k 0).trans h.a0, (k 1).trans h.a1, (k 2).trans h.a2, (h.ka.keep hb).mono hb.size, h.hc, Nat.lt_of_lt_of_le h.lt hb.size⟩
theorem Bo.facts (h : Bo d b f va vc W) : W.cell? ⟨b, 0, none⟩ = some (.int .i64 d.rule) ∧ W.cell? ⟨b, 1, none⟩ = some (.int .u8 (d.byte.toNat : Int)) ∧ W.cell? ⟨b, 2, none⟩ = some (.slice va d.kids.length vc) := ⟨h.a0, h.a1, h.a2⟩
theorem Bo.start (hk : TAt W W.heap.size f va d.kids) (hc : d.kids.length ≤ vc) : Bo d W.heap.size f va vc (W.alloc (.cells #[.int .i64 d.rule, .int .u8 (d.byte.toNat : Int), .slice va d.kids.length vc] 27)) := by
  have hb := (Below.refl W.heap.size W).alloc (Nat.le_refl _) (.cells #[.int .i64 d.rule, .int .u8 (d.byte.toNat : Int), .slice va d.kids.length vc] 27)
  exact ⟨cell_new 0 rfl, cell_new 1 rfl, cell_new 2 rfl, (hk.keep hb).mono hb.size, hc, by simp⟩
theorem Tw.boa {w : World} {a b : Tr} {f : Nat} {sa sb : Option Addr} {sc sd : Nat} {W : World} (h : Tw w a b f sa sb sc sd W) (hc : a.kids.length ≤ sc) : Bo a w.heap.size f sa sc W := ⟨h.a0, h.a1, h.a2, h.ka, hc, by have := h.lt; omega⟩
theorem Tw.bob {w : World} {a b : Tr} {f : Nat} {sa sb : Option Addr} {sc sd : Nat} {W : World} (h : Tw w a b f sa sb sc sd W) (hc : b.kids.length ≤ sd) : Bo b (w.heap.size + 1) f sb sd W := ⟨h.b0, h.b1, h.b2, h.kb, hc, h.lt⟩
end
theorem al_below (W : World) (o : Obj) : Below W.heap.size W (W.alloc o) := (Below.refl _ _).alloc (Nat.le_refl _) _
theorem IAt.nx {W W' : World} {pa : Option Addr} {ps : List Int} (h : IAt W W.heap.size pa ps) (hb : Below W.heap.size W W') : IAt W' W'.heap.size pa ps := (h.keep hb).mono hb.size
set_option maxRecDepth 100000 in
set_option maxHeartbeats 16000000 in
theorem treesPut_walk (a : Tr) (sa : Option Addr) (sc fa : Nat) (ps : List Int) (pa : Option Addr) (pc : Nat) (b : Tr) (sb : Option Addr) (sd fb : Nat) (w : World) (hka0 : TAt w w.heap.size fa sa a.kids) (hsc : a.kids.length ≤ sc) (hps : IAt w w.heap.size pa ps) (hpl : ps.length ≤ maxLen) (hkb0 : TAt w w.heap.size fb sb b.kids) (hsd : b.kids.length ≤ sd) (hTab : Tab w.heap.size w) :
    Calls Tryd.prog 10 #[.agg #[.int .i64 a.rule, .int .u8 (a.byte.toNat : Int), .slice sa a.kids.length sc], .slice pa ps.length pc, .agg #[.int .i64 b.rule, .int .u8 (b.byte.toNat : Int), .slice sb b.kids.length sd]] w fun e w' => e = .returned (.bool true) ∧ Below w.heap.size w w' := by
  obtain ⟨f, hf⟩ : ∃ f, fa + fb = f := ⟨_, rfl⟩
  have hka : TAt w w.heap.size f sa a.kids := by rw [← hf]; exact hka0.more fb
  have hkb : TAt w w.heap.size f sb b.kids := by rw [← hf, Nat.add_comm]; exact hkb0.more fa
  obtain ⟨w1, hw1⟩ : ∃ w1, w.alloc (.cells #[.int .i64 a.rule, .int .u8 (a.byte.toNat : Int), .slice sa a.kids.length sc] 27) = w1 := ⟨_, rfl⟩
  have s1 : w1.heap.size = w.heap.size + 1 := by rw [← hw1]; simp
  have hB1 : Below w.heap.size w w1 := by rw [← hw1]; exact (Below.refl _ _).alloc (Nat.le_refl _) _
  obtain ⟨w2, hw2⟩ : ∃ w2, w1.alloc (.cells #[.int .i64 b.rule, .int .u8 (b.byte.toNat : Int), .slice sb b.kids.length sd] 27) = w2 := ⟨_, rfl⟩
  have hB2' : Below w1.heap.size w1 w2 := by rw [← hw2]; exact (Below.refl _ _).alloc (Nat.le_refl _) _
  have hB2 : Below w.heap.size w w2 := hB1.trans (hB2'.mono (by omega))
  have T0 : Tw w a b f sa sb sc sd w2 := by
    have c1 : ∀ j v, (#[.int .i64 a.rule, .int .u8 (a.byte.toNat : Int), .slice sa a.kids.length sc] : Array Value)[j]? = some v → w2.cell? ⟨w.heap.size, j, none⟩ = some v := fun j v hv => (hB2'.cell (p := ⟨w.heap.size, j, none⟩) (by show w.heap.size < _; omega)).trans (by rw [← hw1]; exact cell_new j hv)
    have c2 : ∀ j v, (#[.int .i64 b.rule, .int .u8 (b.byte.toNat : Int), .slice sb b.kids.length sd] : Array Value)[j]? = some v → w2.cell? ⟨w.heap.size + 1, j, none⟩ = some v := fun j v hv => by rw [← hw2, ← s1]; exact cell_new j hv
    exact ⟨hB2, c1 0 _ rfl, c1 1 _ rfl, c1 2 _ rfl, c2 0 _ rfl, c2 1 _ rfl, c2 2 _ rfl, (hka.keep hB2).mono hB2.size, (hkb.keep hB2).mono hB2.size, by rw [← hw2]; simp; omega⟩
  have HT0 : Hid _ := T0
  have HI0 : Hid (IAt w2 w2.heap.size pa ps) := (hps.keep hB2).mono hB2.size
  obtain ⟨e0, e1, e2, g0, g1, g2⟩ := T0.facts
  have HALV : Hid (∀ W, Below w.heap.size w W → Calls Tryd.prog 15 #[] W fun e w' => e = .returned (.bool true) ∧ Below W.heap.size W w') := fun W h => alive_any W (hTab.nx h)
  have HHA : Hid (∀ W, Tw w a b f sa sb sc sd W → Calls Tryd.prog 13 #[.agg #[.int .i64 a.rule, .int .u8 (a.byte.toNat : Int), .slice sa a.kids.length sc]] W fun e w' => e = .returned (.bool (decide (1500 < sz a))) ∧ Below W.heap.size W w') := fun W h => heavy_any a sa sc f W h.ka
  have HHB : Hid (∀ W, Tw w a b f sa sb sc sd W → Calls Tryd.prog 13 #[.agg #[.int .i64 b.rule, .int .u8 (b.byte.toNat : Int), .slice sb b.kids.length sd]] W fun e w' => e = .returned (.bool (decide (1500 < sz b))) ∧ Below W.heap.size W w') := fun W h => heavy_any b sb sd f W h.kb
  have HSC : Hid _ := And.intro hsc hsd
  obtain ⟨n, hn⟩ : ∃ n, ps.length = n := ⟨_, rfl⟩
  rw [hn] at hpl ⊢
  unfold maxLen at hpl
  have HNN : Hid _ := hn
  clear hB2' hB1 hB2 hka hkb T0 hTab hka0 hkb0 hf hps hsc hsd hn
  by_cases ha : 1500 < sz a
  · rw [decide_eq_true ha] at HHA
    clear ha
    go_enter Tryd.func10, Tryd.ntmps10
    go_wp2_with (go_at_call 13; refine (HHA.out _ HT0.out).mono ?_; rintro e w3 ⟨rfl, hb3⟩; have HT3 : Hid _ := HT0.out.nx hb3; clear hb3)
    refine (HALV.out _ HT3.out.bel).mono ?_
    rintro e w4 ⟨rfl, hb4⟩
    have HT4 : Hid _ := HT3.out.nx hb4
    clear hb4
    go_wp2
    go_ret
    exact ⟨rfl, HT4.out.bel⟩
  rw [decide_eq_false ha] at HHA
  have hszA : sz a ≤ 1500 := by omega
  clear ha
  by_cases hb : 1500 < sz b
  · rw [decide_eq_true hb] at HHB
    clear hb
    go_enter Tryd.func10, Tryd.ntmps10
    go_wp2_with (go_at_call 13; refine (HHA.out _ HT0.out).mono ?_; rintro e w3 ⟨rfl, hb3⟩; have HT3 : Hid _ := HT0.out.nx hb3; clear hb3; obtain ⟨e0, e1, e2, g0, g1, g2⟩ := HT3.out.facts)
    refine (HHB.out _ HT3.out).mono ?_
    rintro e w4 ⟨rfl, hb4⟩
    have HT4 : Hid _ := HT3.out.nx hb4
    clear hb4
    go_wp2_with (go_at_call 15; refine (HALV.out _ HT4.out.bel).mono ?_; rintro e w5 ⟨rfl, hb5⟩; have HT5 : Hid _ := HT4.out.nx hb5; clear hb5)
    go_ret
    exact ⟨rfl, HT5.out.bel⟩
  rw [decide_eq_false hb] at HHB
  have hszB : sz b ≤ 1500 := by omega
  clear hb
  by_cases hl : 1000 < n
  · have hlI : (1000 : Int) < (n : Int) := by omega
    clear hl
    go_enter Tryd.func10, Tryd.ntmps10
    go_wp2_with (go_at_call 13; refine (HHA.out _ HT0.out).mono ?_; rintro e w3 ⟨rfl, hb3⟩; have HT3 : Hid _ := HT0.out.nx hb3; clear hb3; obtain ⟨e0, e1, e2, g0, g1, g2⟩ := HT3.out.facts)
    refine (HHB.out _ HT3.out).mono ?_
    rintro e w4 ⟨rfl, hb4⟩
    have HT4 : Hid _ := HT3.out.nx hb4
    clear hb4
    go_wp2_with (go_at_call 15; refine (HALV.out _ HT4.out.bel).mono ?_; rintro e w5 ⟨rfl, hb5⟩; have HT5 : Hid _ := HT4.out.nx hb5; clear hb5)
    go_ret
    exact ⟨rfl, HT5.out.bel⟩
  have hlI : ¬ (1000 : Int) < (n : Int) := by omega
  have HPL : Hid (ps.length ≤ 1000000000000) := by show _ ≤ _; rw [HNN.out]; omega
  clear hl hpl
  have HAT : Hid (∀ W x y bx fx xa xc, Bo x bx fx xa xc W → IAt W W.heap.size pa ps → sz x ≤ 10000 → atP x ps = y → Calls Tryd.prog 28 #[.agg #[.int .i64 x.rule, .int .u8 (x.byte.toNat : Int), .slice xa x.kids.length xc], .slice pa n pc] W fun e w' => APost W y e w') := fun W x y bx fx xa xc h1 h2 h3 h4 => by
    have := at_any x xa xc fx ps pa pc W h1.ka h1.hc (by omega) h2 HPL.out
    rw [h4, HNN.out] at this
    exact this
  have HPT : Hid (∀ W x y z bx fx xa xc bY fy ya yc, Bo x bx fx xa xc W → Bo y bY fy ya yc W → IAt W W.heap.size pa ps → sz x + sz y ≤ 10000 → putP x ps y = z → Calls Tryd.prog 30 #[.agg #[.int .i64 x.rule, .int .u8 (x.byte.toNat : Int), .slice xa x.kids.length xc], .slice pa n pc, .agg #[.int .i64 y.rule, .int .u8 (y.byte.toNat : Int), .slice ya y.kids.length yc]] W fun e w' => APost W z e w') := fun W x y z bx fx xa xc bY fy ya yc h1 h2 h3 h4 h5 => by
    have := put_any x y xa ya xc yc (fx + fy) ps pa pc W (h1.ka.more fy) h1.hc (by rw [Nat.add_comm]; exact h2.ka.more fx) h2.hc (by omega) h3 HPL.out
    rw [h5, HNN.out] at this
    exact this
  have HSM : Hid (∀ W x bx fx xa xc bY fy ya yc, Bo x bx fx xa xc W → Bo x bY fy ya yc W → Calls Tryd.prog 19 #[.agg #[.int .i64 x.rule, .int .u8 (x.byte.toNat : Int), .slice xa x.kids.length xc], .agg #[.int .i64 x.rule, .int .u8 (x.byte.toNat : Int), .slice ya x.kids.length yc]] W fun e w' => e = .returned (.bool true) ∧ Below W.heap.size W w') := fun W x bx fx xa xc bY fy ya yc h1 h2 => by
    have := refSame_any fx fy x x xa ya xc yc W h1.ka h2.ka
    rw [eqT_true rfl] at this
    exact this
  have HZZ : Hid (∀ W, Calls Tryd.prog 19 #[.agg #[.int .i64 0, .int .u8 0, .slice none 0 0], .agg #[.int .i64 0, .int .u8 0, .slice none 0 0]] W fun e w' => e = .returned (.bool true) ∧ Below W.heap.size W w') := fun W => by
    have := refSame_any 1 1 (.mk 0 0 []) (.mk 0 0 []) none none 0 0 W ⟨by decide, fun j d hj => by cases hj⟩ ⟨by decide, fun j d hj => by cases hj⟩
    rw [eqT_true rfl] at this
    exact this
  cases hq : atP a ps with
  | none =>
    have HN1 : Hid _ := hq
    have HN2 : Hid _ := putP_none b hq
    clear hq
    go_enter Tryd.func10, Tryd.ntmps10
    go_wp2_with (go_at_call 13; refine (HHA.out _ HT0.out).mono ?_; rintro e w3 ⟨rfl, hb3⟩; have HT3 : Hid _ := HT0.out.nx hb3; have HI3 : Hid (IAt w3 w3.heap.size pa ps) := IAt.nx HI0.out hb3; clear hb3 e0 e1 e2 g0 g1 g2; obtain ⟨e0, e1, e2, g0, g1, g2⟩ := HT3.out.facts)
    refine (HHB.out _ HT3.out).mono ?_
    rintro e w4 ⟨rfl, hb4⟩
    have HT4 : Hid _ := HT3.out.nx hb4
    have HI4 : Hid (IAt w4 w4.heap.size pa ps) := IAt.nx HI3.out hb4
    clear hb4 e0 e1 e2 g0 g1 g2
    obtain ⟨e0, e1, e2, g0, g1, g2⟩ := HT4.out.facts
    go_wp2_with (go_at_call 28; refine (HAT.out _ _ _ _ _ _ _ (HT4.out.boa HSC.out.1) HI4.out (by omega) HN1.out).mono ?_; rintro e w5 ⟨rfl, hb5⟩; have HI5 : Hid _ := IAt.nx (IAt.nx HI4.out hb5) (al_below _ (.cells #[.int .i64 0, .int .u8 0, .slice none 0 0] 27)); have HT5 : Hid _ := (HT4.out.nx hb5).nx (al_below _ (.cells #[.int .i64 0, .int .u8 0, .slice none 0 0] 27)); clear hb5 e0 e1 e2 g0 g1 g2; obtain ⟨e0, e1, e2, g0, g1, g2⟩ := HT5.out.facts)
    refine (HPT.out _ _ _ _ _ _ _ _ _ _ _ _ (HT5.out.boa HSC.out.1) (HT5.out.bob HSC.out.2) HI5.out (by omega) HN2.out).mono ?_
    rintro e w6 ⟨rfl, hb6⟩
    have HI6 : Hid _ := IAt.nx (IAt.nx HI5.out hb6) (al_below _ (.cells #[.int .i64 0, .int .u8 0, .slice none 0 0] 27))
    have HT6 : Hid _ := (HT5.out.nx hb6).nx (al_below _ (.cells #[.int .i64 0, .int .u8 0, .slice none 0 0] 27))
    have HZ6 : Hid _ := Bo.start (d := .mk 0 0 []) (f := 1) (va := none) (vc := 0) (W := w6) ⟨by decide, fun j d hj => by cases hj⟩ (Nat.le_refl _)
    clear hb6 e0 e1 e2 g0 g1 g2
    go_wp2_with (go_at_call 15; refine (HALV.out _ HT6.out.bel).mono ?_; rintro e w7 ⟨rfl, hb7⟩; have HT7 : Hid _ := HT6.out.nx hb7; have HZ7 : Hid _ := HZ6.out.nx hb7; clear hb7; obtain ⟨e0, e1, e2⟩ := HZ7.out.facts)
    refine (HZZ.out _).mono ?_
    rintro e w8 ⟨rfl, hb8⟩
    have HT8 : Hid _ := HT7.out.nx hb8
    clear hb8
    go_wp2
    go_ret
    exact ⟨by simp, HT8.out.bel⟩
  | some old =>
    obtain ⟨nw, hnw⟩ := putP_some b hq
    have HN1 : Hid _ := hq
    have HN2 : Hid _ := hnw
    have HN3 : Hid _ := put_at hnw
    have HN4 : Hid _ := put_back hq hnw
    have HN5 : Hid _ := put_same hq
    have HZ1 : Hid _ := at_sz hq
    have HZ2 : Hid _ := put_sz hnw
    clear hq hnw
    go_enter Tryd.func10, Tryd.ntmps10
    go_wp2_with (go_at_call 13; refine (HHA.out _ HT0.out).mono ?_; rintro e w3 ⟨rfl, hb3⟩; have HT3 : Hid _ := HT0.out.nx hb3; have HI3 : Hid (IAt w3 w3.heap.size pa ps) := IAt.nx HI0.out hb3; clear hb3 e0 e1 e2 g0 g1 g2; obtain ⟨e0, e1, e2, g0, g1, g2⟩ := HT3.out.facts)
    refine (HHB.out _ HT3.out).mono ?_
    rintro e w4 ⟨rfl, hb4⟩
    have HT4 : Hid _ := HT3.out.nx hb4
    have HI4 : Hid (IAt w4 w4.heap.size pa ps) := IAt.nx HI3.out hb4
    clear hb4 e0 e1 e2 g0 g1 g2
    obtain ⟨e0, e1, e2, g0, g1, g2⟩ := HT4.out.facts
    go_wp2_with (go_at_call 28; refine (HAT.out _ _ _ _ _ _ _ (HT4.out.boa HSC.out.1) HI4.out (by have := HZ1.out; have := HZ2.out; omega) HN1.out).mono ?_; rintro e w5 ⟨⟨F5, v5, c5, rfl, hvc5, htin5⟩, hb5⟩; have HI5 : Hid _ := IAt.nx (IAt.nx HI4.out hb5) (al_below _ (.cells #[.int .i64 old.rule, .int .u8 (old.byte.toNat : Int), .slice v5 old.kids.length c5] 27)); have HT5 : Hid _ := (HT4.out.nx hb5).nx (al_below _ (.cells #[.int .i64 old.rule, .int .u8 (old.byte.toNat : Int), .slice v5 old.kids.length c5] 27)); have HO5 : Hid _ := Bo.start (d := old) (f := F5) (va := v5) (vc := c5) (W := w5) (htin5.tat (fun b h => h.2)) hvc5; clear hb5 htin5 hvc5 e0 e1 e2 g0 g1 g2; obtain ⟨e0, e1, e2, g0, g1, g2⟩ := HT5.out.facts; obtain ⟨HO0, HO1, HO2⟩ := HO5.out.facts)
    refine (HPT.out _ _ _ _ _ _ _ _ _ _ _ _ (HT5.out.boa HSC.out.1) (HT5.out.bob HSC.out.2) HI5.out (by have := HZ1.out; have := HZ2.out; omega) HN2.out).mono ?_
    rintro e w6 ⟨⟨F6, v6, c6, rfl, hvc6, htin6⟩, hb6⟩
    have HI6 : Hid _ := IAt.nx (IAt.nx HI5.out hb6) (al_below _ (.cells #[.int .i64 nw.rule, .int .u8 (nw.byte.toNat : Int), .slice v6 nw.kids.length c6] 27))
    have HT6 : Hid _ := (HT5.out.nx hb6).nx (al_below _ (.cells #[.int .i64 nw.rule, .int .u8 (nw.byte.toNat : Int), .slice v6 nw.kids.length c6] 27))
    have HO6 : Hid _ := (HO5.out.nx hb6).nx (al_below _ (.cells #[.int .i64 nw.rule, .int .u8 (nw.byte.toNat : Int), .slice v6 nw.kids.length c6] 27))
    have HW6 : Hid _ := Bo.start (d := nw) (f := F6) (va := v6) (vc := c6) (W := w6) (htin6.tat (fun b h => h.2)) hvc6
    clear hb6 htin6 hvc6 e0 e1 e2 g0 g1 g2 HO0 HO1 HO2
    obtain ⟨e0, e1, e2, g0, g1, g2⟩ := HT6.out.facts
    obtain ⟨HO0, HO1, HO2⟩ := HO6.out.facts
    obtain ⟨HW0, HW1, HW2⟩ := HW6.out.facts
    go_wp2_with (go_at_call 28; refine (HAT.out _ _ _ _ _ _ _ HW6.out HI6.out (by have := HZ1.out; have := HZ2.out; omega) HN3.out).mono ?_; rintro e w7 ⟨⟨F7, v7, c7, rfl, hvc7, htin7⟩, hb7⟩; have HI7 : Hid _ := IAt.nx (IAt.nx HI6.out hb7) (al_below _ (.cells #[.int .i64 b.rule, .int .u8 (b.byte.toNat : Int), .slice v7 b.kids.length c7] 27)); have HT7 : Hid _ := (HT6.out.nx hb7).nx (al_below _ (.cells #[.int .i64 b.rule, .int .u8 (b.byte.toNat : Int), .slice v7 b.kids.length c7] 27)); have HO7 : Hid _ := (HO6.out.nx hb7).nx (al_below _ (.cells #[.int .i64 b.rule, .int .u8 (b.byte.toNat : Int), .slice v7 b.kids.length c7] 27)); have HW7 : Hid _ := (HW6.out.nx hb7).nx (al_below _ (.cells #[.int .i64 b.rule, .int .u8 (b.byte.toNat : Int), .slice v7 b.kids.length c7] 27)); have HV7 : Hid _ := Bo.start (d := b) (f := F7) (va := v7) (vc := c7) (W := w7) (htin7.tat (fun b h => h.2)) hvc7; clear hb7 htin7 hvc7 e0 e1 e2 g0 g1 g2 HO0 HO1 HO2 HW0 HW1 HW2; obtain ⟨e0, e1, e2, g0, g1, g2⟩ := HT7.out.facts; obtain ⟨HO0, HO1, HO2⟩ := HO7.out.facts; obtain ⟨HW0, HW1, HW2⟩ := HW7.out.facts; obtain ⟨HV0, HV1, HV2⟩ := HV7.out.facts)
    refine (HPT.out _ _ _ _ _ _ _ _ _ _ _ _ HW7.out HO7.out HI7.out (by have := HZ1.out; have := HZ2.out; omega) HN4.out).mono ?_
    rintro e w8 ⟨⟨F8, v8, c8, rfl, hvc8, htin8⟩, hb8⟩
    have HI8 : Hid _ := IAt.nx (IAt.nx HI7.out hb8) (al_below _ (.cells #[.int .i64 a.rule, .int .u8 (a.byte.toNat : Int), .slice v8 a.kids.length c8] 27))
    have HT8 : Hid _ := (HT7.out.nx hb8).nx (al_below _ (.cells #[.int .i64 a.rule, .int .u8 (a.byte.toNat : Int), .slice v8 a.kids.length c8] 27))
    have HO8 : Hid _ := (HO7.out.nx hb8).nx (al_below _ (.cells #[.int .i64 a.rule, .int .u8 (a.byte.toNat : Int), .slice v8 a.kids.length c8] 27))
    have HW8 : Hid _ := (HW7.out.nx hb8).nx (al_below _ (.cells #[.int .i64 a.rule, .int .u8 (a.byte.toNat : Int), .slice v8 a.kids.length c8] 27))
    have HV8 : Hid _ := (HV7.out.nx hb8).nx (al_below _ (.cells #[.int .i64 a.rule, .int .u8 (a.byte.toNat : Int), .slice v8 a.kids.length c8] 27))
    have HK8 : Hid _ := Bo.start (d := a) (f := F8) (va := v8) (vc := c8) (W := w8) (htin8.tat (fun b h => h.2)) hvc8
    clear hb8 htin8 hvc8 e0 e1 e2 g0 g1 g2 HO0 HO1 HO2 HW0 HW1 HW2 HV0 HV1 HV2
    obtain ⟨e0, e1, e2, g0, g1, g2⟩ := HT8.out.facts
    obtain ⟨HO0, HO1, HO2⟩ := HO8.out.facts
    obtain ⟨HW0, HW1, HW2⟩ := HW8.out.facts
    obtain ⟨HV0, HV1, HV2⟩ := HV8.out.facts
    obtain ⟨HK0, HK1, HK2⟩ := HK8.out.facts
    go_wp2_with (go_at_call 19; refine (HSM.out _ _ _ _ _ _ _ _ _ _ HV8.out (HT8.out.bob HSC.out.2)).mono ?_; rintro e w9 ⟨rfl, hb9⟩; have HI9 : Hid _ := IAt.nx HI8.out hb9; have HT9 : Hid _ := HT8.out.nx hb9; have HO9 : Hid _ := HO8.out.nx hb9; have HW9 : Hid _ := HW8.out.nx hb9; have HV9 : Hid _ := HV8.out.nx hb9; have HK9 : Hid _ := HK8.out.nx hb9; clear hb9 e0 e1 e2 g0 g1 g2 HO0 HO1 HO2 HW0 HW1 HW2 HV0 HV1 HV2 HK0 HK1 HK2; obtain ⟨e0, e1, e2, g0, g1, g2⟩ := HT9.out.facts; obtain ⟨HO0, HO1, HO2⟩ := HO9.out.facts; obtain ⟨HW0, HW1, HW2⟩ := HW9.out.facts; obtain ⟨HV0, HV1, HV2⟩ := HV9.out.facts; obtain ⟨HK0, HK1, HK2⟩ := HK9.out.facts)
    refine (HSM.out _ _ _ _ _ _ _ _ _ _ HK9.out (HT9.out.boa HSC.out.1)).mono ?_
    rintro e w10 ⟨rfl, hb10⟩
    have HI10 : Hid _ := IAt.nx HI9.out hb10
    have HT10 : Hid _ := HT9.out.nx hb10
    have HO10 : Hid _ := HO9.out.nx hb10
    have HW10 : Hid _ := HW9.out.nx hb10
    have HV10 : Hid _ := HV9.out.nx hb10
    have HK10 : Hid _ := HK9.out.nx hb10
    clear hb10 e0 e1 e2 g0 g1 g2 HO0 HO1 HO2 HW0 HW1 HW2 HV0 HV1 HV2 HK0 HK1 HK2
    obtain ⟨e0, e1, e2, g0, g1, g2⟩ := HT10.out.facts
    obtain ⟨HO0, HO1, HO2⟩ := HO10.out.facts
    obtain ⟨HW0, HW1, HW2⟩ := HW10.out.facts
    obtain ⟨HV0, HV1, HV2⟩ := HV10.out.facts
    obtain ⟨HK0, HK1, HK2⟩ := HK10.out.facts
    go_wp2_with (go_at_call 30; refine (HPT.out _ _ _ _ _ _ _ _ _ _ _ _ (HT10.out.boa HSC.out.1) HO10.out HI10.out (by have := HZ1.out; have := HZ2.out; omega) HN5.out).mono ?_; rintro e w11 ⟨⟨F11, v11, c11, rfl, hvc11, htin11⟩, hb11⟩; have HI11 : Hid _ := IAt.nx (IAt.nx HI10.out hb11) (al_below _ (.cells #[.int .i64 a.rule, .int .u8 (a.byte.toNat : Int), .slice v11 a.kids.length c11] 27)); have HT11 : Hid _ := (HT10.out.nx hb11).nx (al_below _ (.cells #[.int .i64 a.rule, .int .u8 (a.byte.toNat : Int), .slice v11 a.kids.length c11] 27)); have HO11 : Hid _ := (HO10.out.nx hb11).nx (al_below _ (.cells #[.int .i64 a.rule, .int .u8 (a.byte.toNat : Int), .slice v11 a.kids.length c11] 27)); have HW11 : Hid _ := (HW10.out.nx hb11).nx (al_below _ (.cells #[.int .i64 a.rule, .int .u8 (a.byte.toNat : Int), .slice v11 a.kids.length c11] 27)); have HV11 : Hid _ := (HV10.out.nx hb11).nx (al_below _ (.cells #[.int .i64 a.rule, .int .u8 (a.byte.toNat : Int), .slice v11 a.kids.length c11] 27)); have HK11 : Hid _ := (HK10.out.nx hb11).nx (al_below _ (.cells #[.int .i64 a.rule, .int .u8 (a.byte.toNat : Int), .slice v11 a.kids.length c11] 27)); have HS11 : Hid _ := Bo.start (d := a) (f := F11) (va := v11) (vc := c11) (W := w11) (htin11.tat (fun b h => h.2)) hvc11; clear hb11 htin11 hvc11 e0 e1 e2 g0 g1 g2 HO0 HO1 HO2 HW0 HW1 HW2 HV0 HV1 HV2 HK0 HK1 HK2; obtain ⟨e0, e1, e2, g0, g1, g2⟩ := HT11.out.facts; obtain ⟨HO0, HO1, HO2⟩ := HO11.out.facts; obtain ⟨HW0, HW1, HW2⟩ := HW11.out.facts; obtain ⟨HV0, HV1, HV2⟩ := HV11.out.facts; obtain ⟨HK0, HK1, HK2⟩ := HK11.out.facts; obtain ⟨HS0, HS1, HS2⟩ := HS11.out.facts)
    refine (HALV.out _ HT11.out.bel).mono ?_
    rintro e w12 ⟨rfl, hb12⟩
    have HI12 : Hid _ := IAt.nx HI11.out hb12
    have HT12 : Hid _ := HT11.out.nx hb12
    have HO12 : Hid _ := HO11.out.nx hb12
    have HW12 : Hid _ := HW11.out.nx hb12
    have HV12 : Hid _ := HV11.out.nx hb12
    have HK12 : Hid _ := HK11.out.nx hb12
    have HS12 : Hid _ := HS11.out.nx hb12
    clear hb12 e0 e1 e2 g0 g1 g2 HO0 HO1 HO2 HW0 HW1 HW2 HV0 HV1 HV2 HK0 HK1 HK2 HS0 HS1 HS2
    obtain ⟨e0, e1, e2, g0, g1, g2⟩ := HT12.out.facts
    obtain ⟨HO0, HO1, HO2⟩ := HO12.out.facts
    obtain ⟨HW0, HW1, HW2⟩ := HW12.out.facts
    obtain ⟨HV0, HV1, HV2⟩ := HV12.out.facts
    obtain ⟨HK0, HK1, HK2⟩ := HK12.out.facts
    obtain ⟨HS0, HS1, HS2⟩ := HS12.out.facts
    go_wp2_with (go_at_call 19; refine (HSM.out _ _ _ _ _ _ _ _ _ _ HS12.out (HT12.out.boa HSC.out.1)).mono ?_; rintro e w13 ⟨rfl, hb13⟩; have HT13 : Hid _ := HT12.out.nx hb13; clear hb13 e0 e1 e2 g0 g1 g2 HO0 HO1 HO2 HW0 HW1 HW2 HV0 HV1 HV2 HK0 HK1 HK2 HS0 HS1 HS2)
    go_ret
    exact ⟨by simp, HT13.out.bel⟩
end Go.Proofs.YtlnlkbkmnkjbhaaDoor
