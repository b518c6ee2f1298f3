/- The law TreesRight, walked. -/
import Derived.Test.YtlnlkbkmnkjbhaaDoorGq
import Derived.Test.YtlnlkbkmnkjbhaaDoorG5
namespace Go.Proofs.YtlnlkbkmnkjbhaaDoor
open Go.RowKit

/-- A grammar and a tree in their boxes. -/
structure Sr (w : World) (G : Gm) (ga : Option Addr) (gc : Nat) (a : Tr) (f : Nat) (sa : Option Addr) (sc : Nat) (W : World) : Prop where
  bel : Below w.heap.size w W
  g0 : W.cell? ⟨w.heap.size, 0, none⟩ = some (.int .i64 G.nts)
  g1 : W.cell? ⟨w.heap.size, 1, none⟩ = some (.int .i64 G.start)
  g2 : W.cell? ⟨w.heap.size, 2, none⟩ = some (.slice ga G.rules.length gc)
  gr : RAt W W.heap.size ga G.rules
  ta : Bo a (w.heap.size + 1) f sa sc W
/-- And a copy. -/
structure Sq (w : World) (G : Gm) (ga : Option Addr) (gc : Nat) (a : Tr) (f : Nat) (sa : Option Addr) (sc : Nat) (b fb : Nat) (va : Option Addr) (vc : Nat) (W : World) : Prop where
  sr : Sr w G ga gc a f sa sc W
  tb : Bo a b fb va vc W
section
variable {w : World} {G : Gm} {ga : Option Addr} {gc : Nat} {a : Tr} {f : Nat} {sa : Option Addr} {sc : Nat} {b fb : Nat} {va : Option Addr} {vc : Nat} {W W' : World}
theorem Sr.nx (h : Sr w G ga gc a f sa sc W) (hb : Below W.heap.size W W') : Sr w G ga gc a f sa sc W' := by
  have hl := h.ta.lt
  have k : ∀ q, W'.cell? ⟨w.heap.size, q, none⟩ = W.cell? ⟨w.heap.size, q, none⟩ := fun q => hb.cell (p := ⟨w.heap.size, q, none⟩) (by show w.heap.size < _; omega)
  exact ⟨below_of h.bel hb, (k 0).trans h.g0, (k 1).trans h.g1, (k 2).trans h.g2, (h.gr.keep hb).mono hb.size, h.ta.nx hb⟩
theorem Sr.facts (h : Sr w G ga gc a f sa sc W) : (W.cell? ⟨w.heap.size, 0, none⟩ = some (.int .i64 G.nts) ∧ W.cell? ⟨w.heap.size, 1, none⟩ = some (.int .i64 G.start) ∧ W.cell? ⟨w.heap.size, 2, none⟩ = some (.slice ga G.rules.length gc)) ∧ W.cell? ⟨w.heap.size + 1, 0, none⟩ = some (.int .i64 a.rule) ∧ W.cell? ⟨w.heap.size + 1, 1, none⟩ = some (.int .u8 (a.byte.toNat : Int)) ∧ W.cell? ⟨w.heap.size + 1, 2, none⟩ = some (.slice sa a.kids.length sc) := ⟨⟨h.g0, h.g1, h.g2⟩, h.ta.facts⟩
theorem Sq.nx (hb : Below W.heap.size W W') (h : Sq w G ga gc a f sa sc b fb va vc W) : Sq w G ga gc a f sa sc b fb va vc W' := ⟨h.sr.nx hb, h.tb.nx hb⟩
theorem Sq.drew (h : Sq w G ga gc a f sa sc b fb va vc W) : Sq w G ga gc a f sa sc b fb va vc W.drew := Sq.nx (show Below W.heap.size W W.drew from ⟨rfl, rfl, rfl, Nat.le_refl _, fun _ _ => rfl⟩) h
theorem Sq.facts (h : Sq w G ga gc a f sa sc b fb va vc W) : W.cell? ⟨w.heap.size, 0, none⟩ = some (.int .i64 G.nts) ∧ W.cell? ⟨w.heap.size, 1, none⟩ = some (.int .i64 G.start) ∧ W.cell? ⟨w.heap.size, 2, none⟩ = some (.slice ga G.rules.length gc) ∧ W.cell? ⟨w.heap.size + 1, 0, none⟩ = some (.int .i64 a.rule) ∧ W.cell? ⟨w.heap.size + 1, 1, none⟩ = some (.int .u8 (a.byte.toNat : Int)) ∧ W.cell? ⟨w.heap.size + 1, 2, none⟩ = some (.slice sa a.kids.length sc) ∧ W.cell? ⟨b, 0, none⟩ = some (.int .i64 a.rule) ∧ W.cell? ⟨b, 1, none⟩ = some (.int .u8 (a.byte.toNat : Int)) ∧ W.cell? ⟨b, 2, none⟩ = some (.slice va a.kids.length vc) := ⟨h.sr.g0, h.sr.g1, h.sr.g2, h.sr.ta.a0, h.sr.ta.a1, h.sr.ta.a2, h.tb.a0, h.tb.a1, h.tb.a2⟩
end
set_option maxRecDepth 100000 in
set_option maxHeartbeats 16000000 in
theorem treesRight_walk (G : Gm) (ga : Option Addr) (gc : Nat) (nt : Int) (a : Tr) (sa : Option Addr) (sc f : Nat) (w : World) (hR : RAt w w.heap.size ga G.rules) (_hl : -9223372036854775808 ≤ nt) (_hu : nt ≤ 9223372036854775807) (hka : TAt w w.heap.size f sa a.kids) (hsc : a.kids.length ≤ sc) (hTab : Tab w.heap.size w) :
    Calls Tryd.prog 3 #[.agg #[.int .i64 G.nts, .int .i64 G.start, .slice ga G.rules.length gc], .int .i64 nt, .agg #[.int .i64 a.rule, .int .u8 (a.byte.toNat : Int), .slice sa a.kids.length sc]] w fun e w' => e = .returned (.bool true) ∧ Below w.heap.size w w' := by
  obtain ⟨w1, hw1⟩ : ∃ w1, w.alloc (.cells #[.int .i64 G.nts, .int .i64 G.start, .slice ga G.rules.length gc] 24) = w1 := ⟨_, rfl⟩
  obtain ⟨w2, hw2⟩ : ∃ w2, w1.alloc (.cells #[.int .i64 a.rule, .int .u8 (a.byte.toNat : Int), .slice sa a.kids.length sc] 27) = w2 := ⟨_, rfl⟩
  have s1 : w1.heap.size = w.heap.size + 1 := by rw [← hw1]; simp
  have s2 : w2.heap.size = w.heap.size + 2 := by rw [← hw2]; simp [s1]
  have hB1 : Below w.heap.size w w1 := by rw [← hw1]; exact al_below _ _
  have hB2 : Below w1.heap.size w1 w2 := by rw [← hw2]; exact al_below _ _
  have hBw : Below w.heap.size w w2 := hB1.trans (hB2.mono hB1.size)
  have gg : ∀ j v, (#[.int .i64 G.nts, .int .i64 G.start, .slice ga G.rules.length gc] : Array Value)[j]? = some v → w2.cell? ⟨w.heap.size, j, none⟩ = some v := fun j v hv => (hB2.cell (p := ⟨w.heap.size, j, none⟩) (by show w.heap.size < _; omega)).trans (by rw [← hw1]; exact cell_new j hv)
  have T0 : Sr w G ga gc a f sa sc w2 := by
    refine ⟨hBw, gg 0 _ rfl, gg 1 _ rfl, gg 2 _ rfl, (hR.keep hBw).mono hBw.size, ?_⟩
    have h : Bo a w1.heap.size f sa sc w2 := by rw [← hw2]; exact Bo.start ((hka.keep hB1).mono hB1.size) hsc
    rw [s1] at h
    exact h
  have HT0 : Hid _ := T0
  obtain ⟨⟨e0, e1, e2⟩, t0, t1, t2⟩ := T0.facts
  have HALV : Hid (∀ W, Below w.heap.size w W → Calls Tryd.prog 15 #[] W fun e w' => e = .returned (.bool true) ∧ Below W.heap.size W w') := fun W h => alive_any W (hTab.nx h)
  have HHA : Hid (∀ W, Sr w G ga gc a f sa sc W → Calls Tryd.prog 13 #[.agg #[.int .i64 a.rule, .int .u8 (a.byte.toNat : Int), .slice sa a.kids.length sc]] W fun e w' => e = .returned (.bool (decide (1500 < sz a))) ∧ Below W.heap.size W w') := fun W h => heavy_any a sa sc f W h.ta.ka
  have HHG : Hid (∀ W, Sr w G ga gc a f sa sc W → Calls Tryd.prog 14 #[.agg #[.int .i64 G.nts, .int .i64 G.start, .slice ga G.rules.length gc], .int .i64 500] W fun e w' => (∃ x, e = .returned (.bool x)) ∧ Below W.heap.size W w') := fun W h => gheavy_any G ga gc 500 W h.gr
  have HCP : Hid (∀ W, Sr w G ga gc a f sa sc W → Calls Tryd.prog 16 #[.agg #[.int .i64 a.rule, .int .u8 (a.byte.toNat : Int), .slice sa a.kids.length sc]] W fun e w' => (∃ va vc, e = .returned (.agg #[.int .i64 a.rule, .int .u8 (a.byte.toNat : Int), .slice va a.kids.length vc]) ∧ a.kids.length ≤ vc ∧ TIn w' (fun b => W.heap.size ≤ b ∧ b < w'.heap.size) f va a.kids) ∧ Below W.heap.size W w') := fun W h => copy_any f a sa sc W h.ta.ka
  clear hB1 hB2 hBw gg T0 hka hsc hR
  by_cases ha : 1500 < sz a
  · rw [decide_eq_true ha] at HHA
    clear ha hTab
    go_enter Tryd.func3, Tryd.ntmps3
    go_wp2_with (go_at_call 13; refine (HHA.out _ HT0.out).mono ?_; rintro e w3 ⟨rfl, hb3⟩; have HT3 : Hid _ := HT0.out.nx hb3; clear hb3)
    refine (HALV.out _ HT3.out.bel).mono ?_
    rintro e w4 ⟨rfl, hb4⟩
    have HT4 : Hid _ := HT3.out.nx hb4
    clear hb4
    go_wp2
    go_ret
    exact ⟨rfl, HT4.out.bel⟩
  rw [decide_eq_false ha] at HHA
  have HRT : Hid (∀ W bx fx xa xc, Sr w G ga gc a f sa sc W → Bo a bx fx xa xc W → Calls Tryd.prog 17 #[.agg #[.int .i64 G.nts, .int .i64 G.start, .slice ga G.rules.length gc], .int .i64 nt, .agg #[.int .i64 a.rule, .int .u8 (a.byte.toNat : Int), .slice xa a.kids.length xc]] W fun e w' => e = .returned (.int .i64 (rightC G nt a)) ∧ Below W.heap.size W w') := fun W bx fx xa xc h1 h2 => tright_any G ga gc nt a xa xc fx W h1.gr h2.ka (by omega)
  have HRF : Hid (∀ W, Sr w G ga gc a f sa sc W → Calls Tryd.prog 18 #[.agg #[.int .i64 G.nts, .int .i64 G.start, .slice ga G.rules.length gc], .int .i64 nt, .agg #[.int .i64 a.rule, .int .u8 (a.byte.toNat : Int), .slice sa a.kids.length sc]] W fun e w' => e = .returned (.int .i64 (rightC G nt a)) ∧ Below W.heap.size W w') := fun W h => trefRight_any G ga gc nt a sa sc f W h.gr h.ta.ka
  have HSM : Hid (∀ W bx fx xa xc, Sr w G ga gc a f sa sc W → Bo a bx fx xa xc W → Calls Tryd.prog 19 #[.agg #[.int .i64 a.rule, .int .u8 (a.byte.toNat : Int), .slice xa a.kids.length xc], .agg #[.int .i64 a.rule, .int .u8 (a.byte.toNat : Int), .slice sa a.kids.length sc]] W fun e w' => e = .returned (.bool true) ∧ Below W.heap.size W w') := fun W bx fx xa xc h1 h2 => by
    have := refSame_any fx f a a xa sa xc sc W h2.ka h1.ta.ka
    rw [eqT_true rfl] at this
    exact this
  generalize rightC G nt a = c at HRT HRF
  clear ha hTab
  go_enter Tryd.func3, Tryd.ntmps3
  go_wp2_with (go_at_call 13; refine (HHA.out _ HT0.out).mono ?_; rintro e w3 ⟨rfl, hb3⟩; have HT3 : Hid _ := HT0.out.nx hb3; clear hb3 e0 e1 e2 t0 t1 t2; obtain ⟨⟨e0, e1, e2⟩, t0, t1, t2⟩ := HT3.out.facts)
  refine (HHG.out _ HT3.out).mono ?_
  rintro e w5 ⟨⟨x, rfl⟩, hb5⟩
  have HT5 : Hid _ := HT3.out.nx hb5
  clear hb5 e0 e1 e2 t0 t1 t2
  obtain ⟨⟨e0, e1, e2⟩, t0, t1, t2⟩ := HT5.out.facts
  cases x with
  | true =>
    go_wp2_with (go_at_call 15; refine (HALV.out _ HT5.out.bel).mono ?_; rintro e w6 ⟨rfl, hb6⟩; have HT6 : Hid _ := HT5.out.nx hb6; clear hb6)
    go_ret
    exact ⟨rfl, HT6.out.bel⟩
  | false =>
    go_wp2_with (go_at_call 16; refine (HCP.out _ HT5.out).mono ?_)
    first | rintro e w6 va vc rfl hvc htin hb6 | rintro e w6 ⟨⟨va, vc, rfl, hvc, htin⟩, hb6⟩
    have HQ : Hid (Sq w G ga gc a f sa sc w6.heap.size f va vc (w6.alloc (.cells #[.int .i64 a.rule, .int .u8 (a.byte.toNat : Int), .slice va a.kids.length vc] 27))) := ⟨(HT5.out.nx hb6).nx (al_below _ _), Bo.start (htin.tat (fun b h => h.2)) hvc⟩
    clear hvc htin hb6 e0 e1 e2 t0 t1 t2
    go_wp2
    have T := HQ.out
    generalize w6.alloc (.cells #[.int .i64 a.rule, .int .u8 (a.byte.toNat : Int), .slice va a.kids.length vc] 27) = V at T ⊢
    have hcc : (c == c) = true := by simp
    go_region_held3 (fun W => W.cell? ⟨w.heap.size, 0, none⟩ = some (.int .i64 G.nts) ∧ W.cell? ⟨w.heap.size, 1, none⟩ = some (.int .i64 G.start) ∧ W.cell? ⟨w.heap.size, 2, none⟩ = some (.slice ga G.rules.length gc) ∧ W.cell? ⟨w.heap.size + 1, 0, none⟩ = some (.int .i64 a.rule) ∧ W.cell? ⟨w.heap.size + 1, 1, none⟩ = some (.int .u8 (a.byte.toNat : Int)) ∧ W.cell? ⟨w.heap.size + 1, 2, none⟩ = some (.slice sa a.kids.length sc) ∧ W.cell? ⟨w6.heap.size, 0, none⟩ = some (.int .i64 a.rule) ∧ W.cell? ⟨w6.heap.size, 1, none⟩ = some (.int .u8 (a.byte.toNat : Int)) ∧ W.cell? ⟨w6.heap.size, 2, none⟩ = some (.slice va a.kids.length vc)) (first | exact T.facts | exact T.drew.facts) (first
      | (go_at_call 15; refine (HALV.out _ (by first | exact T.sr.bel | exact T.drew.sr.bel)).mono ?_; rintro e w7 ⟨rfl, hb7⟩; replace T : Sq w G ga gc a f sa sc w6.heap.size f va vc w7 := (by first | exact Sq.nx hb7 T | exact Sq.nx hb7 T.drew); clear hb7)
      | (go_at_call 17; refine (HRT.out _ _ _ _ _ (by first | exact T.sr | exact T.drew.sr) (by first | exact T.tb | exact T.drew.tb)).mono ?_; rintro e w8 ⟨rfl, hb8⟩; replace T : Sq w G ga gc a f sa sc w6.heap.size f va vc w8 := (by first | exact Sq.nx hb8 T | exact Sq.nx hb8 T.drew); clear hb8)
      | (go_at_call 18; refine (HRF.out _ (by first | exact T.sr | exact T.drew.sr)).mono ?_; rintro e w9 ⟨rfl, hb9⟩; replace T : Sq w G ga gc a f sa sc w6.heap.size f va vc w9 := (by first | exact Sq.nx hb9 T | exact Sq.nx hb9 T.drew); clear hb9)
      | (go_at_call 19; refine (HSM.out _ _ _ _ _ (by first | exact T.sr | exact T.drew.sr) (by first | exact T.tb | exact T.drew.tb)).mono ?_; rintro e w10 ⟨rfl, hb10⟩; replace T : Sq w G ga gc a f sa sc w6.heap.size f va vc w10 := (by first | exact Sq.nx hb10 T | exact Sq.nx hb10 T.drew); clear hb10))
    all_goals go_wp2
    all_goals go_ret
    all_goals exact ⟨by simp, T.sr.bel⟩
end Go.Proofs.YtlnlkbkmnkjbhaaDoor
