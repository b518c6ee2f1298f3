/- The law TreesSame, walked. -/
import Derived.Test.YtlnlkbkmnkjbhaaDoorEe
import Derived.Test.YtlnlkbkmnkjbhaaDoorC1
import Derived.Test.YtlnlkbkmnkjbhaaDoorLl
import Derived.Deep.RegionHeld3
namespace Go.Proofs.YtlnlkbkmnkjbhaaDoor
open Go.RowKit

/-- Both trees in their boxes. -/
structure Tw (w : World) (a b : Tr) (f : Nat) (sa sb : Option Addr) (sc sd : Nat) (W : World) : Prop where
  bel : Below w.heap.size w W
  a0 : W.cell? ⟨w.heap.size, 0, none⟩ = some (.int .i64 a.rule)
  a1 : W.cell? ⟨w.heap.size, 1, none⟩ = some (.int .u8 (a.byte.toNat : Int))
  a2 : W.cell? ⟨w.heap.size, 2, none⟩ = some (.slice sa a.kids.length sc)
  b0 : W.cell? ⟨w.heap.size + 1, 0, none⟩ = some (.int .i64 b.rule)
  b1 : W.cell? ⟨w.heap.size + 1, 1, none⟩ = some (.int .u8 (b.byte.toNat : Int))
  b2 : W.cell? ⟨w.heap.size + 1, 2, none⟩ = some (.slice sb b.kids.length sd)
  ka : TAt W W.heap.size f sa a.kids
  kb : TAt W W.heap.size f sb b.kids
  lt : w.heap.size + 1 < W.heap.size
section
variable {w : World} {a b : Tr} {f : Nat} {sa sb : Option Addr} {sc sd : Nat} {W W' : World}
theorem Tw.nx (hb : Below W.heap.size W W') (h : Tw w a b f sa sb sc sd W) : Tw w a b f sa sb sc sd W' := by
  have hl := h.lt
  have k : ∀ b q, b < W.heap.size → W'.cell? ⟨b, q, none⟩ = W.cell? ⟨b, q, none⟩ := fun b q hlt => hb.cell (p := ⟨b, q, none⟩) hlt
  exact ⟨below_of h.bel hb, (k _ _ (by omega)).trans h.a0, (k _ _ (by omega)).trans h.a1, (k _ _ (by omega)).trans h.a2, (k _ _ (by omega)).trans h.b0, (k _ _ (by omega)).trans h.b1, (k _ _ (by omega)).trans h.b2, (h.ka.keep hb).mono hb.size, (h.kb.keep hb).mono hb.size, Nat.lt_of_lt_of_le hl hb.size⟩
theorem Tw.drew (h : Tw w a b f sa sb sc sd W) : Tw w a b f sa sb sc sd W.drew := Tw.nx (show Below W.heap.size W W.drew from ⟨rfl, rfl, rfl, Nat.le_refl _, fun _ _ => rfl⟩) h
theorem Tw.facts (h : Tw w a b f sa sb sc sd W) : W.cell? ⟨w.heap.size, 0, none⟩ = some (.int .i64 a.rule) ∧ W.cell? ⟨w.heap.size, 1, none⟩ = some (.int .u8 (a.byte.toNat : Int)) ∧ W.cell? ⟨w.heap.size, 2, none⟩ = some (.slice sa a.kids.length sc) ∧ W.cell? ⟨w.heap.size + 1, 0, none⟩ = some (.int .i64 b.rule) ∧ W.cell? ⟨w.heap.size + 1, 1, none⟩ = some (.int .u8 (b.byte.toNat : Int)) ∧ W.cell? ⟨w.heap.size + 1, 2, none⟩ = some (.slice sb b.kids.length sd) := ⟨h.a0, h.a1, h.a2, h.b0, h.b1, h.b2⟩
end
set_option maxRecDepth 100000 in
set_option maxHeartbeats 8000000 in
theorem treesSame_walk (a b : Tr) (sa sb : Option Addr) (sc sd f : Nat) (w : World) (hka : TAt w w.heap.size f sa a.kids) (hkb : TAt w w.heap.size f sb b.kids) (hsc : a.kids.length ≤ sc) (hsd : b.kids.length ≤ sd) (hTab : Tab w.heap.size w) :
    Calls Tryd.prog 5 #[.agg #[.int .i64 a.rule, .int .u8 (a.byte.toNat : Int), .slice sa a.kids.length sc], .agg #[.int .i64 b.rule, .int .u8 (b.byte.toNat : Int), .slice sb b.kids.length sd]] w fun e w' => e = .returned (.bool true) ∧ Below w.heap.size w w' := by
  obtain ⟨w1, hw1⟩ : ∃ w1, w.alloc (.cells #[.int .i64 a.rule, .int .u8 (a.byte.toNat : Int), .slice sa a.kids.length sc] 27) = w1 := ⟨_, rfl⟩
  have s1 : w1.heap.size = w.heap.size + 1 := by rw [← hw1]; simp
  have hB1 : Below w.heap.size w w1 := by rw [← hw1]; exact (Below.refl _ _).alloc (Nat.le_refl _) _
  obtain ⟨w2, hw2⟩ : ∃ w2, w1.alloc (.cells #[.int .i64 b.rule, .int .u8 (b.byte.toNat : Int), .slice sb b.kids.length sd] 27) = w2 := ⟨_, rfl⟩
  have hB2' : Below w1.heap.size w1 w2 := by rw [← hw2]; exact (Below.refl _ _).alloc (Nat.le_refl _) _
  have hB2 : Below w.heap.size w w2 := hB1.trans (hB2'.mono (by omega))
  have T0 : Tw w a b f sa sb sc sd w2 := by
    have c1 : ∀ j v, (#[.int .i64 a.rule, .int .u8 (a.byte.toNat : Int), .slice sa a.kids.length sc] : Array Value)[j]? = some v → w2.cell? ⟨w.heap.size, j, none⟩ = some v := fun j v hv => (hB2'.cell (p := ⟨w.heap.size, j, none⟩) (by show w.heap.size < _; omega)).trans (by rw [← hw1]; exact cell_new j hv)
    have c2 : ∀ j v, (#[.int .i64 b.rule, .int .u8 (b.byte.toNat : Int), .slice sb b.kids.length sd] : Array Value)[j]? = some v → w2.cell? ⟨w.heap.size + 1, j, none⟩ = some v := fun j v hv => by rw [← hw2, ← s1]; exact cell_new j hv
    exact ⟨hB2, c1 0 _ rfl, c1 1 _ rfl, c1 2 _ rfl, c2 0 _ rfl, c2 1 _ rfl, c2 2 _ rfl, (hka.keep hB2).mono hB2.size, (hkb.keep hB2).mono hB2.size, by rw [← hw2]; simp; omega⟩
  obtain ⟨e0, e1, e2, g0, g1, g2⟩ := T0.facts
  have HT0 : Hid _ := T0
  clear hB2' hB1 hB2 hka hkb T0
  have HALV : Hid (∀ W, Tw w a b f sa sb sc sd W → Calls Tryd.prog 15 #[] W fun e w' => e = .returned (.bool true) ∧ Below W.heap.size W w') := fun W h => alive_any W (hTab.nx h.bel)
  clear hTab
  have HHA : Hid (∀ W, Tw w a b f sa sb sc sd W → Calls Tryd.prog 13 #[.agg #[.int .i64 a.rule, .int .u8 (a.byte.toNat : Int), .slice sa a.kids.length sc]] W fun e w' => e = .returned (.bool (decide (1500 < sz a))) ∧ Below W.heap.size W w') := fun W h => heavy_any a sa sc f W h.ka
  have HHB : Hid (∀ W, Tw w a b f sa sb sc sd W → Calls Tryd.prog 13 #[.agg #[.int .i64 b.rule, .int .u8 (b.byte.toNat : Int), .slice sb b.kids.length sd]] W fun e w' => e = .returned (.bool (decide (1500 < sz b))) ∧ Below W.heap.size W w') := fun W h => heavy_any b sb sd f W h.kb
  by_cases ha : 1500 < sz a
  · rw [decide_eq_true ha] at HHA
    clear ha
    go_enter Tryd.func5, Tryd.ntmps5
    go_wp2_with (go_at_call 13; refine (HHA.out _ HT0.out).mono ?_; rintro e w3 ⟨rfl, hb3⟩; have HT3 : Hid _ := HT0.out.nx hb3; clear hb3)
    refine (HALV.out _ HT3.out).mono ?_
    rintro e w4 ⟨rfl, hb4⟩
    have HT4 : Hid _ := HT3.out.nx hb4
    clear hb4
    go_wp2
    go_ret
    exact ⟨rfl, HT4.out.bel⟩
  · rw [decide_eq_false ha] at HHA
    by_cases hb : 1500 < sz b
    · rw [decide_eq_true hb] at HHB
      clear ha hb
      go_enter Tryd.func5, Tryd.ntmps5
      go_wp2_with (go_at_call 13; refine (HHA.out _ HT0.out).mono ?_; rintro e w3 ⟨rfl, hb3⟩; have HT3 : Hid _ := HT0.out.nx hb3; clear hb3; obtain ⟨e0, e1, e2, g0, g1, g2⟩ := HT3.out.facts)
      refine (HHB.out _ HT3.out).mono ?_
      rintro e w5 ⟨rfl, hb5⟩
      have HT5 : Hid _ := HT3.out.nx hb5
      clear hb5
      go_wp2_with (go_at_call 15; refine (HALV.out _ HT5.out).mono ?_; rintro e w4 ⟨rfl, hb4⟩)
      go_ret
      exact ⟨rfl, (HT5.out.nx hb4).bel⟩
    · rw [decide_eq_false hb] at HHB
      have HS1 : Hid (∀ W, Tw w a b f sa sb sc sd W → Calls Tryd.prog 27 #[.agg #[.int .i64 a.rule, .int .u8 (a.byte.toNat : Int), .slice sa a.kids.length sc], .agg #[.int .i64 b.rule, .int .u8 (b.byte.toNat : Int), .slice sb b.kids.length sd]] W fun e w' => e = .returned (.bool (eqT a b)) ∧ Below W.heap.size W w') := fun W h => same_any a b sa sb sc sd f W h.ka h.kb hsc hsd (by omega)
      have HS2 : Hid (∀ W, Tw w a b f sa sb sc sd W → Calls Tryd.prog 19 #[.agg #[.int .i64 a.rule, .int .u8 (a.byte.toNat : Int), .slice sa a.kids.length sc], .agg #[.int .i64 b.rule, .int .u8 (b.byte.toNat : Int), .slice sb b.kids.length sd]] W fun e w' => e = .returned (.bool (eqT a b)) ∧ Below W.heap.size W w') := fun W h => refSame_any f f a b sa sb sc sd W h.ka h.kb
      have HCP : Hid (∀ W, Tw w a b f sa sb sc sd W → Calls Tryd.prog 16 #[.agg #[.int .i64 a.rule, .int .u8 (a.byte.toNat : Int), .slice sa a.kids.length sc]] W fun e w' => (∃ va vc, e = .returned (.agg #[.int .i64 a.rule, .int .u8 (a.byte.toNat : Int), .slice va a.kids.length vc]) ∧ a.kids.length ≤ vc ∧ TIn w' (fun b => W.heap.size ≤ b ∧ b < w'.heap.size) f va a.kids) ∧ Below W.heap.size W w') := fun W h => copy_any f a sa sc W h.ka
      have HS3 : Hid (∀ W va vc, Tw w a b f sa sb sc sd W → TAt W W.heap.size f va a.kids → a.kids.length ≤ vc → Calls Tryd.prog 27 #[.agg #[.int .i64 a.rule, .int .u8 (a.byte.toNat : Int), .slice sa a.kids.length sc], .agg #[.int .i64 a.rule, .int .u8 (a.byte.toNat : Int), .slice va a.kids.length vc]] W fun e w' => e = .returned (.bool true) ∧ Below W.heap.size W w') := fun W va vc h hv hvc => by
        have h' := same_any a a sa va sc vc f W h.ka hv hsc hvc (by omega)
        rw [eqT_true rfl] at h'
        exact h'
      generalize eqT a b = q at HS1 HS2
      clear ha hb
      go_enter Tryd.func5, Tryd.ntmps5
      go_wp2_with (go_at_call 13; refine (HHA.out _ HT0.out).mono ?_; rintro e w3 ⟨rfl, hb3⟩; have HT3 : Hid _ := HT0.out.nx hb3; clear hb3; obtain ⟨e0, e1, e2, g0, g1, g2⟩ := HT3.out.facts)
      refine (HHB.out _ HT3.out).mono ?_
      rintro e w5 ⟨rfl, hb5⟩
      have HT5 : Hid _ := HT3.out.nx hb5
      clear hb5
      go_wp2
      have T := HT5.out
      have hqq : (q == q) = true := by simp
      clear e0 e1 e2 g0 g1 g2 HT3 HT0 HHA HHB
      go_region_held3 (fun W => W.cell? ⟨w.heap.size, 0, none⟩ = some (.int .i64 a.rule) ∧ W.cell? ⟨w.heap.size, 1, none⟩ = some (.int .u8 (a.byte.toNat : Int)) ∧ W.cell? ⟨w.heap.size, 2, none⟩ = some (.slice sa a.kids.length sc) ∧ W.cell? ⟨w.heap.size + 1, 0, none⟩ = some (.int .i64 b.rule) ∧ W.cell? ⟨w.heap.size + 1, 1, none⟩ = some (.int .u8 (b.byte.toNat : Int)) ∧ W.cell? ⟨w.heap.size + 1, 2, none⟩ = some (.slice sb b.kids.length sd)) (first | exact T.facts | exact T.drew.facts) (first
        | (go_at_call 15; refine (HALV.out _ (by first | exact T | exact T.drew)).mono ?_; rintro e w6 ⟨rfl, hb6⟩; replace T : Tw w a b f sa sb sc sd w6 := (by first | exact Tw.nx hb6 T | exact Tw.nx hb6 T.drew); clear hb6)
        | (go_at_call 19; refine (HS2.out _ (by first | exact T | exact T.drew)).mono ?_; rintro e w7 ⟨rfl, hb7⟩; replace T : Tw w a b f sa sb sc sd w7 := (by first | exact Tw.nx hb7 T | exact Tw.nx hb7 T.drew); clear hb7)
        | (go_at_call 16; refine (HCP.out _ (by first | exact T | exact T.drew)).mono ?_; rintro e w8 ⟨⟨va, vc, rfl, hvc, htin⟩, hb8⟩; replace T : Tw w a b f sa sb sc sd w8 := (by first | exact Tw.nx hb8 T | exact Tw.nx hb8 T.drew); clear hb8; have htat : TAt w8 w8.heap.size f va a.kids := htin.tat (fun b h => h.2); clear htin)
        | (go_at_call 27; refine (HS1.out _ (by first | exact T | exact T.drew)).mono ?_; rintro e w9 ⟨rfl, hb9⟩; replace T : Tw w a b f sa sb sc sd w9 := (by first | exact Tw.nx hb9 T | exact Tw.nx hb9 T.drew); clear hb9)
        | (go_at_call 27; refine (HS3.out _ va vc (by first | exact T | exact T.drew) htat hvc).mono ?_; rintro e w10 ⟨rfl, hb10⟩; replace T : Tw w a b f sa sb sc sd w10 := (by first | exact Tw.nx hb10 T | exact Tw.nx hb10 T.drew); clear hb10 htat))
      all_goals go_wp2
      all_goals go_ret
      all_goals exact ⟨by simp, T.bel⟩
end Go.Proofs.YtlnlkbkmnkjbhaaDoor
