/- The law TermsSame, walked. -/
import Derived.Test.YtlkcadibjmfmcaaDoorAa
namespace Go.Proofs.YtlkcadibjmfmcaaDoor
open Go.RowKit

/-- Both terms in their boxes. -/
structure Tw (w : World) (a b : Tm) (ta : Option Addr) (tc : Nat) (sa : Option Addr) (sc : Nat) (tb : Option Addr) (td : Nat) (sb : Option Addr) (sd : Nat) (W : World) : Prop where
  bel : Below w.heap.size w W
  a0 : W.cell? ⟨w.heap.size, 0, none⟩ = some (.int .i64 a.kind)
  a1 : W.cell? ⟨w.heap.size, 1, none⟩ = some (.string a.cons)
  a2 : W.cell? ⟨w.heap.size, 2, none⟩ = some (.slice ta a.text.length tc)
  a3 : W.cell? ⟨w.heap.size, 3, none⟩ = some (.slice sa a.kids.length sc)
  b0 : W.cell? ⟨w.heap.size + 1, 0, none⟩ = some (.int .i64 b.kind)
  b1 : W.cell? ⟨w.heap.size + 1, 1, none⟩ = some (.string b.cons)
  b2 : W.cell? ⟨w.heap.size + 1, 2, none⟩ = some (.slice tb b.text.length td)
  b3 : W.cell? ⟨w.heap.size + 1, 3, none⟩ = some (.slice sb b.kids.length sd)
  ka : TA W a ta tc sa sc
  kb : TA W b tb td sb sd
  lt : w.heap.size + 1 < W.heap.size
section
variable {w : World} {a b : Tm} {ta : Option Addr} {tc : Nat} {sa : Option Addr} {sc : Nat} {tb : Option Addr} {td : Nat} {sb : Option Addr} {sd : Nat} {W W' : World}
theorem Tw.nx (hb : Below W.heap.size W W') (h : Tw w a b ta tc sa sc tb td sb sd W) : Tw w a b ta tc sa sc tb td sb sd W' := by
  have hl := h.lt
  have k : ∀ b q, b < W.heap.size → W'.cell? ⟨b, q, none⟩ = W.cell? ⟨b, q, none⟩ := fun b q hlt => hb.cell (p := ⟨b, q, none⟩) hlt
  exact ⟨below_of h.bel hb, (k _ _ (by omega)).trans h.a0, (k _ _ (by omega)).trans h.a1, (k _ _ (by omega)).trans h.a2, (k _ _ (by omega)).trans h.a3, (k _ _ (by omega)).trans h.b0, (k _ _ (by omega)).trans h.b1, (k _ _ (by omega)).trans h.b2, (k _ _ (by omega)).trans h.b3, h.ka.nx hb, h.kb.nx hb, Nat.lt_of_lt_of_le hl hb.size⟩
theorem Tw.drew (h : Tw w a b ta tc sa sc tb td sb sd W) : Tw w a b ta tc sa sc tb td sb sd W.drew := Tw.nx (show Below W.heap.size W W.drew from ⟨rfl, rfl, rfl, Nat.le_refl _, fun _ _ => rfl⟩) h
theorem Tw.facts (h : Tw w a b ta tc sa sc tb td sb sd W) : W.cell? ⟨w.heap.size, 0, none⟩ = some (.int .i64 a.kind) ∧ W.cell? ⟨w.heap.size, 1, none⟩ = some (.string a.cons) ∧ W.cell? ⟨w.heap.size, 2, none⟩ = some (.slice ta a.text.length tc) ∧ W.cell? ⟨w.heap.size, 3, none⟩ = some (.slice sa a.kids.length sc) ∧ W.cell? ⟨w.heap.size + 1, 0, none⟩ = some (.int .i64 b.kind) ∧ W.cell? ⟨w.heap.size + 1, 1, none⟩ = some (.string b.cons) ∧ W.cell? ⟨w.heap.size + 1, 2, none⟩ = some (.slice tb b.text.length td) ∧ W.cell? ⟨w.heap.size + 1, 3, none⟩ = some (.slice sb b.kids.length sd) := ⟨h.a0, h.a1, h.a2, h.a3, h.b0, h.b1, h.b2, h.b3⟩
theorem Tw.first (ha : TA w a ta tc sa sc) (hb : TA w b tb td sb sd) (W : World) (hW : (w.alloc (.cells #[.int .i64 a.kind, .string a.cons, .slice ta a.text.length tc, .slice sa a.kids.length sc] 25)).alloc (.cells #[.int .i64 b.kind, .string b.cons, .slice tb b.text.length td, .slice sb b.kids.length sd] 25) = W) : Tw w a b ta tc sa sc tb td sb sd W := by
  obtain ⟨w1, hw1⟩ : ∃ w1, w.alloc (.cells #[.int .i64 a.kind, .string a.cons, .slice ta a.text.length tc, .slice sa a.kids.length sc] 25) = w1 := ⟨_, rfl⟩
  rw [hw1] at hW
  have s1 : w1.heap.size = w.heap.size + 1 := by rw [← hw1]; simp
  have hB1 : Below w.heap.size w w1 := by rw [← hw1]; exact (Below.refl _ _).alloc (Nat.le_refl _) _
  have hB2' : Below w1.heap.size w1 W := by rw [← hW]; exact (Below.refl _ _).alloc (Nat.le_refl _) _
  have hB2 : Below w.heap.size w W := hB1.trans (hB2'.mono (by omega))
  have c1 : ∀ j v, (#[.int .i64 a.kind, .string a.cons, .slice ta a.text.length tc, .slice sa a.kids.length sc] : Array Value)[j]? = some v → W.cell? ⟨w.heap.size, j, none⟩ = some v := fun j v hv => (hB2'.cell (p := ⟨w.heap.size, j, none⟩) (by show w.heap.size < _; omega)).trans (by rw [← hw1]; exact cell_new j hv)
  have c2 : ∀ j v, (#[.int .i64 b.kind, .string b.cons, .slice tb b.text.length td, .slice sb b.kids.length sd] : Array Value)[j]? = some v → W.cell? ⟨w.heap.size + 1, j, none⟩ = some v := fun j v hv => by rw [← hW, ← s1]; exact cell_new j hv
  exact ⟨hB2, c1 0 _ rfl, c1 1 _ rfl, c1 2 _ rfl, c1 3 _ rfl, c2 0 _ rfl, c2 1 _ rfl, c2 2 _ rfl, c2 3 _ rfl, ha.nx hB2, hb.nx hB2, by rw [← hW]; simp; omega⟩
end
theorem copy_t (d : Tm) (ta : Option Addr) (tc : Nat) (sa : Option Addr) (sc : Nat) (w : World) (h : TA w d ta tc sa sc) :
    Calls Tryd.prog 14 #[.agg #[.int .i64 d.kind, .string d.cons, .slice ta d.text.length tc, .slice sa d.kids.length sc]] w fun e w' => (∃ xa xc va vc, e = .returned (.agg #[.int .i64 d.kind, .string d.cons, .slice xa d.text.length xc, .slice va d.kids.length vc]) ∧ TA w' d xa xc va vc) ∧ Below w.heap.size w w' := by
  obtain ⟨f, hf⟩ := h.mat
  refine (copy_any f d _ sa sc w h.txt hf).mono ?_
  rintro e w' ⟨⟨uv, va, vc, rfl, h1, h2, h3⟩, hb⟩
  obtain ⟨xa, xc, rfl, h4, h5, h6⟩ := h2.txt (fun b hb => hb.2)
  exact ⟨⟨xa, xc, va, vc, rfl, ⟨h4, h5, h6, h1, f, h3.mat (fun b hb => hb.2)⟩⟩, hb⟩
set_option maxRecDepth 100000 in
set_option maxHeartbeats 8000000 in
theorem termsSame_walk (a : Tm) (ta : Option Addr) (tc : Nat) (sa : Option Addr) (sc : Nat) (b : Tm) (tb : Option Addr) (td : Nat) (sb : Option Addr) (sd : Nat) (w : World) (hka : TA w a ta tc sa sc) (hkb : TA w b tb td sb sd) :
    Calls Tryd.prog 4 #[.agg #[.int .i64 a.kind, .string a.cons, .slice ta a.text.length tc, .slice sa a.kids.length sc], .agg #[.int .i64 b.kind, .string b.cons, .slice tb b.text.length td, .slice sb b.kids.length sd]] w fun e w' => e = .returned (.bool true) ∧ Below w.heap.size w w' := by
  obtain ⟨w2, hw2⟩ : ∃ w2, (w.alloc (.cells #[.int .i64 a.kind, .string a.cons, .slice ta a.text.length tc, .slice sa a.kids.length sc] 25)).alloc (.cells #[.int .i64 b.kind, .string b.cons, .slice tb b.text.length td, .slice sb b.kids.length sd] 25) = w2 := ⟨_, rfl⟩
  have T0 := Tw.first hka hkb w2 hw2
  obtain ⟨e0, e1, e2, e3, g0, g1, g2, g3⟩ := T0.facts
  have HT0 : Hid _ := T0
  clear hka hkb T0
  have HALV : Hid (∀ W, Calls Tryd.prog 13 #[] W fun e w' => e = .returned (.bool true) ∧ Below W.heap.size W w') := fun W => alive_any W
  have HHA : Hid (∀ W, Tw w a b ta tc sa sc tb td sb sd W → Calls Tryd.prog 12 #[.agg #[.int .i64 a.kind, .string a.cons, .slice ta a.text.length tc, .slice sa a.kids.length sc]] W fun e w' => e = .returned (.bool (decide (1000 < wt a))) ∧ Below W.heap.size W w') := fun W h => heavy_t a ta tc sa sc W h.ka
  have HHB : Hid (∀ W, Tw w a b ta tc sa sc tb td sb sd W → Calls Tryd.prog 12 #[.agg #[.int .i64 b.kind, .string b.cons, .slice tb b.text.length td, .slice sb b.kids.length sd]] W fun e w' => e = .returned (.bool (decide (1000 < wt b))) ∧ Below W.heap.size W w') := fun W h => heavy_t b tb td sb sd W h.kb
  by_cases ha : 1000 < wt a
  · rw [decide_eq_true ha] at HHA
    clear ha
    obtain ⟨w1, hw1⟩ : ∃ w1, w.alloc (.cells #[.int .i64 a.kind, .string a.cons, .slice ta a.text.length tc, .slice sa a.kids.length sc] 25) = w1 := ⟨_, rfl⟩
    rw [hw1] at hw2
    have s1 : w1.heap.size = w.heap.size + 1 := by rw [← hw1]; simp
    go_enter Tryd.func4, Tryd.ntmps4
    go_wp2_with (go_at_call 12; refine (HHA.out _ HT0.out).mono ?_; rintro e w3 ⟨rfl, hb3⟩; have HT3 : Hid _ := HT0.out.nx hb3; clear hb3)
    refine (HALV.out _).mono ?_
    rintro e w4 ⟨rfl, hb4⟩
    have HT4 : Hid _ := HT3.out.nx hb4
    clear hb4
    go_wp2
    go_ret
    exact ⟨rfl, HT4.out.bel⟩
  · rw [decide_eq_false ha] at HHA
    by_cases hb : 1000 < wt b
    · rw [decide_eq_true hb] at HHB
      clear ha hb
      obtain ⟨w1, hw1⟩ : ∃ w1, w.alloc (.cells #[.int .i64 a.kind, .string a.cons, .slice ta a.text.length tc, .slice sa a.kids.length sc] 25) = w1 := ⟨_, rfl⟩
      rw [hw1] at hw2
      have s1 : w1.heap.size = w.heap.size + 1 := by rw [← hw1]; simp
      go_enter Tryd.func4, Tryd.ntmps4
      go_wp2_with (go_at_call 12; refine (HHA.out _ HT0.out).mono ?_; rintro e w3 ⟨rfl, hb3⟩; have HT3 : Hid _ := HT0.out.nx hb3; clear hb3; obtain ⟨e0, e1, e2, e3, g0, g1, g2, g3⟩ := HT3.out.facts)
      refine (HHB.out _ HT3.out).mono ?_
      rintro e w5 ⟨rfl, hb5⟩
      have HT5 : Hid _ := HT3.out.nx hb5
      clear hb5
      go_wp2_with (go_at_call 13; refine (HALV.out _).mono ?_; rintro e w4 ⟨rfl, hb4⟩)
      go_ret
      exact ⟨rfl, (HT5.out.nx hb4).bel⟩
    · rw [decide_eq_false hb] at HHB
      have hsz := sz_wt a
      have HS1 : Hid (∀ W, Tw w a b ta tc sa sc tb td sb sd W → Calls Tryd.prog 22 #[.agg #[.int .i64 a.kind, .string a.cons, .slice ta a.text.length tc, .slice sa a.kids.length sc], .agg #[.int .i64 b.kind, .string b.cons, .slice tb b.text.length td, .slice sb b.kids.length sd]] W fun e w' => e = .returned (.bool (eqT a b)) ∧ Below W.heap.size W w') := fun W h => same_t a b ta tc sa sc tb td sb sd W h.ka h.kb (by omega)
      have HS2 : Hid (∀ W, Tw w a b ta tc sa sc tb td sb sd W → Calls Tryd.prog 21 #[.agg #[.int .i64 a.kind, .string a.cons, .slice ta a.text.length tc, .slice sa a.kids.length sc], .agg #[.int .i64 b.kind, .string b.cons, .slice tb b.text.length td, .slice sb b.kids.length sd]] W fun e w' => e = .returned (.bool (eqT a b)) ∧ Below W.heap.size W w') := fun W h => refSame_t a b ta tc sa sc tb td sb sd W h.ka h.kb
      have HCP : Hid (∀ W, Tw w a b ta tc sa sc tb td sb sd W → Calls Tryd.prog 14 #[.agg #[.int .i64 a.kind, .string a.cons, .slice ta a.text.length tc, .slice sa a.kids.length sc]] W fun e w' => (∃ xa xc va vc, e = .returned (.agg #[.int .i64 a.kind, .string a.cons, .slice xa a.text.length xc, .slice va a.kids.length vc]) ∧ TA w' a xa xc va vc) ∧ Below W.heap.size W w') := fun W h => copy_t a ta tc sa sc W h.ka
      have HS3 : Hid (∀ W xa xc va vc, Tw w a b ta tc sa sc tb td sb sd W → TA W a xa xc va vc → Calls Tryd.prog 22 #[.agg #[.int .i64 a.kind, .string a.cons, .slice ta a.text.length tc, .slice sa a.kids.length sc], .agg #[.int .i64 a.kind, .string a.cons, .slice xa a.text.length xc, .slice va a.kids.length vc]] W fun e w' => e = .returned (.bool true) ∧ Below W.heap.size W w') := fun W xa xc va vc h hv => by
        have h' := same_t a a ta tc sa sc xa xc va vc W h.ka hv (by omega)
        rw [eqT_true rfl] at h'
        exact h'
      generalize eqT a b = q at HS1 HS2
      clear ha hb hsz
      obtain ⟨w1, hw1⟩ : ∃ w1, w.alloc (.cells #[.int .i64 a.kind, .string a.cons, .slice ta a.text.length tc, .slice sa a.kids.length sc] 25) = w1 := ⟨_, rfl⟩
      rw [hw1] at hw2
      have s1 : w1.heap.size = w.heap.size + 1 := by rw [← hw1]; simp
      go_enter Tryd.func4, Tryd.ntmps4
      go_wp2_with (go_at_call 12; refine (HHA.out _ HT0.out).mono ?_; rintro e w3 ⟨rfl, hb3⟩; have HT3 : Hid _ := HT0.out.nx hb3; clear hb3; obtain ⟨e0, e1, e2, e3, g0, g1, g2, g3⟩ := HT3.out.facts)
      refine (HHB.out _ HT3.out).mono ?_
      rintro e w5 ⟨rfl, hb5⟩
      have HT5 : Hid _ := HT3.out.nx hb5
      clear hb5
      go_wp2
      have T := HT5.out
      have hqq : (q == q) = true := by simp
      clear e0 e1 e2 e3 g0 g1 g2 g3 HT3 HT0 HHA HHB
      go_region_held3 (fun W => W.cell? ⟨w.heap.size, 0, none⟩ = some (.int .i64 a.kind) ∧ W.cell? ⟨w.heap.size, 1, none⟩ = some (.string a.cons) ∧ W.cell? ⟨w.heap.size, 2, none⟩ = some (.slice ta a.text.length tc) ∧ W.cell? ⟨w.heap.size, 3, none⟩ = some (.slice sa a.kids.length sc) ∧ W.cell? ⟨w.heap.size + 1, 0, none⟩ = some (.int .i64 b.kind) ∧ W.cell? ⟨w.heap.size + 1, 1, none⟩ = some (.string b.cons) ∧ W.cell? ⟨w.heap.size + 1, 2, none⟩ = some (.slice tb b.text.length td) ∧ W.cell? ⟨w.heap.size + 1, 3, none⟩ = some (.slice sb b.kids.length sd)) (first | exact T.facts | exact T.drew.facts) (first
        | (go_at_call 13; refine (HALV.out _).mono ?_; rintro e w6 ⟨rfl, hb6⟩; replace T : Tw w a b ta tc sa sc tb td sb sd w6 := (by first | exact Tw.nx hb6 T | exact Tw.nx hb6 T.drew); clear hb6)
        | (go_at_call 21; refine (HS2.out _ (by first | exact T | exact T.drew)).mono ?_; rintro e w7 ⟨rfl, hb7⟩; replace T : Tw w a b ta tc sa sc tb td sb sd w7 := (by first | exact Tw.nx hb7 T | exact Tw.nx hb7 T.drew); clear hb7)
        | (go_at_call 14; refine (HCP.out _ (by first | exact T | exact T.drew)).mono ?_; rintro e w8 ⟨⟨xa, xc, va, vc, rfl, htin⟩, hb8⟩; replace T : Tw w a b ta tc sa sc tb td sb sd w8 := (by first | exact Tw.nx hb8 T | exact Tw.nx hb8 T.drew); clear hb8)
        | (go_at_call 22; refine (HS1.out _ (by first | exact T | exact T.drew)).mono ?_; rintro e w9 ⟨rfl, hb9⟩; replace T : Tw w a b ta tc sa sc tb td sb sd w9 := (by first | exact Tw.nx hb9 T | exact Tw.nx hb9 T.drew); clear hb9)
        | (go_at_call 22; refine (HS3.out _ xa xc va vc (by first | exact T | exact T.drew) htin).mono ?_; rintro e w10 ⟨rfl, hb10⟩; replace T : Tw w a b ta tc sa sc tb td sb sd w10 := (by first | exact Tw.nx hb10 T | exact Tw.nx hb10 T.drew); clear hb10 htin))
      all_goals go_wp2
      all_goals go_ret
      all_goals exact ⟨by simp, T.bel⟩
end Go.Proofs.YtlkcadibjmfmcaaDoor
