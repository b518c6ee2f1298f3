/- The fixed calls of the laws. -/
import Derived.Test.YtlnlkbkmnkjbhaaDoorKk
import Derived.Test.YtlnlkbkmnkjbhaaDoorT6
import Derived.Test.YtlnlkbkmnkjbhaaDoorQb
import Derived.Test.YtlnlkbkmnkjbhaaDoorY1
import Derived.Deep.RegionHeld3
namespace Go.Proofs.YtlnlkbkmnkjbhaaDoor
open Go.RowKit

theorem someT_prt : prt someT = (⟨#[48, 40, 120, 51, 49, 32, 120, 50, 98, 32, 49, 40, 120, 51, 50, 41, 41]⟩, 0) := by kernel_rfl
theorem rpar_three : rpar ⟨#[51, 40, 41]⟩ = .ok (.mk 3 0 []) 3 := by kernel_rfl
theorem someT_at : atP someT [2, 0] = some (.mk (-1) 50 []) := by rfl
theorem someT_yl : yl someT = [49, 43, 50] := by rfl
/-- The fixed tree, somewhere. -/
def SomeAt (W : World) (va : Option Addr) (vc : Nat) : Prop := someT.kids.length ≤ vc ∧ TAt W W.heap.size 2 va someT.kids
theorem SomeAt.nx {W W' : World} {va : Option Addr} {vc : Nat} (h : SomeAt W va vc) (hb : Below W.heap.size W W') : SomeAt W' va vc := ⟨h.1, (h.2.keep hb).mono hb.size⟩
/-- What was read is kept. -/
structure AH (w : World) (tb : Nat) (W : World) : Prop where
  bel : Below w.heap.size w W
  t0 : W.cell? ⟨tb, 0, none⟩ = some (.int .i64 3)
  f0 : W.cell? ⟨tb + 1, 0, none⟩ = some (.int .i64 0)
  f1 : W.cell? ⟨tb + 1, 1, none⟩ = some (.int .i64 0)
  lt : tb + 1 < W.heap.size
theorem AH.nx {w : World} {tb : Nat} {W W' : World} (h : AH w tb W) (hb : Below W.heap.size W W') : AH w tb W' := by
  have hl := h.lt
  have k : ∀ b q, b < W.heap.size → W'.cell? ⟨b, q, none⟩ = W.cell? ⟨b, q, none⟩ := fun b q hlt => hb.cell (p := ⟨b, q, none⟩) hlt
  exact ⟨below_of h.bel hb, (k _ _ (by omega)).trans h.t0, (k _ _ (by omega)).trans h.f0, (k _ _ (by omega)).trans h.f1, Nat.lt_of_lt_of_le hl hb.size⟩
/-- So is the part that was found. -/
structure AK (w : World) (tb kb : Nat) (W : World) : Prop where
  ah : AH w tb W
  k1 : W.cell? ⟨kb, 1, none⟩ = some (.int .u8 50)
  lt : kb < W.heap.size
theorem AK.nx {w : World} {tb kb : Nat} {W W' : World} (h : AK w tb kb W) (hb : Below W.heap.size W W') : AK w tb kb W' := ⟨h.ah.nx hb, (hb.cell (p := ⟨kb, 1, none⟩) h.lt).trans h.k1, Nat.lt_of_lt_of_le h.lt hb.size⟩
theorem below_drew (W : World) : Below W.heap.size W W.drew := ⟨rfl, rfl, rfl, Nat.le_refl _, fun _ _ => rfl⟩
theorem AK.drew {w : World} {tb kb : Nat} {W : World} (h : AK w tb kb W) : AK w tb kb W.drew := h.nx (below_drew W)
theorem SomeAt.drew {W : World} {va : Option Addr} {vc : Nat} (h : SomeAt W va vc) : SomeAt W.drew va vc := h.nx (below_drew W)
theorem AK.facts {w : World} {tb kb : Nat} {W : World} (h : AK w tb kb W) : W.cell? ⟨tb, 0, none⟩ = some (.int .i64 3) ∧ W.cell? ⟨tb + 1, 0, none⟩ = some (.int .i64 0) ∧ W.cell? ⟨tb + 1, 1, none⟩ = some (.int .i64 0) ∧ W.cell? ⟨kb, 1, none⟩ = some (.int .u8 50) := ⟨h.ah.t0, h.ah.f0, h.ah.f1, h.k1⟩
set_option maxRecDepth 100000 in
set_option maxHeartbeats 8000000 in
theorem alive_any (w : World) (hT : Tab w.heap.size w) : Calls Tryd.prog 15 #[] w fun e w' => e = .returned (.bool true) ∧ Below w.heap.size w w' := by
  have HS : Hid (∀ W : World, Calls Tryd.prog 38 #[] W fun e w' => (∃ va vc, e = .returned (.agg #[.int .i64 0, .int .u8 0, .slice va 3 vc]) ∧ SomeAt w' va vc) ∧ Below W.heap.size W w') := fun W => some_any W
  have HP : Hid (∀ W va vc, SomeAt W va vc → Tab W.heap.size W → Calls Tryd.prog 33 #[.agg #[.int .i64 0, .int .u8 0, .slice va 3 vc]] W fun e w' => e = .returned (.tuple #[.string ⟨#[48, 40, 120, 51, 49, 32, 120, 50, 98, 32, 49, 40, 120, 51, 50, 41, 41]⟩, .int .i64 0]) ∧ Below W.heap.size W w') := fun W va vc h ht => by
    have := print_any someT va vc 2 W h.2 h.1 (by rw [someT_sz]; decide) ht
    rw [someT_prt] at this
    exact this
  have HR : Hid (∀ W : World, Calls Tryd.prog 35 #[.string ⟨#[51, 40, 41]⟩] W fun e w' => (∃ va vc, e = .returned (.tuple #[.agg #[.int .i64 3, .int .u8 0, .slice va 0 vc], .agg #[.int .i64 0, .int .i64 0]])) ∧ Below W.heap.size W w') := fun W => by
    have := parse_any ⟨#[51, 40, 41]⟩ W (by decide)
    rw [rpar_three] at this
    refine this.mono ?_
    rintro e w' ⟨⟨va, vc, rfl, _⟩, hb⟩
    exact ⟨⟨va, vc, rfl⟩, hb⟩
  have HZ : Hid (∀ W va vc, SomeAt W va vc → Calls Tryd.prog 20 #[.agg #[.int .i64 0, .int .u8 0, .slice va 3 vc]] W fun e w' => e = .returned (.tuple #[.int .i64 5, .int .i64 3]) ∧ Below W.heap.size W w') := fun W va vc h => by
    have := size_any someT va vc 2 W h.2 h.1 (by rw [someT_sz]; decide)
    rw [someT_sz, someT_dp] at this
    exact this
  have HA : Hid (∀ W va vc (b : Nat), SomeAt W va vc → b < W.heap.size → W.cell? ⟨b, 0, none⟩ = some (.int .i64 2) → W.cell? ⟨b, 1, none⟩ = some (.int .i64 0) → Calls Tryd.prog 28 #[.agg #[.int .i64 0, .int .u8 0, .slice va 3 vc], .slice (some ⟨b, 0, none⟩) 2 2] W fun e w' => (∃ xa xc, e = .returned (.tuple #[.agg #[.int .i64 (-1), .int .u8 50, .slice xa 0 xc], .int .i64 0])) ∧ Below W.heap.size W w') := fun W va vc b h hb q0 q1 => by
    have := at_any someT va vc 2 [2, 0] (some ⟨b, 0, none⟩) 2 W h.2 h.1 (by rw [someT_sz]; decide) (fun j v hj => by
      match j, hj with
      | 0, hj => cases hj; exact ⟨b, 0, rfl, hb, q0⟩
      | 1, hj => cases hj; exact ⟨b, 0, rfl, hb, q1⟩) (by decide)
    rw [someT_at] at this
    refine this.mono ?_
    rintro e w' ⟨⟨F, va, vc, rfl, _⟩, hb⟩
    exact ⟨⟨va, vc, rfl⟩, hb⟩
  have HY : Hid (∀ W va vc, SomeAt W va vc → Calls Tryd.prog 23 #[.agg #[.int .i64 0, .int .u8 0, .slice va 3 vc]] W fun e w' => (∃ v, e = .returned v ∧ ∀ W', Below w'.heap.size w' W' → (convert 40 9 v).run Tryd.prog W' = .ok (.string ⟨#[49, 43, 50]⟩) W') ∧ Below W.heap.size W w') := fun W va vc h => by
    refine (yield_any someT va vc 2 W h.2 h.1 (by rw [someT_sz]; decide)).mono ?_
    rintro e w' ⟨⟨v, rfl, hr⟩, hb⟩
    rw [someT_yl] at hr
    exact ⟨⟨v, rfl, fun W' hb' => row_conv (row_ab hr (fun g hg => hb'.block g (hr.lt g hg).2))⟩, hb⟩
  have HN : Hid (∀ W va vc, Calls Tryd.prog 17 #[.agg #[.int .i64 0, .int .i64 0, .slice none 0 0], .int .i64 0, .agg #[.int .i64 0, .int .u8 0, .slice va 3 vc]] W fun e w' => e = .returned (.int .i64 3) ∧ Below W.heap.size W w') := fun W va vc => right_none someT va vc W
  have HT : Hid _ := fun (_ : Unit) => hT
  clear hT
  go_enter Tryd.func15, Tryd.ntmps15
  go_wp2_with (go_at_call 38; refine (HS.out _).mono ?_; rintro e w1 ⟨⟨va1, vc1, rfl, hs1⟩, hb1⟩)
  refine (HP.out w1 va1 vc1 hs1 ((HT.out ()).nx hb1)).mono ?_
  rintro e w2 ⟨rfl, hb2⟩
  have HB2 : Hid (Below w.heap.size w w2) := hb1.trans (hb2.mono hb1.size)
  clear hs1 hb1 hb2
  go_wp2_with (go_at_call 35; refine (HR.out _).mono ?_; rintro e w3 ⟨⟨va3, vc3, rfl⟩, hb3⟩; have HB3 : Hid (Below w.heap.size w w3) := HB2.out.trans (hb3.mono HB2.out.size); clear hb3)
  have HAH : Hid (AH w w3.heap.size ((w3.alloc (.cells #[.int .i64 3, .int .u8 0, .slice va3 0 vc3] 27)).alloc (.cells #[.int .i64 0, .int .i64 0] 52))) := by
    obtain ⟨u1, hu1⟩ : ∃ u1, w3.alloc (.cells #[.int .i64 3, .int .u8 0, .slice va3 0 vc3] 27) = u1 := ⟨_, rfl⟩
    obtain ⟨u2, hu2⟩ : ∃ u2, u1.alloc (.cells #[.int .i64 0, .int .i64 0] 52) = u2 := ⟨_, rfl⟩
    rw [hu1, hu2]
    have s1 : u1.heap.size = w3.heap.size + 1 := by rw [← hu1]; simp
    have s2 : u2.heap.size = w3.heap.size + 2 := by rw [← hu2]; simp [s1]
    have b1 : Below w3.heap.size w3 u1 := by rw [← hu1]; exact (Below.refl _ _).alloc (Nat.le_refl _) _
    have b2 : Below u1.heap.size u1 u2 := by rw [← hu2]; exact (Below.refl _ _).alloc (Nat.le_refl _) _
    exact ⟨below_of (below_of HB3.out b1) b2, (b2.cell (p := ⟨w3.heap.size, 0, none⟩) (by show w3.heap.size < _; omega)).trans (by rw [← hu1]; exact cell_new 0 rfl), by rw [← hu2, ← s1]; exact cell_new 0 rfl, by rw [← hu2, ← s1]; exact cell_new 1 rfl, by omega⟩
  generalize hu : ((w3.alloc (.cells #[.int .i64 3, .int .u8 0, .slice va3 0 vc3] 27)).alloc (.cells #[.int .i64 0, .int .i64 0] 52)) = u at HAH ⊢
  clear hu HB2 HB3
  refine (HS.out _).mono ?_
  rintro e w4 ⟨⟨va4, vc4, rfl, hs4⟩, hb4⟩
  have HA4 : Hid _ := HAH.out.nx hb4
  clear hb4 HAH
  go_wp2_with (go_at_call 20; refine (HZ.out w4 va4 vc4 hs4).mono ?_; rintro e w5 ⟨rfl, hb5⟩; have HA5 : Hid _ := HA4.out.nx hb5; clear hb5)
  refine (HS.out _).mono ?_
  rintro e w6 ⟨⟨va6, vc6, rfl, hs6⟩, hb6⟩
  have HA6 : Hid _ := HA5.out.nx hb6
  clear hb6 HA5 HA4 hs4
  have HC28 : Hid (Calls Tryd.prog 28 #[.agg #[.int .i64 0, .int .u8 0, .slice va6 3 vc6], .slice (some ⟨w6.heap.size, 0, none⟩) 2 2] (w6.alloc (.cells #[.int .i64 2, .int .i64 0] 3)) fun e w' => (∃ xa xc, e = .returned (.tuple #[.agg #[.int .i64 (-1), .int .u8 50, .slice xa 0 xc], .int .i64 0])) ∧ AH w w3.heap.size w') := by
    have hb := (Below.refl w6.heap.size w6).alloc (Nat.le_refl _) (.cells #[.int .i64 2, .int .i64 0] 3)
    refine (HA.out (w6.alloc (.cells #[.int .i64 2, .int .i64 0] 3)) va6 vc6 w6.heap.size (hs6.nx hb) (by simp) (cell_new 0 rfl) (cell_new 1 rfl)).mono ?_
    rintro e w' ⟨h1, h2⟩
    exact ⟨h1, (HA6.out.nx hb).nx h2⟩
  go_wp2_with ((go_at_call 28; refine HC28.out.mono ?_; rintro e w7 ⟨⟨xa, xc, rfl⟩, ha7⟩; have t0 := ha7.t0; have f0 := ha7.f0; have f1 := ha7.f1; have hlt7 := ha7.lt; have hlt7' : w3.heap.size < w7.heap.size := Nat.lt_of_succ_lt hlt7))
  have HB8 : Hid (Below w.heap.size w (w7.alloc (.cells #[.int .i64 (-1), .int .u8 50, .slice xa 0 xc] 27))) := ha7.bel.alloc ha7.bel.size _
  generalize (w7.alloc (.cells #[.int .i64 (-1), .int .u8 50, .slice xa 0 xc] 27)) = w8 at HB8 ⊢
  clear t0 f0 f1 hlt7 hlt7' ha7
  refine (HS.out _).mono ?_
  rintro e w9 ⟨⟨va9, vc9, rfl, hs9⟩, hb9⟩
  have HB9 : Hid (Below w.heap.size w w9) := HB8.out.trans (hb9.mono HB8.out.size)
  go_wp2_with (go_at_call 23; refine (HY.out w9 va9 vc9 hs9).mono ?_; rintro e w10 ⟨⟨yv, rfl, hcv⟩, hb10⟩; have hcv10 := hcv w10 (Below.refl _ _); clear hcv)
  have HB10 : Hid (Below w.heap.size w w10) := HB9.out.trans (hb10.mono HB9.out.size)
  refine (HS.out _).mono ?_
  rintro e w11 ⟨⟨va11, vc11, rfl, hs11⟩, hb11⟩
  have HB11 : Hid (Below w.heap.size w w11) := HB10.out.trans (hb11.mono HB10.out.size)
  go_wp2_with (go_at_call 17; refine (HN.out w11 va11 vc11).mono ?_; rintro e w12 ⟨rfl, hb12⟩)
  go_ret
  exact ⟨rfl, HB11.out.trans (hb12.mono HB11.out.size)⟩
end Go.Proofs.YtlnlkbkmnkjbhaaDoor
