/- What is written in a width is just what the document says: the walk. -/
import Derived.Test.YtbmejfcbladofaaM8
namespace Go.Proofs.Ytbmejfcbladofaa
open Go.RowKit

set_option maxRecDepth 100000 in
set_option maxHeartbeats 4000000 in
theorem renders_walk (d : Dc) (sa : Option Addr) (sc f : Nat) (wd : Int) (w : World) (hk : DAt w w.heap.size f sa d.kids) (hsc : d.kids.length ≤ sc) (ht : TxD d) (_ : -9223372036854775808 ≤ wd) (hwd : wd ≤ 9223372036854775807) :
    Calls Try.prog 3 #[.agg #[.int .i64 d.kind, .string d.text, .int .i64 d.n, .slice sa d.kids.length sc], .int .i64 wd] w fun e w' => e = .returned (.bool true) ∧ Below w.heap.size w w' := by
  obtain ⟨w1, hw1⟩ : ∃ w1, w.alloc (.cells #[.int .i64 d.kind, .string d.text, .int .i64 d.n, .slice sa d.kids.length sc] 24) = w1 := ⟨_, rfl⟩
  have hB1 : Below w.heap.size w w1 := by rw [← hw1]; exact (Below.refl _ _).alloc (Nat.le_refl _) _
  have s1 : w1.heap.size = w.heap.size + 1 := by rw [← hw1]; simp
  have x1 : Bx w1 w.heap.size d.kind d.text d.n (.slice sa d.kids.length sc) := by rw [← hw1]; exact Bx.new _ _ _ _ _ _
  obtain ⟨a0, a1, a2, a3⟩ := x1
  have HX1 : Hid _ := Bx.mk a0 a1 a2 a3
  have hD : ∀ W, Below w.heap.size w W → DAt W W.heap.size f sa d.kids := fun W hW => (hk.keep hW).mono hW.size
  have HH : Hid _ := fun (_ : Unit) => heavy_any d sa sc f w1 (hD w1 hB1) ht
  have HD : Hid _ := hD
  have HB1 : Hid _ := hB1
  have HS1 : Hid _ := s1
  clear hD hB1 s1 hk
  have hns : ∀ W, Below w.heap.size w W → Calls Try.prog 10 #[] W fun e w' => e = .returned (.bool true) ∧ Below w.heap.size w w' := fun W hW => (alive_any W).mono (by rintro e w' ⟨rfl, hb⟩; exact ⟨rfl, hW.trans (hb.mono hW.size)⟩)
  have HAL : Hid _ := hns
  clear hns
  by_cases hwt : 700 < wt d
  · rw [decide_eq_true hwt] at HH
    clear hwt
    go_enter Try.func3, Try.ntmps3
    go_wp2_with (go_at_call 9; refine (HH.out ()).mono ?_)
    rintro e w2 ⟨rfl, hb2⟩
    have HB2 : Hid (Below w.heap.size w w2) := HB1.out.trans (hb2.mono HB1.out.size)
    clear hb2
    go_wp2_with (go_at_call 10; refine (HAL.out w2 HB2.out).mono ?_)
    rintro e w3 ⟨rfl, hb3⟩
    have HB3 : Hid _ := hb3
    clear hb3
    go_wp2
    go_ret
    exact ⟨rfl, HB3.out⟩
  rw [decide_eq_false hwt] at HH
  have HPL : Hid ((pre d 1).length ≤ 700) := Nat.le_trans (pre_wt d 1) (by omega)
  have HWT : Hid (wt d ≤ 700) := by show _ ≤ _; omega
  clear hwt ht
  go_enter Try.func3, Try.ntmps3
  go_wp2_with (go_at_call 9; refine (HH.out ()).mono ?_)
  rintro e w2 ⟨rfl, hb2⟩
  have x2 := HX1.out.keep hb2 (by rw [HS1.out]; omega)
  obtain ⟨b0, b1, b2, b3⟩ := x2
  have HX2 : Hid _ := Bx.mk b0 b1 b2 b3
  have HB2 : Hid (Below w.heap.size w w2) := HB1.out.trans (hb2.mono HB1.out.size)
  have HS2 : Hid (w.heap.size < w2.heap.size) := Nat.lt_of_lt_of_le (by rw [HS1.out]; omega) hb2.size
  have HR : Hid _ := fun (_ : Unit) => render_any d sa sc f wd w2 (HD.out w2 HB2.out) hsc (by have := HPL.out; omega) (fun h => okL_right h (by have := HWT.out; omega)) hwd
  have HBK : Hid _ := fun (W : World) (hW : Below w.heap.size w W) => broken_any d sa sc f wd W (HD.out W hW) hsc (by have := HPL.out; omega) (fun h => okL_right h (by have := HWT.out; omega)) hwd
  have HRF : Hid _ := fun (W : World) (hW : Below w.heap.size w W) => refRender_any d sa sc f wd W (HD.out W hW) HWT.out hwd
  clear hb2 a0 a1 a2 a3 hw1
  obtain ⟨q, hq⟩ : ∃ q, layC d wd = q := ⟨_, rfl⟩
  obtain ⟨S, hS⟩ : ∃ q, layT d wd = q := ⟨_, rfl⟩
  obtain ⟨n, hn⟩ : ∃ q, layB d wd = q := ⟨_, rfl⟩
  rw [hq, hS] at HR
  simp only [hq, hn] at HBK
  simp only [hq, hS, hn] at HRF
  clear hq hS hn
  go_wp2_with (go_at_call 11; refine (HR.out ()).mono ?_)
  rintro e w3 ⟨rfl, hb3⟩
  have x3 := HX2.out.keep hb3 HS2.out
  obtain ⟨c0, c1, c2, c3⟩ := x3
  have HX3 : Hid _ := Bx.mk c0 c1 c2 c3
  have HB3 : Hid (Below w.heap.size w w3) := HB2.out.trans (hb3.mono HB2.out.size)
  have HS3 : Hid (w.heap.size < w3.heap.size) := Nat.lt_of_lt_of_le HS2.out hb3.size
  clear hb3 b0 b1 b2 b3
  go_wp2_with (go_at_call 12; refine (HBK.out w3 HB3.out).mono ?_)
  rintro e w4 ⟨rfl, hb4⟩
  have x4 := HX3.out.keep hb4 HS3.out
  obtain ⟨d0, d1, d2, d3⟩ := x4
  have HB4 : Hid (Below w.heap.size w w4) := HB3.out.trans (hb4.mono HB3.out.size)
  clear hb4 c0 c1 c2 c3
  go_wp2_with (go_at_call 13; refine (HRF.out w4 HB4.out).mono ?_)
  rintro e w5 ⟨rfl, hb5⟩
  have HB5 : Hid (Below w.heap.size w w5) := HB4.out.trans (hb5.mono HB4.out.size)
  clear hb5 d0 d1 d2 d3
  go_wp2_with (go_at_call 10; refine (HAL.out w5 HB5.out).mono ?_)
  rintro e w6 ⟨rfl, hb6⟩
  have HB6 : Hid _ := hb6
  clear hb6
  go_wp2
  go_ret
  exact ⟨by simp, HB6.out⟩
end Go.Proofs.Ytbmejfcbladofaa
