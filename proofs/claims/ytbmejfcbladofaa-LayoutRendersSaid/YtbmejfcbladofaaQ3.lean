/- M8 and M9 in one text. -/
import Derived.Test.YtbmejfcbladofaaQ2
import Derived.RegionTactic
namespace Go.Proofs.Ytbmejfcbladofaa
open Go.RowKit

mutual
theorem rlv_text : ∀ (d : Dc), ∀ x ∈ rlv d, x.text.size ≤ 16 * wt d
  | .mk k t n l => by
    have h := rlvL_text l
    rw [rlv, wt]
    split
    · intro x hx
      simp at hx; subst hx
      show t.size ≤ _; omega
    · intro x hx
      have := h x hx; omega
theorem rlvL_text : ∀ (l : List Dc), ∀ x ∈ rlvL l, x.text.size ≤ 16 * wtL l
  | [] => by rw [rlvL]; intro x hx; cases hx
  | d :: l => by
    have h1 := rlv_text d
    have h2 := rlvL_text l
    rw [rlvL, wtL]
    intro x hx
    rcases List.mem_append.1 hx with hx | hx
    · have := h1 x hx; omega
    · have := h2 x hx; omega
end
set_option maxRecDepth 100000 in
set_option maxHeartbeats 8000000 in
theorem refRender_any (d : Dc) (sa : Option Addr) (sc f : Nat) (wd : Int) (w : World) (hk : DAt w w.heap.size f sa d.kids) (hw : wt d ≤ 700) (hwd : wd ≤ 9223372036854775807) :
    Calls Try.prog 13 #[.agg #[.int .i64 d.kind, .string d.text, .int .i64 d.n, .slice sa d.kids.length sc], .int .i64 wd] w fun e w' => e = .returned (.tuple #[.string (layT d wd), .int .i64 (layB d wd), .int .i64 (layC d wd)]) ∧ Below w.heap.size w w' := by
  obtain ⟨w1, hw1⟩ : ∃ w1, w.alloc (.cells #[.int .i64 d.kind, .string d.text, .int .i64 d.n, .slice sa d.kids.length sc] 24) = w1 := ⟨_, rfl⟩
  have hB1 : Below w.heap.size w w1 := by rw [← hw1]; exact (Below.refl _ _).alloc (Nat.le_refl _) _
  have s1 : w1.heap.size = w.heap.size + 1 := by rw [← hw1]; simp
  have x1 : Bx w1 w.heap.size d.kind d.text d.n (.slice sa d.kids.length sc) := by rw [← hw1]; exact Bx.new _ _ _ _ _ _
  have HX1 : Hid _ := x1
  obtain ⟨a0, a1, a2, a3⟩ := x1
  have hD : ∀ W, Below w.heap.size w W → DAt W W.heap.size f sa d.kids := fun W hW => (hk.keep hW).mono hW.size
  have HR : Hid _ := fun (_ : Unit) => refRight_any d sa sc f w1 (hD w1 hB1) hw
  have HLV : Hid _ := fun (W : World) (hW : Below w.heap.size w W) => refLeaves_any f (wt d) d sa sc W (Nat.le_refl _) (hD W hW) hw
  have HB1 : Hid _ := hB1
  have HS1 : Hid _ := s1
  have HV : Hid (rightD d = false → layT d wd = ⟨#[]⟩ ∧ layB d wd = 0 ∧ layC d wd = 140) := fun h => by unfold layT layB layC; rw [h]; exact ⟨rfl, rfl, rfl⟩
  have HVL : Hid (rightD d = true → (layP d wd).long = true → layT d wd = ⟨#[]⟩ ∧ layB d wd = 0 ∧ layC d wd = 2) := fun h1 h2 => by unfold layT layB layC; rw [h1, h2]; exact ⟨rfl, rfl, rfl⟩
  have HVO : Hid (rightD d = true → (layP d wd).long = false → layT d wd = ⟨(layP d wd).tx.toArray⟩ ∧ layB d wd = ((layP d wd).br : Int) ∧ layC d wd = 0) := fun h1 h2 => by unfold layT layB layC; rw [h1, h2]; exact ⟨rfl, rfl, rfl⟩
  have HD : Hid _ := hD
  have HW7 : Hid _ := hw
  clear hk hD hB1 s1 hw
  cases hr : rightD d with
  | false =>
    rw [hr] at HR
    obtain ⟨e1, e2, e3⟩ := HV.out hr
    have HE : Hid (layT d wd = ⟨#[]⟩ ∧ layB d wd = 0 ∧ layC d wd = 140) := ⟨e1, e2, e3⟩
    clear hr e1 e2 e3 HV HVL HVO
    go_enter Try.func13, Try.ntmps13
    go_wp2_with (go_at_call 22; refine (HR.out ()).mono ?_)
    rintro e w2 ⟨rfl, hb2⟩
    have HB2 : Hid (Below w.heap.size w w2) := HB1.out.trans (hb2.mono HB1.out.size)
    clear hb2
    go_wp2
    refine bodyPost_ret (results_tmp3 rfl _ _ _) rfl ?_
    rw [HE.out.1, HE.out.2.1, HE.out.2.2]
    exact ⟨rfl, HB2.out⟩
  | true =>
    rw [hr] at HR
    have HRR : Hid _ := hr
    have HRF : Hid _ := ref_lay wd hr
    clear hr HV
    have HMX : Hid (∀ wq : Int, wq = max wd 0 → ∀ (w3 : World) (lv : Value), Below w.heap.size w w3 → w3.ownsRow w1.heap.size 24 4 lv (rlv d).length (lfV (rlv d)) → (∃ W4, W4 = w3.alloc (.cells #[lv, .int .i64 0, .slice none 0 0, .int .i64 0, .int .i64 wq, .int .i64 0, .bool false] 46) ∧ Calls Try.prog 24 #[.pointer (some ⟨w3.heap.size, 0, none⟩), .agg #[.int .i64 d.kind, .string d.text, .int .i64 d.n, .slice sa d.kids.length sc], .int .i64 0, .bool false] W4 fun e w' => (∃ r, e = .returned r) ∧ ∃ tv', WrAt w3.heap.size w3.heap.size (rlay (rlv d) wq d wr0 0 false) wq lv tv' (rlv d) w' ∧ Below w.heap.size w w')) := fun wq hwq w3 lv hb3 hrow => by
      refine ⟨_, rfl, ?_⟩
      have hb4 : Below w3.heap.size w3 (w3.alloc (.cells #[lv, .int .i64 0, .slice none 0 0, .int .i64 0, .int .i64 wq, .int .i64 0, .bool false] 46)) := (Below.refl _ _).alloc (Nat.le_refl _) _
      have hWA : WrAt w3.heap.size w3.heap.size wr0 wq lv (.slice none 0 0) (rlv d) (w3.alloc (.cells #[lv, .int .i64 0, .slice none 0 0, .int .i64 0, .int .i64 wq, .int .i64 0, .bool false] 46)) := ⟨blk_new _ _ _, World.ownsRow_nil _ _ _ _, ⟨_, row_below hrow hb4⟩, by simp [Value.ownBlock], fun e => by have := (hrow.lt _ e).2; omega, fun b _ => by simp [Value.ownBlock]⟩
      have hw7 := HW7.out
      have hlv := rlv_wt d
      have hcw := (cnt_wt d).1
      obtain ⟨_, ho⟩ := right_ok HRR.out
      refine (rlay_any w3.heap.size w3.heap.size wq lv (rlv d) f (by omega) (fun x hx => Nat.le_trans (rlv_text d x hx) (by omega)) (Nat.le_refl _) (wt d) d 1 sa sc wr0 (.slice none 0 0) 0 false _ (Nat.le_refl _) ho (by omega) (by omega) (by omega) (DAt.keep hb4 (HD.out w3 hb3)) hw7 hWA ⟨by simp [wr0], by simp [wr0]⟩ (by simp [wr0]) (by simp [wr0]; omega) hb4.size).mono ?_
      rintro e w' ⟨hr, tv', hP, hT⟩
      exact ⟨hr, tv', hP, hb3.trans ((hb4.trans (Turn.below_nil hT (Nat.le_refl _) hb4.size)).mono hb3.size)⟩
    by_cases hneg : wd < 0
    · go_enter Try.func13, Try.ntmps13
      go_wp2_with (first
        | (go_at_call 22; refine (HR.out ()).mono ?_; rintro e w2 ⟨rfl, hb2⟩; obtain ⟨b0, b1, b2, b3⟩ := HX1.out.keep hb2 (by rw [HS1.out]; omega); have HX2 : Hid _ := Bx.mk b0 b1 b2 b3; have HB2 : Hid (Below w.heap.size w w2) := HB1.out.trans (hb2.mono HB1.out.size); have HS2 : Hid (w1.heap.size ≤ w2.heap.size) := hb2.size; clear hb2 a0 a1 a2 a3)
        | (go_at_call 23; refine (HLV.out w2 HB2.out).mono ?_))
      rintro e w3 ⟨⟨lv, rfl, hrow⟩, hb3⟩
      obtain ⟨c0, c1, c2, c3⟩ := HX2.out.keep hb3 (by have := HS1.out; have := HS2.out; omega)
      have HB3 : Hid (Below w.heap.size w w3) := HB2.out.trans (hb3.mono HB2.out.size)
      have hlt3 : w.heap.size < w3.heap.size := by have := HS1.out; have := HS2.out; have := hb3.size; omega
      obtain ⟨W4, hW4, hC⟩ := HMX.out 0 (by omega) w3 lv HB3.out (row_base HS2.out hrow)
      have HC : Hid _ := fun (_ : Unit) => hC
      rw [hW4] at HC
      obtain ⟨va, vc, rfl⟩ := row_slice hrow
      clear hrow hb3 b0 b1 b2 b3 hC hW4 W4
      go_wp2_with (go_at_call 24; refine (HC.out ()).mono ?_)
      rintro e w5 ⟨⟨r, rfl⟩, tv', hP, hb5⟩
      have HB5 : Hid _ := hb5
      have hRF := HRF.out
      rw [show max wd 0 = 0 by omega] at hRF
      obtain ⟨u, hu⟩ : ∃ u, rlay (rlv d) 0 d wr0 0 false = u := ⟨_, rfl⟩
      rw [hu] at hP hRF
      obtain ⟨c6, f6⟩ := blk_cell hP.blk (j := 6) rfl
      obtain ⟨k2, f2⟩ := blk_cell hP.blk (j := 2) rfl
      obtain ⟨k5, f5⟩ := blk_cell hP.blk (j := 5) rfl
      have HROW : Hid _ := fun (_ : Unit) => hP.row
      have hcv := conv_row (W := w5) hP.row
      have hcv2 : (convert 40 9 tv').run Try.prog w5.drew = _ := conv_row (W := w5.drew) (lo := w3.heap.size) (tx := u.out) hP.row
      obtain ⟨ta, tc, rfl⟩ := row_slice hP.row
      have HRF2 : Hid _ := hRF
      clear hP hb5 hRF hu c0 c1 c2 c3
      cases hlg : u.long with
      | true =>
        have HE : Hid _ := HVL.out HRR.out (by rw [← HRF2.out.1]; exact hlg)
        rw [hlg] at c6
        clear hlg
        go_wp2
        refine bodyPost_ret (results_tmp3 rfl _ _ _) rfl ?_
        rw [HE.out.1, HE.out.2.1, HE.out.2.2]
        exact ⟨rfl, HB5.out⟩
      | false =>
        have hlf : (layP d wd).long = false := by rw [← HRF2.out.1]; exact hlg
        have HE : Hid (layT d wd = ⟨u.out.toArray⟩ ∧ layB d wd = (u.br : Int) ∧ layC d wd = 0) := by
          have h1 := HVO.out HRR.out hlf
          have h2 := HRF2.out.2 hlf
          rw [h2.1, h2.2] at h1
          exact h1
        rw [hlg] at c6
        clear hlg hlf
        go_wp2
        go_region
        all_goals go_wp2
        all_goals refine bodyPost_ret (results_tmp3 rfl _ _ _) rfl ?_
        all_goals rw [HE.out.1, HE.out.2.1, HE.out.2.2]
        all_goals exact ⟨rfl, HB5.out.drew⟩
    · have hneg' : 0 ≤ wd := by omega
      clear hneg
      go_enter Try.func13, Try.ntmps13
      go_wp2_with (first
        | (go_at_call 22; refine (HR.out ()).mono ?_; rintro e w2 ⟨rfl, hb2⟩; obtain ⟨b0, b1, b2, b3⟩ := HX1.out.keep hb2 (by rw [HS1.out]; omega); have HX2 : Hid _ := Bx.mk b0 b1 b2 b3; have HB2 : Hid (Below w.heap.size w w2) := HB1.out.trans (hb2.mono HB1.out.size); have HS2 : Hid (w1.heap.size ≤ w2.heap.size) := hb2.size; clear hb2 a0 a1 a2 a3)
        | (go_at_call 23; refine (HLV.out w2 HB2.out).mono ?_))
      rintro e w3 ⟨⟨lv, rfl, hrow⟩, hb3⟩
      obtain ⟨c0, c1, c2, c3⟩ := HX2.out.keep hb3 (by have := HS1.out; have := HS2.out; omega)
      have HB3 : Hid (Below w.heap.size w w3) := HB2.out.trans (hb3.mono HB2.out.size)
      have hlt3 : w.heap.size < w3.heap.size := by have := HS1.out; have := HS2.out; have := hb3.size; omega
      obtain ⟨W4, hW4, hC⟩ := HMX.out wd (by omega) w3 lv HB3.out (row_base HS2.out hrow)
      have HC : Hid _ := fun (_ : Unit) => hC
      rw [hW4] at HC
      obtain ⟨va, vc, rfl⟩ := row_slice hrow
      clear hrow hb3 b0 b1 b2 b3 hC hW4 W4
      go_wp2_with (go_at_call 24; refine (HC.out ()).mono ?_)
      rintro e w5 ⟨⟨r, rfl⟩, tv', hP, hb5⟩
      have HB5 : Hid _ := hb5
      have hRF := HRF.out
      rw [show max wd 0 = wd by omega] at hRF
      obtain ⟨u, hu⟩ : ∃ u, rlay (rlv d) wd d wr0 0 false = u := ⟨_, rfl⟩
      rw [hu] at hP hRF
      obtain ⟨c6, f6⟩ := blk_cell hP.blk (j := 6) rfl
      obtain ⟨k2, f2⟩ := blk_cell hP.blk (j := 2) rfl
      obtain ⟨k5, f5⟩ := blk_cell hP.blk (j := 5) rfl
      have HROW : Hid _ := fun (_ : Unit) => hP.row
      have hcv := conv_row (W := w5) hP.row
      have hcv2 : (convert 40 9 tv').run Try.prog w5.drew = _ := conv_row (W := w5.drew) (lo := w3.heap.size) (tx := u.out) hP.row
      obtain ⟨ta, tc, rfl⟩ := row_slice hP.row
      have HRF2 : Hid _ := hRF
      clear hP hb5 hRF hu c0 c1 c2 c3
      cases hlg : u.long with
      | true =>
        have HE : Hid _ := HVL.out HRR.out (by rw [← HRF2.out.1]; exact hlg)
        rw [hlg] at c6
        clear hlg
        go_wp2
        refine bodyPost_ret (results_tmp3 rfl _ _ _) rfl ?_
        rw [HE.out.1, HE.out.2.1, HE.out.2.2]
        exact ⟨rfl, HB5.out⟩
      | false =>
        have hlf : (layP d wd).long = false := by rw [← HRF2.out.1]; exact hlg
        have HE : Hid (layT d wd = ⟨u.out.toArray⟩ ∧ layB d wd = (u.br : Int) ∧ layC d wd = 0) := by
          have h1 := HVO.out HRR.out hlf
          have h2 := HRF2.out.2 hlf
          rw [h2.1, h2.2] at h1
          exact h1
        rw [hlg] at c6
        clear hlg hlf
        go_wp2
        go_region
        all_goals go_wp2
        all_goals refine bodyPost_ret (results_tmp3 rfl _ _ _) rfl ?_
        all_goals rw [HE.out.1, HE.out.2.1, HE.out.2.2]
        all_goals exact ⟨rfl, HB5.out.drew⟩
set_option maxRecDepth 100000 in
set_option maxHeartbeats 4000000 in
theorem renders_walk (d : Dc) (sa : Option Addr) (sc f : Nat) (wd : Int) (w : World) (hk : DAt w w.heap.size f sa d.kids) (hsc : d.kids.length ≤ sc) (ht : TxD d) (_ : -9223372036854775808 ≤ wd) (hwd : wd ≤ 9223372036854775807) :
    Calls Try.prog 3 #[.agg #[.int .i64 d.kind, .string d.text, .int .i64 d.n, .slice sa d.kids.length sc], .int .i64 wd] w fun e w' => e = .returned (.bool true) ∧ Below w.heap.size w w' := by
  obtain ⟨w1, hw1⟩ : ∃ w1, w.alloc (.cells #[.int .i64 d.kind, .string d.text, .int .i64 d.n, .slice sa d.kids.length sc] 24) = w1 := ⟨_, rfl⟩
  have hB1 : Below w.heap.size w w1 := by rw [← hw1]; exact (Below.refl _ _).alloc (Nat.le_refl _) _
  have s1 : w1.heap.size = w.heap.size + 1 := by rw [← hw1]; simp
  have x1 : Bx w1 w.heap.size d.kind d.text d.n (.slice sa d.kids.length sc) := by rw [← hw1]; exact Bx.new _ _ _ _ _ _
  obtain ⟨a0, a1, a2, a3⟩ := x1
  have HX1 : Hid _ := Bx.mk a0 a1 a2 a3
  have hD : ∀ W, Below w.heap.size w W → DAt W W.heap.size f sa d.kids := fun W hW => (hk.keep hW).mono hW.size
  have HH : Hid _ := fun (_ : Unit) => heavy_any d sa sc f w1 (hD w1 hB1) ht
  have HD : Hid _ := hD
  have HB1 : Hid _ := hB1
  have HS1 : Hid _ := s1
  clear hD hB1 s1 hk
  have hns : ∀ W, Below w.heap.size w W → Calls Try.prog 10 #[] W fun e w' => e = .returned (.bool true) ∧ Below w.heap.size w w' := fun W hW => (alive_any W).mono (by rintro e w' ⟨rfl, hb⟩; exact ⟨rfl, hW.trans (hb.mono hW.size)⟩)
  have HAL : Hid _ := hns
  clear hns
  by_cases hwt : 700 < wt d
  · rw [decide_eq_true hwt] at HH
    clear hwt
    go_enter Try.func3, Try.ntmps3
    go_wp2_with (go_at_call 9; refine (HH.out ()).mono ?_)
    rintro e w2 ⟨rfl, hb2⟩
    have HB2 : Hid (Below w.heap.size w w2) := HB1.out.trans (hb2.mono HB1.out.size)
    clear hb2
    go_wp2_with (go_at_call 10; refine (HAL.out w2 HB2.out).mono ?_)
    rintro e w3 ⟨rfl, hb3⟩
    have HB3 : Hid _ := hb3
    clear hb3
    go_wp2
    go_ret
    exact ⟨rfl, HB3.out⟩
  rw [decide_eq_false hwt] at HH
  have HPL : Hid ((pre d 1).length ≤ 700) := Nat.le_trans (pre_wt d 1) (by omega)
  have HWT : Hid (wt d ≤ 700) := by show _ ≤ _; omega
  clear hwt ht
  go_enter Try.func3, Try.ntmps3
  go_wp2_with (go_at_call 9; refine (HH.out ()).mono ?_)
  rintro e w2 ⟨rfl, hb2⟩
  have x2 := HX1.out.keep hb2 (by rw [HS1.out]; omega)
  obtain ⟨b0, b1, b2, b3⟩ := x2
  have HX2 : Hid _ := Bx.mk b0 b1 b2 b3
  have HB2 : Hid (Below w.heap.size w w2) := HB1.out.trans (hb2.mono HB1.out.size)
  have HS2 : Hid (w.heap.size < w2.heap.size) := Nat.lt_of_lt_of_le (by rw [HS1.out]; omega) hb2.size
  have HR : Hid _ := fun (_ : Unit) => render_any d sa sc f wd w2 (HD.out w2 HB2.out) hsc (by have := HPL.out; omega) (fun h => okL_right h (by have := HWT.out; omega)) hwd
  have HBK : Hid _ := fun (W : World) (hW : Below w.heap.size w W) => broken_any d sa sc f wd W (HD.out W hW) hsc (by have := HPL.out; omega) (fun h => okL_right h (by have := HWT.out; omega)) hwd
  have HRF : Hid _ := fun (W : World) (hW : Below w.heap.size w W) => refRender_any d sa sc f wd W (HD.out W hW) HWT.out hwd
  clear hb2 a0 a1 a2 a3 hw1
  obtain ⟨q, hq⟩ : ∃ q, layC d wd = q := ⟨_, rfl⟩
  obtain ⟨S, hS⟩ : ∃ q, layT d wd = q := ⟨_, rfl⟩
  obtain ⟨n, hn⟩ : ∃ q, layB d wd = q := ⟨_, rfl⟩
  rw [hq, hS] at HR
  simp only [hq, hn] at HBK
  simp only [hq, hS, hn] at HRF
  clear hq hS hn
  go_wp2_with (go_at_call 11; refine (HR.out ()).mono ?_)
  rintro e w3 ⟨rfl, hb3⟩
  have x3 := HX2.out.keep hb3 HS2.out
  obtain ⟨c0, c1, c2, c3⟩ := x3
  have HX3 : Hid _ := Bx.mk c0 c1 c2 c3
  have HB3 : Hid (Below w.heap.size w w3) := HB2.out.trans (hb3.mono HB2.out.size)
  have HS3 : Hid (w.heap.size < w3.heap.size) := Nat.lt_of_lt_of_le HS2.out hb3.size
  clear hb3 b0 b1 b2 b3
  go_wp2_with (go_at_call 12; refine (HBK.out w3 HB3.out).mono ?_)
  rintro e w4 ⟨rfl, hb4⟩
  have x4 := HX3.out.keep hb4 HS3.out
  obtain ⟨d0, d1, d2, d3⟩ := x4
  have HB4 : Hid (Below w.heap.size w w4) := HB3.out.trans (hb4.mono HB3.out.size)
  clear hb4 c0 c1 c2 c3
  go_wp2_with (go_at_call 13; refine (HRF.out w4 HB4.out).mono ?_)
  rintro e w5 ⟨rfl, hb5⟩
  have HB5 : Hid (Below w.heap.size w w5) := HB4.out.trans (hb5.mono HB4.out.size)
  clear hb5 d0 d1 d2 d3
  go_wp2_with (go_at_call 10; refine (HAL.out w5 HB5.out).mono ?_)
  rintro e w6 ⟨rfl, hb6⟩
  have HB6 : Hid _ := hb6
  clear hb6
  go_wp2
  go_ret
  exact ⟨by simp, HB6.out⟩
end Go.Proofs.Ytbmejfcbladofaa
