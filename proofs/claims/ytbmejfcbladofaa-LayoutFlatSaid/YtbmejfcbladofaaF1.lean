/- In a width that is not below its flat text a document in a group is written flat: the walk. -/
import Derived.Test.YtbmejfcbladofaaF0
namespace Go.Proofs.Ytbmejfcbladofaa
open Go.RowKit

set_option maxRecDepth 100000 in
set_option maxHeartbeats 4000000 in
theorem flatl_walk (d : Dc) (sa : Option Addr) (sc f : Nat) (mo : Int) (w : World) (hk : DAt w w.heap.size f sa d.kids) (hsc : d.kids.length ≤ sc) (ht : TxD d) (_ : -9223372036854775808 ≤ mo) (_ : mo ≤ 9223372036854775807) :
    Calls Try.prog 4 #[.agg #[.int .i64 d.kind, .string d.text, .int .i64 d.n, .slice sa d.kids.length sc], .int .i64 mo] w fun e w' => e = .returned (.bool true) ∧ Below w.heap.size w w' := by
  obtain ⟨w1, hw1⟩ : ∃ w1, w.alloc (.cells #[.int .i64 d.kind, .string d.text, .int .i64 d.n, .slice sa d.kids.length sc] 24) = w1 := ⟨_, rfl⟩
  have hB1 : Below w.heap.size w w1 := by rw [← hw1]; exact (Below.refl _ _).alloc (Nat.le_refl _) _
  have s1 : w1.heap.size = w.heap.size + 1 := by rw [← hw1]; simp
  have x1 : Bx w1 w.heap.size d.kind d.text d.n (.slice sa d.kids.length sc) := by rw [← hw1]; exact Bx.new _ _ _ _ _ _
  obtain ⟨a0, a1, a2, a3⟩ := x1
  have HX1 : Hid _ := Bx.mk a0 a1 a2 a3
  have hD : ∀ W, Below w.heap.size w W → DAt W W.heap.size f sa d.kids := fun W hW => (hk.keep hW).mono hW.size
  have HH : Hid _ := fun (_ : Unit) => heavy_any d sa sc f w1 (hD w1 hB1) ht
  have HD : Hid _ := hD
  have HB1 : Hid _ := hB1
  have HS1 : Hid _ := s1
  clear hD hB1 s1 hk
  have hns : ∀ W, Below w.heap.size w W → Calls Try.prog 10 #[] W fun e w' => e = .returned (.bool true) ∧ Below w.heap.size w w' := fun W hW => (alive_any W).mono (by rintro e w' ⟨rfl, hb⟩; exact ⟨rfl, hW.trans (hb.mono hW.size)⟩)
  have HAL : Hid _ := hns
  clear hns
  by_cases hwt : 700 < wt d
  · rw [decide_eq_true hwt] at HH
    clear hwt
    go_enter Try.func4, Try.ntmps4
    go_wp2_with (go_at_call 9; refine (HH.out ()).mono ?_)
    rintro e w2 ⟨rfl, hb2⟩
    have HB2 : Hid (Below w.heap.size w w2) := HB1.out.trans (hb2.mono HB1.out.size)
    clear hb2
    go_wp2_with (go_at_call 10; refine (HAL.out w2 HB2.out).mono ?_)
    rintro e w3 ⟨rfl, hb3⟩
    have HB3 : Hid _ := hb3
    clear hb3
    go_wp2
    go_ret
    exact ⟨rfl, HB3.out⟩
  rw [decide_eq_false hwt] at HH
  have HPL : Hid ((pre d 1).length ≤ 700) := Nat.le_trans (pre_wt d 1) (by omega)
  have HWT : Hid (wt d ≤ 700) := by show _ ≤ _; omega
  clear hwt ht
  go_enter Try.func4, Try.ntmps4
  go_wp2_with (go_at_call 9; refine (HH.out ()).mono ?_)
  rintro e w2 ⟨rfl, hb2⟩
  have x2 := HX1.out.keep hb2 (by rw [HS1.out]; omega)
  obtain ⟨b0, b1, b2, b3⟩ := x2
  have HX2 : Hid _ := Bx.mk b0 b1 b2 b3
  have HB2 : Hid (Below w.heap.size w w2) := HB1.out.trans (hb2.mono HB1.out.size)
  have HS2 : Hid (w.heap.size < w2.heap.size) := Nat.lt_of_lt_of_le (by rw [HS1.out]; omega) hb2.size
  have HF : Hid _ := fun (_ : Unit) => flatD_any d sa sc f w2 (HD.out w2 HB2.out) hsc HWT.out
  clear hb2 a0 a1 a2 a3 hw1
  go_wp2_with (go_at_call 14; refine (HF.out ()).mono ?_)
  rintro e w3 ⟨rfl, hb3⟩
  have x3 := HX2.out.keep hb3 HS2.out
  obtain ⟨c0, c1, c2, c3⟩ := x3
  have HB3 : Hid (Below w.heap.size w w3) := HB2.out.trans (hb3.mono HB2.out.size)
  clear hb3 b0 b1 b2 b3
  obtain ⟨X, hX⟩ : ∃ X, (w3.alloc (.cells #[.int .i64 d.kind, .string d.text, .int .i64 d.n, .slice sa d.kids.length sc] 24)).alloc (.cells #[.int .i64 5, .string ⟨#[]⟩, .int .i64 0, .slice (some ⟨w3.heap.size, 0, none⟩) 1 1] 24) = X := ⟨_, rfl⟩
  have bX : Below w3.heap.size w3 X := by rw [← hX]; exact ((Below.refl _ _).alloc (Nat.le_refl _) _).alloc (by simp) _
  have sX : X.heap.size = w3.heap.size + 2 := by rw [← hX]; simp
  have HBX : Hid (Below w.heap.size w X) := HB3.out.trans (bX.mono HB3.out.size)
  have k0 : X.heap[w3.heap.size]? = some (.cells #[.int .i64 d.kind, .string d.text, .int .i64 d.n, .slice sa d.kids.length sc] 24 (0, 0)) := by
    rw [← hX]
    exact (old_blk _ _ (by simp)).trans (blk_new _ _ _)
  have xg : Bx X (w3.heap.size + 1) 5 ⟨#[]⟩ 0 (.slice (some ⟨w3.heap.size, 0, none⟩) 1 1) := by
    rw [← hX]
    have := Bx.new (w3.alloc (.cells #[.int .i64 d.kind, .string d.text, .int .i64 d.n, .slice sa d.kids.length sc] 24)) 5 ⟨#[]⟩ 0 (.slice (some ⟨w3.heap.size, 0, none⟩) 1 1) 24
    simpa only [World.size_alloc] using this
  have hG : DAt X X.heap.size (f + 1) (some ⟨w3.heap.size, 0, none⟩) (grpD d).kids := dat_one k0 (by omega) hsc (HD.out X HBX.out)
  have HXG : Hid _ := xg
  have HSX : Hid _ := sX
  have hlg : (pre (grpD d) 1).length ≤ 1000000000000 := Nat.le_trans (pre_wt _ 1) (by rw [grpD_wt]; have := HWT.out; omega)
  have HGD : Hid _ := fun (W : World) (hW : Below X.heap.size X W) => DAt.mono hW.size (DAt.keep hW hG)
  have HR15 : Hid (Calls Try.prog 15 #[.agg #[.int .i64 5, .string ⟨#[]⟩, .int .i64 0, .slice (some ⟨w3.heap.size, 0, none⟩) 1 1]] X fun e w' => e = .returned (.bool (rightD (grpD d))) ∧ Below X.heap.size X w') := right_any (grpD d) _ 1 (f + 1) X hG (Nat.le_refl 1) hlg
  have HRR : Hid (∀ W (wd : Int), wd ≤ 9223372036854775807 → Below X.heap.size X W → Calls Try.prog 11 #[.agg #[.int .i64 5, .string ⟨#[]⟩, .int .i64 0, .slice (some ⟨w3.heap.size, 0, none⟩) 1 1], .int .i64 wd] W fun e w' => e = .returned (.tuple #[.string (layT (grpD d) wd), .int .i64 (layC (grpD d) wd)]) ∧ Below W.heap.size W w') := fun W wd hwd hW => render_any (grpD d) _ 1 (f + 1) wd W (HGD.out W hW) (Nat.le_refl 1) hlg (fun h => okL_right h (by rw [grpD_wt]; have := HWT.out; omega)) hwd
  have HRB : Hid (∀ W (wd : Int), wd ≤ 9223372036854775807 → Below X.heap.size X W → Calls Try.prog 12 #[.agg #[.int .i64 5, .string ⟨#[]⟩, .int .i64 0, .slice (some ⟨w3.heap.size, 0, none⟩) 1 1], .int .i64 wd] W fun e w' => e = .returned (.tuple #[.int .i64 (layB (grpD d) wd), .int .i64 (layC (grpD d) wd)]) ∧ Below W.heap.size W w') := fun W wd hwd hW => broken_any (grpD d) _ 1 (f + 1) wd W (HGD.out W hW) (Nat.le_refl 1) hlg (fun h => okL_right h (by rw [grpD_wt]; have := HWT.out; omega)) hwd
  have HN : Hid (flatC d = 0 → rightD (grpD d) = true → ∀ wd : Int, ((flatT d).size : Int) ≤ wd → layT (grpD d) wd = flatT d ∧ layB (grpD d) wd = 0 ∧ layC (grpD d) wd = 0) := fun h1 h2 wd h3 => flat_lay h1 h2 HWT.out h3
  have HZ : Hid (flatC d = 0 → (flatT d).size ≤ 11200) := fun h => (flatT_size h HWT.out).2
  have hC := flatC_cases d
  generalize flatC d = q at *
  generalize flatT d = S at *
  have HXX : Hid _ := hX
  rw [← hX] at HR15
  clear hX bX sX k0 xg hG hlg HF HH HD HGD
  by_cases hq : q = 0
  · subst hq
    clear hC
    have HNN : Hid _ := HN.out rfl
    have hS : S.size ≤ 11200 := HZ.out rfl
    clear HN HZ
    go_wp2_with (go_at_call 15; refine (HR15.out).mono ?_)
    rintro e w4 ⟨rfl, hb4⟩
    rw [HXX.out] at hb4
    have HBX4 : Hid _ := hb4
    have HB4 : Hid (Below w.heap.size w w4) := HBX.out.trans (hb4.mono HBX.out.size)
    have hsx := HSX.out
    have x4 := HXG.out.keep hb4 (by omega)
    obtain ⟨d0, d1, d2, d3⟩ := x4
    clear hb4 c0 c1 c2 c3 hsx
    cases hr : rightD (grpD d) with
    | false =>
      clear hr
      go_wp2_with (go_at_call 10; refine (HAL.out w4 HB4.out).mono ?_)
      rintro e w5 ⟨rfl, hb5⟩
      have HB5 : Hid _ := hb5
      clear hb5
      go_wp2
      go_ret
      exact ⟨rfl, HB5.out⟩
    | true =>
      have HLY : Hid _ := HNN.out hr
      clear hr HNN
      by_cases hm0 : 0 < mo
      · by_cases hm1 : mo < 1000
        · obtain ⟨l1, l2, l3⟩ := HLY.out ((S.size : Int) + mo) (by omega)
          have HC1 : Hid _ := fun (_ : Unit) => HRR.out w4 ((S.size : Int) + mo) (by omega) HBX4.out
          rw [l1, l3] at HC1
          have HC2 : Hid _ := fun (W : World) (hW : Below X.heap.size X W) => HRB.out W ((S.size : Int) + mo) (by omega) hW
          rw [l2, l3] at HC2
          clear l1 l2 l3 HLY
          go_wp2_with (first
            | (go_at_call 11; refine (HC1.out ()).mono ?_; rintro e w5 ⟨rfl, hb5⟩; have HBX5 : Hid (Below X.heap.size X w5) := HBX4.out.trans (hb5.mono HBX4.out.size); obtain ⟨e0, e1, e2, e3⟩ := HXG.out.keep HBX5.out (by rw [HSX.out]; omega); clear hb5 d0 d1 d2 d3)
            | (go_at_call 12; refine (HC2.out w5 HBX5.out).mono ?_))
          rintro e w6 ⟨rfl, hb6⟩
          have HB6 : Hid (Below w.heap.size w w6) := HBX.out.trans ((HBX5.out.trans (hb6.mono HBX5.out.size)).mono HBX.out.size)
          clear hb6 e0 e1 e2 e3
          have hS6 : (S.size : Int) ≤ 65536 := by omega
          go_wp2_with (go_at_call 10; refine (HAL.out w6 HB6.out).mono ?_)
          rintro e w7 ⟨rfl, hb7⟩
          have HB7 : Hid _ := hb7
          clear hb7
          go_wp2
          go_ret
          exact ⟨by simp, HB7.out⟩
        · have hm1' : 1000 ≤ mo := by omega
          clear hm1
          obtain ⟨l1, l2, l3⟩ := HLY.out (S.size : Int) (by omega)
          have HC1 : Hid _ := fun (_ : Unit) => HRR.out w4 (S.size : Int) (by omega) HBX4.out
          rw [l1, l3] at HC1
          have HC2 : Hid _ := fun (W : World) (hW : Below X.heap.size X W) => HRB.out W (S.size : Int) (by omega) hW
          rw [l2, l3] at HC2
          clear l1 l2 l3 HLY
          go_wp2_with (first
            | (go_at_call 11; refine (HC1.out ()).mono ?_; rintro e w5 ⟨rfl, hb5⟩; have HBX5 : Hid (Below X.heap.size X w5) := HBX4.out.trans (hb5.mono HBX4.out.size); obtain ⟨e0, e1, e2, e3⟩ := HXG.out.keep HBX5.out (by rw [HSX.out]; omega); clear hb5 d0 d1 d2 d3)
            | (go_at_call 12; refine (HC2.out w5 HBX5.out).mono ?_))
          rintro e w6 ⟨rfl, hb6⟩
          have HB6 : Hid (Below w.heap.size w w6) := HBX.out.trans ((HBX5.out.trans (hb6.mono HBX5.out.size)).mono HBX.out.size)
          clear hb6 e0 e1 e2 e3
          have hS6 : (S.size : Int) ≤ 65536 := by omega
          go_wp2_with (go_at_call 10; refine (HAL.out w6 HB6.out).mono ?_)
          rintro e w7 ⟨rfl, hb7⟩
          have HB7 : Hid _ := hb7
          clear hb7
          go_wp2
          go_ret
          exact ⟨by simp, HB7.out⟩
      · have hm0' : mo ≤ 0 := by omega
        clear hm0
        obtain ⟨l1, l2, l3⟩ := HLY.out (S.size : Int) (by omega)
        have HC1 : Hid _ := fun (_ : Unit) => HRR.out w4 (S.size : Int) (by omega) HBX4.out
        rw [l1, l3] at HC1
        have HC2 : Hid _ := fun (W : World) (hW : Below X.heap.size X W) => HRB.out W (S.size : Int) (by omega) hW
        rw [l2, l3] at HC2
        clear l1 l2 l3 HLY
        go_wp2_with (first
          | (go_at_call 11; refine (HC1.out ()).mono ?_; rintro e w5 ⟨rfl, hb5⟩; have HBX5 : Hid (Below X.heap.size X w5) := HBX4.out.trans (hb5.mono HBX4.out.size); obtain ⟨e0, e1, e2, e3⟩ := HXG.out.keep HBX5.out (by rw [HSX.out]; omega); clear hb5 d0 d1 d2 d3)
          | (go_at_call 12; refine (HC2.out w5 HBX5.out).mono ?_))
        rintro e w6 ⟨rfl, hb6⟩
        have HB6 : Hid (Below w.heap.size w w6) := HBX.out.trans ((HBX5.out.trans (hb6.mono HBX5.out.size)).mono HBX.out.size)
        clear hb6 e0 e1 e2 e3
        have hS6 : (S.size : Int) ≤ 65536 := by omega
        go_wp2_with (go_at_call 10; refine (HAL.out w6 HB6.out).mono ?_)
        rintro e w7 ⟨rfl, hb7⟩
        have HB7 : Hid _ := hb7
        clear hb7
        go_wp2
        go_ret
        exact ⟨by simp, HB7.out⟩
  · have HH1 : Hid _ := hC
    clear hC HN HZ
    rcases HH1.out with rfl | rfl | rfl
    · exact absurd rfl hq
    all_goals
      clear hq HH1
      have HBX' : Hid (Below w.heap.size w ((w3.alloc (.cells #[.int .i64 d.kind, .string d.text, .int .i64 d.n, .slice sa d.kids.length sc] 24)).alloc (.cells #[.int .i64 5, .string ⟨#[]⟩, .int .i64 0, .slice (some ⟨w3.heap.size, 0, none⟩) 1 1] 24))) := by show Below _ _ _; rw [HXX.out]; exact HBX.out
      go_wp2_with (go_at_call 10; refine (HAL.out _ HBX'.out).mono ?_)
      rintro e w6 ⟨rfl, hb6⟩
      have HB6 : Hid _ := hb6
      clear hb6
      go_wp2
      go_ret
      exact ⟨rfl, HB6.out⟩
end Go.Proofs.Ytbmejfcbladofaa
