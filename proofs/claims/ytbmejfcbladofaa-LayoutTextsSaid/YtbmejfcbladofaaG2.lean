/- In each width the same is written, but for breaks and blanks: the law's walk. -/
import Derived.Test.YtbmejfcbladofaaG1
namespace Go.Proofs.Ytbmejfcbladofaa
open Go.RowKit

set_option maxRecDepth 100000 in
set_option maxHeartbeats 4000000 in
theorem texts_walk (d : Dc) (sa : Option Addr) (sc f : Nat) (wd wb : Int) (w : World) (hk : DAt w w.heap.size f sa d.kids) (hsc : d.kids.length ≤ sc) (ht : TxD d) (_ : -9223372036854775808 ≤ wd) (hwd : wd ≤ 9223372036854775807) (_ : -9223372036854775808 ≤ wb) (hwb : wb ≤ 9223372036854775807) :
    Calls Try.prog 5 #[.agg #[.int .i64 d.kind, .string d.text, .int .i64 d.n, .slice sa d.kids.length sc], .int .i64 wd, .int .i64 wb] w fun e w' => e = .returned (.bool true) ∧ Below w.heap.size w w' := by
  obtain ⟨w1, hw1⟩ : ∃ w1, w.alloc (.cells #[.int .i64 d.kind, .string d.text, .int .i64 d.n, .slice sa d.kids.length sc] 24) = w1 := ⟨_, rfl⟩
  have hB1 : Below w.heap.size w w1 := by rw [← hw1]; exact (Below.refl _ _).alloc (Nat.le_refl _) _
  have s1 : w1.heap.size = w.heap.size + 1 := by rw [← hw1]; simp
  have x1 : Bx w1 w.heap.size d.kind d.text d.n (.slice sa d.kids.length sc) := by rw [← hw1]; exact Bx.new _ _ _ _ _ _
  obtain ⟨a0, a1, a2, a3⟩ := x1
  have HX1 : Hid _ := Bx.mk a0 a1 a2 a3
  have hD : ∀ W, Below w.heap.size w W → DAt W W.heap.size f sa d.kids := fun W hW => (hk.keep hW).mono hW.size
  have HH : Hid _ := fun (_ : Unit) => heavy_any d sa sc f w1 (hD w1 hB1) ht
  have HD : Hid _ := hD
  have HB1 : Hid _ := hB1
  have HS1 : Hid _ := s1
  clear hD hB1 s1 hk
  have hns : ∀ W, Below w.heap.size w W → Calls Try.prog 10 #[] W fun e w' => e = .returned (.bool true) ∧ Below w.heap.size w w' := fun W hW => (alive_any W).mono (by rintro e w' ⟨rfl, hb⟩; exact ⟨rfl, hW.trans (hb.mono hW.size)⟩)
  have HAL : Hid _ := hns
  clear hns
  by_cases hwt : 700 < wt d
  · rw [decide_eq_true hwt] at HH
    clear hwt
    go_enter Try.func5, Try.ntmps5
    go_wp2_with (go_at_call 9; refine (HH.out ()).mono ?_)
    rintro e w2 ⟨rfl, hb2⟩
    have HB2 : Hid (Below w.heap.size w w2) := HB1.out.trans (hb2.mono HB1.out.size)
    clear hb2
    go_wp2_with (go_at_call 10; refine (HAL.out w2 HB2.out).mono ?_)
    rintro e w3 ⟨rfl, hb3⟩
    have HB3 : Hid _ := hb3
    clear hb3
    go_wp2
    go_ret
    exact ⟨rfl, HB3.out⟩
  rw [decide_eq_false hwt] at HH
  have HPL : Hid ((pre d 1).length ≤ 700) := Nat.le_trans (pre_wt d 1) (by omega)
  have HWT : Hid (wt d ≤ 700) := by show _ ≤ _; omega
  clear hwt ht
  go_enter Try.func5, Try.ntmps5
  go_wp2_with (go_at_call 9; refine (HH.out ()).mono ?_)
  rintro e w2 ⟨rfl, hb2⟩
  have x2 := HX1.out.keep hb2 (by rw [HS1.out]; omega)
  obtain ⟨b0, b1, b2, b3⟩ := x2
  have HX2 : Hid _ := Bx.mk b0 b1 b2 b3
  have HB2 : Hid (Below w.heap.size w w2) := HB1.out.trans (hb2.mono HB1.out.size)
  have HS2 : Hid (w.heap.size < w2.heap.size) := Nat.lt_of_lt_of_le (by rw [HS1.out]; omega) hb2.size
  have HR : Hid _ := fun (_ : Unit) => render_any d sa sc f wd w2 (HD.out w2 HB2.out) hsc (by have := HPL.out; omega) (fun h => okL_right h (by have := HWT.out; omega)) hwd
  clear hb2 a0 a1 a2 a3 hw1
  go_wp2_with (go_at_call 11; refine (HR.out ()).mono ?_)
  rintro e w3 ⟨rfl, hb3⟩
  have x3 := HX2.out.keep hb3 HS2.out
  obtain ⟨c0, c1, c2, c3⟩ := x3
  have HB3 : Hid (Below w.heap.size w w3) := HB2.out.trans (hb3.mono HB2.out.size)
  have HX3 : Hid _ := Bx.mk c0 c1 c2 c3
  have HS3 : Hid (w.heap.size < w3.heap.size) := Nat.lt_of_lt_of_le HS2.out hb3.size
  have HRB : Hid _ := fun (_ : Unit) => render_any d sa sc f wb w3 (HD.out w3 HB3.out) hsc (by have := HPL.out; omega) (fun h => okL_right h (by have := HWT.out; omega)) hwb
  clear hb3 b0 b1 b2 b3
  go_wp2_with (go_at_call 11; refine (HRB.out ()).mono ?_)
  rintro e w4 ⟨rfl, hb4⟩
  have x4 := HX3.out.keep hb4 HS3.out
  obtain ⟨d0, d1, d2, d3⟩ := x4
  have HB4 : Hid (Below w.heap.size w w4) := HB3.out.trans (hb4.mono HB3.out.size)
  have HLV : Hid _ := fun (_ : Unit) => leaves_any d sa sc f w4 (HD.out w4 HB4.out) hsc (by have := HPL.out; omega)
  clear hb4 c0 c1 c2 c3
  have HN : Hid (layC d wd = 0 → layC d wb = 0 → (∀ x ∈ leavesD d, x.kind = 2 → wo x.text.data.toList = []) → wo (layT d wd).data.toList = woD (leavesD d) ∧ wo (layT d wb).data.toList = woD (leavesD d)) := fun h1 h2 h3 => ⟨lay_wo h1 h3, lay_wo h2 h3⟩
  have HE : Hid (layC d wd ≠ 0 → layT d wd = ⟨#[]⟩) := fun h => by
    unfold layC at h
    unfold layT
    cases hr : rightD d with
    | false => rfl
    | true =>
      cases hl : (layP d wd).long with
      | true => rfl
      | false => rw [hr, hl] at h; simp at h
  have HZ1 : Hid _ := layT_size d wd
  have HZ2 : Hid _ := layT_size d wb
  have HLL : Hid ((leavesD d).length ≤ 700) := Nat.le_trans (leaves_len d) HPL.out
  have HTX : Hid (∀ x ∈ leavesD d, x.text.size ≤ 11200) := fun x hx => Nat.le_trans (leaves_text d x hx) (by have := HWT.out; omega)
  have hC1 := layC_cases d wd
  have hC2 := layC_cases d wb
  generalize layC d wd = q1 at *
  generalize layC d wb = q2 at *
  generalize layT d wd = S at *
  generalize layT d wb = T at *
  generalize leavesD d = ls at *
  clear HR HRB HH HD HX1 HX2 HX3 HS1 HS2 HS3
  have HWO : Hid _ := fun (x : ByteArray) (W : World) (hx : x.size ≤ 1000000) => without_any x W hx
  by_cases hq1 : q1 = 0
  · subst hq1
    clear hC1 HE
    by_cases hq2 : q2 = 0
    · subst hq2
      clear hC2
      have HNN : Hid _ := HN.out rfl rfl
      have hls : ls.length ≤ 700 := HLL.out
      clear HN HLL
      go_wp2_with (go_at_call 16; refine (HLV.out ()).mono ?_)
      rintro e w5 ⟨⟨v, rfl, hrow⟩, hb5⟩
      have HB5 : Hid (Below w.heap.size w w5) := HB4.out.trans (hb5.mono HB4.out.size)
      have HROW : Hid _ := fun (_ : Unit) => hrow
      have HRK : Hid (∀ W, Below w5.heap.size w5 W → W.ownsRow w4.heap.size 24 4 v ls.length (lfV ls)) := fun W hW => row_below hrow hW
      obtain ⟨va, vc, rfl⟩ := row_slice hrow
      clear hb5 hrow HLV d0 d1 d2 d3
      go_wp2
      go_loopw [11, 13] (fun sv iv W => ∃ (k : Nat) (l : List UInt8), k ≤ ls.length ∧ iv = .int .i64 k ∧ l = woD (ls.take k) ∧ l.length ≤ k * 11200 ∧ sv = .string ⟨l.toArray⟩ ∧ (∀ x ∈ ls.take k, x.kind = 2 → wo x.text.data.toList = []) ∧ Below w5.heap.size w5 W) (fun _ iv _ => ls.length - (intOf iv).toNat)
      case atStart => exact ⟨0, [], Nat.zero_le _, rfl, rfl, Nat.zero_le _, rfl, fun x hx => by simp at hx, Below.refl _ _⟩
      case round =>
        obtain ⟨k, l, hk, rfl, hl, hlk, rfl, hbl, hB⟩ := hrel
        have HL : Hid _ := hl
        have HBL : Hid _ := hbl
        clear hl hbl
        have HBW : Hid (Below w.heap.size w wr) := HB5.out.trans (hB.mono HB5.out.size)
        by_cases hlt : k < ls.length
        · obtain ⟨x, hx⟩ : ∃ x, ls[k]? = some x := ⟨ls[k], by simp [hlt]⟩
          have hrow : wr.ownsRow w4.heap.size 24 4 (.slice va ls.length vc) ls.length (lfV ls) := HRK.out wr hB
          obtain ⟨g, cap, hsl, _, hglt⟩ := hrow.form (by omega)
          cases hsl
          have cK := (own_cell hrow (lfV_get hx).1).1
          have cT := (own_cell hrow (lfV_get hx).2).1
          have htx : x.text.size ≤ 11200 := HTX.out x (List.mem_of_getElem? hx)
          have HT : Hid _ := woD_take hx
          have htk : ls.take (k + 1) = ls.take k ++ [x] := by
            have h := List.getElem?_eq_some_iff.1 hx
            rw [List.take_succ_eq_append_getElem h.1, h.2]
          have HTK : Hid _ := htk
          have hltI : (k : Int) < ls.length := by omega
          have hwl : (wo x.text.data.toList).length ≤ 11200 := Nat.le_trans (wo_len _) (by simpa using htx)
          have HC17 : Hid (∀ W, Calls Try.prog 17 #[.string x.text] W fun e w' => e = .returned (.string ⟨(wo x.text.data.toList).toArray⟩) ∧ Below W.heap.size W w') := fun W => without_any x.text W (by omega)
          obtain ⟨t, ht⟩ : ∃ t, wo x.text.data.toList = t := ⟨_, rfl⟩
          rw [ht] at HT hwl HC17
          have HTT : Hid _ := ht
          have hcat : ∀ W, (Op.stringOp .add ⟨l.toArray⟩ ⟨t.toArray⟩).run Try.prog W = .ok (.string ⟨(l ++ t).toArray⟩) W := fun W => cat_run l t (by omega) W
          have HEND : Hid ((x.kind = 2 → t = []) → ∀ W, Below w5.heap.size w5 W → ∃ (k' : Nat) (l' : List UInt8), k' ≤ ls.length ∧ Value.int .i64 ((k : Int) + 1) = .int .i64 k' ∧ l' = woD (ls.take k') ∧ l'.length ≤ k' * 11200 ∧ Value.string ⟨(l ++ t).toArray⟩ = .string ⟨l'.toArray⟩ ∧ (∀ x ∈ ls.take k', x.kind = 2 → wo x.text.data.toList = []) ∧ Below w5.heap.size w5 W) := fun hkt W hW => by
            refine ⟨k + 1, l ++ t, by omega, by go_num, by rw [HT.out, HL.out], by rw [List.length_append, Nat.succ_mul]; omega, rfl, fun y hy hy2 => ?_, hW⟩
            rw [HTK.out] at hy
            rcases List.mem_append.1 hy with hy | hy
            · exact HBL.out y hy hy2
            · simp at hy; subst hy; rw [HTT.out]; exact hkt hy2
          clear hrow hx ht htk
          by_cases h2 : x.kind = 2
          · cases t with
            | nil =>
              have HEE : Hid _ := HEND.out (fun _ => rfl)
              simp only [List.append_nil] at HEE
              rw [h2] at cK
              clear HEND h2 HT
              go_wp2_with (go_at_call 17; refine (HC17.out _).mono ?_)
              rintro e w6 ⟨rfl, hb6⟩
              have cT6 := (hb6.cell (p := ⟨g, k * 4 + 1, none⟩) hglt).trans cT
              have HB6 : Hid (Below w5.heap.size w5 w6) := hB.trans (hb6.mono hB.size)
              clear hb6 cT cK
              go_wp2_with (go_at_call 17; refine (HC17.out _).mono ?_)
              rintro e w7 ⟨rfl, hb7⟩
              have HB7 : Hid (Below w5.heap.size w5 w7) := HB6.out.trans (hb7.mono HB6.out.size)
              clear hb7 cT6
              go_wp2
              go_roundw
              case rel => exact HEE.out w7 HB7.out
              case measure => simp [intOf]; omega
            | cons t0 t =>
              rw [h2] at cK
              clear HEND h2 HT hcat
              go_wp2_with (go_at_call 17; refine (HC17.out _).mono ?_)
              rintro e w6 ⟨rfl, hb6⟩
              have HB6 : Hid (Below w.heap.size w w6) := HBW.out.trans (hb6.mono HBW.out.size)
              clear hb6 cT cK
              go_wp2_with (go_at_call 10; refine (HAL.out w6 HB6.out).mono ?_)
              rintro e w7 ⟨rfl, hb7⟩
              have HB7 : Hid _ := hb7
              clear hb7
              go_wp2
              go_ret
              exact ⟨rfl, HB7.out⟩
          · have HEE : Hid _ := HEND.out (fun h => absurd h h2)
            have h2' : (x.kind == 2) = false := by simpa using h2
            clear HEND HT
            go_wp2_with (go_at_call 17; refine (HC17.out _).mono ?_)
            rintro e w7 ⟨rfl, hb7⟩
            have HB7 : Hid (Below w5.heap.size w5 w7) := hB.trans (hb7.mono hB.size)
            clear hb7 cT cK
            go_wp2
            go_roundw
            case rel => exact HEE.out w7 HB7.out
            case measure => simp [intOf]; omega
        · obtain rfl : k = ls.length := by omega
          have hbl := HBL.out
          have hl := HL.out
          rw [List.take_length] at hbl hl
          obtain ⟨e1, e2⟩ := HNN.out hbl
          rw [← hl] at e1 e2
          have HS17 : Hid (∀ W, Calls Try.prog 17 #[.string S] W fun e w' => e = .returned (.string ⟨l.toArray⟩) ∧ Below W.heap.size W w') := fun W => by
            have := without_any S W (Nat.le_trans HZ1.out (by omega))
            rw [e1] at this; exact this
          have HT17 : Hid (∀ W, Calls Try.prog 17 #[.string T] W fun e w' => e = .returned (.string ⟨l.toArray⟩) ∧ Below W.heap.size W w') := fun W => by
            have := without_any T W (Nat.le_trans HZ2.out (by omega))
            rw [e2] at this; exact this
          clear e1 e2 hl hbl HNN HL HBL HROW HRK
          go_wp2_with (go_at_call 10; refine (HAL.out _ HBW.out).mono ?_)
          rintro e w6 ⟨rfl, hb6⟩
          have HB6 : Hid _ := hb6
          clear hb6
          go_wp2_with (go_at_call 17; refine (HS17.out _).mono ?_)
          rintro e w7 ⟨rfl, hb7⟩
          have HB7 : Hid (Below w.heap.size w w7) := HB6.out.trans (hb7.mono HB6.out.size)
          clear hb7
          go_wp2_with (go_at_call 17; refine (HT17.out _).mono ?_)
          rintro e w8 ⟨rfl, hb8⟩
          have HB8 : Hid (Below w.heap.size w w8) := HB7.out.trans (hb8.mono HB7.out.size)
          clear hb8
          go_wp2
          go_ret
          exact ⟨by simp, HB8.out⟩
    · have HH2 : Hid _ := hC2
      clear hC2 HN HZ1 HZ2
      rcases HH2.out with rfl | rfl | rfl
      · exact absurd rfl hq2
      all_goals
        clear hq2 HH2
        go_wp2_with (go_at_call 10; refine (HAL.out w4 HB4.out).mono ?_)
        rintro e w6 ⟨rfl, hb6⟩
        have HB6 : Hid _ := hb6
        clear hb6
        go_wp2
        go_ret
        exact ⟨rfl, HB6.out⟩
  · have HH1 : Hid _ := hC1
    clear hC1 hC2 HN HZ1 HZ2
    have hSe := HE.out hq1
    subst hSe
    rcases HH1.out with rfl | rfl | rfl
    · exact absurd rfl hq1
    all_goals
      clear hq1 HH1 HE
      go_wp2_with (go_at_call 10; refine (HAL.out w4 HB4.out).mono ?_)
      rintro e w6 ⟨rfl, hb6⟩
      have HB6 : Hid _ := hb6
      clear hb6
      go_wp2
      go_ret
      exact ⟨rfl, HB6.out⟩
end Go.Proofs.Ytbmejfcbladofaa
