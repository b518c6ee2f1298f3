/- Which documents are right: the document's own answer, walked. -/
import Derived.Test.YtbmejfcbladofaaM0
namespace Go.Proofs.Ytbmejfcbladofaa
open Go.RowKit

set_option maxRecDepth 100000 in
set_option maxHeartbeats 8000000 in
theorem well_any (f : Nat) : ∀ (N : Nat) (d : Dc) (sa : Option Addr) (sc : Nat) (w : World), wt d ≤ N → DAt w w.heap.size f sa d.kids → wt d ≤ 700 →
    Calls Try.prog 37 #[.agg #[.int .i64 d.kind, .string d.text, .int .i64 d.n, .slice sa d.kids.length sc]] w fun e w' => e = .returned (.bool (wellD d)) ∧ Below w.heap.size w w' := by
  intro N
  induction N with
  | zero => intro d sa sc w hN; rw [wt_eq] at hN; omega
  | succ N ih =>
  intro d sa sc w hN hk h700
  have hlen := hk.len
  have hwt := wt_eq d
  have hts : d.text.size ≤ 12000 := by omega
  have HC : Hid _ := wellD_eq d
  obtain ⟨w1, hw1⟩ : ∃ w1, w.alloc (.cells #[.int .i64 d.kind, .string d.text, .int .i64 d.n, .slice sa d.kids.length sc] 24) = w1 := ⟨_, rfl⟩
  have hB1 : Below w.heap.size w w1 := by rw [← hw1]; exact (Below.refl _ _).alloc (Nat.le_refl _) _
  have s1 : w1.heap.size = w.heap.size + 1 := by rw [← hw1]; simp
  have x1 : Bx w1 w.heap.size d.kind d.text d.n (.slice sa d.kids.length sc) := by rw [← hw1]; exact Bx.new _ _ _ _ _ _
  have HX1 : Hid _ := x1
  obtain ⟨a0, a1, a2, a3⟩ := x1
  have HIX : Hid (∀ x ∈ d.kids, wt x ≤ N ∧ wt x ≤ 700) := fun x hx => by
    obtain ⟨k, hk, rfl⟩ := List.getElem_of_mem hx
    have h1 := wtL_take (List.getElem?_eq_getElem hk)
    have h2 := wtL_take_le d.kids (k + 1)
    omega
  have HI : Hid _ := ih
  have HK : Hid _ := hk
  have HB1 : Hid _ := hB1
  have HS1 : Hid _ := s1
  clear hwt ih hk hN hB1 s1 h700
  go_enter Try.func37, Try.ntmps37
  go_wp2
  go_loopw [3] (fun iv W => W = w1 ∧ ∃ k : Nat, k ≤ d.text.size ∧ iv = .int .i64 k ∧ (10 : UInt8) ∉ d.text.data.toList.take k) (fun iv _ => d.text.size - (intOf iv).toNat)
  case atStart => exact ⟨rfl, 0, Nat.zero_le _, rfl, by simp⟩
  case round =>
    obtain ⟨rfl, k, hk, rfl, hno⟩ := hrel
    have HNO : Hid _ := hno
    clear hno
    by_cases hlt : k < d.text.size
    · have hlt' : (k : Int) < d.text.size := by omega
      have hbt := bt_eq d.text k hlt
      obtain ⟨u, hu, htk⟩ := bt_take d.text k hlt
      have HU : Hid _ := hu
      have HTK : Hid _ := htk
      clear hu htk
      generalize bt d.text k = c at *
      by_cases hc : c = 10
      · have HV : Hid (wellD d = false) := by
          show _ = _
          rw [HC.out]
          cases ho : okC d.kind d.text d.n d.kids.length with
          | false => rfl
          | true =>
            refine absurd ?_ (okC_ten ho)
            have : u = 10 := UInt8.toNat_inj.1 (by rw [← HU.out, hc]; rfl)
            have h2 : u ∈ d.text.data.toList.take (k + 1) := by rw [HTK.out]; simp
            rw [← this]
            exact List.mem_of_mem_take h2
        subst hc
        go_wp2
        go_ret
        rw [HV.out]
        exact ⟨rfl, HB1.out⟩
      · have hcI : ¬ (c : Int) = 10 := by omega
        have hcB : ((c : Int) == 10) = false := by simp; omega
        have HNN : Hid ((10 : UInt8) ∉ d.text.data.toList.take (k + 1)) := by
          show ¬ _
          rw [HTK.out]
          intro h
          rcases List.mem_append.1 h with h | h
          · exact HNO.out h
          · simp at h
            apply hc
            rw [HU.out, ← h]; rfl
        clear hc HNO
        go_wp2
        go_roundw
        case rel => exact ⟨trivial, k + 1, by omega, by go_num, HNN.out⟩
        case measure => simp [intOf]; omega
    · obtain rfl : k = d.text.size := by omega
      have HNT : Hid (noTen d.text = true) := by
        show _ = _
        refine noTen_yes ?_
        have := HNO.out
        rw [List.take_of_length_le (by simp)] at this
        exact this
      clear HNO hlt hk
      go_wp2
      have hB0 : Hid (Below wr.heap.size wr wr) := Below.refl _ _
      obtain ⟨wo, hwo⟩ : ∃ wo : World, wo = wr := ⟨_, rfl⟩
      rw [← hwo] at HX1 HB1 HS1 a0 a1 a2 a3 hB0 ⊢
      clear hwo
      go_loopw [4] (fun iv W => ∃ k : Nat, k ≤ d.kids.length ∧ iv = .int .i64 k ∧ wellL (d.kids.take k) = true ∧ Below wo.heap.size wo W) (fun iv _ => d.kids.length - (intOf iv).toNat)
      case atStart => exact ⟨0, Nat.zero_le _, rfl, rfl, hB0.out⟩
      case round =>
        obtain ⟨k2, hk, rfl, hwl, hB⟩ := hrel
        have hs1 := HS1.out
        have x2 := HX1.out.keep hB (by omega)
        obtain ⟨b0, b1, b2, b3⟩ := x2
        have hBw : Below w.heap.size w wr := HB1.out.trans (hB.mono (by omega))
        have HBw : Hid _ := hBw
        have HWL : Hid _ := hwl
        have HB : Hid _ := hB
        clear hBw hwl hB hs1 a0 a1 a2 a3
        by_cases hlt : k2 < d.kids.length
        · obtain ⟨x, hx⟩ : ∃ x, d.kids[k2]? = some x := ⟨d.kids[k2], by simp [hlt]⟩
          have hxm : x ∈ d.kids := List.mem_of_getElem? hx
          obtain ⟨bb, o, hsa, hb, xa, xc, c0, c1, c2, c3, hxc, hxk⟩ := ((HK.out.keep HBw.out).mono HBw.out.size).one hx
          have HCX : Hid _ := fun (_ : Unit) => HI.out x xa xc wr (HIX.out x hxm).1 hxk (HIX.out x hxm).2
          have HT : Hid _ := wellL_take hx
          have HM : Hid (wellD x = false → wellL d.kids = false) := fun h => wellL_mem hxm h
          subst hsa
          clear hx hxm hxk
          cases hwx : wellD x with
          | true =>
            rw [hwx] at HCX
            have HE : Hid (wellL (d.kids.take (k2 + 1)) = true) := by show _ = _; rw [HT.out, HWL.out, hwx]; rfl
            clear hwx HT HM
            go_wp2_with (go_at_call 37; refine (HCX.out ()).mono ?_)
            rintro e w2 ⟨rfl, hb2⟩
            have HB2 : Hid (Below wo.heap.size wo w2) := HB.out.trans (hb2.mono HB.out.size)
            clear hb2
            go_wp2
            go_roundw
            case rel => exact ⟨k2 + 1, by omega, by go_num, HE.out, HB2.out⟩
            case measure => simp [intOf]; omega
          | false =>
            rw [hwx] at HCX
            have HV : Hid (wellD d = false) := by show _ = _; rw [HC.out, HM.out hwx, Bool.and_false]
            clear hwx HT HM
            go_wp2_with (go_at_call 37; refine (HCX.out ()).mono ?_)
            rintro e w2 ⟨rfl, hb2⟩
            have HB2 : Hid (Below w.heap.size w w2) := HBw.out.trans (hb2.mono HBw.out.size)
            clear hb2
            go_wp2
            go_ret
            rw [HV.out]
            exact ⟨rfl, HB2.out⟩
        · obtain rfl : k2 = d.kids.length := by omega
          have HWA : Hid (wellD d = okC d.kind d.text d.n d.kids.length) := by
            have := HWL.out
            rw [List.take_length] at this
            show _ = _
            rw [HC.out, this, Bool.and_true]
          have HNT2 := HNT
          clear HC HIX HI HK HNT HWL hlt hk HB1 HS1 HX1 hts hlen hB0 HB
          obtain ⟨kd, hkd⟩ : ∃ k, d.kind = k := ⟨_, rfl⟩
          obtain ⟨nn, hnn⟩ : ∃ k, d.n = k := ⟨_, rfl⟩
          rw [hkd] at b0 HWA
          rw [hnn] at b2 HWA
          clear hkd hnn
          by_cases h1 : kd = 1
          · subst h1
            go_wp2
            all_goals (go_ret; refine ⟨ret_bool ?_, HBw.out⟩; rw [HWA.out]; have hnt := HNT2.out; simp [okC, *] <;> (first | (intros; omega) | (rw [Bool.eq_iff_iff]; simp)))
          by_cases h2 : kd = 2
          · subst h2
            go_wp2
            all_goals (go_ret; refine ⟨ret_bool ?_, HBw.out⟩; rw [HWA.out]; have hnt := HNT2.out; simp [okC, *] <;> (first | (intros; omega) | (rw [Bool.eq_iff_iff]; simp)))
          by_cases h3 : kd = 3
          · subst h3
            go_wp2
            all_goals (go_ret; refine ⟨ret_bool ?_, HBw.out⟩; rw [HWA.out]; have hnt := HNT2.out; simp [okC, *] <;> (first | (intros; omega) | (rw [Bool.eq_iff_iff]; simp)))
          by_cases h4 : kd = 4
          · subst h4
            go_wp2
            all_goals (go_ret; refine ⟨ret_bool ?_, HBw.out⟩; rw [HWA.out]; have hnt := HNT2.out; simp [okC, *] <;> (first | (intros; omega) | (rw [Bool.eq_iff_iff]; simp)))
          by_cases h5 : kd = 5
          · subst h5
            go_wp2
            all_goals (go_ret; refine ⟨ret_bool ?_, HBw.out⟩; rw [HWA.out]; have hnt := HNT2.out; simp [okC, *] <;> (first | (intros; omega) | (rw [Bool.eq_iff_iff]; simp)))
          by_cases h6 : kd = 6
          · subst h6
            go_wp2
            all_goals (go_ret; refine ⟨ret_bool ?_, HBw.out⟩; rw [HWA.out]; have hnt := HNT2.out; simp [okC, *] <;> (first | (intros; omega) | (rw [Bool.eq_iff_iff]; simp)))
          have e1 : (kd == 1) = false := by simpa using h1
          have e2 : (kd == 2) = false := by simpa using h2
          have e3 : (kd == 3) = false := by simpa using h3
          have e4 : (kd == 4) = false := by simpa using h4
          have e5 : (kd == 5) = false := by simpa using h5
          have e6 : (kd == 6) = false := by simpa using h6
          go_wp2
          go_ret
          refine ⟨ret_bool ?_, HBw.out⟩
          rw [HWA.out]
          simp [okC, h1, h2, h3, h4, h5, h6]
set_option maxRecDepth 100000 in
set_option maxHeartbeats 1000000 in
theorem refRight_any (d : Dc) (sa : Option Addr) (sc f : Nat) (w : World) (hk : DAt w w.heap.size f sa d.kids) (hw : wt d ≤ 700) :
    Calls Try.prog 22 #[.agg #[.int .i64 d.kind, .string d.text, .int .i64 d.n, .slice sa d.kids.length sc]] w fun e w' => e = .returned (.bool (rightD d)) ∧ Below w.heap.size w w' := by
  obtain ⟨w1, hw1⟩ : ∃ w1, w.alloc (.cells #[.int .i64 d.kind, .string d.text, .int .i64 d.n, .slice sa d.kids.length sc] 24) = w1 := ⟨_, rfl⟩
  have hB1 : Below w.heap.size w w1 := by rw [← hw1]; exact (Below.refl _ _).alloc (Nat.le_refl _) _
  have s1 : w1.heap.size = w.heap.size + 1 := by rw [← hw1]; simp
  have x1 : Bx w1 w.heap.size d.kind d.text d.n (.slice sa d.kids.length sc) := by rw [← hw1]; exact Bx.new _ _ _ _ _ _
  have HX1 : Hid _ := x1
  obtain ⟨a0, a1, a2, a3⟩ := x1
  have hD : ∀ W, Below w.heap.size w W → DAt W W.heap.size f sa d.kids := fun W hW => (hk.keep hW).mono hW.size
  have HC : Hid _ := fun (_ : Unit) => count_any f (wt d) d sa sc w1 (Nat.le_refl _) (hD w1 hB1) hw
  have HW : Hid _ := fun (W : World) (hW : Below w.heap.size w W) => well_any f (wt d) d sa sc W (Nat.le_refl _) (hD W hW) hw
  have HB1 : Hid _ := hB1
  have HS1 : Hid _ := s1
  have HR : Hid _ := right_eq d
  have hcw := cnt_wt d
  clear hk hD hB1 s1
  obtain ⟨c, hc⟩ : ∃ q, cnt d = q := ⟨_, rfl⟩
  obtain ⟨dp, hdp⟩ : ∃ q, dep d = q := ⟨_, rfl⟩
  rw [hc, hdp] at HC HR hcw
  clear hc hdp
  have h1 : (c : Int) ≤ 20000 := by omega
  have HR1 : Hid (rightD d = (decide (dp ≤ 200) && wellD d)) := by
    show _ = _
    rw [HR.out, decide_eq_true (show c ≤ 20000 by omega)]; rfl
  clear HR
  by_cases h2 : dp ≤ 200
  · have h2' : (dp : Int) ≤ 200 := by omega
    rw [decide_eq_true h2] at HR1
    clear h2
    go_enter Try.func22, Try.ntmps22
    go_wp2_with (first
      | (go_at_call 36; refine (HC.out ()).mono ?_; rintro e w2 ⟨rfl, hb2⟩; obtain ⟨b0, b1, b2, b3⟩ := HX1.out.keep hb2 (by rw [HS1.out]; omega); have HB2 : Hid (Below w.heap.size w w2) := HB1.out.trans (hb2.mono HB1.out.size); clear hb2 a0 a1 a2 a3)
      | (go_at_call 37; refine (HW.out w2 HB2.out).mono ?_))
    rintro e w3 ⟨rfl, hb3⟩
    have HB3 : Hid (Below w.heap.size w w3) := HB2.out.trans (hb3.mono HB2.out.size)
    clear hb3
    go_wp2
    go_ret
    refine ⟨?_, HB3.out⟩
    rw [HR1.out]
    simp
  · have h2' : (200 : Int) < dp := by omega
    rw [decide_eq_false h2] at HR1
    clear h2
    go_enter Try.func22, Try.ntmps22
    go_wp2_with (go_at_call 36; refine (HC.out ()).mono ?_)
    rintro e w2 ⟨rfl, hb2⟩
    have HB2 : Hid (Below w.heap.size w w2) := HB1.out.trans (hb2.mono HB1.out.size)
    clear hb2
    go_wp2
    go_ret
    refine ⟨?_, HB2.out⟩
    rw [HR1.out]
    simp
end Go.Proofs.Ytbmejfcbladofaa
