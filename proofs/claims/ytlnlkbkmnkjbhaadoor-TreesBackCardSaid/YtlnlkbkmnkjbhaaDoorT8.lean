/- Which trees are plain, and their texts: the document's own. -/
import Derived.Test.YtlnlkbkmnkjbhaaDoorT7
namespace Go.Proofs.YtlnlkbkmnkjbhaaDoor
open Go.RowKit Go.Shelf

set_option maxRecDepth 100000 in
set_option maxHeartbeats 4000000 in
theorem refPlain_any (f : Nat) : ∀ (N : Nat) (d : Tr) (sa : Option Addr) (sc : Nat) (w : World), sz d ≤ N → TAt w w.heap.size f sa d.kids →
    Calls Tryd.prog 55 #[.agg #[.int .i64 d.rule, .int .u8 (d.byte.toNat : Int), .slice sa d.kids.length sc]] w fun e w' => e = .returned (.bool (pl d)) ∧ Below w.heap.size w w' := by
  intro N
  induction N with
  | zero => intro d sa sc w hN; rw [sz_eq] at hN; omega
  | succ N ih =>
  intro d sa sc w hN hk
  have hlen := hk.len
  have hsz := sz_eq d
  obtain ⟨w1, hw1⟩ : ∃ w1, w.alloc (.cells #[.int .i64 d.rule, .int .u8 (d.byte.toNat : Int), .slice sa d.kids.length sc] 27) = w1 := ⟨_, rfl⟩
  have hB1 : Below w.heap.size w w1 := by rw [← hw1]; exact (Below.refl _ _).alloc (Nat.le_refl _) _
  have s1 : w1.heap.size = w.heap.size + 1 := by rw [← hw1]; simp
  have hc1 : ∀ j v, (#[.int .i64 d.rule, .int .u8 (d.byte.toNat : Int), .slice sa d.kids.length sc] : Array Value)[j]? = some v → w1.cell? ⟨w.heap.size, j, none⟩ = some v := fun j v hv => by rw [← hw1]; exact cell_new j hv
  have HCE : Hid (∀ W, Below w1.heap.size w1 W → W.cell? ⟨w.heap.size, 0, none⟩ = some (.int .i64 d.rule) ∧ W.cell? ⟨w.heap.size, 1, none⟩ = some (.int .u8 (d.byte.toNat : Int)) ∧ W.cell? ⟨w.heap.size, 2, none⟩ = some (.slice sa d.kids.length sc)) := fun W h => by
    have k : ∀ q, W.cell? ⟨w.heap.size, q, none⟩ = w1.cell? ⟨w.heap.size, q, none⟩ := fun q => h.cell (p := ⟨w.heap.size, q, none⟩) (by show w.heap.size < _; omega)
    exact ⟨(k 0).trans (hc1 0 _ rfl), (k 1).trans (hc1 1 _ rfl), (k 2).trans (hc1 2 _ rfl)⟩
  have HK : Hid (∀ W, Below w1.heap.size w1 W → TAt W W.heap.size f sa d.kids) := fun W h => ((hk.keep hB1).mono hB1.size |>.keep h).mono h.size
  have HB1 : Hid _ := hB1
  have HW : Hid (∀ W, Below w1.heap.size w1 W → Below w.heap.size w W) := fun W h => hB1.trans (h.mono hB1.size)
  obtain ⟨a0, a1, a2⟩ := HCE.out w1 (Below.refl _ _)
  have HI : Hid _ := ih
  have HN : Hid _ := hN
  have HZ : Hid _ := hsz
  clear hB1 hc1 hk s1 ih hN hsz
  by_cases hr : d.rule = -1
  · have hre : (d.rule == -1) = true := by simpa using hr
    have HP : Hid _ := pl_leaf hr
    clear hr
    go_enter Tryd.func55, Tryd.ntmps55
    go_wp2
    go_ret
    refine ⟨ret_bool ?_, HB1.out⟩
    rw [HP.out]
    cases d.kids <;> simp <;> omega
  · have hre : (d.rule == -1) = false := by simpa using hr
    have HP : Hid _ := pl_node hr
    have HPI : Hid (isPl d = (d.byte == 0 && decide (0 ≤ d.rule) && decide (d.rule ≤ 999999))) := by show _ = _; unfold isPl; rw [if_neg hr]
    clear hr
    by_cases hb0 : d.byte = 0
    case neg =>
      have hbe : ((d.byte.toNat : Int) != 0) = true := by
        have : d.byte.toNat ≠ 0 := fun e => hb0 (UInt8.toNat_inj.1 (by simpa using e))
        simp; omega
      have hbn : ¬ (d.byte.toNat : Int) = 0 := by simpa using hbe
      have HV : Hid (pl d = false) := by show _ = _; rw [HP.out, HPI.out]; simp [hb0]
      go_enter Tryd.func55, Tryd.ntmps55
      go_wp2
      go_ret
      exact ⟨by rw [HV.out]; rfl, HB1.out⟩
    have hbe : ((d.byte.toNat : Int) != 0) = false := by rw [hb0]; rfl
    have HBZ : Hid _ := hb0
    clear hb0
    by_cases h0 : d.rule < 0
    · have HV : Hid (pl d = false) := by
        show _ = _; rw [HP.out, HPI.out]
        have : decide (0 ≤ d.rule) = false := by simpa using h0
        simp [this]
      go_enter Tryd.func55, Tryd.ntmps55
      go_wp2
      go_ret
      exact ⟨by rw [HV.out]; rfl, HB1.out⟩
    by_cases h9 : 999999 < d.rule
    · have HV : Hid (pl d = false) := by
        show _ = _; rw [HP.out, HPI.out]
        have : decide (d.rule ≤ 999999) = false := by simpa using h9
        simp [this]
      have h0' : decide (d.rule < 0) = false := by simpa using h0
      go_enter Tryd.func55, Tryd.ntmps55
      go_wp2
      go_ret
      exact ⟨by rw [HV.out]; rfl, HB1.out⟩
    have HV : Hid (pl d = plL d.kids) := by
      show _ = _; rw [HP.out, HPI.out]
      have e1 : decide (0 ≤ d.rule) = true := by simpa using h0
      have e2 : decide (d.rule ≤ 999999) = true := by simpa using h9
      simp [HBZ.out, e1, e2]
    have h0' : decide (d.rule < 0) = false := by simpa using h0
    have h9' : decide (999999 < d.rule) = false := by simpa using h9
    go_enter Tryd.func55, Tryd.ntmps55
    go_wp2
    go_loopw [3] (fun i W => ∃ k : Nat, k ≤ d.kids.length ∧ i = .int .i64 k ∧ plL (d.kids.take k) = true ∧ Below w1.heap.size w1 W) (fun i _ => d.kids.length - (intOf i).toNat)
    case atStart => exact ⟨0, by omega, rfl, by simp [plL], Below.refl _ _⟩
    case round =>
      obtain ⟨k, hkl, rfl, hpk, hB⟩ := hrel
      obtain ⟨b0, b1, b2⟩ := HCE.out wr hB
      have HB : Hid _ := hB
      have HPK : Hid _ := hpk
      clear hB a0 a1 a2 hpk
      by_cases hlt : k < d.kids.length
      · obtain ⟨x, hx⟩ : ∃ x, d.kids[k]? = some x := ⟨d.kids[k], by simp [hlt]⟩
        obtain ⟨b, o, hsa, hb, xa, xc, c0, c1, c2, hxc, hxk⟩ := (HK.out wr HB.out).one hx
        have hzx := szL_take hx
        have hle := szL_take_le d.kids (k + 1)
        have HC : Hid _ := fun (_ : Unit) => HI.out x xa xc wr (by have := HN.out; have := HZ.out; omega) hxk
        have HE : Hid (plL (d.kids.take (k + 1)) = (plL (d.kids.take k) && pl x)) := by show _ = _; rw [List.take_add_one, hx]; simp [plL_all]
        have HMM : Hid (pl x = false → plL d.kids = false) := fun h => by
          rw [plL_all]; cases h' : d.kids.all pl with
          | false => rfl
          | true => rw [List.all_eq_true] at h'; rw [h' x (List.mem_of_getElem? hx)] at h; cases h
        subst hsa
        clear hzx hle hx hxk
        cases hpx : pl x with
        | true =>
          rw [hpx] at HC HE
          go_wp2_with (go_at_call 55; refine (HC.out ()).mono ?_)
          first | rintro e w2 rfl hb2 | rintro e w2 ⟨rfl, hb2⟩
          have HB2 : Hid (Below w1.heap.size w1 w2) := HB.out.trans (hb2.mono HB.out.size)
          clear hb2
          go_wp2
          go_roundw
          case rel => exact ⟨k + 1, by omega, by go_num, by rw [HE.out, HPK.out]; rfl, HB2.out⟩
          case measure => simp [intOf]; omega
        | false =>
          rw [hpx] at HC
          have HVV : Hid (pl d = false) := by show _ = _; rw [HV.out]; exact HMM.out hpx
          go_wp2_with (go_at_call 55; refine (HC.out ()).mono ?_)
          first | rintro e w2 rfl hb2 | rintro e w2 ⟨rfl, hb2⟩
          have HB2 : Hid (Below w1.heap.size w1 w2) := HB.out.trans (hb2.mono HB.out.size)
          clear hb2
          go_wp2
          go_ret
          exact ⟨by rw [HVV.out]; rfl, HW.out _ HB2.out⟩
      · obtain rfl : k = d.kids.length := by omega
        have HVV : Hid (pl d = true) := by show _ = _; rw [HV.out]; have := HPK.out; rw [List.take_length] at this; exact this
        go_wp2
        go_ret
        exact ⟨by rw [HVV.out]; rfl, HW.out _ HB.out⟩
end Go.Proofs.YtlnlkbkmnkjbhaaDoor
