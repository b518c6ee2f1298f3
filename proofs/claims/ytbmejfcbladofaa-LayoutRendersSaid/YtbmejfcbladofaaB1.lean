/- How many breaks are written: the walk. -/
import Derived.Test.YtbmejfcbladofaaB0
namespace Go.Proofs.Ytbmejfcbladofaa
open Go.RowKit

theorem c10_take {S : ByteArray} {k : Nat} (h : k < S.size) : c10 (S.data.toList.take (k + 1)) = c10 (S.data.toList.take k) + (if bt S k = 10 then 1 else 0) := by
  obtain ⟨u, hu, e⟩ := bt_take S k h
  rw [e, c10_app, hu]
  unfold c10
  rw [List.count_singleton]
  by_cases h10 : u = 10
  · subst h10; rfl
  · have : ¬ u.toNat = 10 := fun e => h10 (UInt8.toNat_inj.1 e)
    simp [h10, this]
set_option maxRecDepth 100000 in
set_option maxHeartbeats 4000000 in
theorem breaks_walk (d : Dc) (sa : Option Addr) (sc f : Nat) (wd : Int) (w : World) (hk : DAt w w.heap.size f sa d.kids) (hsc : d.kids.length ≤ sc) (ht : TxD d) (_ : -9223372036854775808 ≤ wd) (hwd : wd ≤ 9223372036854775807) :
    Calls Try.prog 6 #[.agg #[.int .i64 d.kind, .string d.text, .int .i64 d.n, .slice sa d.kids.length sc], .int .i64 wd] w fun e w' => e = .returned (.bool true) ∧ Below w.heap.size w w' := by
  obtain ⟨w1, hw1⟩ : ∃ w1, w.alloc (.cells #[.int .i64 d.kind, .string d.text, .int .i64 d.n, .slice sa d.kids.length sc] 24) = w1 := ⟨_, rfl⟩
  have hB1 : Below w.heap.size w w1 := by rw [← hw1]; exact (Below.refl _ _).alloc (Nat.le_refl _) _
  have s1 : w1.heap.size = w.heap.size + 1 := by rw [← hw1]; simp
  have x1 : Bx w1 w.heap.size d.kind d.text d.n (.slice sa d.kids.length sc) := by rw [← hw1]; exact Bx.new _ _ _ _ _ _
  obtain ⟨a0, a1, a2, a3⟩ := x1
  have HX1 : Hid _ := Bx.mk a0 a1 a2 a3
  have hD : ∀ W, Below w.heap.size w W → DAt W W.heap.size f sa d.kids := fun W hW => (hk.keep hW).mono hW.size
  have HH : Hid _ := fun (_ : Unit) => heavy_any d sa sc f w1 (hD w1 hB1) ht
  have HD : Hid _ := hD
  have HB1 : Hid _ := hB1
  have HS1 : Hid _ := s1
  clear hD hB1 s1 hk
  have hns : ∀ W, Below w.heap.size w W → Calls Try.prog 10 #[] W fun e w' => e = .returned (.bool true) ∧ Below w.heap.size w w' := fun W hW => (alive_any W).mono (by rintro e w' ⟨rfl, hb⟩; exact ⟨rfl, hW.trans (hb.mono hW.size)⟩)
  have HAL : Hid _ := hns
  clear hns
  by_cases hwt : 700 < wt d
  · rw [decide_eq_true hwt] at HH
    clear hwt
    go_enter Try.func6, Try.ntmps6
    go_wp2_with (go_at_call 9; refine (HH.out ()).mono ?_)
    rintro e w2 ⟨rfl, hb2⟩
    have HB2 : Hid (Below w.heap.size w w2) := HB1.out.trans (hb2.mono HB1.out.size)
    clear hb2
    go_wp2_with (go_at_call 10; refine (HAL.out w2 HB2.out).mono ?_)
    rintro e w3 ⟨rfl, hb3⟩
    have HB3 : Hid _ := hb3
    clear hb3
    go_wp2
    go_ret
    exact ⟨rfl, HB3.out⟩
  rw [decide_eq_false hwt] at HH
  have HPL : Hid ((pre d 1).length ≤ 700) := Nat.le_trans (pre_wt d 1) (by omega)
  have HWT : Hid (wt d ≤ 700) := by show _ ≤ _; omega
  clear hwt ht
  go_enter Try.func6, Try.ntmps6
  go_wp2_with (go_at_call 9; refine (HH.out ()).mono ?_)
  rintro e w2 ⟨rfl, hb2⟩
  have x2 := HX1.out.keep hb2 (by rw [HS1.out]; omega)
  obtain ⟨b0, b1, b2, b3⟩ := x2
  have HX2 : Hid _ := Bx.mk b0 b1 b2 b3
  have HB2 : Hid (Below w.heap.size w w2) := HB1.out.trans (hb2.mono HB1.out.size)
  have HS2 : Hid (w.heap.size < w2.heap.size) := Nat.lt_of_lt_of_le (by rw [HS1.out]; omega) hb2.size
  have HR : Hid _ := fun (_ : Unit) => render_any d sa sc f wd w2 (HD.out w2 HB2.out) hsc (by have := HPL.out; omega) (fun h => okL_right h (by have := HWT.out; omega)) hwd
  clear hb2 a0 a1 a2 a3 hw1
  go_wp2_with (go_at_call 11; refine (HR.out ()).mono ?_)
  rintro e w3 ⟨rfl, hb3⟩
  have x3 := HX2.out.keep hb3 HS2.out
  obtain ⟨c0, c1, c2, c3⟩ := x3
  have HB3 : Hid (Below w.heap.size w w3) := HB2.out.trans (hb3.mono HB2.out.size)
  have HLV : Hid _ := fun (_ : Unit) => leaves_any d sa sc f w3 (HD.out w3 HB3.out) hsc (by have := HPL.out; omega)
  clear hb3 b0 b1 b2 b3
  have hC := layC_cases d wd
  have HN : Hid _ := fun (h : layC d wd = 0) => lay_c10 h
  have HZ : Hid _ := layT_size d wd
  have HE : Hid (layC d wd ≠ 0 → layT d wd = ⟨#[]⟩) := fun h => by
    unfold layC at h
    unfold layT
    cases hr : rightD d with
    | false => rfl
    | true =>
      cases hl : (layP d wd).long with
      | true => rfl
      | false => rw [hr, hl] at h; simp at h
  have HLL : Hid ((leavesD d).length ≤ 700) := Nat.le_trans (leaves_len d) HPL.out
  generalize layC d wd = q at *
  generalize layT d wd = S at *
  generalize leavesD d = ls at *
  clear HR HH HD
  by_cases hq : q = 0
  · subst hq
    clear hC HE
    have hcn := HN.out rfl
    have HCN : Hid _ := hcn
    clear HN hcn
    have hS : S.size ≤ 65536 := HZ.out
    have hls : ls.length ≤ 700 := HLL.out
    clear HZ HLL
    go_wp2
    go_loopw [7, 8] (fun nv iv W => W = w3 ∧ ∃ (k q : Nat), k ≤ S.size ∧ iv = .int .i64 k ∧ q = c10 (S.data.toList.take k) ∧ q ≤ k ∧ nv = .int .i64 q) (fun _ iv _ => S.size - (intOf iv).toNat)
    case atStart => exact ⟨rfl, 0, 0, Nat.zero_le _, rfl, rfl, Nat.le_refl _, rfl⟩
    case round =>
      obtain ⟨rfl, k, q, hk, rfl, hq, hqk, rfl⟩ := hrel
      by_cases hlt : k < S.size
      · have hlt' : (k : Int) < S.size := by omega
        have hbt := bt_eq S k hlt
        have HT : Hid _ := c10_take hlt
        have HQ : Hid _ := hq
        clear hq
        by_cases h10 : bt S k = 10
        · have h10' : (((bt S k : Nat) : Int) == 10) = true := by simp; omega
          rw [if_pos h10] at HT
          clear h10
          go_wp2
          go_roundw
          case rel => exact ⟨trivial, k + 1, q + 1, by omega, by go_num, by rw [HT.out, HQ.out], by omega, by go_num⟩
          case measure => simp [intOf]; omega
        · have h10' : (((bt S k : Nat) : Int) == 10) = false := by simp; omega
          rw [if_neg h10] at HT
          clear h10
          go_wp2
          go_roundw
          case rel => exact ⟨trivial, k + 1, q, by omega, by go_num, by rw [HT.out, HQ.out]; rfl, by omega, by go_num⟩
          case measure => simp [intOf]; omega
      · obtain rfl : k = S.size := by omega
        have HQ : Hid (q = c10 S.data.toList) := by show _ = _; rw [hq, List.take_of_length_le (by simp)]
        clear hq
        go_wp2_with (go_at_call 16; refine (HLV.out ()).mono ?_)
        rintro e w4 ⟨⟨v, rfl, hrow⟩, hb4⟩
        have HB4 : Hid (Below w.heap.size w w4) := HB3.out.trans (hb4.mono HB3.out.size)
        have HROW : Hid _ := fun (_ : Unit) => hrow
        obtain ⟨va, vc, rfl⟩ := row_slice hrow
        clear hb4 hrow HLV c0 c1 c2 c3
        have hq66 : q ≤ 65536 := by omega
        obtain ⟨wo, hwo⟩ : ∃ wo : World, wo = wr := ⟨_, rfl⟩
        clear hwo hqk
        go_wp2
        go_loopw [9, 10, 12] (fun hv lv iv W => W = w4 ∧ ∃ (k a b : Nat), k ≤ ls.length ∧ iv = .int .i64 k ∧ a = nK 3 (ls.take k) ∧ b = nK 2 (ls.take k) ∧ a ≤ k ∧ b ≤ k ∧ hv = .int .i64 a ∧ lv = .int .i64 b) (fun _ _ iv _ => ls.length - (intOf iv).toNat)
        case atStart => exact ⟨rfl, 0, 0, 0, Nat.zero_le _, rfl, rfl, rfl, Nat.le_refl _, Nat.le_refl _, rfl, rfl⟩
        case round =>
          obtain ⟨rfl, k, a, b, hk, rfl, ha, hb, hak, hbk, rfl, rfl⟩ := hrel
          have HA : Hid _ := ha
          have HB : Hid _ := hb
          clear ha hb
          by_cases hlt : k < ls.length
          · obtain ⟨x, hx⟩ : ∃ x, ls[k]? = some x := ⟨ls[k], by simp [hlt]⟩
            have hrow := HROW.out ()
            obtain ⟨g, cap, hsl, _, _⟩ := hrow.form (by omega)
            cases hsl
            have cK := (own_cell hrow (lfV_get hx).1).1
            have HT3 : Hid _ := nK_take (q := 3) hx
            have HT2 : Hid _ := nK_take (q := 2) hx
            have hltI : (k : Int) < ls.length := by omega
            generalize x.kind = kd at *
            clear hrow hx
            by_cases h3 : kd = 3
            · subst h3
              rw [if_pos rfl] at HT3
              rw [if_neg (by decide)] at HT2
              go_wp2
              go_roundw
              case rel => exact ⟨trivial, k + 1, a + 1, b, by omega, by go_num, by rw [HT3.out, HA.out], by rw [HT2.out, HB.out]; rfl, by omega, by omega, by go_num, rfl⟩
              case measure => simp [intOf]; omega
            · rw [if_neg h3] at HT3
              have h3' : (kd == 3) = false := by simpa using h3
              by_cases h2 : kd = 2
              · subst h2
                rw [if_pos rfl] at HT2
                clear h3 h3'
                go_wp2
                go_roundw
                case rel => exact ⟨trivial, k + 1, a, b + 1, by omega, by go_num, by rw [HT3.out, HA.out]; rfl, by rw [HT2.out, HB.out], by omega, by omega, rfl, by go_num⟩
                case measure => simp [intOf]; omega
              · rw [if_neg h2] at HT2
                have h2' : (kd == 2) = false := by simpa using h2
                clear h2 h3
                go_wp2
                go_roundw
                case rel => exact ⟨trivial, k + 1, a, b, by omega, by go_num, by rw [HT3.out, HA.out]; rfl, by rw [HT2.out, HB.out]; rfl, by omega, by omega, rfl, rfl⟩
                case measure => simp [intOf]; omega
          · obtain rfl : k = ls.length := by omega
            have hA := HA.out
            have hB := HB.out
            rw [List.take_length] at hA hB
            have hcn := HCN.out
            rw [← hA, ← hB, ← HQ.out] at hcn
            have h1 : (a : Int) ≤ q := by omega
            have h2 : (q : Int) ≤ (a : Int) + b := by omega
            clear hA hB hcn HCN HQ HA HB HROW
            go_wp2_with (go_at_call 10; refine (HAL.out _ HB4.out).mono ?_)
            rintro e w6 ⟨rfl, hb6⟩
            have HB6 : Hid _ := hb6
            clear hb6
            go_wp2
            go_ret
            exact ⟨by simp, HB6.out⟩
  · have HH1 : Hid _ := hC
    clear hC HN HZ
    have hSe := HE.out hq
    subst hSe
    rcases HH1.out with rfl | rfl | rfl
    · exact absurd rfl hq
    all_goals
      clear hq HH1 HE
      go_wp2_with (go_at_call 10; refine (HAL.out w3 HB3.out).mono ?_)
      rintro e w6 ⟨rfl, hb6⟩
      have HB6 : Hid _ := hb6
      clear hb6
      go_wp2
      go_ret
      exact ⟨rfl, HB6.out⟩
end Go.Proofs.Ytbmejfcbladofaa
