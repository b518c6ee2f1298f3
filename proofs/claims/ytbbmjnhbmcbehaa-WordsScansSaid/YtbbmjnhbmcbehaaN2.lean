/- Texts in quotes: isPlain, the signs, readQuoted and Unquote at every text. -/
import Derived.Test.YtbbmjnhbmcbehaaN1
import Derived.Test.YtbbmjnhbmcbehaaShelf
import Derived.Deep.RegionHeld3
import Derived.Deep.DrawnRows
import Derived.OwnWalk
namespace Go.Proofs.Ytbbmjnhbmcbehaa
open Go.RowKit

set_option maxRecDepth 100000 in
set_option maxHeartbeats 1000000 in
theorem plainq_any (n : Nat) (w : World) (hn : n < 256) : Calls Try.prog 38 #[.int .u8 n] w fun e w' => e = .returned (.bool (plainq n)) ∧ w' = w := by
  have H : Hid (plainq n = (decide (32 ≤ n) && decide (n ≤ 126) && decide (n ≠ 34) && decide (n ≠ 92))) := rfl
  go_enter Try.func38, Try.ntmps38
  go_wp2
  all_goals go_ret
  all_goals (refine ⟨ret_bool ?_, rfl⟩; rw [H.out])
  all_goals (rw [Bool.eq_iff_iff]; simp; try omega)
theorem shortq_bd (n : Nat) : shortq n < 5 := by
  have : ∀ c : Fin 256, Lib.indexByte [110, 116, 114, 34, 92] (UInt8.ofNat c.val) < 5 := by decide +kernel
  have h := this ⟨n % 256, Nat.mod_lt _ (by omega)⟩
  have e : UInt8.ofNat (n % 256) = UInt8.ofNat n := by
    apply UInt8.toNat_inj.1; simp
  simp only at h
  rw [e] at h; exact h
theorem saidq_at : ∀ i : Fin 5, (⟨#[10, 9, 13, 34, 92]⟩ : ByteArray)[i.val].toNat = saidq i.val := by decide +kernel
theorem shortq_any (n : Nat) (w : World) :
    Calls Try.prog 59 #[.string ⟨#[110, 116, 114, 34, 92]⟩, .int .u8 n] w fun e w' => e = .returned (.int .i64 (shortq n)) ∧ w' = w := idx_any _ n w
set_option maxRecDepth 100000 in
set_option maxHeartbeats 2000000 in
theorem rdq_any (x : ByteArray) (w : World) :
    Calls Try.prog 65 #[.string x, .string ⟨#[110, 116, 114, 34, 92]⟩, .string ⟨#[10, 9, 13, 34, 92]⟩] w fun e w' => e = .returned (.tuple #[.int .u8 (rdq x).1, .int .i64 (rdq x).2]) ∧ ∃ nq, w' = w.drewN nq := by
  have H : Hid (rdq x = _) := rdq.eq_1 x
  by_cases h1 : x.size < 2
  · rw [if_pos (Or.inl h1)] at H
    have h1' : (x.size : Int) < 2 := by omega
    rw [show rdq x = _ from H]
    clear H
    go_enter Try.func65, Try.ntmps65
    go_wp2
    exact bodyPost_ret (v := .tuple #[.int .u8 0, .int .i64 0]) (by simp [results, Try.results65, go_sem]) rfl ⟨rfl, 0, rfl⟩
  have k0 : 0 < x.size := by omega
  have k1 : 1 < x.size := by omega
  have b0 := bt_eq x 0 k0
  by_cases h2 : bt x 0 = 92
  · rw [if_neg (by simp [h1, h2])] at H
    rw [h2] at b0
    have b1 := bt_eq x 1 k1
    have HS : Hid _ := fun w => shortq_any (bt x 1) w
    have hs := shortq_bd (bt x 1)
    have hl := bt_lt x 1
    by_cases h3 : 0 ≤ shortq (bt x 1)
    · rw [if_pos h3] at H
      obtain ⟨i, he⟩ := Int.eq_ofNat_of_zero_le h3
      rw [he] at HS H hs
      have sa := saidq_at ⟨i, by omega⟩
      simp only [Int.toNat_natCast] at H
      rw [show rdq x = _ from H]
      clear H he h3
      have hi : i < 5 := by omega
      go_enter Try.func65, Try.ntmps65
      go_wp2_with (go_at_call 59; refine (HS.out _).mono ?_; rintro e w' ⟨rfl, rfl⟩)
      exact bodyPost_ret (v := .tuple #[.int .u8 (saidq i), .int .i64 2]) (by simp [results, Try.results65, go_sem]) rfl ⟨rfl, 0, rfl⟩
    · rw [if_neg h3] at H
      by_cases h4 : x.size < 4
      · rw [if_pos (Or.inl h4)] at H
        rw [show rdq x = _ from H]
        clear H
        go_enter Try.func65, Try.ntmps65
        go_wp2_with (go_at_call 59; refine (HS.out _).mono ?_; rintro e w' ⟨rfl, rfl⟩)
        exact bodyPost_ret (v := .tuple #[.int .u8 0, .int .i64 0]) (by simp [results, Try.results65, go_sem]) rfl ⟨rfl, 0, rfl⟩
      · by_cases h5 : bt x 1 = 120
        · rw [if_neg (by simp [h4, h5])] at H
          have b2 := bt_eq x 2 (by omega)
          have b3 := bt_eq x 3 (by omega)
          have k2 : 2 < x.size := by omega
          have k3 : 3 < x.size := by omega
          have HD2 : Hid _ := fun w => digit_any (bt x 2) w (bt_lt x 2)
          have HD3 : Hid _ := fun w => digit_any (bt x 3) w (bt_lt x 3)
          rw [h5] at HS
          have l2 := dig_lo (bt x 2)
          have l3 := dig_lo (bt x 3)
          have u2 := dig_hi (bt x 2)
          have u3 := dig_hi (bt x 3)
          generalize dig (bt x 2) = d2 at *
          generalize dig (bt x 3) = d3 at *
          have k2i : (2 : Int) < x.size := by omega
          have k3i : (3 : Int) < x.size := by omega
          by_cases h6 : d2 < 0
          · rw [if_pos (Or.inl h6)] at H
            rw [show rdq x = _ from H]
            clear H
            go_enter Try.func65, Try.ntmps65
            go_wp2_with (go_at_call 59; refine (HS.out _).mono ?_; rintro e w' ⟨rfl, rfl⟩)
            go_quiet (first | (go_at_call_of 83 (bt x 2); exact Calls.quiet_of_same (HD2.out _)) | (go_at_call_of 83 (bt x 3); exact Calls.quiet_of_same (HD3.out _)))
            go_wp2
            exact bodyPost_ret (v := .tuple #[.int .u8 0, .int .i64 0]) (by simp [results, Try.results65, go_sem]) rfl ⟨rfl, nq, rfl⟩
          · by_cases h7 : d3 < 0
            · rw [if_pos (Or.inr h7)] at H
              rw [show rdq x = _ from H]
              clear H
              go_enter Try.func65, Try.ntmps65
              go_wp2_with (go_at_call 59; refine (HS.out _).mono ?_; rintro e w' ⟨rfl, rfl⟩)
              go_quiet (first | (go_at_call_of 83 (bt x 2); exact Calls.quiet_of_same (HD2.out _)) | (go_at_call_of 83 (bt x 3); exact Calls.quiet_of_same (HD3.out _)))
              go_wp2
              exact bodyPost_ret (v := .tuple #[.int .u8 0, .int .i64 0]) (by simp [results, Try.results65, go_sem]) rfl ⟨rfl, nq, rfl⟩
            · rw [if_neg (by omega)] at H
              obtain ⟨e2, rfl⟩ := Int.eq_ofNat_of_zero_le (show 0 ≤ d2 by omega)
              obtain ⟨e3, rfl⟩ := Int.eq_ofNat_of_zero_le (show 0 ≤ d3 by omega)
              simp only [Int.toNat_natCast] at H
              rw [show rdq x = _ from H]
              clear H
              go_enter Try.func65, Try.ntmps65
              go_wp2_with (go_at_call 59; refine (HS.out _).mono ?_; rintro e w' ⟨rfl, rfl⟩)
              go_quiet (first | (go_at_call_of 83 (bt x 2); exact Calls.quiet_of_same (HD2.out _)) | (go_at_call_of 83 (bt x 3); exact Calls.quiet_of_same (HD3.out _)))
              go_wp2
              have q := or_hex ⟨e2, by omega⟩ ⟨e3, by omega⟩
              exact bodyPost_ret (v := .tuple #[.int .u8 ((e2 * 16 + e3 : Nat) : Int), .int .i64 4]) (by simp only [← q]; simp [results, Try.results65, go_sem]) rfl ⟨rfl, nq, rfl⟩
        · rw [if_pos (Or.inr h5)] at H
          rw [show rdq x = _ from H]
          clear H
          have b2 : ((bt x 1 : Int) != 120) = true := by simp; omega
          go_enter Try.func65, Try.ntmps65
          go_wp2_with (go_at_call 59; refine (HS.out _).mono ?_; rintro e w' ⟨rfl, rfl⟩)
          exact bodyPost_ret (v := .tuple #[.int .u8 0, .int .i64 0]) (by simp [results, Try.results65, go_sem]) rfl ⟨rfl, 0, rfl⟩
  · rw [if_pos (Or.inr h2)] at H
    rw [show rdq x = _ from H]
    clear H
    have b2 : ((bt x 0 : Int) != 92) = true := by simp; omega
    go_enter Try.func65, Try.ntmps65
    go_wp2
    exact bodyPost_ret (v := .tuple #[.int .u8 0, .int .i64 0]) (by simp [results, Try.results65, go_sem]) rfl ⟨rfl, 0, rfl⟩
end Go.Proofs.Ytbbmjnhbmcbehaa
