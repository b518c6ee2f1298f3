/- The document's own names. -/
import Derived.Test.YtlkcadibjmfmcaaDoorNc
namespace Go.Proofs.YtlkcadibjmfmcaaDoor
open Go.RowKit

def cls (n : Nat) : Nat := if great n then 1 else if small n then 2 else if digB n then 3 else 0
theorem cls_pos (n : Nat) : decide (0 < cls n) = alnum n := by
  unfold cls alnum
  cases great n <;> cases small n <;> cases digB n <;> decide
theorem cls_one (n : Nat) : decide (cls n = 1) = great n := by
  unfold cls
  cases great n <;> cases small n <;> cases digB n <;> decide
theorem cls_two (n : Nat) : decide (cls n = 2) = small n := by
  unfold cls
  cases h : great n
  · cases small n <;> cases digB n <;> decide
  · have : small n = false := by unfold great at h; unfold small; simp at *; omega
    rw [this]; simp
set_option maxRecDepth 100000 in
set_option maxHeartbeats 1000000 in
theorem cls_any (n : Nat) (w : World) : Calls Tryd.prog 76 #[.int .u8 n] w fun e w' => e = .returned (.int .i64 (cls n)) ∧ w' = w := by
  have H : Hid (cls n = if (65 ≤ n ∧ n ≤ 90) then 1 else if (97 ≤ n ∧ n ≤ 122) then 2 else if (48 ≤ n ∧ n ≤ 57) then 3 else 0) := by
    show _ = _
    unfold cls great small digB
    simp only [Bool.and_eq_true, decide_eq_true_eq]
  go_enter Tryd.func76, Tryd.ntmps76
  go_wp2
  all_goals go_ret
  all_goals (refine ⟨ret_int ?_, rfl⟩; rw [H.out])
  all_goals (repeat' split)
  all_goals omega
set_option maxRecDepth 100000 in
set_option maxHeartbeats 1000000 in
theorem far_any (x : ByteArray) (i : Nat) (w : World) (hx : x.size ≤ 9223372036854775807) (hi : i ≤ x.size) : Calls Tryd.prog 77 #[.string x, .int .i64 i] w fun e w' => e = .returned (.int .i64 ((i + lspan alnum (x.data.toList.drop i) : Nat) : Int)) ∧ w' = w := by
  obtain ⟨R, hR⟩ : ∃ R, i + lspan alnum (x.data.toList.drop i) = R := ⟨_, rfl⟩
  rw [hR]
  have hxi : (x.size : Int) ≤ 9223372036854775807 := by omega
  go_enter Tryd.func77, Tryd.ntmps77
  go_wp2
  go_loop [1] (fun v => ∃ k : Nat, k ≤ x.size ∧ v = .int .i64 k ∧ k + lspan alnum (x.data.toList.drop k) = R) (fun v => x.size - (intOf v).toNat)
  case atStart => exact ⟨i, hi, rfl, hR⟩
  case round =>
    clear hR hi
    obtain ⟨k, hk, rfl, hq⟩ := hrel
    by_cases hlt : k < x.size
    · have hlt' : (k : Int) < x.size := by omega
      have b0 := bt_eq x k hlt
      rw [drop_at x k hlt] at hq
      simp only [lspan, b0] at hq
      have HC : Hid _ := fun w => cls_any (bt x k) w
      have hcp := cls_pos (bt x k)
      generalize hal : alnum (bt x k) = a at *
      clear hal
      generalize cls (bt x k) = m at *
      have HQ : Hid _ := hq
      clear hq
      cases a
      · have hm : m = 0 := by simp at hcp; omega
        subst hm
        clear hcp
        rw [if_neg (by simp)] at HQ
        go_wp2_with (go_at_call 76; refine (HC.out _).mono ?_; rintro e w' ⟨rfl, rfl⟩)
        go_ret
        exact ⟨ret_int (by rw [← HQ.out]; rfl), rfl⟩
      · have hm : (0 : Int) < m := by simp at hcp; omega
        clear hcp
        rw [if_pos rfl] at HQ
        go_wp2_with (go_at_call 76; refine (HC.out _).mono ?_; rintro e w' ⟨rfl, rfl⟩)
        go_round
        case rel => exact ⟨k + 1, by omega, by go_num, by have := HQ.out; omega⟩
        case measure => simp [intOf]; omega
    · have hlt' : ¬ (k : Int) < x.size := by omega
      rw [drop_end x k (by omega)] at hq
      have HQ : Hid _ := hq
      clear hq
      go_wp2
      go_ret
      exact ⟨ret_int (by rw [← HQ.out]; rfl), rfl⟩
set_option maxRecDepth 100000 in
set_option maxHeartbeats 2000000 in
theorem rname_any (x : ByteArray) (w : World) : Calls Tryd.prog 58 #[.string x] w fun e w' => e = .returned (.bool (nameB great x.data.toList)) ∧ w' = w := by
  by_cases h0 : x.size = 0
  · obtain rfl := str_empty x h0
    go_enter Tryd.func58, Tryd.ntmps58
    go_wp2
    go_ret
    exact ⟨ret_bool (by decide), rfl⟩
  · have hnl : x.data.toList ≠ [] := by intro h; have := list_len x; rw [h] at this; exact h0 this.symm
    have k0 : 0 < x.size := by omega
    have k0' : (0 : Int) < x.size := by omega
    have b0 := bt_eq x 0 k0
    have HC : Hid _ := fun w => cls_any (bt x 0) w
    have hc1 := cls_one (bt x 0)
    have H : Hid (nameB great x.data.toList = (great (bt x 0) && whole x.data.toList)) := by show _ = _; unfold nameB; rw [bt_list]; simp [hnl]
    have H2 : Hid (whole x.data.toList = (decide (x.size ≤ 32) && decide (lspan alnum x.data.toList = x.size))) := by show _ = _; unfold whole; rw [list_len]
    rw [H2.out] at H
    clear H2
    generalize great (bt x 0) = g at *
    generalize cls (bt x 0) = m at *
    by_cases h1 : x.size ≤ 32
    · have h1' : (x.size : Int) ≤ 32 := by omega
      have HF : Hid _ := fun w => far_any x 0 w (by omega) (by omega)
      simp only [List.drop_zero, Nat.zero_add] at HF
      generalize lspan alnum x.data.toList = n at *
      cases g
      · have hm : ((m : Int) == 1) = false := by simp at hc1 ⊢; omega
        clear hc1
        go_enter Tryd.func58, Tryd.ntmps58
        go_wp2_with (go_at_call 76; refine (HC.out _).mono ?_; rintro e w' ⟨rfl, rfl⟩)
        go_ret
        exact ⟨ret_bool (by rw [H.out]; rfl), rfl⟩
      · have hm : m = 1 := by simpa using hc1
        subst hm
        clear hc1
        go_enter Tryd.func58, Tryd.ntmps58
        go_wp2_with (first | (go_at_call 76; refine (HC.out _).mono ?_; rintro e w' ⟨rfl, rfl⟩) | (go_at_call 77; refine (HF.out _).mono ?_; rintro e w' ⟨rfl, rfl⟩))
        go_ret
        refine ⟨ret_bool ?_, rfl⟩
        rw [H.out, Bool.eq_iff_iff]; simp [h1]; try omega
    · have h1' : ¬ (x.size : Int) ≤ 32 := by omega
      go_enter Tryd.func58, Tryd.ntmps58
      go_wp2
      go_ret
      exact ⟨ret_bool (by rw [H.out]; simp [h1]), rfl⟩
end Go.Proofs.YtlkcadibjmfmcaaDoor
