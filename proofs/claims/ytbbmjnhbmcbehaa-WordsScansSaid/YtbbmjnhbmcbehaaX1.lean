/- Reading a sign: escape.digit and escape.Read at the signs of sets, at every text. -/
import Derived.Test.YtbbmjnhbmcbehaaW5
import Derived.Deep.RegionHeld3
import Derived.Deep.DrawnRows
namespace Go.Proofs.Ytbbmjnhbmcbehaa
open Go.RowKit

/-- What a hexadecimal digit says; -1: it is none. -/
def dig (n : Nat) : Int := if 48 ≤ n ∧ n ≤ 57 then (n : Int) - 48 else if 97 ≤ n ∧ n ≤ 102 then (n : Int) - 87 else if 65 ≤ n ∧ n ≤ 70 then (n : Int) - 55 else -1
theorem dig_lo (n : Nat) : -1 ≤ dig n := by unfold dig; split <;> (try split) <;> (try split) <;> omega
theorem dig_hi (n : Nat) : dig n < 16 := by unfold dig; split <;> (try split) <;> (try split) <;> omega
set_option maxRecDepth 100000 in
set_option maxHeartbeats 1000000 in
theorem digit_any (n : Nat) (w : World) (hn : n < 256) :
    Calls Try.prog 83 #[.int .u8 n] w fun e w' => e = .returned (.int .i64 (dig n)) ∧ w' = w := by
  have H : Hid (dig n = if 48 ≤ n ∧ n ≤ 57 then (n : Int) - 48 else if 97 ≤ n ∧ n ≤ 102 then (n : Int) - 87 else if 65 ≤ n ∧ n ≤ 70 then (n : Int) - 55 else -1) := rfl
  go_enter Try.func83, Try.ntmps83
  go_wp2
  all_goals go_ret
  all_goals (refine ⟨ret_int ?_, rfl⟩; rw [H.out]; repeat' split)
  all_goals omega
/-- The byte at a place of a text (0 behind its end). -/
def bt (x : ByteArray) (i : Nat) : Nat := (x.data.getD i 0).toNat
theorem bt_eq (x : ByteArray) (i : Nat) (h : i < x.size) : x[i].toNat = bt x i := by
  unfold bt; rw [Array.getD_eq_getD_getElem?, Array.getElem?_eq_getElem h]; rfl
theorem bt_lt (x : ByteArray) (i : Nat) : bt x i < 256 := UInt8.toNat_lt _
/-- Which of the short signs' letters a byte is; -1: it is none. -/
def short (n : Nat) : Int := Lib.indexByte [110, 116, 114, 115, 91, 93, 92, 45, 94] n.toUInt8
def saidB (i : Nat) : Nat := [10, 9, 13, 32, 91, 93, 92, 45, 94].getD i 0
theorem short_bd (n : Nat) : short n < 9 := by
  have : ∀ c : Fin 256, Lib.indexByte [110, 116, 114, 115, 91, 93, 92, 45, 94] (UInt8.ofNat c.val) < 9 := by decide +kernel
  have h := this ⟨n % 256, Nat.mod_lt _ (by omega)⟩
  have e : UInt8.ofNat (n % 256) = UInt8.ofNat n := by
    apply UInt8.toNat_inj.1; simp
  simp only at h
  rw [e] at h; exact h
theorem said_at : ∀ i : Fin 9, (⟨#[10, 9, 13, 32, 91, 93, 92, 45, 94]⟩ : ByteArray)[i.val].toNat = saidB i.val := by decide +kernel
def rdr (x : ByteArray) : Nat × Nat :=
  if x.size < 2 ∨ bt x 0 ≠ 92 then (0, 0)
  else if 0 ≤ short (bt x 1) then (saidB (short (bt x 1)).toNat, 2)
  else if x.size < 4 ∨ bt x 1 ≠ 120 then (0, 0)
  else if dig (bt x 2) < 0 ∨ dig (bt x 3) < 0 then (0, 0)
  else ((dig (bt x 2)).toNat * 16 + (dig (bt x 3)).toNat, 4)
theorem Below.of_drewN (w : World) (n : Nat) : Below w.heap.size w (w.drewN n) := ⟨rfl, rfl, rfl, Nat.le_refl _, fun _ _ => rfl⟩
theorem or_hex : ∀ a b : Fin 16, bits .or .i64 ((a.val : Int) * 16) (b.val : Int) % 256 = ((a.val * 16 + b.val : Nat) : Int) := by decide +kernel
theorem short_any (n : Nat) (w : World) :
    Calls Try.prog 59 #[.string ⟨#[110, 116, 114, 115, 91, 93, 92, 45, 94]⟩, .int .u8 n] w fun e w' => e = .returned (.int .i64 (short n)) ∧ w' = w := idx_any _ n w
theorem ret_two {a b : Nat} {p : Nat × Nat} (h : p = (a, b)) : Ending.returned (.tuple #[.int .u8 (a : Int), .int .i64 (b : Int)]) = .returned (.tuple #[.int .u8 (p.1 : Int), .int .i64 (p.2 : Int)]) := by rw [h]
set_option maxRecDepth 100000 in
set_option maxHeartbeats 2000000 in
theorem read_any (x : ByteArray) (w : World) :
    Calls Try.prog 65 #[.string x, .string ⟨#[110, 116, 114, 115, 91, 93, 92, 45, 94]⟩, .string ⟨#[10, 9, 13, 32, 91, 93, 92, 45, 94]⟩] w fun e w' => e = .returned (.tuple #[.int .u8 (rdr x).1, .int .i64 (rdr x).2]) ∧ ∃ nq, w' = w.drewN nq := by
  have H : Hid (rdr x = _) := rdr.eq_1 x
  by_cases h1 : x.size < 2
  · rw [if_pos (Or.inl h1)] at H
    have h1' : (x.size : Int) < 2 := by omega
    rw [show rdr x = _ from H]
    clear H
    go_enter Try.func65, Try.ntmps65
    go_wp2
    exact bodyPost_ret (v := .tuple #[.int .u8 0, .int .i64 0]) (by simp [results, Try.results65, go_sem]) rfl ⟨rfl, 0, rfl⟩
  have k0 : 0 < x.size := by omega
  have k1 : 1 < x.size := by omega
  have b0 := bt_eq x 0 k0
  by_cases h2 : bt x 0 = 92
  · rw [if_neg (by simp [h1, h2])] at H
    rw [h2] at b0
    have b1 := bt_eq x 1 k1
    have HS : Hid _ := fun w => short_any (bt x 1) w
    have hs := short_bd (bt x 1)
    have hl := bt_lt x 1
    by_cases h3 : 0 ≤ short (bt x 1)
    · rw [if_pos h3] at H
      obtain ⟨i, he⟩ := Int.eq_ofNat_of_zero_le h3
      rw [he] at HS H hs
      have sa := said_at ⟨i, by omega⟩
      simp only [Int.toNat_natCast] at H
      rw [show rdr x = _ from H]
      clear H he h3
      have hi : i < 9 := by omega
      go_enter Try.func65, Try.ntmps65
      go_wp2_with (go_at_call 59; refine (HS.out _).mono ?_; rintro e w' ⟨rfl, rfl⟩)
      exact bodyPost_ret (v := .tuple #[.int .u8 (saidB i), .int .i64 2]) (by simp [results, Try.results65, go_sem]) rfl ⟨rfl, 0, rfl⟩
    · rw [if_neg h3] at H
      by_cases h4 : x.size < 4
      · rw [if_pos (Or.inl h4)] at H
        rw [show rdr x = _ from H]
        clear H
        go_enter Try.func65, Try.ntmps65
        go_wp2_with (go_at_call 59; refine (HS.out _).mono ?_; rintro e w' ⟨rfl, rfl⟩)
        exact bodyPost_ret (v := .tuple #[.int .u8 0, .int .i64 0]) (by simp [results, Try.results65, go_sem]) rfl ⟨rfl, 0, rfl⟩
      · by_cases h5 : bt x 1 = 120
        · rw [if_neg (by simp [h4, h5])] at H
          have b2 := bt_eq x 2 (by omega)
          have b3 := bt_eq x 3 (by omega)
          have k2 : 2 < x.size := by omega
          have k3 : 3 < x.size := by omega
          have HD2 : Hid _ := fun w => digit_any (bt x 2) w (bt_lt x 2)
          have HD3 : Hid _ := fun w => digit_any (bt x 3) w (bt_lt x 3)
          rw [h5] at HS
          have l2 := dig_lo (bt x 2)
          have l3 := dig_lo (bt x 3)
          have u2 := dig_hi (bt x 2)
          have u3 := dig_hi (bt x 3)
          generalize dig (bt x 2) = d2 at *
          generalize dig (bt x 3) = d3 at *
          have k2i : (2 : Int) < x.size := by omega
          have k3i : (3 : Int) < x.size := by omega
          by_cases h6 : d2 < 0
          · rw [if_pos (Or.inl h6)] at H
            rw [show rdr x = _ from H]
            clear H
            go_enter Try.func65, Try.ntmps65
            go_wp2_with (go_at_call 59; refine (HS.out _).mono ?_; rintro e w' ⟨rfl, rfl⟩)
            go_quiet (first | (go_at_call_of 83 (bt x 2); exact Calls.quiet_of_same (HD2.out _)) | (go_at_call_of 83 (bt x 3); exact Calls.quiet_of_same (HD3.out _)))
            go_wp2
            exact bodyPost_ret (v := .tuple #[.int .u8 0, .int .i64 0]) (by simp [results, Try.results65, go_sem]) rfl ⟨rfl, nq, rfl⟩
          · by_cases h7 : d3 < 0
            · rw [if_pos (Or.inr h7)] at H
              rw [show rdr x = _ from H]
              clear H
              go_enter Try.func65, Try.ntmps65
              go_wp2_with (go_at_call 59; refine (HS.out _).mono ?_; rintro e w' ⟨rfl, rfl⟩)
              go_quiet (first | (go_at_call_of 83 (bt x 2); exact Calls.quiet_of_same (HD2.out _)) | (go_at_call_of 83 (bt x 3); exact Calls.quiet_of_same (HD3.out _)))
              go_wp2
              exact bodyPost_ret (v := .tuple #[.int .u8 0, .int .i64 0]) (by simp [results, Try.results65, go_sem]) rfl ⟨rfl, nq, rfl⟩
            · rw [if_neg (by omega)] at H
              obtain ⟨e2, rfl⟩ := Int.eq_ofNat_of_zero_le (show 0 ≤ d2 by omega)
              obtain ⟨e3, rfl⟩ := Int.eq_ofNat_of_zero_le (show 0 ≤ d3 by omega)
              simp only [Int.toNat_natCast] at H
              rw [show rdr x = _ from H]
              clear H
              go_enter Try.func65, Try.ntmps65
              go_wp2_with (go_at_call 59; refine (HS.out _).mono ?_; rintro e w' ⟨rfl, rfl⟩)
              go_quiet (first | (go_at_call_of 83 (bt x 2); exact Calls.quiet_of_same (HD2.out _)) | (go_at_call_of 83 (bt x 3); exact Calls.quiet_of_same (HD3.out _)))
              go_wp2
              have q := or_hex ⟨e2, by omega⟩ ⟨e3, by omega⟩
              exact bodyPost_ret (v := .tuple #[.int .u8 ((e2 * 16 + e3 : Nat) : Int), .int .i64 4]) (by simp only [← q]; simp [results, Try.results65, go_sem]) rfl ⟨rfl, nq, rfl⟩
        · rw [if_pos (Or.inr h5)] at H
          rw [show rdr x = _ from H]
          clear H
          have b2 : ((bt x 1 : Int) != 120) = true := by simp; omega
          go_enter Try.func65, Try.ntmps65
          go_wp2_with (go_at_call 59; refine (HS.out _).mono ?_; rintro e w' ⟨rfl, rfl⟩)
          exact bodyPost_ret (v := .tuple #[.int .u8 0, .int .i64 0]) (by simp [results, Try.results65, go_sem]) rfl ⟨rfl, 0, rfl⟩
  · rw [if_pos (Or.inr h2)] at H
    rw [show rdr x = _ from H]
    clear H
    have b2 : ((bt x 0 : Int) != 92) = true := by simp; omega
    go_enter Try.func65, Try.ntmps65
    go_wp2
    exact bodyPost_ret (v := .tuple #[.int .u8 0, .int .i64 0]) (by simp [results, Try.results65, go_sem]) rfl ⟨rfl, 0, rfl⟩
end Go.Proofs.Ytbbmjnhbmcbehaa
