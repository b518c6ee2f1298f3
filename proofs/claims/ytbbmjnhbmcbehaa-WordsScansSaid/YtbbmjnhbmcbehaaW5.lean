/- What the signs of a set's bytes are: isPlain, escape.Write at the signs of sets, and sign, at every byte. -/
import Derived.Test.YtbbmjnhbmcbehaaProg
import Derived.Test.YtbbmjnhbmcbehaaW2
import Derived.Lib.Bytealg
import Derived.RegionTactic
import Derived.ChangeAlike
import Derived.BigQuiet
namespace Go.Proofs.Ytbbmjnhbmcbehaa
open Go.RowKit

theorem ret_str {a b : ByteArray} (h : a = b) : Ending.returned (.string a) = .returned (.string b) := by rw [h]
set_option maxRecDepth 100000 in
set_option maxHeartbeats 400000 in
theorem idx_any (s : ByteArray) (n : Nat) (w : World) :
    Calls Try.prog 59 #[.string s, .int .u8 n] w fun e w' => e = .returned (.int .i64 (Lib.indexByte s.data.toList n.toUInt8)) ∧ w' = w := by
  go_enter Try.func59, Try.ntmps59
  go_wp2
  rw [run_callFunc_extern Try.func90 (by kernel_rfl) (by kernel_rfl) (by kernel_rfl) (e := Extern.BytealgIndexByte.indexByte) (by kernel_rfl), Lib.run_indexByteString]
  simp only [Result.andThen]
  rw [Oper.upon_value]
  go_wp2
  go_ret
  exact ⟨rfl, rfl⟩

def plain (n : Nat) : Bool := decide (33 ≤ n) && decide (n ≤ 126) && decide (Lib.indexByte [10, 9, 13, 32, 91, 93, 92, 45, 94] n.toUInt8 < 0)

set_option maxRecDepth 100000 in
set_option maxHeartbeats 400000 in
theorem plain_any (n : Nat) (w : World) (hn : n < 256) :
    Calls Try.prog 74 #[.int .u8 n] w fun e w' => e = .returned (.bool (plain n)) ∧ w' = w := by
  have H : Hid (plain n = (decide (33 ≤ n) && decide (n ≤ 126) && decide (Lib.indexByte [10, 9, 13, 32, 91, 93, 92, 45, 94] n.toUInt8 < 0))) := rfl
  by_cases h1 : 33 ≤ n
  · by_cases h2 : n ≤ 126
    · go_enter Try.func74, Try.ntmps74
      go_wp2_with (go_at_call 59; refine (idx_any _ _ _).mono ?_; rintro e w' ⟨rfl, rfl⟩)
      go_ret
      refine ⟨ret_bool ?_, rfl⟩
      rw [H.out]; simp [h1, h2]
    · go_enter Try.func74, Try.ntmps74
      go_wp2
      go_ret
      refine ⟨ret_bool ?_, rfl⟩
      rw [H.out]; simp [h1, h2]
  · go_enter Try.func74, Try.ntmps74
    go_wp2
    go_ret
    refine ⟨ret_bool ?_, rfl⟩
    rw [H.out]; simp [h1]

theorem spec_le (n : Nat) : Lib.indexByte [10, 9, 13, 32, 91, 93, 92, 45, 94] n.toUInt8 < 9 := by
  have : ∀ c : Fin 256, Lib.indexByte [10, 9, 13, 32, 91, 93, 92, 45, 94] (UInt8.ofNat c.val) < 9 := by decide +kernel
  have h := this ⟨n % 256, Nat.mod_lt _ (by omega)⟩
  have e : UInt8.ofNat (n % 256) = UInt8.ofNat n := by
    apply UInt8.toNat_inj.1; simp
  simp only at h
  rw [e] at h; exact h
def hexd (k : Nat) : UInt8 := if k < 10 then UInt8.ofNat (48 + k) else UInt8.ofNat (87 + k)
def shortL (i : Nat) : UInt8 := [110, 116, 114, 115, 91, 93, 92, 45, 94].getD i 0
def escL (n : Nat) : List UInt8 := if Lib.indexByte [10, 9, 13, 32, 91, 93, 92, 45, 94] n.toUInt8 < 0 then [92, 120, hexd (n / 16), hexd (n % 16)] else [92, shortL (Lib.indexByte [10, 9, 13, 32, 91, 93, 92, 45, 94] n.toUInt8).toNat]
theorem esc_short : ∀ i : Fin 9, (⟨#[92]⟩ : ByteArray) ++ (⟨#[110, 116, 114, 115, 91, 93, 92, 45, 94]⟩ : ByteArray).extract i.val (i.val + 1) = ⟨#[92, shortL i.val]⟩ := by decide +kernel
theorem esc_hex : ∀ n : Fin 256, (⟨#[92, 120]⟩ : ByteArray) ++ (⟨#[48, 49, 50, 51, 52, 53, 54, 55, 56, 57, 97, 98, 99, 100, 101, 102]⟩ : ByteArray).extract (n.val / 16) (n.val / 16 + 1) ++ (⟨#[48, 49, 50, 51, 52, 53, 54, 55, 56, 57, 97, 98, 99, 100, 101, 102]⟩ : ByteArray).extract (n.val % 16) (n.val % 16 + 1) = ⟨#[92, 120, hexd (n.val / 16), hexd (n.val % 16)]⟩ := by decide +kernel
theorem and15 (n : Nat) (h : n < 256) : bits .and .u8 (n : Int) 15 = (n : Int) % 16 := by
  have := u8_and_nat n 15 h (by decide)
  rw [show ((15 : Nat) : Int) = 15 from rfl] at this
  rw [this, nat_mask4]; simp
set_option maxRecDepth 100000 in
set_option maxHeartbeats 400000 in
theorem esc_any (n : Nat) (w : World) (hn : n < 256) :
    Calls Try.prog 40 #[.int .u8 n, .string ⟨#[110, 116, 114, 115, 91, 93, 92, 45, 94]⟩, .string ⟨#[10, 9, 13, 32, 91, 93, 92, 45, 94]⟩] w fun e w' => e = .returned (.string ⟨(escL n).toArray⟩) ∧ ∃ nq, w' = w.drewN nq := by
  have hs := spec_le n
  have HI : Hid (∀ w, Calls Try.prog 59 #[.string ⟨#[10, 9, 13, 32, 91, 93, 92, 45, 94]⟩, .int .u8 n] w fun e w' => e = .returned (.int .i64 (Lib.indexByte [10, 9, 13, 32, 91, 93, 92, 45, 94] n.toUInt8)) ∧ w' = w) := fun w => idx_any _ n w
  by_cases hi : 0 ≤ Lib.indexByte [10, 9, 13, 32, 91, 93, 92, 45, 94] n.toUInt8
  · have H : Hid (escL n = [92, shortL (Lib.indexByte [10, 9, 13, 32, 91, 93, 92, 45, 94] n.toUInt8).toNat]) := by
      show _ = _
      unfold escL; rw [if_neg (by omega)]
    obtain ⟨i, he⟩ := Int.eq_ofNat_of_zero_le hi
    rw [he] at HI H hs
    have H2 : Hid _ := esc_short ⟨i, by omega⟩
    clear he hi
    go_enter Try.func40, Try.ntmps40
    go_wp2_with (go_at_call 59; refine (HI.out _).mono ?_; rintro e w' ⟨rfl, rfl⟩)
    go_ret
    refine ⟨ret_str ?_, 0, rfl⟩
    rw [H.out, H2.out]; simp
  · have H : Hid (escL n = [92, 120, hexd (n / 16), hexd (n % 16)]) := by
      show _ = _
      unfold escL; rw [if_pos (by omega)]
    have H2 : Hid _ := esc_hex ⟨n, hn⟩
    have q1 : (0 : Int) ≤ (n : Int) / 16 := by omega
    have q2 : (n : Int) / 16 + 1 ≤ 16 := by omega
    have q3 : (0 : Int) ≤ (n : Int) % 16 := by omega
    have q4 : (n : Int) % 16 + 1 ≤ 16 := by omega
    have q5 := and15 n hn
    have hi' : Lib.indexByte [10, 9, 13, 32, 91, 93, 92, 45, 94] n.toUInt8 < 0 := by omega
    generalize Lib.indexByte [10, 9, 13, 32, 91, 93, 92, 45, 94] n.toUInt8 = i at *
    go_enter Try.func40, Try.ntmps40
    go_wp2_with (go_at_call 59; refine (HI.out _).mono ?_; rintro e w' ⟨rfl, rfl⟩)
    go_quiet (fail)
    go_wp2
    go_ret
    refine ⟨ret_str ?_, nq, rfl⟩
    rw [H.out, H2.out]

theorem utf_one : ∀ k : Fin 127, Utf8.encode (k.val : Int) = ⟨#[UInt8.ofNat k.val]⟩ := by decide +kernel
def signL (n : Nat) : List UInt8 := if plain n then [UInt8.ofNat n] else escL n
set_option maxRecDepth 100000 in
set_option maxHeartbeats 400000 in
theorem sign_any (n : Nat) (w : World) (hn : n < 256) :
    Calls Try.prog 52 #[.int .i64 n] w fun e w' => e = .returned (.string ⟨(signL n).toArray⟩) ∧ ∃ nq, w' = w.drewN nq := by
  have HP : Hid _ := fun w => plain_any n w hn
  have HE : Hid _ := fun w => esc_any n w hn
  cases hp : plain n with
  | false =>
    have H : Hid (signL n = escL n) := by show _ = _; unfold signL; simp [hp]
    rw [hp] at HP
    go_enter Try.func52, Try.ntmps52
    go_wp2_with (first | (go_at_call 74; refine (HP.out _).mono ?_; rintro e w' ⟨rfl, rfl⟩) | (go_at_call 40; refine (HE.out _).mono ?_; rintro e w' ⟨rfl, nq, rfl⟩))
    go_ret
    exact ⟨ret_str (by rw [H.out]), nq, rfl⟩
  | true =>
    have H : Hid (signL n = [UInt8.ofNat n]) := by show _ = _; unfold signL; simp [hp]
    have hr : 33 ≤ n ∧ n ≤ 126 := by
      unfold plain at hp; simp at hp; omega
    rw [hp] at HP
    go_enter Try.func52, Try.ntmps52
    go_wp2_with (first | (go_at_call 74; refine (HP.out _).mono ?_; rintro e w' ⟨rfl, rfl⟩))
    go_ret
    exact ⟨ret_str (by rw [H.out]; exact utf_one ⟨n, by omega⟩), 0, rfl⟩

end Go.Proofs.Ytbbmjnhbmcbehaa
