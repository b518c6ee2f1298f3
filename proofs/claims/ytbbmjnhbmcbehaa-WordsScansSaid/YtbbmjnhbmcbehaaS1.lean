/- The document's own signs of bytes: special and Sign, at every byte. -/
import Derived.Test.YtbbmjnhbmcbehaaW5
import Derived.Test.YtbbmjnhbmcbehaaW4
import Derived.Laws.BytesArg
import Derived.BigQuiet
namespace Go.Proofs.Ytbbmjnhbmcbehaa
open Go.RowKit

def specL : List (Nat × Nat) := [(10, 110), (9, 116), (13, 114), (32, 115), (91, 91), (93, 93), (92, 92), (45, 45), (94, 94)]
def spec (n : Nat) : Nat := ((specL.find? fun p => p.1 == n).map (·.2)).getD 0
set_option maxRecDepth 100000 in
set_option maxHeartbeats 400000 in
theorem spec_10 (w : World) : Calls Try.prog 92 #[.int .i64 10] w fun e w' => e = .returned (.int .u8 110) ∧ w' = w := by
  go_enter Try.func92, Try.ntmps92
  go_wp2
  go_ret
  exact ⟨rfl, rfl⟩
set_option maxRecDepth 100000 in
set_option maxHeartbeats 400000 in
theorem spec_9 (w : World) : Calls Try.prog 92 #[.int .i64 9] w fun e w' => e = .returned (.int .u8 116) ∧ w' = w := by
  go_enter Try.func92, Try.ntmps92
  go_wp2
  go_ret
  exact ⟨rfl, rfl⟩
set_option maxRecDepth 100000 in
set_option maxHeartbeats 400000 in
theorem spec_13 (w : World) : Calls Try.prog 92 #[.int .i64 13] w fun e w' => e = .returned (.int .u8 114) ∧ w' = w := by
  go_enter Try.func92, Try.ntmps92
  go_wp2
  go_ret
  exact ⟨rfl, rfl⟩
set_option maxRecDepth 100000 in
set_option maxHeartbeats 400000 in
theorem spec_32 (w : World) : Calls Try.prog 92 #[.int .i64 32] w fun e w' => e = .returned (.int .u8 115) ∧ w' = w := by
  go_enter Try.func92, Try.ntmps92
  go_wp2
  go_ret
  exact ⟨rfl, rfl⟩
set_option maxRecDepth 100000 in
set_option maxHeartbeats 400000 in
theorem spec_91 (w : World) : Calls Try.prog 92 #[.int .i64 91] w fun e w' => e = .returned (.int .u8 91) ∧ w' = w := by
  go_enter Try.func92, Try.ntmps92
  go_wp2
  go_ret
  exact ⟨rfl, rfl⟩
set_option maxRecDepth 100000 in
set_option maxHeartbeats 400000 in
theorem spec_93 (w : World) : Calls Try.prog 92 #[.int .i64 93] w fun e w' => e = .returned (.int .u8 93) ∧ w' = w := by
  go_enter Try.func92, Try.ntmps92
  go_wp2
  go_ret
  exact ⟨rfl, rfl⟩
set_option maxRecDepth 100000 in
set_option maxHeartbeats 400000 in
theorem spec_92 (w : World) : Calls Try.prog 92 #[.int .i64 92] w fun e w' => e = .returned (.int .u8 92) ∧ w' = w := by
  go_enter Try.func92, Try.ntmps92
  go_wp2
  go_ret
  exact ⟨rfl, rfl⟩
set_option maxRecDepth 100000 in
set_option maxHeartbeats 400000 in
theorem spec_45 (w : World) : Calls Try.prog 92 #[.int .i64 45] w fun e w' => e = .returned (.int .u8 45) ∧ w' = w := by
  go_enter Try.func92, Try.ntmps92
  go_wp2
  go_ret
  exact ⟨rfl, rfl⟩
set_option maxRecDepth 100000 in
set_option maxHeartbeats 400000 in
theorem spec_94 (w : World) : Calls Try.prog 92 #[.int .i64 94] w fun e w' => e = .returned (.int .u8 94) ∧ w' = w := by
  go_enter Try.func92, Try.ntmps92
  go_wp2
  go_ret
  exact ⟨rfl, rfl⟩
set_option maxRecDepth 100000 in
set_option maxHeartbeats 400000 in
theorem spec_none (n : Nat) (w : World) (h : n ≠ 10 ∧ n ≠ 9 ∧ n ≠ 13 ∧ n ≠ 32 ∧ n ≠ 91 ∧ n ≠ 93 ∧ n ≠ 92 ∧ n ≠ 45 ∧ n ≠ 94) : Calls Try.prog 92 #[.int .i64 n] w fun e w' => e = .returned (.int .u8 0) ∧ w' = w := by
  have e10 : ((n : Int) == 10) = false := by rw [beq_eq_false_iff_ne]; omega
  have e9 : ((n : Int) == 9) = false := by rw [beq_eq_false_iff_ne]; omega
  have e13 : ((n : Int) == 13) = false := by rw [beq_eq_false_iff_ne]; omega
  have e32 : ((n : Int) == 32) = false := by rw [beq_eq_false_iff_ne]; omega
  have e91 : ((n : Int) == 91) = false := by rw [beq_eq_false_iff_ne]; omega
  have e93 : ((n : Int) == 93) = false := by rw [beq_eq_false_iff_ne]; omega
  have e92 : ((n : Int) == 92) = false := by rw [beq_eq_false_iff_ne]; omega
  have e45 : ((n : Int) == 45) = false := by rw [beq_eq_false_iff_ne]; omega
  have e94 : ((n : Int) == 94) = false := by rw [beq_eq_false_iff_ne]; omega
  clear h
  go_enter Try.func92, Try.ntmps92
  go_wp2
  go_ret
  exact ⟨rfl, rfl⟩
theorem spec_zero : ∀ n : Fin 256, (n.val ≠ 10 ∧ n.val ≠ 9 ∧ n.val ≠ 13 ∧ n.val ≠ 32 ∧ n.val ≠ 91 ∧ n.val ≠ 93 ∧ n.val ≠ 92 ∧ n.val ≠ 45 ∧ n.val ≠ 94) → spec n.val = 0 := by decide +kernel
theorem spec_any (n : Nat) (w : World) (hn : n < 256) : Calls Try.prog 92 #[.int .i64 n] w fun e w' => e = .returned (.int .u8 (spec n : Nat)) ∧ w' = w := by
  by_cases h10 : n = 10
  · subst h10; exact spec_10 w
  by_cases h9 : n = 9
  · subst h9; exact spec_9 w
  by_cases h13 : n = 13
  · subst h13; exact spec_13 w
  by_cases h32 : n = 32
  · subst h32; exact spec_32 w
  by_cases h91 : n = 91
  · subst h91; exact spec_91 w
  by_cases h93 : n = 93
  · subst h93; exact spec_93 w
  by_cases h92 : n = 92
  · subst h92; exact spec_92 w
  by_cases h45 : n = 45
  · subst h45; exact spec_45 w
  by_cases h94 : n = 94
  · subst h94; exact spec_94 w
  have h : n ≠ 10 ∧ n ≠ 9 ∧ n ≠ 13 ∧ n ≠ 32 ∧ n ≠ 91 ∧ n ≠ 93 ∧ n ≠ 92 ∧ n ≠ 45 ∧ n ≠ 94 := ⟨h10, h9, h13, h32, h91, h93, h92, h45, h94⟩
  have := spec_zero ⟨n, hn⟩ h
  simp only at this
  rw [this]
  exact spec_none n w h

theorem sign_cases : ∀ n : Fin 256, (spec n.val ≠ 0 → spec n.val < 256 ∧ signL n.val = [92, UInt8.ofNat (spec n.val)]) ∧ (spec n.val = 0 → 32 < n.val → n.val < 127 → signL n.val = [UInt8.ofNat n.val]) ∧ (spec n.val = 0 → ¬ (32 < n.val ∧ n.val < 127) → signL n.val = [92, 120, hexd (n.val / 16), hexd (n.val % 16)]) := by decide +kernel
theorem conv2 (x y : Nat) (W : World) : (convert 30 9 (.slice (some ⟨W.heap.size, 0, none⟩) 2 2)).run Try.prog (W.alloc (.cells #[.int .u8 x, .int .u8 y] 5)) = .ok (.string ⟨#[UInt8.ofNat x, UInt8.ofNat y]⟩) (W.alloc (.cells #[.int .u8 x, .int .u8 y] 5)) := by
  rw [run_convert_bytes_arg _ 30 5 Try.underlying30 Try.underlying5 W.heap.size 0 2 2 [(x : Int), (y : Int)] rfl (fun i hi => by
    match i, hi with
    | 0, _ => simp
    | 1, _ => simp) 9 Try.underlying9]
  simp [strOfNums]
theorem conv1 (x : Nat) (W : World) : (convert 30 9 (.slice (some ⟨W.heap.size, 0, none⟩) 1 1)).run Try.prog (W.alloc (.cells #[.int .u8 x] 5)) = .ok (.string ⟨#[UInt8.ofNat x]⟩) (W.alloc (.cells #[.int .u8 x] 5)) := by
  rw [run_convert_bytes_arg _ 30 5 Try.underlying30 Try.underlying5 W.heap.size 0 1 1 [(x : Int)] rfl (fun i hi => by
    match i, hi with
    | 0, _ => simp) 9 Try.underlying9]
  simp [strOfNums]
theorem conv4d (x y : Nat) (W : World) : (convert 30 9 (.slice (some ⟨W.heap.size, 0, none⟩) 4 4)).run Try.prog (W.alloc (.cells #[.int .u8 92, .int .u8 120, .int .u8 (x : Int), .int .u8 (y : Int)] 5)).drew = .ok (.string ⟨#[92, 120, UInt8.ofNat x, UInt8.ofNat y]⟩) (W.alloc (.cells #[.int .u8 92, .int .u8 120, .int .u8 (x : Int), .int .u8 (y : Int)] 5)).drew := by
  rw [run_convert_bytes_arg _ 30 5 Try.underlying30 Try.underlying5 W.heap.size 0 4 4 [(92 : Int), 120, (x : Int), (y : Int)] rfl (fun i hi => by
    match i, hi with
    | 0, _ => simp
    | 1, _ => simp
    | 2, _ => simp
    | 3, _ => simp) 9 Try.underlying9]
  simp [strOfNums]
theorem dig16 : ∀ k : Fin 16, UInt8.ofNat ((⟨#[48, 49, 50, 51, 52, 53, 54, 55, 56, 57, 97, 98, 99, 100, 101, 102]⟩ : ByteArray)[k.val]'(k.isLt)).toNat = hexd k.val := by decide +kernel
theorem dig16n (k : Nat) (h : k < 16) : UInt8.ofNat ((⟨#[48, 49, 50, 51, 52, 53, 54, 55, 56, 57, 97, 98, 99, 100, 101, 102]⟩ : ByteArray)[k]'h).toNat = hexd k := dig16 ⟨k, h⟩
end Go.Proofs.Ytbbmjnhbmcbehaa
