/- The document's own letter behind a backslash. -/
import Derived.Test.YtbbmjnhbmcbehaaM1
import Derived.Test.YtbbmjnhbmcbehaaQ1
namespace Go.Proofs.Ytbbmjnhbmcbehaa
open Go.RowKit

/-- What stands behind the backslash of a byte; 0: none. -/
def letq (n : Nat) : Nat := if n = 34 ∨ n = 92 then n else if n = 10 then 110 else if n = 9 then 116 else if n = 13 then 114 else 0
set_option maxRecDepth 100000 in
set_option maxHeartbeats 1000000 in
theorem letter_any (n : Nat) (hn : n < 256) (w : World) : Calls Try.prog 42 #[.int .u8 n] w fun e w' => e = .returned (.int .u8 (letq n : Nat)) ∧ w' = w := by
  unfold letq
  by_cases h1 : n = 34
  · subst h1; go_enter Try.func42, Try.ntmps42; go_wp2; go_ret; exact ⟨rfl, rfl⟩
  by_cases h2 : n = 92
  · subst h2; go_enter Try.func42, Try.ntmps42; go_wp2; go_ret; exact ⟨rfl, rfl⟩
  by_cases h3 : n = 10
  · subst h3; go_enter Try.func42, Try.ntmps42; go_wp2; go_ret; exact ⟨rfl, rfl⟩
  by_cases h4 : n = 9
  · subst h4; go_enter Try.func42, Try.ntmps42; go_wp2; go_ret; exact ⟨rfl, rfl⟩
  by_cases h5 : n = 13
  · subst h5; go_enter Try.func42, Try.ntmps42; go_wp2; go_ret; exact ⟨rfl, rfl⟩
  rw [if_neg (by omega), if_neg h3, if_neg h4, if_neg h5]
  have h1' : ¬ (n : Int) = 34 := by omega
  have h2' : ¬ (n : Int) = 92 := by omega
  have h3' : ¬ (n : Int) = 10 := by omega
  have h4' : ¬ (n : Int) = 9 := by omega
  have h5' : ¬ (n : Int) = 13 := by omega
  go_enter Try.func42, Try.ntmps42
  go_wp2
  go_ret
  exact ⟨rfl, rfl⟩
/-- The letter and the sign of a byte in quotes are of one mind. -/
theorem letq_sign : ∀ n : Fin 256, signq n.val = if letq n.val ≠ 0 then [92, UInt8.ofNat (letq n.val)] else if 32 ≤ n.val ∧ n.val ≤ 126 then [UInt8.ofNat n.val] else [92, 120, hexd (n.val / 16), hexd (n.val % 16)] := by decide +kernel
end Go.Proofs.Ytbbmjnhbmcbehaa
