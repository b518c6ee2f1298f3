/- Leaves; plain leaves and nodes; places of a list. -/
import Derived.Test.YtlnlkbkmnkjbhaaDoorA0
import Derived.BigQuiet
import Derived.Deep.QuietTactic
namespace Go.Proofs.YtlnlkbkmnkjbhaaDoor
open Go.RowKit

set_option maxRecDepth 100000 in
set_option maxHeartbeats 4000000 in
theorem isLeaf_any (d : Tr) (sv : Value) (w : World) : Calls Tryd.prog 69 #[.agg #[.int .i64 d.rule, .int .u8 (d.byte.toNat : Int), sv]] w fun e w' => e = .returned (.bool (d.rule == -1)) ∧ Below w.heap.size w w' := by
  have hB : Below w.heap.size w (w.alloc (.cells #[.int .i64 d.rule, .int .u8 (d.byte.toNat : Int), sv] 27)) := (Below.refl _ _).alloc (Nat.le_refl _) _
  have hc : (w.alloc (.cells #[.int .i64 d.rule, .int .u8 (d.byte.toNat : Int), sv] 27)).cell? ⟨w.heap.size, 0, none⟩ = some (.int .i64 d.rule) := cell_new 0 rfl
  go_enter Tryd.func69, Tryd.ntmps69
  go_wp2
  go_ret
  exact ⟨rfl, hB⟩
set_option maxRecDepth 100000 in
set_option maxHeartbeats 4000000 in
theorem has_any (a : Option Addr) (n c : Nat) (k : Int) (w : World) : Calls Tryd.prog 70 #[.slice a n c, .int .i64 k] w fun e w' => e = .returned (.bool (decide (0 ≤ k) && decide (k < n))) ∧ w' = w := by
  by_cases h : 0 ≤ k
  · have h2 : (decide (0 ≤ k) && decide (k < n)) = decide (k < n) := by simp [h]
    rw [h2]
    go_enter Tryd.func70, Tryd.ntmps70
    go_wp2
    go_ret
    exact ⟨rfl, rfl⟩
  · have h1 : decide (0 ≤ k) = false := by simpa using h
    rw [h1]
    go_enter Tryd.func70, Tryd.ntmps70
    go_wp2
    go_ret
    exact ⟨rfl, rfl⟩
end Go.Proofs.YtlnlkbkmnkjbhaaDoor
