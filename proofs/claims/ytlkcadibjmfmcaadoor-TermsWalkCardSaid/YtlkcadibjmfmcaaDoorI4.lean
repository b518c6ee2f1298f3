/- The iterator over a term's parts. -/
import Derived.Test.YtlkcadibjmfmcaaDoorI3
namespace Go.Proofs.YtlkcadibjmfmcaaDoor
open Go.RowKit Go.Shelf

theorem ret_bool {a b : Bool} (h : a = b) : Ending.returned (.bool a) = .returned (.bool b) := by rw [h]
set_option maxHeartbeats 400000 in
theorem parts_any (p : Addr) (w : World) : Calls Tryd.prog 37 #[.pointer (some p), .func (.func 36) #[] #[]] w fun e w' => e = .returned (.func (.func 56) #[] #[.pointer (some ⟨w.heap.size, 0, none⟩), .pointer (some ⟨w.heap.size + 1, 0, none⟩)]) ∧ w' = (w.alloc (.cells #[.pointer (some p)] 62)).alloc (.cells #[.func (.func 36) #[] #[]] 81) := by
  have hmf : ∀ (fn : Fn) (first cap : Array Value) (w : World), (Instr.makeFunc fn first cap).run Tryd.prog w = .ok (.func fn first cap) w := fun _ _ _ _ => rfl
  go_enter Tryd.func37, Tryd.ntmps37
  go_wp2
  go_ret
  exact ⟨rfl, rfl⟩
end Go.Proofs.YtlkcadibjmfmcaaDoor
