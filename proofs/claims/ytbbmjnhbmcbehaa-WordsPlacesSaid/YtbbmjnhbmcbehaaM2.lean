/- The law WordsPlaces, walked. -/
import Derived.Test.YtbbmjnhbmcbehaaN16
namespace Go.Proofs.Ytbbmjnhbmcbehaa
open Go.RowKit

set_option maxRecDepth 100000 in
set_option maxHeartbeats 2000000 in
theorem places_walk (x : ByteArray) (k : Int) (w : World) : Calls Try.prog 6 #[.string x, .int .i64 k] w fun e w' => e = .returned (.bool true) ∧ Below w.heap.size w w' := by
  have HL : Hid _ := fun w => alive_any w
  by_cases h1 : 65536 < x.size
  · have h1' : (65536 : Int) < x.size := by omega
    go_enter Try.func6, Try.ntmps6
    go_wp2_with (go_at_call 12; refine (HL.out _).mono ?_; rintro e w1 ⟨rfl, hb1⟩)
    go_ret
    exact ⟨rfl, hb1⟩
  · have h1' : (x.size : Int) ≤ 65536 := by omega
    have H1 : Hid _ := fun w => place_any x k w (by omega)
    have H2 : Hid _ := fun w => rplace_any x k w (by omega)
    generalize plc x k = p at *
    obtain ⟨a, b⟩ := p
    simp only at H1 H2
    clear h1
    go_enter Try.func6, Try.ntmps6
    go_wp2_with (first | (go_at_call 24; refine (H1.out _).mono ?_; rintro e w' ⟨rfl, rfl⟩) | (go_at_call 25; refine (H2.out _).mono ?_; rintro e w' ⟨rfl, rfl⟩) | (go_at_call 12; refine (HL.out _).mono ?_; rintro e w1 ⟨rfl, hb1⟩))
    go_ret
    exact ⟨rfl, hb1⟩
end Go.Proofs.Ytbbmjnhbmcbehaa
