/- The law CharsetPrints: at every set the call returns true, and turns nothing that was there. -/
import Derived.Test.YtpjnohpjdmgglaaW10
import Derived.Test.YtpjnohpjdmgglaaP2
namespace Go.Proofs.Ytpjnohpjdmgglaa
open Go.RowKit

/-- One argument's box stands, and what was there. -/
def One (w : World) (s : St) (W : World) : Prop := SBox s w.heap.size W ∧ Below w.heap.size w W
theorem One.drew {w W : World} {s : St} (h : One w s W) : One w s W.drew := ⟨h.1, h.2.drew⟩
theorem One.nx {w W W' : World} {s : St} (hb : Below W.heap.size W W') (h : One w s W) : One w s W' := ⟨h.1.below hb, below_of h.2 hb⟩
theorem One.cells {w W' : World} {s : St} (h : One w s W') : W'.cell? ⟨w.heap.size, 0, none⟩ = some (.int .u64 s.a) ∧ W'.cell? ⟨w.heap.size, 1, none⟩ = some (.int .u64 s.b) ∧ W'.cell? ⟨w.heap.size, 2, none⟩ = some (.int .u64 s.c) ∧ W'.cell? ⟨w.heap.size, 3, none⟩ = some (.int .u64 s.d) := h.1.cells
theorem One.start (w : World) (s : St) : One w s (w.alloc (.cells #[.int .u64 s.a, .int .u64 s.b, .int .u64 s.c, .int .u64 s.d] 26)) :=
  ⟨SBox.new s w, (Below.refl _ _).alloc (Nat.le_refl _) _⟩

set_option maxRecDepth 100000 in
set_option maxHeartbeats 8000000 in
theorem prints_walk (s : St) (w : World) (hs : s.ok) :
    Calls Try.prog 6 #[.agg #[.int .u64 s.a, .int .u64 s.b, .int .u64 s.c, .int .u64 s.d]] w fun e w' => e = .returned (.bool true) ∧ Below w.heap.size w w' := by
  have HL : Hid _ := fun w => alive_any w
  have H29 : Hid _ := fun w => print_any s hs w
  have H30 : Hid _ := fun w => rprint_any s hs w
  generalize (⟨(printL s).toArray⟩ : ByteArray) = bs at *
  have T := One.start w s
  go_enter Try.func6, Try.ntmps6
  go_wp2
  obtain ⟨W0, hW0⟩ : ∃ W0, (w.alloc (.cells #[.int .u64 s.a, .int .u64 s.b, .int .u64 s.c, .int .u64 s.d] 26)) = W0 := ⟨_, rfl⟩
  rw [hW0] at T ⊢
  clear hW0
  have TC := T.cells
  go_region_held3 (fun W' => W'.cell? ⟨w.heap.size, 0, none⟩ = some (.int .u64 s.a) ∧ W'.cell? ⟨w.heap.size, 1, none⟩ = some (.int .u64 s.b) ∧ W'.cell? ⟨w.heap.size, 2, none⟩ = some (.int .u64 s.c) ∧ W'.cell? ⟨w.heap.size, 3, none⟩ = some (.int .u64 s.d)) (exact T.cells) (first | (go_at_call 9; refine (HL.out _).mono ?_; rintro e w1 ⟨rfl, hb1⟩; replace T : One w s w1 := (by first | exact One.nx hb1 T | exact One.nx hb1 T.drew); clear hb1) | (go_at_call 29; refine (H29.out _).mono ?_; rintro e w1 ⟨rfl, hb1⟩; replace T : One w s w1 := (by first | exact One.nx hb1 T | exact One.nx hb1 T.drew); clear hb1) | (go_at_call 30; refine (H30.out _).mono ?_; rintro e w1 ⟨rfl, hb1⟩; replace T : One w s w1 := (by first | exact One.nx hb1 T | exact One.nx hb1 T.drew); clear hb1))
  go_wp2
  go_ret
  exact ⟨rfl, T.2⟩

end Go.Proofs.Ytpjnohpjdmgglaa
