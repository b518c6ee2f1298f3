/- The law CharsetBack, walked: at every set the call returns true, and turns nothing that was there. -/
import Derived.Test.YtpjnohpjdmgglaaK1
import Derived.Test.YtpjnohpjdmgglaaW10
import Derived.Deep.RegionHeld3
import Derived.Deep.DrawnRows
namespace Go.Proofs.Ytpjnohpjdmgglaa
open Go.RowKit

/-- The argument's box, the read set's and the fault's stand, and what was there. -/
def Bk (w : World) (s : St) (B : Nat) (W : World) : Prop := SBox s w.heap.size W ∧ SBox s B W ∧ FBox 0 0 (B + 1) W ∧ Below w.heap.size w W
theorem Bk.drew {w W : World} {s : St} {B : Nat} (h : Bk w s B W) : Bk w s B W.drew := ⟨h.1, h.2.1, h.2.2.1, h.2.2.2.drew⟩
theorem Bk.nx {w W W' : World} {s : St} {B : Nat} (hb : Below W.heap.size W W') (h : Bk w s B W) : Bk w s B W' := ⟨h.1.below hb, h.2.1.below hb, h.2.2.1.below hb, below_of h.2.2.2 hb⟩
def BkC (w : World) (s : St) (B : Nat) (W' : World) : Prop := W'.cell? ⟨w.heap.size, 0, none⟩ = some (.int .u64 s.a) ∧ W'.cell? ⟨w.heap.size, 1, none⟩ = some (.int .u64 s.b) ∧ W'.cell? ⟨w.heap.size, 2, none⟩ = some (.int .u64 s.c) ∧ W'.cell? ⟨w.heap.size, 3, none⟩ = some (.int .u64 s.d) ∧ W'.cell? ⟨B, 0, none⟩ = some (.int .u64 s.a) ∧ W'.cell? ⟨B, 1, none⟩ = some (.int .u64 s.b) ∧ W'.cell? ⟨B, 2, none⟩ = some (.int .u64 s.c) ∧ W'.cell? ⟨B, 3, none⟩ = some (.int .u64 s.d) ∧ W'.cell? ⟨B + 1, 0, none⟩ = some (.int .i64 0) ∧ W'.cell? ⟨B + 1, 1, none⟩ = some (.int .i64 0)
theorem Bk.cells {w W : World} {s : St} {B : Nat} (h : Bk w s B W) : BkC w s B W := by
  obtain ⟨a0, a1, a2, a3⟩ := h.1.cells
  obtain ⟨b0, b1, b2, b3⟩ := h.2.1.cells
  obtain ⟨c0, c1, _⟩ := h.2.2.1.cells
  exact ⟨a0, a1, a2, a3, b0, b1, b2, b3, c0, c1⟩
theorem Bk.start {w W : World} {s : St} (h1 : SBox s w.heap.size W) (h2 : Below w.heap.size w W) : Bk w s W.heap.size ((W.alloc (.cells #[.int .u64 s.a, .int .u64 s.b, .int .u64 s.c, .int .u64 s.d] 26)).alloc (.cells #[.int .i64 0, .int .i64 0] 50)) := by
  refine ⟨(h1.alloc _).alloc _, (SBox.new s W).alloc _, ?_, below_two h2 _ _⟩
  have := FBox.new 0 0 (W.alloc (.cells #[.int .u64 s.a, .int .u64 s.b, .int .u64 s.c, .int .u64 s.d] 26))
  rwa [World.size_alloc] at this

set_option maxRecDepth 100000 in
set_option maxHeartbeats 8000000 in
theorem back_walk (s : St) (w : World) (hs : s.ok) :
    Calls Try.prog 8 #[.agg #[.int .u64 s.a, .int .u64 s.b, .int .u64 s.c, .int .u64 s.d]] w fun e w' => e = .returned (.bool true) ∧ Below w.heap.size w w' := by
  have HL : Hid _ := fun w => alive_any w
  have H29 : Hid _ := fun w => print_any s hs w
  have H31 : Hid _ := fun w => parse_any ⟨(printL s).toArray⟩ w
  rw [back s hs] at H31
  simp only [prsV] at H31
  generalize (⟨(printL s).toArray⟩ : ByteArray) = bs at *
  have E0 : ∀ w, (Op.equalIn 10000 26 (.agg #[.int .u64 s.a, .int .u64 s.b, .int .u64 s.c, .int .u64 s.d]) (.agg #[.int .u64 s.a, .int .u64 s.b, .int .u64 s.c, .int .u64 s.d])).run Try.prog w = .ok true w := fun w => by rw [eq26, (St.same_eq _ _).2 rfl]
  have E1 : ∀ w, (Op.equalIn 10000 50 (.agg #[.int .i64 0, .int .i64 0]) (.agg #[.int .i64 0, .int .i64 0])).run Try.prog w = .ok true w := fun w => by kernel_rfl
  have T0 := SBox.new s w
  go_enter Try.func8, Try.ntmps8
  go_wp2_with (go_at_call 29; refine (H29.out _).mono ?_)
  rintro e w1 ⟨rfl, hb1⟩
  go_wp2_with (go_at_call 31; refine (H31.out _).mono ?_)
  rintro e w2 ⟨rfl, hb2⟩
  have T := Bk.start ((T0.below hb1).below hb2) (below_of (below_of ((Below.refl _ _).alloc (Nat.le_refl _) _) hb1) hb2)
  clear T0 hb1 hb2 H31
  go_wp2_with fail
  obtain ⟨W0, hW0⟩ : ∃ W0, ((w2.alloc (.cells #[.int .u64 s.a, .int .u64 s.b, .int .u64 s.c, .int .u64 s.d] 26)).alloc (.cells #[.int .i64 0, .int .i64 0] 50)) = W0 := ⟨_, rfl⟩
  rw [hW0] at T ⊢
  clear hW0
  generalize w2.heap.size = B at *
  have TC := T.cells
  simp only [BkC] at TC
  go_region_held3 (fun W' => W'.cell? ⟨w.heap.size, 0, none⟩ = some (.int .u64 s.a) ∧ W'.cell? ⟨w.heap.size, 1, none⟩ = some (.int .u64 s.b) ∧ W'.cell? ⟨w.heap.size, 2, none⟩ = some (.int .u64 s.c) ∧ W'.cell? ⟨w.heap.size, 3, none⟩ = some (.int .u64 s.d) ∧ W'.cell? ⟨B, 0, none⟩ = some (.int .u64 s.a) ∧ W'.cell? ⟨B, 1, none⟩ = some (.int .u64 s.b) ∧ W'.cell? ⟨B, 2, none⟩ = some (.int .u64 s.c) ∧ W'.cell? ⟨B, 3, none⟩ = some (.int .u64 s.d) ∧ W'.cell? ⟨B + 1, 0, none⟩ = some (.int .i64 0) ∧ W'.cell? ⟨B + 1, 1, none⟩ = some (.int .i64 0)) (exact T.cells) (first | (go_at_call 9; refine (HL.out _).mono ?_; rintro e w1 ⟨rfl, hb1⟩; replace T : Bk w s B w1 := (by first | exact Bk.nx hb1 T | exact Bk.nx hb1 T.drew); clear hb1) | (go_at_call 29; refine (H29.out _).mono ?_; rintro e w1 ⟨rfl, hb1⟩; replace T : Bk w s B w1 := (by first | exact Bk.nx hb1 T | exact Bk.nx hb1 T.drew); clear hb1))
  go_wp2
  go_ret
  exact ⟨rfl, T.2.2.2⟩
end Go.Proofs.Ytpjnohpjdmgglaa
