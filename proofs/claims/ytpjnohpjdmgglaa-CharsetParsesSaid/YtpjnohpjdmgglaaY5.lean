/- The law CharsetParses, walked: at every text the call returns true, and turns nothing that was there. -/
import Derived.Test.YtpjnohpjdmgglaaY4
import Derived.Test.YtpjnohpjdmgglaaW10
namespace Go.Proofs.Ytpjnohpjdmgglaa
open Go.RowKit

/-- The boxes that the law lays of an answer, a set and a fault, stand, and what was there. -/
def Rs (w : World) (s : St) (a c : Nat) (B : Nat) (W : World) : Prop := SBox s B W ∧ FBox a c (B + 1) W ∧ Below w.heap.size w W
theorem Rs.nx {w W W' : World} {s : St} {a c B : Nat} (h : Rs w s a c B W) (hb : Below W.heap.size W W') : Rs w s a c B W' := ⟨h.1.below hb, h.2.1.below hb, below_of h.2.2 hb⟩
theorem Rs.start {w W : World} (h : Below w.heap.size w W) (s : St) (a c : Nat) : Rs w s a c W.heap.size ((W.alloc (.cells #[.int .u64 s.a, .int .u64 s.b, .int .u64 s.c, .int .u64 s.d] 26)).alloc (.cells #[.int .i64 a, .int .i64 c] 50)) := by
  refine ⟨(SBox.new s W).alloc _, ?_, below_two h _ _⟩
  have := FBox.new a c (W.alloc (.cells #[.int .u64 s.a, .int .u64 s.b, .int .u64 s.c, .int .u64 s.d] 26))
  rwa [World.size_alloc] at this
set_option maxRecDepth 100000 in
set_option maxHeartbeats 4000000 in
theorem parses_walk (x : ByteArray) (w : World) :
    Calls Try.prog 7 #[.string x] w fun e w' => e = .returned (.bool true) ∧ Below w.heap.size w w' := by
  have HL : Hid _ := fun w => alive_any w
  by_cases h1 : 65538 < x.size
  · go_enter Try.func7, Try.ntmps7
    go_wp2_with (go_at_call 9; refine (HL.out _).mono ?_; rintro e w1 ⟨rfl, hb1⟩)
    go_ret
    exact ⟨rfl, hb1⟩
  · have H31 : Hid _ := fun w => parse_any x w
    have H32 : Hid _ := fun w => rparse_any x w
    generalize prs x = p at *
    obtain ⟨s, a, c⟩ := p
    simp only [prsV] at H31 H32
    have E0 : ∀ w, (Op.equalIn 10000 26 (.agg #[.int .u64 s.a, .int .u64 s.b, .int .u64 s.c, .int .u64 s.d]) (.agg #[.int .u64 s.a, .int .u64 s.b, .int .u64 s.c, .int .u64 s.d])).run Try.prog w = .ok true w := fun w => by rw [eq26, (St.same_eq _ _).2 rfl]
    have E1 : ∀ w, (Op.equalIn 10000 50 (.agg #[.int .i64 a, .int .i64 c]) (.agg #[.int .i64 a, .int .i64 c])).run Try.prog w = .ok true w := fun w => by rw [eq50]; simp
    go_enter Try.func7, Try.ntmps7
    go_wp2_with (go_at_call 31; refine (H31.out _).mono ?_)
    rintro e w1 ⟨rfl, hb1⟩
    have T1 := Rs.start hb1 s a c
    clear H31 hb1
    go_wp2_with (go_at_call 32; refine (H32.out _).mono ?_)
    rintro e w2 ⟨rfl, hb2⟩
    have T2 := T1.nx hb2
    have U2 := Rs.start T2.2.2 s a c
    have T3 := (T2.nx ((Below.refl _ _).alloc (Nat.le_refl _) (.cells #[.int .u64 s.a, .int .u64 s.b, .int .u64 s.c, .int .u64 s.d] 26))).nx ((Below.refl _ _).alloc (Nat.le_refl _) (.cells #[.int .i64 a, .int .i64 c] 50))
    clear H32 hb2 T1 T2
    go_wp2_with (go_at_call 9; refine (HL.out _).mono ?_)
    rintro e w3 ⟨rfl, hb3⟩
    have T4 := T3.nx hb3
    have U4 := U2.nx hb3
    obtain ⟨c0, c1, c2, c3⟩ := T4.1.cells
    obtain ⟨d0, d1, _⟩ := T4.2.1.cells
    obtain ⟨g0, g1, g2, g3⟩ := U4.1.cells
    obtain ⟨k0, k1, _⟩ := U4.2.1.cells
    clear HL hb3 T3 U2
    go_wp2
    go_ret
    exact ⟨rfl, T4.2.2⟩
end Go.Proofs.Ytpjnohpjdmgglaa
