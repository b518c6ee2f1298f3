/- What must come of fixed calls. -/
import Derived.Test.YtbmejfcbladofaaX2
namespace Go.Proofs.Ytbmejfcbladofaa
open Go.RowKit

theorem render2 (wd : Int) (hwd : wd ≤ 9223372036854775807) (b : Nat) (W : World) (h : DAt W W.heap.size 1 (some ⟨b, 0, none⟩) twoK) : Calls Try.prog 11 #[.agg #[.int .i64 5, .string ⟨#[]⟩, .int .i64 0, .slice (some ⟨b, 0, none⟩) 3 3], .int .i64 wd] W fun e w' => e = .returned (.tuple #[.string (layT twoD wd), .int .i64 (layC twoD wd)]) ∧ Below W.heap.size W w' :=
  render_any twoD (some ⟨b, 0, none⟩) 3 1 wd W h (by decide) (by decide +kernel) (fun hr => okL_right hr two_wt) hwd
theorem broken2 (wd : Int) (hwd : wd ≤ 9223372036854775807) (b : Nat) (W : World) (h : DAt W W.heap.size 1 (some ⟨b, 0, none⟩) twoK) : Calls Try.prog 12 #[.agg #[.int .i64 5, .string ⟨#[]⟩, .int .i64 0, .slice (some ⟨b, 0, none⟩) 3 3], .int .i64 wd] W fun e w' => e = .returned (.tuple #[.int .i64 (layB twoD wd), .int .i64 (layC twoD wd)]) ∧ Below W.heap.size W w' :=
  broken_any twoD (some ⟨b, 0, none⟩) 3 1 wd W h (by decide) (by decide +kernel) (fun hr => okL_right hr two_wt) hwd
theorem right2 (b : Nat) (W : World) (h : DAt W W.heap.size 1 (some ⟨b, 0, none⟩) twoK) : Calls Try.prog 15 #[.agg #[.int .i64 5, .string ⟨#[]⟩, .int .i64 0, .slice (some ⟨b, 0, none⟩) 3 3]] W fun e w' => e = .returned (.bool true) ∧ Below W.heap.size W w' := by
  have := right_any twoD (some ⟨b, 0, none⟩) 3 1 W h (by decide) (by decide +kernel)
  rw [two_right] at this
  exact this
theorem render3 (b : Nat) (W : World) (h : DAt W W.heap.size 1 (some ⟨b, 0, none⟩) twoK) : Calls Try.prog 11 #[.agg #[.int .i64 5, .string ⟨#[]⟩, .int .i64 0, .slice (some ⟨b, 0, none⟩) 3 3], .int .i64 3] W fun e w' => e = .returned (.tuple #[.string ⟨#[97, 32, 98]⟩, .int .i64 0]) ∧ Below W.heap.size W w' := by
  have := render2 3 (by decide) b W h
  rw [two_t3, two_c3] at this
  exact this
theorem render22 (b : Nat) (W : World) (h : DAt W W.heap.size 1 (some ⟨b, 0, none⟩) twoK) : Calls Try.prog 11 #[.agg #[.int .i64 5, .string ⟨#[]⟩, .int .i64 0, .slice (some ⟨b, 0, none⟩) 3 3], .int .i64 2] W fun e w' => e = .returned (.tuple #[.string ⟨#[97, 10, 98]⟩, .int .i64 0]) ∧ Below W.heap.size W w' := by
  have := render2 2 (by decide) b W h
  rw [two_t2, two_c2] at this
  exact this
theorem broken22 (b : Nat) (W : World) (h : DAt W W.heap.size 1 (some ⟨b, 0, none⟩) twoK) : Calls Try.prog 12 #[.agg #[.int .i64 5, .string ⟨#[]⟩, .int .i64 0, .slice (some ⟨b, 0, none⟩) 3 3], .int .i64 2] W fun e w' => e = .returned (.tuple #[.int .i64 1, .int .i64 0]) ∧ Below W.heap.size W w' := by
  have := broken2 2 (by decide) b W h
  rw [two_b2, two_c2] at this
  exact this
theorem renderN (W : World) : Calls Try.prog 11 #[.agg #[.int .i64 0, .string ⟨#[]⟩, .int .i64 0, .slice none 0 0], .int .i64 2] W fun e w' => (∃ s : ByteArray, e = .returned (.tuple #[.string s, .int .i64 140])) ∧ Below W.heap.size W w' := by
  refine (render_any (.mk 0 ⟨#[]⟩ 0 []) none 0 0 2 W rfl (by decide) (by decide +kernel) (fun hr => by rw [none_right] at hr; cases hr) (by decide)).mono ?_
  rintro e w' ⟨rfl, hb⟩
  rw [none_c2]
  exact ⟨⟨_, rfl⟩, hb⟩
set_option maxRecDepth 100000 in
set_option maxHeartbeats 4000000 in
theorem alive_any (w : World) : Calls Try.prog 10 #[] w fun e w' => e = .returned (.bool true) ∧ Below w.heap.size w w' := by
  go_enter Try.func10, Try.ntmps10
  go_wp2_with (go_at_call 20; refine (two_any _).mono ?_)
  rintro e w1 ⟨⟨b1, rfl, hD1⟩, hb1⟩
  have H1 : Hid _ := fun (_ : Unit) => render3 b1 w1 hD1
  have B1 : Hid _ := hb1
  clear hb1 hD1
  go_wp2_with (go_at_call 11; refine (H1.out ()).mono ?_)
  rintro e w2 ⟨rfl, hb2⟩
  have B2 : Hid (Below w.heap.size w w2) := B1.out.trans (hb2.mono B1.out.size)
  clear hb2
  go_wp2_with (go_at_call 20; refine (two_any _).mono ?_)
  rintro e w3 ⟨⟨b3, rfl, hD3⟩, hb3⟩
  have H3 : Hid _ := fun (_ : Unit) => render22 b3 w3 hD3
  have B3 : Hid (Below w.heap.size w w3) := B2.out.trans (hb3.mono B2.out.size)
  clear hb3 hD3
  go_wp2_with (go_at_call 11; refine (H3.out ()).mono ?_)
  rintro e w4 ⟨rfl, hb4⟩
  have B4 : Hid (Below w.heap.size w w4) := B3.out.trans (hb4.mono B3.out.size)
  clear hb4
  go_wp2_with (go_at_call 20; refine (two_any _).mono ?_)
  rintro e w5 ⟨⟨b5, rfl, hD5⟩, hb5⟩
  have H5 : Hid _ := fun (_ : Unit) => broken22 b5 w5 hD5
  have B5 : Hid (Below w.heap.size w w5) := B4.out.trans (hb5.mono B4.out.size)
  clear hb5 hD5
  go_wp2_with (go_at_call 12; refine (H5.out ()).mono ?_)
  rintro e w6 ⟨rfl, hb6⟩
  have B6 : Hid (Below w.heap.size w w6) := B5.out.trans (hb6.mono B5.out.size)
  clear hb6
  go_wp2_with (go_at_call 11; refine (renderN _).mono ?_)
  rintro e w7 ⟨⟨s7, rfl⟩, hb7⟩
  have B7 : Hid (Below w.heap.size w w7) := B6.out.trans (hb7.mono B6.out.size)
  clear hb7
  go_wp2_with (go_at_call 20; refine (two_any _).mono ?_)
  rintro e w8 ⟨⟨b8, rfl, hD8⟩, hb8⟩
  have H8 : Hid _ := fun (_ : Unit) => right2 b8 w8 hD8
  have B8 : Hid (Below w.heap.size w w8) := B7.out.trans (hb8.mono B7.out.size)
  clear hb8 hD8
  go_wp2_with (go_at_call 15; refine (H8.out ()).mono ?_)
  rintro e w9 ⟨rfl, hb9⟩
  have B9 : Hid (Below w.heap.size w w9) := B8.out.trans (hb9.mono B8.out.size)
  clear hb9
  go_wp2
  go_ret
  exact ⟨rfl, B9.out⟩
end Go.Proofs.Ytbmejfcbladofaa
