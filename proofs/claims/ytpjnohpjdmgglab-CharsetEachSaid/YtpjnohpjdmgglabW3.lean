/- What counting a word's bits and Size answer, at every input and in every memory. -/
import Derived.Test.YtpjnohpjdmgglabW2
namespace Go.Proofs.Ytpjnohpjdmgglab
open Go.RowKit

theorem i64_and127 (y : Nat) (h : y ≤ 9223372036854775807) : bits .and .i64 (y : Int) 127 = ((y % 128 : Nat) : Int) := by
  have hx : y &&& 127 = y % 128 := nat_mask7 y
  have h1 : (BitVec.ofInt 64 (y : Int)).toNat = y := ofInt_u64 y (by omega)
  have h2 : (BitVec.ofInt 64 (127 : Int)).toNat = 127 := by decide
  show IntKind.i64.wrap ((BitVec.ofInt 64 (y : Int) &&& BitVec.ofInt 64 (127 : Int)).toNat : Int) = _
  rw [BitVec.toNat_and, h1, h2, hx]
  have : y % 128 < 128 := Nat.mod_lt _ (by omega)
  simp [IntKind.wrap, IntKind.bits, IntKind.signed]
  omega
theorem ones_steps (x : Nat) (hx : x < 18446744073709551616) : ∃ p1 q1 y1 p2 q2 y2 z3 y3 y4 y5 y6 : Nat,
    bits .and .u64 ((x : Int) / 2) 6148914691236517205 = p1 ∧ bits .and .u64 (x : Int) 6148914691236517205 = q1 ∧ IntKind.u64.wrap ((p1 : Int) + q1) = y1 ∧
    bits .and .u64 ((y1 : Int) / 4) 3689348814741910323 = p2 ∧ bits .and .u64 (y1 : Int) 3689348814741910323 = q2 ∧ IntKind.u64.wrap ((p2 : Int) + q2) = y2 ∧
    IntKind.u64.wrap ((y2 : Int) / 16 + y2) = z3 ∧ bits .and .u64 (z3 : Int) 1085102592571150095 = y3 ∧
    IntKind.u64.wrap ((y3 : Int) + y3 / 256) = y4 ∧ IntKind.u64.wrap ((y4 : Int) + y4 / 65536) = y5 ∧ IntKind.u64.wrap ((y5 : Int) + y5 / 4294967296) = y6 ∧
    bits .and .i64 (y6 : Int) 127 = pc 64 x ∧ y6 ≤ 9223372036854775807 := by
  have m1 : mk 85 8 = 6148914691236517205 := by decide
  have m2 : mk 51 8 = 3689348814741910323 := by decide
  have m3 : mk 15 8 = 1085102592571150095 := by decide
  have E := ones_eq x hx
  unfold ones at E
  have u1 : f1 8 x = (x / 2 &&& 6148914691236517205) + (x &&& 6148914691236517205) := by unfold f1; rw [m1]
  have l1 : x / 2 &&& 6148914691236517205 ≤ 6148914691236517205 := Nat.and_le_right
  have l1' : x &&& 6148914691236517205 ≤ 6148914691236517205 := Nat.and_le_right
  generalize hy1 : f1 8 x = y1 at *
  have u2 : f2 8 y1 = (y1 / 4 &&& 3689348814741910323) + (y1 &&& 3689348814741910323) := by unfold f2; rw [m2]
  have l2 : y1 / 4 &&& 3689348814741910323 ≤ 3689348814741910323 := Nat.and_le_right
  have l2' : y1 &&& 3689348814741910323 ≤ 3689348814741910323 := Nat.and_le_right
  generalize hy2 : f2 8 y1 = y2 at *
  have u3 : f3 8 y2 = (y2 / 16 + y2) &&& 1085102592571150095 := by unfold f3; rw [m3]
  have l3 : (y2 / 16 + y2) &&& 1085102592571150095 ≤ 1085102592571150095 := Nat.and_le_right
  generalize hy3 : f3 8 y2 = y3 at *
  simp only at E
  have l3' : y3 ≤ 1085102592571150095 := by rw [u3]; exact l3
  have l4 : y3 + y3 / 256 ≤ 1100000000000000000 := by clear u1 u2 u3 l1 l1' l2 l2' l3 E m1 m2 m3; omega
  have l5 : y3 + y3 / 256 + (y3 + y3 / 256) / 65536 ≤ 1200000000000000000 := by clear u1 u2 u3 l1 l1' l2 l2' l3 l3' E m1 m2 m3; omega
  have l6 : y3 + y3 / 256 + (y3 + y3 / 256) / 65536 + (y3 + y3 / 256 + (y3 + y3 / 256) / 65536) / 4294967296 ≤ 1300000000000000000 := by
    generalize y3 + y3 / 256 + (y3 + y3 / 256) / 65536 = v at *
    clear u1 u2 u3 l1 l1' l2 l2' l3 l3' l4 E m1 m2 m3; omega
  have k1 : y1 < 18446744073709551616 := by rw [u1]; clear u1 u2 u3 l2 l2' l3 l3' l4 l5 l6 E m1 m2 m3; omega
  have k2 : y2 < 9000000000000000000 := by rw [u2]; clear u1 u2 u3 l1 l1' l3 l3' l4 l5 l6 E m1 m2 m3 k1; omega
  clear l1 l1' l2 l2' l3 m1 m2 m3
  refine ⟨x / 2 &&& 6148914691236517205, x &&& 6148914691236517205, y1, y1 / 4 &&& 3689348814741910323, y1 &&& 3689348814741910323, y2, y2 / 16 + y2, y3, y3 + y3 / 256, y3 + y3 / 256 + (y3 + y3 / 256) / 65536, y3 + y3 / 256 + (y3 + y3 / 256) / 65536 + (y3 + y3 / 256 + (y3 + y3 / 256) / 65536) / 4294967296, ?_, ?_, ?_, ?_, ?_, ?_, ?_, ?_, ?_, ?_, ?_, ?_, ?_⟩
  · exact and_nat _ _ _ _ (by simp) (by simp) (Nat.lt_of_le_of_lt (Nat.div_le_self _ _) hx) (by decide)
  · exact and_nat _ _ _ _ (by simp) (by simp) hx (by decide)
  · rw [← Int.natCast_add, ← u1]; exact wrap_u64_nat _ k1
  · exact and_nat _ _ _ _ (by simp) (by simp) (Nat.lt_of_le_of_lt (Nat.div_le_self _ _) k1) (by decide)
  · exact and_nat _ _ _ _ (by simp) (by simp) k1 (by decide)
  · rw [← Int.natCast_add, ← u2]; exact wrap_u64_nat _ (Nat.lt_trans k2 (by decide))
  · have : ((y2 : Int) / 16 + y2) = ((y2 / 16 + y2 : Nat) : Int) := by simp
    rw [this]; clear u1 u2 u3 E l4 l5 l6; exact wrap_u64_nat _ (by omega)
  · rw [u3]; clear u1 u2 u3 E l4 l5 l6; exact and_nat _ _ _ _ (by simp) (by simp) (by omega) (by decide)
  · have : ((y3 : Int) + y3 / 256) = ((y3 + y3 / 256 : Nat) : Int) := by simp
    rw [this]; exact wrap_u64_nat _ (Nat.lt_of_le_of_lt l4 (by decide))
  · have : (((y3 + y3 / 256 : Nat) : Int) + ((y3 + y3 / 256 : Nat) : Int) / 65536) = ((y3 + y3 / 256 + (y3 + y3 / 256) / 65536 : Nat) : Int) := by simp
    rw [this]; exact wrap_u64_nat _ (Nat.lt_of_le_of_lt l5 (by decide))
  · have : (((y3 + y3 / 256 + (y3 + y3 / 256) / 65536 : Nat) : Int) + ((y3 + y3 / 256 + (y3 + y3 / 256) / 65536 : Nat) : Int) / 4294967296) = ((y3 + y3 / 256 + (y3 + y3 / 256) / 65536 + (y3 + y3 / 256 + (y3 + y3 / 256) / 65536) / 4294967296 : Nat) : Int) := by simp
    rw [this]; exact wrap_u64_nat _ (Nat.lt_of_le_of_lt l6 (by decide))
  · rw [← E]; exact i64_and127 _ (Nat.le_trans l6 (by decide))
  · exact Nat.le_trans l6 (by decide)

set_option maxHeartbeats 1000000 in
theorem ones_any (x : Nat) (w : World) (hx : x < 18446744073709551616) :
    Calls Try.prog 31 #[.int .u64 x] w fun e w' => e = .returned (.int .i64 (pc 64 x : Nat)) ∧ w' = w := by
  obtain ⟨p1, q1, y1, p2, q2, y2, z3, y3, y4, y5, y6, b1, b2, b3, b4, b5, b6, b7, b8, b9, b10, b11, b12, hy⟩ := ones_steps x hx
  have hy' : wrap64 (y6 : Int) = y6 := by rw [wrap64]; omega
  generalize pc 64 x = p at *
  go_enter Try.func31, Try.ntmps31
  go_wp2
  go_ret
  exact ⟨rfl, rfl⟩

def St.size (s : St) : Nat := pc 64 s.a + pc 64 s.b + pc 64 s.c + pc 64 s.d
set_option maxHeartbeats 1000000 in
theorem size_any (s : St) (w : World) (hs : s.ok) :
    Calls Try.prog 13 #[.agg #[.int .u64 s.a, .int .u64 s.b, .int .u64 s.c, .int .u64 s.d]] w fun e w' => e = .returned (.int .i64 (s.size : Nat)) ∧ Below w.heap.size w w' := by
  unfold St.size
  have i0 : ∀ w, (Instr.index 24 (.agg #[.int .u64 s.a, .int .u64 s.b, .int .u64 s.c, .int .u64 s.d]) (.int .i64 0)).run Try.prog w = .ok (.int .u64 s.a) w := fun _ => by kernel_rfl
  have i1 : ∀ w, (Instr.index 24 (.agg #[.int .u64 s.a, .int .u64 s.b, .int .u64 s.c, .int .u64 s.d]) (.int .i64 1)).run Try.prog w = .ok (.int .u64 s.b) w := fun _ => by kernel_rfl
  have i2 : ∀ w, (Instr.index 24 (.agg #[.int .u64 s.a, .int .u64 s.b, .int .u64 s.c, .int .u64 s.d]) (.int .i64 2)).run Try.prog w = .ok (.int .u64 s.c) w := fun _ => by kernel_rfl
  have i3 : ∀ w, (Instr.index 24 (.agg #[.int .u64 s.a, .int .u64 s.b, .int .u64 s.c, .int .u64 s.d]) (.int .i64 3)).run Try.prog w = .ok (.int .u64 s.d) w := fun _ => by kernel_rfl
  have l0 := pc_le 64 s.a; have l1 := pc_le 64 s.b; have l2 := pc_le 64 s.c; have l3 := pc_le 64 s.d
  have Q0 : Hid _ := fun w => ones_any s.a w hs.1; have Q1 : Hid _ := fun w => ones_any s.b w hs.2.1; have Q2 : Hid _ := fun w => ones_any s.c w hs.2.2.1; have Q3 : Hid _ := fun w => ones_any s.d w hs.2.2.2
  generalize pc 64 s.a = x0 at *; generalize pc 64 s.b = x1 at *; generalize pc 64 s.c = x2 at *; generalize pc 64 s.d = x3 at *
  go_enter Try.func13, Try.ntmps13
  go_wp2
  refine wp_loop_rounds 5 ?_
  rw [rounds_succ]
  go_wp2_with (go_at_call 31; refine (Q0.out _).mono ?_; rintro e w1 ⟨rfl, rfl⟩)
  rw [rounds_succ]
  go_wp2_with (go_at_call 31; refine (Q1.out _).mono ?_; rintro e w1 ⟨rfl, rfl⟩)
  rw [rounds_succ]
  go_wp2_with (go_at_call 31; refine (Q2.out _).mono ?_; rintro e w1 ⟨rfl, rfl⟩)
  rw [rounds_succ]
  go_wp2_with (go_at_call 31; refine (Q3.out _).mono ?_; rintro e w1 ⟨rfl, rfl⟩)
  rw [rounds_succ]
  go_wp2
  go_ret
  refine ⟨ret_int (by go_num), ?_⟩
  exact (Below.refl _ _).alloc (Nat.le_refl _) _

end Go.Proofs.Ytpjnohpjdmgglab
