/- Reading a sign at a place of a text: readSign, at every text and place. -/
import Derived.Test.YtbbmjnhbmcbehaaX1
namespace Go.Proofs.Ytbbmjnhbmcbehaa
open Go.RowKit

/-- The sign at a place: its byte, the place behind it, and the fault's place and code. -/
def sgn (x : ByteArray) (i : Nat) : Nat × Nat × Nat × Nat :=
  if x.size ≤ i then (0, 0, x.size, 14)
  else if bt x i = 92 then (if (rdr (x.extract i x.size)).2 = 0 then (0, 0, i, 12) else ((rdr (x.extract i x.size)).1, i + (rdr (x.extract i x.size)).2, 0, 0))
  else if plain (bt x i) then (bt x i, i + 1, 0, 0) else (0, 0, i, 11)
theorem rdr_le (x : ByteArray) : (rdr x).2 ≤ 4 := by
  unfold rdr; repeat' split
  all_goals simp
theorem Below.dN {B : Nat} {a w : World} (h : Below B a w) (n : Nat) : Below B a (w.drewN n) := ⟨h.os, h.tape, h.output, h.size, h.block⟩
def signV (p : Nat × Nat × Nat × Nat) : Value := .tuple #[.int .u8 (p.1 : Int), .int .i64 (p.2.1 : Int), .agg #[.int .i64 (p.2.2.1 : Int), .int .i64 (p.2.2.2 : Int)]]
set_option maxRecDepth 100000 in
set_option maxHeartbeats 2000000 in
theorem rsgn_any (x : ByteArray) (i : Nat) (w : World) (hx : x.size ≤ 100000) (hi : i ≤ 100000) :
    Calls Try.prog 100 #[.string x, .int .i64 i] w fun e w' => e = .returned (signV (sgn x i)) ∧ Below w.heap.size w w' := by
  have H : Hid (sgn x i = _) := sgn.eq_1 x i
  by_cases h1 : x.size ≤ i
  · rw [if_pos h1] at H
    rw [show sgn x i = _ from H]
    clear H
    go_enter Try.func100, Try.ntmps100
    go_wp2
    refine bodyPost_ret (v := signV (0, 0, x.size, 14)) (by simp [results, Try.results100, go_sem, signV]) rfl ⟨rfl, ?_⟩
    exact (Below.refl _ _).alloc (Nat.le_refl _) _
  · have h1' : i < x.size := by omega
    have b0 := bt_eq x i h1'
    rw [if_neg h1] at H
    by_cases h2 : bt x i = 92
    · rw [if_pos h2] at H
      rw [h2] at b0
      have hr := rdr_le (x.extract i x.size)
      have HR : Hid _ := fun w => read_any (x.extract i x.size) w
      by_cases h3 : (rdr (x.extract i x.size)).2 = 0
      · rw [if_pos h3] at H
        rw [show sgn x i = _ from H]
        clear H
        rw [h3] at HR
        go_enter Try.func100, Try.ntmps100
        go_wp2_with (go_at_call 65; refine (HR.out _).mono ?_; rintro e w' ⟨rfl, nq, rfl⟩)
        refine bodyPost_ret (v := signV (0, 0, i, 12)) (by simp [results, Try.results100, go_sem, signV]) rfl ⟨rfl, ?_⟩
        exact ((Below.dN ((Below.refl _ _).alloc (Nat.le_refl _) _) _).setCell (Nat.le_refl _) _).setCell (Nat.le_refl _) _
      · rw [if_neg h3] at H
        rw [show sgn x i = _ from H]
        clear H
        generalize (rdr (x.extract i x.size)).2 = n at *
        generalize (rdr (x.extract i x.size)).1 = c at *
        have h3' : ((n : Int) == 0) = false := by simp; omega
        go_enter Try.func100, Try.ntmps100
        go_wp2_with (go_at_call 65; refine (HR.out _).mono ?_; rintro e w' ⟨rfl, nq, rfl⟩)
        refine bodyPost_ret (v := signV (c, i + n, 0, 0)) (by simp [results, Try.results100, go_sem, signV]) rfl ⟨rfl, ?_⟩
        exact ((Below.dN ((Below.refl _ _).alloc (Nat.le_refl _) _) _).setCell (Nat.le_refl _) _).setCell (Nat.le_refl _) _
    · rw [if_neg h2] at H
      have h2' : ((bt x i : Int) == 92) = false := by simp; omega
      have HP : Hid _ := fun w => plain_any (bt x i) w (bt_lt x i)
      cases hp : plain (bt x i) with
      | true =>
        rw [if_pos hp] at H
        rw [show sgn x i = _ from H]
        clear H
        rw [hp] at HP
        go_enter Try.func100, Try.ntmps100
        go_wp2_with (go_at_call 74; refine (HP.out _).mono ?_; rintro e w' ⟨rfl, rfl⟩)
        refine bodyPost_ret (v := signV (bt x i, i + 1, 0, 0)) (by simp [results, Try.results100, go_sem, signV]) rfl ⟨rfl, ?_⟩
        exact (Below.refl _ _).alloc (Nat.le_refl _) _
      | false =>
        rw [if_neg (by simp [hp])] at H
        rw [show sgn x i = _ from H]
        clear H
        rw [hp] at HP
        go_enter Try.func100, Try.ntmps100
        go_wp2_with (go_at_call 74; refine (HP.out _).mono ?_; rintro e w' ⟨rfl, rfl⟩)
        refine bodyPost_ret (v := signV (0, 0, i, 11)) (by simp [results, Try.results100, go_sem, signV]) rfl ⟨rfl, ?_⟩
        exact (Below.refl _ _).alloc (Nat.le_refl _) _
end Go.Proofs.Ytbbmjnhbmcbehaa
