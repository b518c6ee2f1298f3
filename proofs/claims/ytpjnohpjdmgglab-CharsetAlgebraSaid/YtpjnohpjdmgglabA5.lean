/- The law CharsetAlgebra, walked: at every three sets the call returns true, and turns nothing that was there. -/
import Derived.Test.YtpjnohpjdmgglabA4
import Derived.Deep.RegionHeld3
import Derived.Deep.DrawnRows
import Derived.Deep.Cut
import Derived.Deep.CutRange
namespace Go.Proofs.Ytpjnohpjdmgglab
open Go.RowKit

set_option maxRecDepth 100000 in
set_option maxHeartbeats 16000000 in
theorem algebra_walk (s t u : St) (w : World) (hs : s.ok) (ht : t.ok) (hu : u.ok) :
    Calls Try.prog 3 #[.agg #[.int .u64 s.a, .int .u64 s.b, .int .u64 s.c, .int .u64 s.d], .agg #[.int .u64 t.a, .int .u64 t.b, .int .u64 t.c, .int .u64 t.d], .agg #[.int .u64 u.a, .int .u64 u.b, .int .u64 u.c, .int .u64 u.d]] w fun e w' => e = .returned (.bool true) ∧ Below w.heap.size w w' := by
  have HL : Hid _ := fun w => alive_any w
  have O1 : Hid _ := fun w => or_any s t w hs ht
  have O2 : Hid _ := fun w => or_any t u w ht hu
  have O3 : Hid _ := fun w => or_any (s.and t) (s.and u) w (St.and_ok hs) (St.and_ok hs)
  rw [dist s t u hs] at O3
  have N1 : Hid _ := fun w => not_any (s.or t) w (St.or_ok hs ht)
  have N2 : Hid _ := fun w => not_any s w hs
  have N3 : Hid _ := fun w => not_any t w ht
  have N4 : Hid _ := fun w => not_any s.not w s.not_ok
  rw [notnot s hs] at N4
  have A1 : Hid _ := fun w => and_any s.not t.not w s.not_ok t.not_ok
  rw [dem s t hs ht] at A1
  have A2 : Hid _ := fun w => and_any s t w hs ht
  have A3 : Hid (∀ w, Calls Try.prog 11 #[.agg #[.int .u64 s.a, .int .u64 s.b, .int .u64 s.c, .int .u64 s.d], .agg #[.int .u64 t.not.a, .int .u64 t.not.b, .int .u64 t.not.c, .int .u64 t.not.d]] w fun e w' => e = .returned (.agg #[.int .u64 (s.minus t).a, .int .u64 (s.minus t).b, .int .u64 (s.minus t).c, .int .u64 (s.minus t).d]) ∧ Below w.heap.size w w') := fun w => and_any s t.not w hs t.not_ok
  have A4 : Hid _ := fun w => and_any s (t.or u) w hs (St.or_ok ht hu)
  have A5 : Hid _ := fun w => and_any s u w hs hu
  have M1 : Hid _ := fun w => minus_any s t w hs ht
  have Z1 : Hid _ := fun w => size_any (s.or t) w (St.or_ok hs ht)
  have Z2 : Hid _ := fun w => size_any (s.and t) w (St.and_ok hs)
  have Z3 : Hid _ := fun w => size_any s w hs
  have Z4 : Hid _ := fun w => size_any t w ht
  have Z5 : Hid _ := fun w => size_any s.not w s.not_ok
  have l1 := size_le (s.or t)
  have l2 := size_le (s.and t)
  have l3 := size_le s
  have l4 := size_le t
  have l5 := size_le s.not
  have q1 : ((((s.or t).size : Int) + ((s.and t).size : Int)) != ((s.size : Int) + (t.size : Int))) = false := by
    have := size_sum s t
    simp; omega
  have q2 : (((s.size : Int) + (s.not.size : Int)) == 256) = true := by
    have := size_not s hs
    simp; omega
  have q3 : (IntKind.i64.wrap (((s.or t).size : Int) + ((s.and t).size : Int)) != IntKind.i64.wrap ((s.size : Int) + (t.size : Int))) = false := by
    have := size_sum s t
    rw [show (((s.or t).size : Int) + ((s.and t).size : Int)) = ((s.size : Int) + (t.size : Int)) by omega]
    simp
  have q4 : (IntKind.i64.wrap ((s.size : Int) + (s.not.size : Int)) == 256) = true := by
    have := size_not s hs
    rw [show ((s.size : Int) + (s.not.size : Int)) = 256 by omega]
    decide +kernel
  have E0 : ∀ (p : St) w, (Op.equalIn 10000 24 (.agg #[.int .u64 p.a, .int .u64 p.b, .int .u64 p.c, .int .u64 p.d]) (.agg #[.int .u64 p.a, .int .u64 p.b, .int .u64 p.c, .int .u64 p.d])).run Try.prog w = .ok true w := fun p w => by rw [eq26, (St.same_eq _ _).2 rfl]
  generalize (s.or t).size = n1 at *
  generalize (s.and t).size = n2 at *
  generalize s.size = n3 at *
  generalize t.size = n4 at *
  generalize s.not.size = n5 at *
  generalize s.and (t.or u) = x at *
  generalize t.or u = tu at *
  generalize (s.or t).not = pn at *
  generalize s.or t = po at *
  generalize s.and t = pa at *
  generalize s.and u = su at *
  generalize s.minus t = mi at *
  generalize s.not = sn at *
  generalize t.not = tn at *
  have T := Tri.start w s t u
  go_enter Try.func3, Try.ntmps3
  go_wp2_with (first | (go_at_call_of 10 s.a; refine (O1.out _).mono ?_; rintro e w1 ⟨rfl, hb1⟩; replace T : Tri w s t u w1 := T.nx hb1; clear hb1) | (go_at_call_of 9 po.a; refine (N1.out _).mono ?_; rintro e w1 ⟨rfl, hb1⟩; replace T : Tri w s t u w1 := T.nx hb1; clear hb1))
  have Q : Hold w s t u [(pn, w1.heap.size)] [] (w1.alloc (.cells #[.int .u64 pn.a, .int .u64 pn.b, .int .u64 pn.c, .int .u64 pn.d] 24)) := Hold.fresh pn ⟨T, by simp, by simp, by simp, by simp⟩
  generalize w1.heap.size = B7 at *
  obtain ⟨W1, hW1⟩ : ∃ W1, w1.alloc (.cells #[.int .u64 pn.a, .int .u64 pn.b, .int .u64 pn.c, .int .u64 pn.d] 24) = W1 := ⟨_, rfl⟩
  rw [hW1] at Q ⊢
  clear hW1 T
  go_cut [8] from 11 (fun s8 wc => ∃ B8, s8 = .pointer (some ⟨B8, 0, none⟩) ∧ Hold w s t u [(pn, B8), (pn, B7)] [] wc)
  case first =>
    clear q3 q4 HL O1 O2 O3 N1 N4 A2 A3 A4 A5 M1 Z1 Z2 Z3 Z4 Z5 q1 q2 l1 l2 l3 l4 l5 E0 hs ht hu
    have T := Q
    clear Q
    obtain ⟨a0, a1, a2, a3, b0, b1, b2, b3⟩ := T.two
    have y0 := T.tri.1.lt
    have y1 := T.tri.2.1.lt
    go_region_held3 (fun W' => W'.cell? ⟨w.heap.size, 0, none⟩ = some (.int .u64 s.a) ∧ W'.cell? ⟨w.heap.size, 1, none⟩ = some (.int .u64 s.b) ∧ W'.cell? ⟨w.heap.size, 2, none⟩ = some (.int .u64 s.c) ∧ W'.cell? ⟨w.heap.size, 3, none⟩ = some (.int .u64 s.d) ∧ W'.cell? ⟨w.heap.size + 1, 0, none⟩ = some (.int .u64 t.a) ∧ W'.cell? ⟨w.heap.size + 1, 1, none⟩ = some (.int .u64 t.b) ∧ W'.cell? ⟨w.heap.size + 1, 2, none⟩ = some (.int .u64 t.c) ∧ W'.cell? ⟨w.heap.size + 1, 3, none⟩ = some (.int .u64 t.d)) (first | with_reducible exact T.two | with_reducible exact T.drew.two | with_reducible exact (T.alloc _).two | with_reducible exact (T.alloc _).drew.two | with_reducible exact (T.drew.alloc _).two | with_reducible exact ((T.alloc _).alloc _).two | with_reducible exact (T.store _).two | with_reducible exact (T.swap.store _).two | with_reducible exact ((T.store _).alloc _).two | with_reducible exact ((T.alloc _).allocZ.store _).two | with_reducible exact ((T.store _).store _).two | with_reducible exact ((T.swap.store _).store _).two | go_keep) (first | (go_at_call_of 9 s.a; refine (N2.out _).mono ?_; rintro e w1 ⟨rfl, hb1⟩; (first | with_reducible (replace T := Hold.nx hb1 T) | with_reducible (replace T := Hold.nx hb1 T.drew) | with_reducible (replace T := Hold.nx hb1 T.allocZ) | with_reducible (replace T := Hold.nx hb1 T.allocZ.drew) | with_reducible (replace T := Hold.nx hb1 T.allocZD) | with_reducible (replace T := Hold.nx hb1 T.allocZZ) | with_reducible (replace T := Hold.nx hb1 T.allocZZ.drew) | with_reducible (replace T := Hold.nx hb1 T.allocZZD)); clear hb1; obtain ⟨a0, a1, a2, a3, b0, b1, b2, b3⟩ := T.two; have y0 := T.tri.1.lt; have y1 := T.tri.2.1.lt; (first | (obtain ⟨z0, z1, z2, z3, z4, z5⟩ := T.z1) | skip); (first | (obtain ⟨v0, v1, v2, v3, v4, v5, v6⟩ := T.z2) | skip)) | (go_at_call_of 9 t.a; refine (N3.out _).mono ?_; rintro e w1 ⟨rfl, hb1⟩; (first | with_reducible (replace T := Hold.nx hb1 T) | with_reducible (replace T := Hold.nx hb1 T.drew) | with_reducible (replace T := Hold.nx hb1 T.allocZ) | with_reducible (replace T := Hold.nx hb1 T.allocZ.drew) | with_reducible (replace T := Hold.nx hb1 T.allocZD) | with_reducible (replace T := Hold.nx hb1 T.allocZZ) | with_reducible (replace T := Hold.nx hb1 T.allocZZ.drew) | with_reducible (replace T := Hold.nx hb1 T.allocZZD)); clear hb1; obtain ⟨a0, a1, a2, a3, b0, b1, b2, b3⟩ := T.two; have y0 := T.tri.1.lt; have y1 := T.tri.2.1.lt; (first | (obtain ⟨z0, z1, z2, z3, z4, z5⟩ := T.z1) | skip); (first | (obtain ⟨v0, v1, v2, v3, v4, v5, v6⟩ := T.z2) | skip)) | (go_at_call 11; refine (A1.out _).mono ?_; rintro e w1 ⟨rfl, hb1⟩; (first | with_reducible (replace T := Hold.nx hb1 T) | with_reducible (replace T := Hold.nx hb1 T.drew) | with_reducible (replace T := Hold.nx hb1 T.allocZ) | with_reducible (replace T := Hold.nx hb1 T.allocZ.drew) | with_reducible (replace T := Hold.nx hb1 T.allocZD) | with_reducible (replace T := Hold.nx hb1 T.allocZZ) | with_reducible (replace T := Hold.nx hb1 T.allocZZ.drew) | with_reducible (replace T := Hold.nx hb1 T.allocZZD)); clear hb1; obtain ⟨a0, a1, a2, a3, b0, b1, b2, b3⟩ := T.two; have y0 := T.tri.1.lt; have y1 := T.tri.2.1.lt; (first | (obtain ⟨z0, z1, z2, z3, z4, z5⟩ := T.z1) | skip); (first | (obtain ⟨v0, v1, v2, v3, v4, v5, v6⟩ := T.z2) | skip)))
    all_goals go_wp2
    all_goals go_meet
    all_goals first
      | exact ⟨_, rfl, T.fresh pn⟩
      | exact ⟨_, rfl, T.store pn⟩
      | exact ⟨_, rfl, (T.fresh pn).drew⟩
      | exact ⟨_, rfl, (T.store pn).drew⟩
  case rest =>
    obtain ⟨B8, rfl, Q⟩ := hcut
    go_wp2_with fail
    go_cut [9, 10] from 11 (fun s9 s10 wc => ∃ B9 B10, s9 = .pointer (some ⟨B9, 0, none⟩) ∧ s10 = .pointer (some ⟨B10, 0, none⟩) ∧ Hold w s t u [(pa, B10), (po, B9), (pn, B8), (pn, B7)] [] wc)
    case first =>
      clear q3 q4 HL O2 O3 N1 N2 N3 N4 A1 A3 A4 A5 M1 Z1 Z2 Z3 Z4 Z5 q1 q2 l1 l2 l3 l4 l5 E0 hs ht hu
      have T := Q
      clear Q
      obtain ⟨a0, a1, a2, a3, b0, b1, b2, b3⟩ := T.two
      have y0 := T.tri.1.lt
      have y1 := T.tri.2.1.lt
      go_region_held3 (fun W' => W'.cell? ⟨w.heap.size, 0, none⟩ = some (.int .u64 s.a) ∧ W'.cell? ⟨w.heap.size, 1, none⟩ = some (.int .u64 s.b) ∧ W'.cell? ⟨w.heap.size, 2, none⟩ = some (.int .u64 s.c) ∧ W'.cell? ⟨w.heap.size, 3, none⟩ = some (.int .u64 s.d) ∧ W'.cell? ⟨w.heap.size + 1, 0, none⟩ = some (.int .u64 t.a) ∧ W'.cell? ⟨w.heap.size + 1, 1, none⟩ = some (.int .u64 t.b) ∧ W'.cell? ⟨w.heap.size + 1, 2, none⟩ = some (.int .u64 t.c) ∧ W'.cell? ⟨w.heap.size + 1, 3, none⟩ = some (.int .u64 t.d)) (first | with_reducible exact T.two | with_reducible exact T.drew.two | with_reducible exact (T.alloc _).two | with_reducible exact (T.alloc _).drew.two | with_reducible exact (T.drew.alloc _).two | with_reducible exact ((T.alloc _).alloc _).two | with_reducible exact (T.store _).two | with_reducible exact (T.swap.store _).two | with_reducible exact ((T.store _).alloc _).two | with_reducible exact ((T.alloc _).allocZ.store _).two | with_reducible exact ((T.store _).store _).two | with_reducible exact ((T.swap.store _).store _).two | go_keep) (first | (go_at_call 10; refine (O1.out _).mono ?_; rintro e w1 ⟨rfl, hb1⟩; (first | with_reducible (replace T := Hold.nx hb1 T) | with_reducible (replace T := Hold.nx hb1 T.drew) | with_reducible (replace T := Hold.nx hb1 T.allocZ) | with_reducible (replace T := Hold.nx hb1 T.allocZ.drew) | with_reducible (replace T := Hold.nx hb1 T.allocZD) | with_reducible (replace T := Hold.nx hb1 T.allocZZ) | with_reducible (replace T := Hold.nx hb1 T.allocZZ.drew) | with_reducible (replace T := Hold.nx hb1 T.allocZZD)); clear hb1; obtain ⟨a0, a1, a2, a3, b0, b1, b2, b3⟩ := T.two; have y0 := T.tri.1.lt; have y1 := T.tri.2.1.lt; (first | (obtain ⟨z0, z1, z2, z3, z4, z5⟩ := T.z1) | skip); (first | (obtain ⟨v0, v1, v2, v3, v4, v5, v6⟩ := T.z2) | skip)) | (go_at_call 11; refine (A2.out _).mono ?_; rintro e w1 ⟨rfl, hb1⟩; (first | with_reducible (replace T := Hold.nx hb1 T) | with_reducible (replace T := Hold.nx hb1 T.drew) | with_reducible (replace T := Hold.nx hb1 T.allocZ) | with_reducible (replace T := Hold.nx hb1 T.allocZ.drew) | with_reducible (replace T := Hold.nx hb1 T.allocZD) | with_reducible (replace T := Hold.nx hb1 T.allocZZ) | with_reducible (replace T := Hold.nx hb1 T.allocZZ.drew) | with_reducible (replace T := Hold.nx hb1 T.allocZZD)); clear hb1; obtain ⟨a0, a1, a2, a3, b0, b1, b2, b3⟩ := T.two; have y0 := T.tri.1.lt; have y1 := T.tri.2.1.lt; (first | (obtain ⟨z0, z1, z2, z3, z4, z5⟩ := T.z1) | skip); (first | (obtain ⟨v0, v1, v2, v3, v4, v5, v6⟩ := T.z2) | skip)))
      all_goals go_wp2
      all_goals go_meet
      all_goals first
        | with_reducible exact ⟨_, _, rfl, rfl, T.fresh2 po pa⟩
        | with_reducible exact ⟨_, _, rfl, rfl, (T.fresh2 pa po).perm⟩
        | with_reducible exact ⟨_, _, rfl, rfl, T.storeFresh po pa⟩
        | with_reducible exact ⟨_, _, rfl, rfl, (T.storeFresh pa po).perm⟩
        | with_reducible exact ⟨_, _, rfl, rfl, (T.swap.store po).store pa⟩
        | with_reducible exact ⟨_, _, rfl, rfl, (T.store po).store pa⟩
    case rest =>
      obtain ⟨B9, B10, rfl, rfl, Q⟩ := hcut
      go_wp2_with fail
      have T := Q
      clear Q
      have TC := T.all
      have E1 := E0 pn
      have E2 := E0 mi
      have E3 := E0 x
      have E4 := E0 s
      clear E0
      go_region_held3 (fun W' => W'.cell? ⟨w.heap.size, 0, none⟩ = some (.int .u64 s.a) ∧ W'.cell? ⟨w.heap.size, 1, none⟩ = some (.int .u64 s.b) ∧ W'.cell? ⟨w.heap.size, 2, none⟩ = some (.int .u64 s.c) ∧ W'.cell? ⟨w.heap.size, 3, none⟩ = some (.int .u64 s.d) ∧ W'.cell? ⟨w.heap.size + 1, 0, none⟩ = some (.int .u64 t.a) ∧ W'.cell? ⟨w.heap.size + 1, 1, none⟩ = some (.int .u64 t.b) ∧ W'.cell? ⟨w.heap.size + 1, 2, none⟩ = some (.int .u64 t.c) ∧ W'.cell? ⟨w.heap.size + 1, 3, none⟩ = some (.int .u64 t.d) ∧ W'.cell? ⟨w.heap.size + 1 + 1, 0, none⟩ = some (.int .u64 u.a) ∧ W'.cell? ⟨w.heap.size + 1 + 1, 1, none⟩ = some (.int .u64 u.b) ∧ W'.cell? ⟨w.heap.size + 1 + 1, 2, none⟩ = some (.int .u64 u.c) ∧ W'.cell? ⟨w.heap.size + 1 + 1, 3, none⟩ = some (.int .u64 u.d) ∧ W'.cell? ⟨B10, 0, none⟩ = some (.int .u64 pa.a) ∧ W'.cell? ⟨B10, 1, none⟩ = some (.int .u64 pa.b) ∧ W'.cell? ⟨B10, 2, none⟩ = some (.int .u64 pa.c) ∧ W'.cell? ⟨B10, 3, none⟩ = some (.int .u64 pa.d) ∧ W'.cell? ⟨B9, 0, none⟩ = some (.int .u64 po.a) ∧ W'.cell? ⟨B9, 1, none⟩ = some (.int .u64 po.b) ∧ W'.cell? ⟨B9, 2, none⟩ = some (.int .u64 po.c) ∧ W'.cell? ⟨B9, 3, none⟩ = some (.int .u64 po.d) ∧ W'.cell? ⟨B8, 0, none⟩ = some (.int .u64 pn.a) ∧ W'.cell? ⟨B8, 1, none⟩ = some (.int .u64 pn.b) ∧ W'.cell? ⟨B8, 2, none⟩ = some (.int .u64 pn.c) ∧ W'.cell? ⟨B8, 3, none⟩ = some (.int .u64 pn.d) ∧ W'.cell? ⟨B7, 0, none⟩ = some (.int .u64 pn.a) ∧ W'.cell? ⟨B7, 1, none⟩ = some (.int .u64 pn.b) ∧ W'.cell? ⟨B7, 2, none⟩ = some (.int .u64 pn.c) ∧ W'.cell? ⟨B7, 3, none⟩ = some (.int .u64 pn.d)) (first | with_reducible exact T.all | with_reducible exact T.drew.all) (first | (go_at_call 12; refine (M1.out _).mono ?_; rintro e w1 ⟨rfl, hb1⟩; (first | with_reducible (replace T := Hold.nx hb1 T) | with_reducible (replace T := Hold.nx hb1 T.drew)); clear hb1) | (go_at_call_of 9 t.a; refine (N3.out _).mono ?_; rintro e w1 ⟨rfl, hb1⟩; (first | with_reducible (replace T := Hold.nx hb1 T) | with_reducible (replace T := Hold.nx hb1 T.drew)); clear hb1) | (go_at_call_of 11 tn.a; refine (A3.out _).mono ?_; rintro e w1 ⟨rfl, hb1⟩; (first | with_reducible (replace T := Hold.nx hb1 T) | with_reducible (replace T := Hold.nx hb1 T.drew)); clear hb1) | (go_at_call_of 13 po.a; refine (Z1.out _).mono ?_; rintro e w1 ⟨rfl, hb1⟩; (first | with_reducible (replace T := Hold.nx hb1 T) | with_reducible (replace T := Hold.nx hb1 T.drew)); clear hb1) | (go_at_call_of 13 pa.a; refine (Z2.out _).mono ?_; rintro e w1 ⟨rfl, hb1⟩; (first | with_reducible (replace T := Hold.nx hb1 T) | with_reducible (replace T := Hold.nx hb1 T.drew)); clear hb1) | (go_at_call_of 13 s.a; refine (Z3.out _).mono ?_; rintro e w1 ⟨rfl, hb1⟩; (first | with_reducible (replace T := Hold.nx hb1 T) | with_reducible (replace T := Hold.nx hb1 T.drew)); clear hb1) | (go_at_call_of 13 t.a; refine (Z4.out _).mono ?_; rintro e w1 ⟨rfl, hb1⟩; (first | with_reducible (replace T := Hold.nx hb1 T) | with_reducible (replace T := Hold.nx hb1 T.drew)); clear hb1))
      go_wp2_with fail
      replace TC := T.all
      go_region_held3 (fun W' => W'.cell? ⟨w.heap.size, 0, none⟩ = some (.int .u64 s.a) ∧ W'.cell? ⟨w.heap.size, 1, none⟩ = some (.int .u64 s.b) ∧ W'.cell? ⟨w.heap.size, 2, none⟩ = some (.int .u64 s.c) ∧ W'.cell? ⟨w.heap.size, 3, none⟩ = some (.int .u64 s.d) ∧ W'.cell? ⟨w.heap.size + 1, 0, none⟩ = some (.int .u64 t.a) ∧ W'.cell? ⟨w.heap.size + 1, 1, none⟩ = some (.int .u64 t.b) ∧ W'.cell? ⟨w.heap.size + 1, 2, none⟩ = some (.int .u64 t.c) ∧ W'.cell? ⟨w.heap.size + 1, 3, none⟩ = some (.int .u64 t.d) ∧ W'.cell? ⟨w.heap.size + 1 + 1, 0, none⟩ = some (.int .u64 u.a) ∧ W'.cell? ⟨w.heap.size + 1 + 1, 1, none⟩ = some (.int .u64 u.b) ∧ W'.cell? ⟨w.heap.size + 1 + 1, 2, none⟩ = some (.int .u64 u.c) ∧ W'.cell? ⟨w.heap.size + 1 + 1, 3, none⟩ = some (.int .u64 u.d) ∧ W'.cell? ⟨B10, 0, none⟩ = some (.int .u64 pa.a) ∧ W'.cell? ⟨B10, 1, none⟩ = some (.int .u64 pa.b) ∧ W'.cell? ⟨B10, 2, none⟩ = some (.int .u64 pa.c) ∧ W'.cell? ⟨B10, 3, none⟩ = some (.int .u64 pa.d) ∧ W'.cell? ⟨B9, 0, none⟩ = some (.int .u64 po.a) ∧ W'.cell? ⟨B9, 1, none⟩ = some (.int .u64 po.b) ∧ W'.cell? ⟨B9, 2, none⟩ = some (.int .u64 po.c) ∧ W'.cell? ⟨B9, 3, none⟩ = some (.int .u64 po.d) ∧ W'.cell? ⟨B8, 0, none⟩ = some (.int .u64 pn.a) ∧ W'.cell? ⟨B8, 1, none⟩ = some (.int .u64 pn.b) ∧ W'.cell? ⟨B8, 2, none⟩ = some (.int .u64 pn.c) ∧ W'.cell? ⟨B8, 3, none⟩ = some (.int .u64 pn.d) ∧ W'.cell? ⟨B7, 0, none⟩ = some (.int .u64 pn.a) ∧ W'.cell? ⟨B7, 1, none⟩ = some (.int .u64 pn.b) ∧ W'.cell? ⟨B7, 2, none⟩ = some (.int .u64 pn.c) ∧ W'.cell? ⟨B7, 3, none⟩ = some (.int .u64 pn.d)) (first | with_reducible exact T.all | with_reducible exact T.drew.all) (first | (go_at_call 14; refine (HL.out _).mono ?_; rintro e w1 ⟨rfl, hb1⟩; (first | with_reducible (replace T := Hold.nx hb1 T) | with_reducible (replace T := Hold.nx hb1 T.drew)); clear hb1) | (go_at_call_of 10 u.a; refine (O2.out _).mono ?_; rintro e w1 ⟨rfl, hb1⟩; (first | with_reducible (replace T := Hold.nx hb1 T) | with_reducible (replace T := Hold.nx hb1 T.drew)); clear hb1) | (go_at_call_of 10 pa.a; refine (O3.out _).mono ?_; rintro e w1 ⟨rfl, hb1⟩; (first | with_reducible (replace T := Hold.nx hb1 T) | with_reducible (replace T := Hold.nx hb1 T.drew)); clear hb1) | (go_at_call_of 11 tu.a; refine (A4.out _).mono ?_; rintro e w1 ⟨rfl, hb1⟩; (first | with_reducible (replace T := Hold.nx hb1 T) | with_reducible (replace T := Hold.nx hb1 T.drew)); clear hb1) | (go_at_call_of 11 u.a; refine (A5.out _).mono ?_; rintro e w1 ⟨rfl, hb1⟩; (first | with_reducible (replace T := Hold.nx hb1 T) | with_reducible (replace T := Hold.nx hb1 T.drew)); clear hb1) | (go_at_call_of 11 t.a; refine (A2.out _).mono ?_; rintro e w1 ⟨rfl, hb1⟩; (first | with_reducible (replace T := Hold.nx hb1 T) | with_reducible (replace T := Hold.nx hb1 T.drew)); clear hb1) | (go_at_call_of 9 sn.a; refine (N4.out _).mono ?_; rintro e w1 ⟨rfl, hb1⟩; (first | with_reducible (replace T := Hold.nx hb1 T) | with_reducible (replace T := Hold.nx hb1 T.drew)); clear hb1) | (go_at_call_of 9 s.a; refine (N2.out _).mono ?_; rintro e w1 ⟨rfl, hb1⟩; (first | with_reducible (replace T := Hold.nx hb1 T) | with_reducible (replace T := Hold.nx hb1 T.drew)); clear hb1) | (go_at_call_of 13 sn.a; refine (Z5.out _).mono ?_; rintro e w1 ⟨rfl, hb1⟩; (first | with_reducible (replace T := Hold.nx hb1 T) | with_reducible (replace T := Hold.nx hb1 T.drew)); clear hb1) | (go_at_call_of 13 s.a; refine (Z3.out _).mono ?_; rintro e w1 ⟨rfl, hb1⟩; (first | with_reducible (replace T := Hold.nx hb1 T) | with_reducible (replace T := Hold.nx hb1 T.drew)); clear hb1))
      go_wp2
      go_ret
      exact ⟨rfl, T.tri.2.2.2⟩
end Go.Proofs.Ytpjnohpjdmgglab
