/- The law CharsetGoes: at every two sets the call returns true, and turns nothing that was there. -/
import Derived.Test.YtpjnohpjdmgglaaW10
import Derived.Test.YtpjnohpjdmgglaaR4
import Derived.Test.YtpjnohpjdmgglaaR5
namespace Go.Proofs.Ytpjnohpjdmgglaa
open Go.RowKit

theorem St.minus_ok {s t : St} (hs : s.ok) : (s.minus t).ok := St.and_ok hs
theorem op0_eq (s t : St) (hs : s.ok) (ht : t.ok) : opTo (fun x y => x || y) s t 256 = s.or t :=
  St.ext' (opTo_ok _ _ _ _) (St.or_ok hs ht) (fun n hn => by rw [opTo_has _ _ _ n hn 256 (Nat.le_refl _), St.has_or]; simp [hn])
theorem op1_eq (s t : St) (hs : s.ok) : opTo (fun x y => x && y) s t 256 = s.and t :=
  St.ext' (opTo_ok _ _ _ _) (St.and_ok hs) (fun n hn => by rw [opTo_has _ _ _ n hn 256 (Nat.le_refl _), St.has_and]; simp [hn])
theorem op2_eq (s t : St) (hs : s.ok) (ht : t.ok) : opTo (fun x y => x && !y) s t 256 = s.minus t :=
  St.ext' (opTo_ok _ _ _ _) (St.minus_ok hs) (fun n hn => by rw [opTo_has _ _ _ n hn 256 (Nat.le_refl _)]; unfold St.minus; rw [St.has_and, St.has_not t ht]; simp [hn])
theorem op3_eq (s t : St) (hs : s.ok) : opTo (fun x _ => !x) s t 256 = s.not :=
  St.ext' (opTo_ok _ _ _ _) s.not_ok (fun n hn => by rw [opTo_has _ _ _ n hn 256 (Nat.le_refl _), St.has_not s hs]; simp [hn])

theorem upTo_count (s : St) : ∀ k, (upTo s k).length = (List.range k).countP s.has
  | 0 => rfl
  | k + 1 => by
    rw [List.range_succ, List.countP_append, ← upTo_count s k]
    cases hh : s.has k with
    | true => rw [upTo_yes hh]; simp [hh]
    | false => rw [upTo_no hh]; simp [hh]
theorem count_split (p : Nat → Bool) (a b : Nat) : (List.range (a + b)).countP p = (List.range a).countP p + (List.range b).countP (fun j => p (a + j)) := by
  rw [List.range_add, List.countP_append, List.countP_map]; rfl
theorem word_count (s : St) (i : Nat) : (List.range 64).countP (fun j => s.has (64 * i + j)) = pc 64 (s.w i) := by
  rw [pc_count]
  apply List.countP_congr
  intro j hj
  have hj' : j < 64 := List.mem_range.1 hj
  unfold St.has
  rw [show (64 * i + j) / 64 = i from by omega, show (64 * i + j) % 64 = j from by omega]
theorem size_eq (s : St) : (upTo s 256).length = s.size := by
  rw [upTo_count, show (256 : Nat) = 64 + (64 + (64 + 64)) from rfl, count_split, count_split, count_split]
  have h0 := word_count s 0
  have h1 := word_count s 1
  have h2 := word_count s 2
  have h3 := word_count s 3
  simp only [Nat.mul_zero, Nat.zero_add, Nat.mul_one, Nat.reduceMul] at h0 h1 h2 h3
  have e2 : (fun j => s.has (64 + (64 + j))) = fun j => s.has (128 + j) := by funext j; congr 1; omega
  have e3 : (fun j => s.has (64 + (64 + (64 + j)))) = fun j => s.has (192 + j) := by funext j; congr 1; omega
  rw [e2, e3, h0, h1, h2, h3]
  unfold St.size St.w
  simp; omega
theorem rbytes_len (s : St) (hs : s.ok) (w : World) :
    Calls Try.prog 23 #[.agg #[.int .u64 s.a, .int .u64 s.b, .int .u64 s.c, .int .u64 s.d]] w fun e w' => ∃ a c, e = .returned (.slice a s.size c) ∧ Below w.heap.size w w' :=
  (rbytes_any s hs w).mono fun e w' ⟨v, he, hr, hb⟩ => by
    rw [size_eq] at hr
    rcases hr.2 with ⟨hv, h0⟩ | ⟨g, cap, cur, hv, _⟩
    · exact ⟨none, 0, by rw [he, hv, h0], hb⟩
    · exact ⟨_, _, by rw [he, hv], hb⟩
theorem within_minus (s t : St) (hs : s.ok) (ht : t.ok) : (s.and t).same s = (s.minus t).same St.zero := by
  rw [Bool.eq_iff_iff, St.same_eq, St.same_eq]
  constructor
  · intro h
    apply St.ext' (St.minus_ok hs) St.zero_ok
    intro n _
    have := congrArg (fun x => St.has x n) h
    simp only [St.has_and] at this
    unfold St.minus
    rw [St.has_and, St.has_not t ht, St.has_zero]
    revert this; cases s.has n <;> cases t.has n <;> simp
  · intro h
    apply St.ext' (St.and_ok hs) hs
    intro n _
    have := congrArg (fun x => St.has x n) h
    unfold St.minus at this
    simp only [St.has_and, St.has_not t ht, St.has_zero] at this
    rw [St.has_and]
    revert this; cases s.has n <;> cases t.has n <;> simp

/-- Two arguments' boxes stand, and what was there. -/
def Two (w : World) (s t : St) (W : World) : Prop := SBox s w.heap.size W ∧ SBox t (w.heap.size + 1) W ∧ Below w.heap.size w W
theorem Two.drew {w W : World} {s t : St} (h : Two w s t W) : Two w s t W.drew := ⟨h.1, h.2.1, h.2.2.drew⟩
theorem Two.nx {w W W' : World} {s t : St} (hb : Below W.heap.size W W') (h : Two w s t W) : Two w s t W' := ⟨h.1.below hb, h.2.1.below hb, below_of h.2.2 hb⟩
theorem Two.cells {w W' : World} {s t : St} (h : Two w s t W') : W'.cell? ⟨w.heap.size, 0, none⟩ = some (.int .u64 s.a) ∧ W'.cell? ⟨w.heap.size, 1, none⟩ = some (.int .u64 s.b) ∧ W'.cell? ⟨w.heap.size, 2, none⟩ = some (.int .u64 s.c) ∧ W'.cell? ⟨w.heap.size, 3, none⟩ = some (.int .u64 s.d) ∧ W'.cell? ⟨w.heap.size + 1, 0, none⟩ = some (.int .u64 t.a) ∧ W'.cell? ⟨w.heap.size + 1, 1, none⟩ = some (.int .u64 t.b) ∧ W'.cell? ⟨w.heap.size + 1, 2, none⟩ = some (.int .u64 t.c) ∧ W'.cell? ⟨w.heap.size + 1, 3, none⟩ = some (.int .u64 t.d) := by
  obtain ⟨a0, a1, a2, a3⟩ := h.1.cells
  obtain ⟨b0, b1, b2, b3⟩ := h.2.1.cells
  exact ⟨a0, a1, a2, a3, b0, b1, b2, b3⟩
theorem Two.start (w : World) (s t : St) : Two w s t ((w.alloc (.cells #[.int .u64 s.a, .int .u64 s.b, .int .u64 s.c, .int .u64 s.d] 26)).alloc (.cells #[.int .u64 t.a, .int .u64 t.b, .int .u64 t.c, .int .u64 t.d] 26)) := by
  refine ⟨(SBox.new s w).alloc _, ?_, ((Below.refl _ _).alloc (Nat.le_refl _) _).alloc (by simp <;> omega) _⟩
  have := SBox.new t (w.alloc (.cells #[.int .u64 s.a, .int .u64 s.b, .int .u64 s.c, .int .u64 s.d] 26))
  rwa [World.size_alloc] at this

set_option maxRecDepth 100000 in
set_option maxHeartbeats 8000000 in
theorem goes_walk (s t : St) (w : World) (hs : s.ok) (ht : t.ok) :
    Calls Try.prog 4 #[.agg #[.int .u64 s.a, .int .u64 s.b, .int .u64 s.c, .int .u64 s.d], .agg #[.int .u64 t.a, .int .u64 t.b, .int .u64 t.c, .int .u64 t.d]] w fun e w' => e = .returned (.bool true) ∧ Below w.heap.size w w' := by
  have HL : Hid _ := fun w => alive_any w
  have H16 : Hid _ := fun w => or_any s t w hs ht
  have H18 : Hid _ := fun w => and_any s t w hs ht
  have H19 : Hid _ := fun w => minus_any s t w hs ht
  have H20 : Hid _ := fun w => not_any s w hs
  have H21 : Hid _ := fun w => within_any s t w hs ht
  have H22 : Hid _ := fun w => size_any s w hs
  have H23 : Hid _ := fun w => rbytes_len s hs w
  have HO0 : Hid _ := fun w => op0_any s t w hs ht
  rw [op0_eq s t hs ht] at HO0
  have HO1 : Hid _ := fun w => op1_any s t w hs ht
  rw [op1_eq s t hs] at HO1
  have HO2 : Hid _ := fun w => op2_any s t w hs ht
  rw [op2_eq s t hs ht] at HO2
  have HO3 : Hid _ := fun w => op3_any s t w hs ht
  rw [op3_eq s t hs] at HO3
  have E0 : ∀ w, (Op.equalIn 10000 26 (.agg #[.int .u64 (s.or t).a, .int .u64 (s.or t).b, .int .u64 (s.or t).c, .int .u64 (s.or t).d]) (.agg #[.int .u64 (s.or t).a, .int .u64 (s.or t).b, .int .u64 (s.or t).c, .int .u64 (s.or t).d])).run Try.prog w = .ok true w := fun w => by rw [eq26, (St.same_eq _ _).2 rfl]
  have E1 : ∀ w, (Op.equalIn 10000 26 (.agg #[.int .u64 (s.and t).a, .int .u64 (s.and t).b, .int .u64 (s.and t).c, .int .u64 (s.and t).d]) (.agg #[.int .u64 (s.and t).a, .int .u64 (s.and t).b, .int .u64 (s.and t).c, .int .u64 (s.and t).d])).run Try.prog w = .ok true w := fun w => by rw [eq26, (St.same_eq _ _).2 rfl]
  have E2 : ∀ w, (Op.equalIn 10000 26 (.agg #[.int .u64 (s.minus t).a, .int .u64 (s.minus t).b, .int .u64 (s.minus t).c, .int .u64 (s.minus t).d]) (.agg #[.int .u64 (s.minus t).a, .int .u64 (s.minus t).b, .int .u64 (s.minus t).c, .int .u64 (s.minus t).d])).run Try.prog w = .ok true w := fun w => by rw [eq26, (St.same_eq _ _).2 rfl]
  have E3 : ∀ w, (Op.equalIn 10000 26 (.agg #[.int .u64 s.not.a, .int .u64 s.not.b, .int .u64 s.not.c, .int .u64 s.not.d]) (.agg #[.int .u64 s.not.a, .int .u64 s.not.b, .int .u64 s.not.c, .int .u64 s.not.d])).run Try.prog w = .ok true w := fun w => by rw [eq26, (St.same_eq _ _).2 rfl]
  have E4 : ∀ w, (Op.equalIn 10000 26 (.agg #[.int .u64 (s.minus t).a, .int .u64 (s.minus t).b, .int .u64 (s.minus t).c, .int .u64 (s.minus t).d]) (.agg #[.int .u64 0, .int .u64 0, .int .u64 0, .int .u64 0])).run Try.prog w = .ok ((s.and t).same s) w := fun w => by rw [within_minus s t hs ht]; exact eq26 (s.minus t) St.zero w
  generalize (s.and t).same s = bb at *
  generalize s.size = nn at *
  generalize s.or t = p0 at *
  generalize s.and t = p1 at *
  generalize s.minus t = p2 at *
  generalize s.not = p3 at *
  have T := Two.start w s t
  go_enter Try.func4, Try.ntmps4
  go_wp2
  obtain ⟨W0, hW0⟩ : ∃ W0, ((w.alloc (.cells #[.int .u64 s.a, .int .u64 s.b, .int .u64 s.c, .int .u64 s.d] 26)).alloc (.cells #[.int .u64 t.a, .int .u64 t.b, .int .u64 t.c, .int .u64 t.d] 26)) = W0 := ⟨_, rfl⟩
  rw [hW0] at T ⊢
  clear hW0
  have TC := T.cells
  go_region_held3 (fun W' => W'.cell? ⟨w.heap.size, 0, none⟩ = some (.int .u64 s.a) ∧ W'.cell? ⟨w.heap.size, 1, none⟩ = some (.int .u64 s.b) ∧ W'.cell? ⟨w.heap.size, 2, none⟩ = some (.int .u64 s.c) ∧ W'.cell? ⟨w.heap.size, 3, none⟩ = some (.int .u64 s.d) ∧ W'.cell? ⟨w.heap.size + 1, 0, none⟩ = some (.int .u64 t.a) ∧ W'.cell? ⟨w.heap.size + 1, 1, none⟩ = some (.int .u64 t.b) ∧ W'.cell? ⟨w.heap.size + 1, 2, none⟩ = some (.int .u64 t.c) ∧ W'.cell? ⟨w.heap.size + 1, 3, none⟩ = some (.int .u64 t.d)) (exact T.cells) (first | (go_at_call 9; refine (HL.out _).mono ?_; rintro e w1 ⟨rfl, hb1⟩; replace T : Two w s t w1 := (by first | exact Two.nx hb1 T | exact Two.nx hb1 T.drew); clear hb1) | (go_at_call 16; refine (H16.out _).mono ?_; rintro e w1 ⟨rfl, hb1⟩; replace T : Two w s t w1 := (by first | exact Two.nx hb1 T | exact Two.nx hb1 T.drew); clear hb1) | (go_at_call 18; refine (H18.out _).mono ?_; rintro e w1 ⟨rfl, hb1⟩; replace T : Two w s t w1 := (by first | exact Two.nx hb1 T | exact Two.nx hb1 T.drew); clear hb1) | (go_at_call 19; refine (H19.out _).mono ?_; rintro e w1 ⟨rfl, hb1⟩; replace T : Two w s t w1 := (by first | exact Two.nx hb1 T | exact Two.nx hb1 T.drew); clear hb1) | (go_at_call 20; refine (H20.out _).mono ?_; rintro e w1 ⟨rfl, hb1⟩; replace T : Two w s t w1 := (by first | exact Two.nx hb1 T | exact Two.nx hb1 T.drew); clear hb1) | (go_at_call 21; refine (H21.out _).mono ?_; rintro e w1 ⟨rfl, hb1⟩; replace T : Two w s t w1 := (by first | exact Two.nx hb1 T | exact Two.nx hb1 T.drew); clear hb1) | (go_at_call 22; refine (H22.out _).mono ?_; rintro e w1 ⟨rfl, hb1⟩; replace T : Two w s t w1 := (by first | exact Two.nx hb1 T | exact Two.nx hb1 T.drew); clear hb1) | (go_at_call_of 17 (0 : Int); refine (HO0.out _).mono ?_; rintro e w1 ⟨rfl, hb1⟩; replace T : Two w s t w1 := (by first | exact Two.nx hb1 T | exact Two.nx hb1 T.drew); clear hb1) | (go_at_call_of 17 (1 : Int); refine (HO1.out _).mono ?_; rintro e w1 ⟨rfl, hb1⟩; replace T : Two w s t w1 := (by first | exact Two.nx hb1 T | exact Two.nx hb1 T.drew); clear hb1) | (go_at_call_of 17 (2 : Int); refine (HO2.out _).mono ?_; rintro e w1 ⟨rfl, hb1⟩; replace T : Two w s t w1 := (by first | exact Two.nx hb1 T | exact Two.nx hb1 T.drew); clear hb1) | (go_at_call_of 17 (3 : Int); refine (HO3.out _).mono ?_; rintro e w1 ⟨rfl, hb1⟩; replace T : Two w s t w1 := (by first | exact Two.nx hb1 T | exact Two.nx hb1 T.drew); clear hb1) | (go_at_call 23; refine (H23.out _).mono ?_; rintro e w1 ⟨ga, gc, rfl, hb1⟩; replace T : Two w s t w1 := (by first | exact Two.nx hb1 T | exact Two.nx hb1 T.drew); clear hb1))
  go_wp2
  go_ret
  exact ⟨rfl, T.2.2⟩

end Go.Proofs.Ytpjnohpjdmgglaa
