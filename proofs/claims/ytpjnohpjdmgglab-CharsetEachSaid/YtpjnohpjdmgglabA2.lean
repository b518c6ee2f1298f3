/- The law CharsetApart, walked: at every two sets the call returns true, and turns nothing that was there. -/
import Derived.Test.YtpjnohpjdmgglabW10
import Derived.Test.YtpjnohpjdmgglabA1
import Derived.Deep.RegionHeld3
import Derived.Deep.DrawnRows
namespace Go.Proofs.Ytpjnohpjdmgglab
open Go.RowKit

theorem SBox.below {s : St} {B : Nat} {W W' : World} (h : SBox s B W) (hb : Below W.heap.size W W') : SBox s B W' := (hb.block B h.lt).trans h
/-- Two arguments' boxes stand, and what was there. -/
def Two (w : World) (s t : St) (W : World) : Prop := SBox s w.heap.size W ∧ SBox t (w.heap.size + 1) W ∧ Below w.heap.size w W
theorem Two.drew {w W : World} {s t : St} (h : Two w s t W) : Two w s t W.drew := ⟨h.1, h.2.1, h.2.2.drew⟩
theorem Two.nx {w W W' : World} {s t : St} (hb : Below W.heap.size W W') (h : Two w s t W) : Two w s t W' := ⟨h.1.below hb, h.2.1.below hb, below_of h.2.2 hb⟩
theorem Two.cells {w W' : World} {s t : St} (h : Two w s t W') : W'.cell? ⟨w.heap.size, 0, none⟩ = some (.int .u64 s.a) ∧ W'.cell? ⟨w.heap.size, 1, none⟩ = some (.int .u64 s.b) ∧ W'.cell? ⟨w.heap.size, 2, none⟩ = some (.int .u64 s.c) ∧ W'.cell? ⟨w.heap.size, 3, none⟩ = some (.int .u64 s.d) ∧ W'.cell? ⟨w.heap.size + 1, 0, none⟩ = some (.int .u64 t.a) ∧ W'.cell? ⟨w.heap.size + 1, 1, none⟩ = some (.int .u64 t.b) ∧ W'.cell? ⟨w.heap.size + 1, 2, none⟩ = some (.int .u64 t.c) ∧ W'.cell? ⟨w.heap.size + 1, 3, none⟩ = some (.int .u64 t.d) := by
  obtain ⟨a0, a1, a2, a3⟩ := h.1.cells
  obtain ⟨b0, b1, b2, b3⟩ := h.2.1.cells
  exact ⟨a0, a1, a2, a3, b0, b1, b2, b3⟩
theorem Two.start (w : World) (s t : St) : Two w s t ((w.alloc (.cells #[.int .u64 s.a, .int .u64 s.b, .int .u64 s.c, .int .u64 s.d] 24)).alloc (.cells #[.int .u64 t.a, .int .u64 t.b, .int .u64 t.c, .int .u64 t.d] 24)) := by
  refine ⟨(SBox.new s w).alloc _, ?_, ((Below.refl _ _).alloc (Nat.le_refl _) _).alloc (by simp <;> omega) _⟩
  have := SBox.new t (w.alloc (.cells #[.int .u64 s.a, .int .u64 s.b, .int .u64 s.c, .int .u64 s.d] 24))
  rwa [World.size_alloc] at this

theorem text_same (s t : St) (hs : s.ok) (ht : t.ok) : ((⟨(printL s).toArray⟩ : ByteArray).toList == (⟨(printL t).toArray⟩ : ByteArray).toList) = s.same t := by
  rw [Bool.eq_iff_iff, St.same_eq, beq_iff_eq, ByteArray.toList_eq, ByteArray.toList_eq]
  constructor
  · intro h; exact print_inj s t hs ht h
  · intro h; rw [h]
theorem within_or (s t : St) (hs : s.ok) (ht : t.ok) : (s.or t).same t = (s.and t).same s := by
  rw [Bool.eq_iff_iff, St.same_eq, St.same_eq]
  constructor
  · intro h
    apply St.ext' (St.and_ok hs) hs
    intro n _
    have := congrArg (fun x => St.has x n) h
    simp only [St.has_or] at this
    rw [St.has_and]
    revert this; cases s.has n <;> cases t.has n <;> simp
  · intro h
    apply St.ext' (St.or_ok hs ht) ht
    intro n _
    have := congrArg (fun x => St.has x n) h
    simp only [St.has_and] at this
    rw [St.has_or]
    revert this; cases s.has n <;> cases t.has n <;> simp
theorem meet_within (s t : St) (hs : s.ok) : ((s.and t).and s).same (s.and t) = true := by
  rw [St.same_eq]
  apply St.ext' (St.and_ok (St.and_ok hs)) (St.and_ok hs)
  intro n _
  rw [St.has_and, St.has_and]
  cases s.has n <;> cases t.has n <;> rfl

set_option maxRecDepth 100000 in
set_option maxHeartbeats 8000000 in
theorem apart_walk (s t : St) (w : World) (hs : s.ok) (ht : t.ok) :
    Calls Try.prog 4 #[.agg #[.int .u64 s.a, .int .u64 s.b, .int .u64 s.c, .int .u64 s.d], .agg #[.int .u64 t.a, .int .u64 t.b, .int .u64 t.c, .int .u64 t.d]] w fun e w' => e = .returned (.bool true) ∧ Below w.heap.size w w' := by
  have HL : Hid _ := fun w => alive_any w
  have HPS : Hid _ := fun w => print_any s hs w
  have HPT : Hid _ := fun w => print_any t ht w
  have HW1 : Hid _ := fun w => within_any s t w hs ht
  have HU : Hid _ := fun w => or_any s t w hs ht
  have HM : Hid _ := fun w => and_any s t w hs ht
  have HW2 : Hid _ := fun w => within_any (s.and t) s w (St.and_ok hs) hs
  rw [meet_within s t hs] at HW2
  have hxy := text_same s t hs ht
  have E0 : ∀ w, (Op.equalIn 10000 24 (.agg #[.int .u64 s.a, .int .u64 s.b, .int .u64 s.c, .int .u64 s.d]) (.agg #[.int .u64 t.a, .int .u64 t.b, .int .u64 t.c, .int .u64 t.d])).run Try.prog w = .ok (s.same t) w := fun w => eq26 s t w
  have E1 : ∀ w, (Op.equalIn 10000 24 (.agg #[.int .u64 (s.or t).a, .int .u64 (s.or t).b, .int .u64 (s.or t).c, .int .u64 (s.or t).d]) (.agg #[.int .u64 t.a, .int .u64 t.b, .int .u64 t.c, .int .u64 t.d])).run Try.prog w = .ok ((s.and t).same s) w := fun w => by rw [eq26, within_or s t hs ht]
  generalize s.same t = bb at *
  generalize (s.and t).same s = b1 at *
  generalize s.or t = p0 at *
  generalize s.and t = p1 at *
  generalize (⟨(printL s).toArray⟩ : ByteArray) = X at *
  generalize (⟨(printL t).toArray⟩ : ByteArray) = Y at *
  have T := Two.start w s t
  go_enter Try.func4, Try.ntmps4
  go_wp2
  obtain ⟨W0, hW0⟩ : ∃ W0, ((w.alloc (.cells #[.int .u64 s.a, .int .u64 s.b, .int .u64 s.c, .int .u64 s.d] 24)).alloc (.cells #[.int .u64 t.a, .int .u64 t.b, .int .u64 t.c, .int .u64 t.d] 24)) = W0 := ⟨_, rfl⟩
  rw [hW0] at T ⊢
  clear hW0
  have TC := T.cells
  go_region_held3 (fun W' => W'.cell? ⟨w.heap.size, 0, none⟩ = some (.int .u64 s.a) ∧ W'.cell? ⟨w.heap.size, 1, none⟩ = some (.int .u64 s.b) ∧ W'.cell? ⟨w.heap.size, 2, none⟩ = some (.int .u64 s.c) ∧ W'.cell? ⟨w.heap.size, 3, none⟩ = some (.int .u64 s.d) ∧ W'.cell? ⟨w.heap.size + 1, 0, none⟩ = some (.int .u64 t.a) ∧ W'.cell? ⟨w.heap.size + 1, 1, none⟩ = some (.int .u64 t.b) ∧ W'.cell? ⟨w.heap.size + 1, 2, none⟩ = some (.int .u64 t.c) ∧ W'.cell? ⟨w.heap.size + 1, 3, none⟩ = some (.int .u64 t.d)) (exact T.cells) (first | (go_at_call 14; refine (HL.out _).mono ?_; rintro e w1 ⟨rfl, hb1⟩; replace T : Two w s t w1 := (by first | exact Two.nx hb1 T | exact Two.nx hb1 T.drew); clear hb1) | (go_at_call_of 15 s.a; refine (HPS.out _).mono ?_; rintro e w1 ⟨rfl, hb1⟩; replace T : Two w s t w1 := (by first | exact Two.nx hb1 T | exact Two.nx hb1 T.drew); clear hb1) | (go_at_call_of 15 t.a; refine (HPT.out _).mono ?_; rintro e w1 ⟨rfl, hb1⟩; replace T : Two w s t w1 := (by first | exact Two.nx hb1 T | exact Two.nx hb1 T.drew); clear hb1) | (go_at_call_of 16 t.a; refine (HW1.out _).mono ?_; rintro e w1 ⟨rfl, hb1⟩; replace T : Two w s t w1 := (by first | exact Two.nx hb1 T | exact Two.nx hb1 T.drew); clear hb1) | (go_at_call 10; refine (HU.out _).mono ?_; rintro e w1 ⟨rfl, hb1⟩; replace T : Two w s t w1 := (by first | exact Two.nx hb1 T | exact Two.nx hb1 T.drew); clear hb1) | (go_at_call 11; refine (HM.out _).mono ?_; rintro e w1 ⟨rfl, hb1⟩; replace T : Two w s t w1 := (by first | exact Two.nx hb1 T | exact Two.nx hb1 T.drew); clear hb1) | (go_at_call_of 16 p1.a; refine (HW2.out _).mono ?_; rintro e w1 ⟨rfl, hb1⟩; replace T : Two w s t w1 := (by first | exact Two.nx hb1 T | exact Two.nx hb1 T.drew); clear hb1))
  go_wp2
  go_ret
  exact ⟨rfl, T.2.2⟩

end Go.Proofs.Ytpjnohpjdmgglab
