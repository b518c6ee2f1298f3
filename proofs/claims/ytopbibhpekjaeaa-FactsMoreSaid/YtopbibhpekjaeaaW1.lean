/- What the functions that put sets together answer, at every set and in every memory: each call returns, and turns nothing that was there. -/
import Derived.Test.YtopbibhpekjaeaaProg
import Derived.Test.YtopbibhpekjaeaaPlain
import Derived.WalkKit
import Derived.WalkSpells
import Derived.WalkLawsBesides
import Derived.Deep.RegionHeld3
import Derived.RegionTactic
import Derived.ChangeAlike
import Derived.Deep.DrawnRows
import Derived.Deep.RegionWith
import Derived.BigRegion
namespace Go.Proofs.Ytopbibhpekjaeaa
open Go.RowKit

theorem ret_bool {a b : Bool} (h : a = b) : Ending.returned (.bool a) = .returned (.bool b) := by rw [h]
theorem ret_int {k : IntKind} {a b : Int} (h : a = b) : Ending.returned (.int k a) = .returned (.int k b) := by rw [h]
def St.same (s t : St) : Bool := s.a == t.a && s.b == t.b && s.c == t.c && s.d == t.d
theorem bcell {W w1 : World} (hb : Below W.heap.size W w1) : (∀ b o, b < W.heap.size → w1.cell? ⟨b, o, none⟩ = W.cell? ⟨b, o, none⟩) ∧ (∀ b o, b < W.heap.size → w1.frozen? ⟨b, o, none⟩ = W.frozen? ⟨b, o, none⟩) :=
  ⟨fun b o h => hb.cell (p := ⟨b, o, none⟩) h, fun b o h => hb.frozen (p := ⟨b, o, none⟩) h⟩
theorem below_of {w W w2 : World} (h : Below w.heap.size w W) (hb : Below W.heap.size W w2) : Below w.heap.size w w2 := h.trans (hb.mono h.size)
set_option maxHeartbeats 1000000 in
theorem or_any (s t : St) (w : World) (hs : s.ok) (ht : t.ok) :
    Calls Try.prog 66 #[.agg #[.int .u64 s.a, .int .u64 s.b, .int .u64 s.c, .int .u64 s.d], .agg #[.int .u64 t.a, .int .u64 t.b, .int .u64 t.c, .int .u64 t.d]] w fun e w' => e = .returned (.agg #[.int .u64 (s.or t).a, .int .u64 (s.or t).b, .int .u64 (s.or t).c, .int .u64 (s.or t).d]) ∧ Below w.heap.size w w' := by
  have i0 : ∀ w, (Instr.index 49 (.agg #[.int .u64 t.a, .int .u64 t.b, .int .u64 t.c, .int .u64 t.d]) (.int .i64 0)).run Try.prog w = .ok (.int .u64 t.a) w := fun _ => by kernel_rfl
  have i1 : ∀ w, (Instr.index 49 (.agg #[.int .u64 t.a, .int .u64 t.b, .int .u64 t.c, .int .u64 t.d]) (.int .i64 1)).run Try.prog w = .ok (.int .u64 t.b) w := fun _ => by kernel_rfl
  have i2 : ∀ w, (Instr.index 49 (.agg #[.int .u64 t.a, .int .u64 t.b, .int .u64 t.c, .int .u64 t.d]) (.int .i64 2)).run Try.prog w = .ok (.int .u64 t.c) w := fun _ => by kernel_rfl
  have i3 : ∀ w, (Instr.index 49 (.agg #[.int .u64 t.a, .int .u64 t.b, .int .u64 t.c, .int .u64 t.d]) (.int .i64 3)).run Try.prog w = .ok (.int .u64 t.d) w := fun _ => by kernel_rfl
  have b0 : bits .or .u64 (s.a : Int) (t.a : Int) = ((s.or t).a : Int) := u64_or_nat _ _ hs.1 ht.1
  have b1 : bits .or .u64 (s.b : Int) (t.b : Int) = ((s.or t).b : Int) := u64_or_nat _ _ hs.2.1 ht.2.1
  have b2 : bits .or .u64 (s.c : Int) (t.c : Int) = ((s.or t).c : Int) := u64_or_nat _ _ hs.2.2.1 ht.2.2.1
  have b3 : bits .or .u64 (s.d : Int) (t.d : Int) = ((s.or t).d : Int) := u64_or_nat _ _ hs.2.2.2 ht.2.2.2
  generalize s.or t = r at *
  go_enter Try.func66, Try.ntmps66
  go_wp2
  refine wp_loop_rounds 5 ?_
  rw [rounds_succ]
  go_wp2
  rw [rounds_succ]
  go_wp2
  rw [rounds_succ]
  go_wp2
  rw [rounds_succ]
  go_wp2
  rw [rounds_succ]
  go_wp2
  refine bodyPost_ret (v := .agg #[.int .u64 r.a, .int .u64 r.b, .int .u64 r.c, .int .u64 r.d]) (by simp [results, Try.results66, go_sem]) rfl ⟨rfl, ?_⟩
  exact (((Below.refl _ _).alloc (Nat.le_refl _) _).alloc (by simp <;> omega) _).alloc (by simp <;> omega) _

set_option maxHeartbeats 1000000 in
theorem and_any (s t : St) (w : World) (hs : s.ok) (ht : t.ok) :
    Calls Try.prog 75 #[.agg #[.int .u64 s.a, .int .u64 s.b, .int .u64 s.c, .int .u64 s.d], .agg #[.int .u64 t.a, .int .u64 t.b, .int .u64 t.c, .int .u64 t.d]] w fun e w' => e = .returned (.agg #[.int .u64 (s.and t).a, .int .u64 (s.and t).b, .int .u64 (s.and t).c, .int .u64 (s.and t).d]) ∧ Below w.heap.size w w' := by
  have i0 : ∀ w, (Instr.index 49 (.agg #[.int .u64 t.a, .int .u64 t.b, .int .u64 t.c, .int .u64 t.d]) (.int .i64 0)).run Try.prog w = .ok (.int .u64 t.a) w := fun _ => by kernel_rfl
  have i1 : ∀ w, (Instr.index 49 (.agg #[.int .u64 t.a, .int .u64 t.b, .int .u64 t.c, .int .u64 t.d]) (.int .i64 1)).run Try.prog w = .ok (.int .u64 t.b) w := fun _ => by kernel_rfl
  have i2 : ∀ w, (Instr.index 49 (.agg #[.int .u64 t.a, .int .u64 t.b, .int .u64 t.c, .int .u64 t.d]) (.int .i64 2)).run Try.prog w = .ok (.int .u64 t.c) w := fun _ => by kernel_rfl
  have i3 : ∀ w, (Instr.index 49 (.agg #[.int .u64 t.a, .int .u64 t.b, .int .u64 t.c, .int .u64 t.d]) (.int .i64 3)).run Try.prog w = .ok (.int .u64 t.d) w := fun _ => by kernel_rfl
  have b0 : bits .and .u64 (s.a : Int) (t.a : Int) = ((s.and t).a : Int) := u64_and_nat _ _ hs.1 ht.1
  have b1 : bits .and .u64 (s.b : Int) (t.b : Int) = ((s.and t).b : Int) := u64_and_nat _ _ hs.2.1 ht.2.1
  have b2 : bits .and .u64 (s.c : Int) (t.c : Int) = ((s.and t).c : Int) := u64_and_nat _ _ hs.2.2.1 ht.2.2.1
  have b3 : bits .and .u64 (s.d : Int) (t.d : Int) = ((s.and t).d : Int) := u64_and_nat _ _ hs.2.2.2 ht.2.2.2
  generalize s.and t = r at *
  go_enter Try.func75, Try.ntmps75
  go_wp2
  refine wp_loop_rounds 5 ?_
  rw [rounds_succ]
  go_wp2
  rw [rounds_succ]
  go_wp2
  rw [rounds_succ]
  go_wp2
  rw [rounds_succ]
  go_wp2
  rw [rounds_succ]
  go_wp2
  refine bodyPost_ret (v := .agg #[.int .u64 r.a, .int .u64 r.b, .int .u64 r.c, .int .u64 r.d]) (by simp [results, Try.results75, go_sem]) rfl ⟨rfl, ?_⟩
  exact (((Below.refl _ _).alloc (Nat.le_refl _) _).alloc (by simp <;> omega) _).alloc (by simp <;> omega) _


theorem St.same_eq (s t : St) : (s.same t = true) ↔ s = t := by
  cases s; cases t; simp [St.same, and_assoc]
set_option maxRecDepth 100000 in
theorem eq49 (s t : St) (w : World) : (Op.equalIn 10000 49 (.agg #[.int .u64 s.a, .int .u64 s.b, .int .u64 s.c, .int .u64 s.d]) (.agg #[.int .u64 t.a, .int .u64 t.b, .int .u64 t.c, .int .u64 t.d])).run Try.prog w = .ok (St.same s t) w := by
  have hp : ∀ (x0 x1 x2 x3 : Value) w, ((part 47 #[x0, x1, x2, x3] 0).run Try.prog w = .ok x0 w) ∧ ((part 47 #[x0, x1, x2, x3] 1).run Try.prog w = .ok x1 w) ∧ ((part 47 #[x0, x1, x2, x3] 2).run Try.prog w = .ok x2 w) ∧ ((part 47 #[x0, x1, x2, x3] 3).run Try.prog w = .ok x3 w) := by
    intro x0 x1 x2 x3 w
    refine ⟨?_, ?_, ?_, ?_⟩ <;> kernel_rfl
  have hz : ∀ w, (sizeOf 47).run Try.prog w = .ok 1 w := fun w => by kernel_rfl
  have he : ∀ (a b : Nat) w, (Op.equalIn 9999 47 (.int .u64 a) (.int .u64 b)).run Try.prog w = .ok ((a : Int) == (b : Int)) w := fun a b w => run_equalIn_int w 9998 47 .u64 .u64 a b Try.underlying47
  rw [show (10000 : Nat) = 9999 + 1 from rfl]
  rw [Op.equalIn]
  simp only [Sem.run_bind, run_underlying Try.underlying49, Result.andThen_ok]
  simp [Std.Legacy.Range.forIn_eq_forIn_range', List.range', hz, hp, he]
  unfold St.same
  by_cases h0 : s.a = t.a
  · by_cases h1 : s.b = t.b
    · by_cases h2 : s.c = t.c
      · by_cases h3 : s.d = t.d
        · simp [h0, h1, h2, h3]
        · have : ¬ (s.d : Int) = t.d := by omega
          simp [h0, h1, h2, h3, this]
      · have : ¬ (s.c : Int) = t.c := by omega
        simp [h0, h1, h2, this]
    · have : ¬ (s.b : Int) = t.b := by omega
      simp [h0, h1, this]
  · have : ¬ (s.a : Int) = t.a := by omega
    simp [h0, this]
set_option maxHeartbeats 1000000 in
theorem within_any (s t : St) (w : World) (hs : s.ok) (ht : t.ok) :
    Calls Try.prog 65 #[.agg #[.int .u64 s.a, .int .u64 s.b, .int .u64 s.c, .int .u64 s.d], .agg #[.int .u64 t.a, .int .u64 t.b, .int .u64 t.c, .int .u64 t.d]] w fun e w' => e = .returned (.bool ((s.and t).same s)) ∧ Below w.heap.size w w' := by
  have he := fun w => eq49 (s.and t) s w
  have HA : Hid _ := fun w => and_any s t w hs ht
  generalize (s.and t).same s = x at *
  generalize s.and t = r at *
  go_enter Try.func65, Try.ntmps65
  go_wp2
  go_region_with (go_at_call 75; refine (HA.out _).mono ?_; rintro e w2 ⟨rfl, hb2⟩; obtain ⟨hc2, hf2⟩ := bcell hb2)
  all_goals go_wp2
  all_goals (go_ret; refine ⟨rfl, below_of ?_ hb2⟩)
  all_goals exact (((Below.refl _ _).alloc (Nat.le_refl _) _).alloc (by simp <;> omega) _).drew


def St.any (s : St) : Bool := !(s.same St.zero)
def stV (s : St) : Value := .agg #[.int .u64 (s.a : Int), .int .u64 (s.b : Int), .int .u64 (s.c : Int), .int .u64 (s.d : Int)]
theorem eq49z (s : St) (w : World) : (Op.equalIn 10000 49 (.agg #[.int .u64 s.a, .int .u64 s.b, .int .u64 s.c, .int .u64 s.d]) (.agg #[.int .u64 0, .int .u64 0, .int .u64 0, .int .u64 0])).run Try.prog w = .ok (St.same s St.zero) w := eq49 s St.zero w
set_option maxRecDepth 100000 in
set_option maxHeartbeats 400000 in
theorem hasByte_any (s : St) (w : World) :
    Calls Try.prog 63 #[.agg #[.int .u64 s.a, .int .u64 s.b, .int .u64 s.c, .int .u64 s.d]] w fun e w' => e = .returned (.bool s.any) ∧ Below w.heap.size w w' := by
  have he := fun w => eq49z s w
  unfold St.any
  go_enter Try.func63, Try.ntmps63
  go_wp2
  go_ret
  exact ⟨rfl, (Below.refl _ _).alloc (Nat.le_refl _) _⟩
set_option maxRecDepth 100000 in
set_option maxHeartbeats 400000 in
theorem isNullable_any (s : St) (w : World) :
    Calls Try.prog 61 #[.agg #[.int .u64 s.a, .int .u64 s.b, .int .u64 s.c, .int .u64 s.d]] w fun e w' => e = .returned (.bool false) ∧ Below w.heap.size w w' := by
  go_enter Try.func61, Try.ntmps61
  go_wp2
  go_ret
  exact ⟨rfl, (Below.refl _ _).alloc (Nat.le_refl _) _⟩
end Go.Proofs.Ytopbibhpekjaeaa
