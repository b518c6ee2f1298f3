/- What the functions that put sets together answer, at every set and in every memory: each call returns, and turns nothing that was there. -/
import Derived.Test.YtbbmjnhbmcbehaaProg
import Derived.Test.YtbbmjnhbmcbehaaPlain
import Derived.WalkKit
import Derived.WalkSpells
import Derived.WalkLawsBesides
namespace Go.Proofs.Ytbbmjnhbmcbehaa
open Go.RowKit

theorem ret_bool {a b : Bool} (h : a = b) : Ending.returned (.bool a) = .returned (.bool b) := by rw [h]
theorem ret_int {k : IntKind} {a b : Int} (h : a = b) : Ending.returned (.int k a) = .returned (.int k b) := by rw [h]

set_option maxRecDepth 100000 in
set_option maxHeartbeats 400000 in
theorem has_any (s : St) (n : Nat) (w : World) (hs : s.ok) (hn : n < 256) :
    Calls Try.prog 87 #[.agg #[.int .u64 s.a, .int .u64 s.b, .int .u64 s.c, .int .u64 s.d], .int .u8 n] w fun e w' => e = .returned (.bool (s.has n)) ∧ Below w.heap.size w w' := by
  have hg := s.get (n / 64) (by omega)
  have hl := s.w_lt hs (n / 64)
  have H : Hid (s.has n = (s.w (n / 64)).testBit (n % 64)) := rfl
  generalize s.w (n / 64) = x at *
  have H2 : Hid ((bits .and .u64 ((x : Int) / 2 ^ (n % 64)) 1 == 1) = x.testBit (n % 64)) := has_bit x _ hl
  go_enter Try.func87, Try.ntmps87
  go_wp2
  go_ret
  exact ⟨ret_bool (by rw [H2.out, H.out]), (Below.refl _ _).alloc (Nat.le_refl _) _⟩

set_option maxRecDepth 100000 in
set_option maxHeartbeats 1000000 in
theorem or_any (s t : St) (w : World) (hs : s.ok) (ht : t.ok) :
    Calls Try.prog 98 #[.agg #[.int .u64 s.a, .int .u64 s.b, .int .u64 s.c, .int .u64 s.d], .agg #[.int .u64 t.a, .int .u64 t.b, .int .u64 t.c, .int .u64 t.d]] w fun e w' => e = .returned (.agg #[.int .u64 (s.or t).a, .int .u64 (s.or t).b, .int .u64 (s.or t).c, .int .u64 (s.or t).d]) ∧ Below w.heap.size w w' := by
  have i0 : ∀ w, (Instr.index 33 (.agg #[.int .u64 t.a, .int .u64 t.b, .int .u64 t.c, .int .u64 t.d]) (.int .i64 0)).run Try.prog w = .ok (.int .u64 t.a) w := fun _ => by kernel_rfl
  have i1 : ∀ w, (Instr.index 33 (.agg #[.int .u64 t.a, .int .u64 t.b, .int .u64 t.c, .int .u64 t.d]) (.int .i64 1)).run Try.prog w = .ok (.int .u64 t.b) w := fun _ => by kernel_rfl
  have i2 : ∀ w, (Instr.index 33 (.agg #[.int .u64 t.a, .int .u64 t.b, .int .u64 t.c, .int .u64 t.d]) (.int .i64 2)).run Try.prog w = .ok (.int .u64 t.c) w := fun _ => by kernel_rfl
  have i3 : ∀ w, (Instr.index 33 (.agg #[.int .u64 t.a, .int .u64 t.b, .int .u64 t.c, .int .u64 t.d]) (.int .i64 3)).run Try.prog w = .ok (.int .u64 t.d) w := fun _ => by kernel_rfl
  have b0 : bits .or .u64 (s.a : Int) (t.a : Int) = ((s.or t).a : Int) := u64_or_nat _ _ hs.1 ht.1
  have b1 : bits .or .u64 (s.b : Int) (t.b : Int) = ((s.or t).b : Int) := u64_or_nat _ _ hs.2.1 ht.2.1
  have b2 : bits .or .u64 (s.c : Int) (t.c : Int) = ((s.or t).c : Int) := u64_or_nat _ _ hs.2.2.1 ht.2.2.1
  have b3 : bits .or .u64 (s.d : Int) (t.d : Int) = ((s.or t).d : Int) := u64_or_nat _ _ hs.2.2.2 ht.2.2.2
  generalize s.or t = r at *
  go_enter Try.func98, Try.ntmps98
  go_wp2
  refine wp_loop_rounds 5 ?_
  rw [rounds_succ]
  go_wp2
  rw [rounds_succ]
  go_wp2
  rw [rounds_succ]
  go_wp2
  rw [rounds_succ]
  go_wp2
  rw [rounds_succ]
  go_wp2
  refine bodyPost_ret (v := .agg #[.int .u64 r.a, .int .u64 r.b, .int .u64 r.c, .int .u64 r.d]) (by simp [results, Try.results98, go_sem]) rfl ⟨rfl, ?_⟩
  exact (((Below.refl _ _).alloc (Nat.le_refl _) _).alloc (by simp <;> omega) _).alloc (by simp <;> omega) _

set_option maxRecDepth 100000 in
set_option maxHeartbeats 1000000 in
theorem not_any (s : St) (w : World) (hs : s.ok) :
    Calls Try.prog 89 #[.agg #[.int .u64 s.a, .int .u64 s.b, .int .u64 s.c, .int .u64 s.d]] w fun e w' => e = .returned (.agg #[.int .u64 s.not.a, .int .u64 s.not.b, .int .u64 s.not.c, .int .u64 s.not.d]) ∧ Below w.heap.size w w' := by
  have i0 : ∀ w, (Instr.index 33 (.agg #[.int .u64 s.a, .int .u64 s.b, .int .u64 s.c, .int .u64 s.d]) (.int .i64 0)).run Try.prog w = .ok (.int .u64 s.a) w := fun _ => by kernel_rfl
  have i1 : ∀ w, (Instr.index 33 (.agg #[.int .u64 s.a, .int .u64 s.b, .int .u64 s.c, .int .u64 s.d]) (.int .i64 1)).run Try.prog w = .ok (.int .u64 s.b) w := fun _ => by kernel_rfl
  have i2 : ∀ w, (Instr.index 33 (.agg #[.int .u64 s.a, .int .u64 s.b, .int .u64 s.c, .int .u64 s.d]) (.int .i64 2)).run Try.prog w = .ok (.int .u64 s.c) w := fun _ => by kernel_rfl
  have i3 : ∀ w, (Instr.index 33 (.agg #[.int .u64 s.a, .int .u64 s.b, .int .u64 s.c, .int .u64 s.d]) (.int .i64 3)).run Try.prog w = .ok (.int .u64 s.d) w := fun _ => by kernel_rfl
  have b0 : bits .xor .u64 IntKind.u64.max (s.a : Int) = (s.not.a : Int) := xor_max _ hs.1
  have b1 : bits .xor .u64 IntKind.u64.max (s.b : Int) = (s.not.b : Int) := xor_max _ hs.2.1
  have b2 : bits .xor .u64 IntKind.u64.max (s.c : Int) = (s.not.c : Int) := xor_max _ hs.2.2.1
  have b3 : bits .xor .u64 IntKind.u64.max (s.d : Int) = (s.not.d : Int) := xor_max _ hs.2.2.2
  generalize s.not = r at *
  go_enter Try.func89, Try.ntmps89
  go_wp2
  refine wp_loop_rounds 5 ?_
  rw [rounds_succ]
  go_wp2
  rw [rounds_succ]
  go_wp2
  rw [rounds_succ]
  go_wp2
  rw [rounds_succ]
  go_wp2
  rw [rounds_succ]
  go_wp2
  refine bodyPost_ret (v := .agg #[.int .u64 r.a, .int .u64 r.b, .int .u64 r.c, .int .u64 r.d]) (by simp [results, Try.results89, go_sem]) rfl ⟨rfl, ?_⟩
  exact ((Below.refl _ _).alloc (Nat.le_refl _) _).alloc (by simp <;> omega) _

def St.minus (s t : St) : St := s.and t.not
def St.same (s t : St) : Bool := s.a == t.a && s.b == t.b && s.c == t.c && s.d == t.d

end Go.Proofs.Ytbbmjnhbmcbehaa
