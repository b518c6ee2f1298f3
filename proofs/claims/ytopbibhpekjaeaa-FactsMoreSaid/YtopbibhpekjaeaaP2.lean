/- Lists of numbers and of sets that are the same are told as the same. -/
import Derived.Test.YtopbibhpekjaeaaF4
import Derived.Deep.QuietTactic
import Derived.BigQuiet
import Derived.WalkSmall
namespace Go.Proofs.Ytopbibhpekjaeaa
open Go.RowKit

set_option maxRecDepth 100000 in
set_option maxHeartbeats 4000000 in
theorem sameInts_any (n : Nat) (a b : Option Addr) (ca cb : Nat) (w : World) (hn : n ≤ 140737488355328)
    (h : ∀ k, k < n → ∃ ga oa gb ob z, a = some ⟨ga, oa, none⟩ ∧ b = some ⟨gb, ob, none⟩ ∧ ga < w.heap.size ∧ gb < w.heap.size ∧ w.cell? ⟨ga, oa + k, none⟩ = some (.int .i64 z) ∧ w.cell? ⟨gb, ob + k, none⟩ = some (.int .i64 z)) :
    Calls Try.prog 35 #[.slice a n ca, .slice b n cb] w fun e w' => e = .returned (.bool true) ∧ Below w.heap.size w w' := by
  go_enter Try.func35, Try.ntmps35
  go_wp2
  go_loopw [5] (fun i W => ∃ k : Nat, k ≤ n ∧ i = .int .i64 k ∧ Below w.heap.size w W) (fun i _ => n - (intOf i).toNat)
  case atStart => exact ⟨0, by omega, rfl, Below.refl _ _⟩
  case round =>
    obtain ⟨k, hk, rfl, hB⟩ := hrel
    by_cases hlt : k < n
    · obtain ⟨ga, oa, gb, ob, z, rfl, rfl, hga, hgb, e1', e2'⟩ := h k hlt
      have hkI : (k : Int) < n := by omega
      have e1 := (hB.cell (p := ⟨ga, oa + k, none⟩) hga).trans e1'
      have e2 := (hB.cell (p := ⟨gb, ob + k, none⟩) hgb).trans e2'
      clear e1' e2' h
      go_wp2
      go_quiet (fail)
      go_wp2
      exact ⟨⟨k + 1, by omega, by go_num, below_drewN hB _⟩, by simp [intOf]; omega⟩
    · obtain rfl : k = n := by omega
      go_wp2
      go_ret
      exact ⟨rfl, hB⟩
set_option maxRecDepth 100000 in
set_option maxHeartbeats 4000000 in
theorem sameSets_any (n : Nat) (a b : Option Addr) (ca cb : Nat) (w : World) (hn : n * 32 ≤ 140737488355328)
    (h : ∀ k, k < n → ∃ ga oa gb ob, ∃ s : St, a = some ⟨ga, oa, none⟩ ∧ b = some ⟨gb, ob, none⟩ ∧ ga < w.heap.size ∧ gb < w.heap.size ∧ (w.cell? ⟨ga, oa + k * 4, none⟩ = some (.int .u64 s.a) ∧ w.cell? ⟨ga, oa + k * 4 + 1, none⟩ = some (.int .u64 s.b) ∧ w.cell? ⟨ga, oa + k * 4 + 2, none⟩ = some (.int .u64 s.c) ∧ w.cell? ⟨ga, oa + k * 4 + 3, none⟩ = some (.int .u64 s.d)) ∧
      w.cell? ⟨gb, ob + k * 4, none⟩ = some (.int .u64 s.a) ∧ w.cell? ⟨gb, ob + k * 4 + 1, none⟩ = some (.int .u64 s.b) ∧ w.cell? ⟨gb, ob + k * 4 + 2, none⟩ = some (.int .u64 s.c) ∧ w.cell? ⟨gb, ob + k * 4 + 3, none⟩ = some (.int .u64 s.d)) :
    Calls Try.prog 28 #[.slice a n ca, .slice b n cb] w fun e w' => e = .returned (.bool true) ∧ Below w.heap.size w w' := by
  go_enter Try.func28, Try.ntmps28
  go_wp2
  go_loopw [5] (fun i W => ∃ k : Nat, k ≤ n ∧ i = .int .i64 k ∧ Below w.heap.size w W) (fun i _ => n - (intOf i).toNat)
  case atStart => exact ⟨0, by omega, rfl, Below.refl _ _⟩
  case round =>
    obtain ⟨k, hk, rfl, hB⟩ := hrel
    by_cases hlt : k < n
    · obtain ⟨ga, oa, gb, ob, s, rfl, rfl, hga, hgb, ⟨a0, a1, a2, a3⟩, b0, b1, b2, b3⟩ := h k hlt
      have hkI : (k : Int) < n := by omega
      have ka : ∀ q, wr.cell? ⟨ga, q, none⟩ = w.cell? ⟨ga, q, none⟩ := fun q => hB.cell (p := ⟨ga, q, none⟩) hga
      have kb : ∀ q, wr.cell? ⟨gb, q, none⟩ = w.cell? ⟨gb, q, none⟩ := fun q => hB.cell (p := ⟨gb, q, none⟩) hgb
      rw [← ka] at a0 a1 a2 a3
      rw [← kb] at b0 b1 b2 b3
      have he : ∀ w, (Op.equalIn 10000 49 (.agg #[.int .u64 s.a, .int .u64 s.b, .int .u64 s.c, .int .u64 s.d]) (.agg #[.int .u64 s.a, .int .u64 s.b, .int .u64 s.c, .int .u64 s.d])).run Try.prog w = .ok true w := fun w => by rw [eq49, (St.same_eq s s).2 rfl]
      clear ka kb h
      go_wp2
      go_quiet (fail)
      go_wp2
      exact ⟨⟨k + 1, by omega, by go_num, below_drewN hB _⟩, by simp [intOf]; omega⟩
    · obtain rfl : k = n := by omega
      go_wp2
      go_ret
      exact ⟨rfl, hB⟩
set_option maxRecDepth 100000 in
set_option maxHeartbeats 4000000 in
theorem sameBools_any (n : Nat) (a b : Option Addr) (ca cb : Nat) (w : World) (hn : n ≤ 140737488355328)
    (h : ∀ k, k < n → ∃ ga oa gb ob z, a = some ⟨ga, oa, none⟩ ∧ b = some ⟨gb, ob, none⟩ ∧ ga < w.heap.size ∧ gb < w.heap.size ∧ w.cell? ⟨ga, oa + k, none⟩ = some (.bool z) ∧ w.cell? ⟨gb, ob + k, none⟩ = some (.bool z)) :
    Calls Try.prog 25 #[.slice a n ca, .slice b n cb] w fun e w' => e = .returned (.bool true) ∧ Below w.heap.size w w' := by
  go_enter Try.func25, Try.ntmps25
  go_wp2
  go_loopw [5] (fun i W => ∃ k : Nat, k ≤ n ∧ i = .int .i64 k ∧ Below w.heap.size w W) (fun i _ => n - (intOf i).toNat)
  case atStart => exact ⟨0, by omega, rfl, Below.refl _ _⟩
  case round =>
    obtain ⟨k, hk, rfl, hB⟩ := hrel
    by_cases hlt : k < n
    · obtain ⟨ga, oa, gb, ob, z, rfl, rfl, hga, hgb, e1', e2'⟩ := h k hlt
      have hkI : (k : Int) < n := by omega
      have e1 := (hB.cell (p := ⟨ga, oa + k, none⟩) hga).trans e1'
      have e2 := (hB.cell (p := ⟨gb, ob + k, none⟩) hgb).trans e2'
      clear e1' e2' h
      cases z
      all_goals
        go_wp2
        go_quiet (fail)
        go_wp2
        exact ⟨⟨k + 1, by omega, by go_num, below_drewN hB _⟩, by simp [intOf]; omega⟩
    · obtain rfl : k = n := by omega
      go_wp2
      go_ret
      exact ⟨rfl, hB⟩
set_option maxRecDepth 100000 in
set_option maxHeartbeats 4000000 in
theorem less_any (n : Nat) (a b : Option Addr) (ca cb : Nat) (w : World) (hn : n ≤ 140737488355328)
    (h : ∀ k, k < n → ∃ ga oa gb ob, ∃ x y : Bool, a = some ⟨ga, oa, none⟩ ∧ b = some ⟨gb, ob, none⟩ ∧ ga < w.heap.size ∧ gb < w.heap.size ∧ w.cell? ⟨ga, oa + k, none⟩ = some (.bool x) ∧ w.cell? ⟨gb, ob + k, none⟩ = some (.bool y) ∧ (x = true → y = true)) :
    Calls Try.prog 36 #[.slice a n ca, .slice b n cb] w fun e w' => e = .returned (.bool true) ∧ Below w.heap.size w w' := by
  go_enter Try.func36, Try.ntmps36
  go_wp2
  go_loopw [5] (fun i W => ∃ k : Nat, k ≤ n ∧ i = .int .i64 k ∧ Below w.heap.size w W) (fun i _ => n - (intOf i).toNat)
  case atStart => exact ⟨0, by omega, rfl, Below.refl _ _⟩
  case round =>
    obtain ⟨k, hk, rfl, hB⟩ := hrel
    by_cases hlt : k < n
    · obtain ⟨ga, oa, gb, ob, x, y, rfl, rfl, hga, hgb, e1', e2', hxy⟩ := h k hlt
      have hkI : (k : Int) < n := by omega
      have e1 := (hB.cell (p := ⟨ga, oa + k, none⟩) hga).trans e1'
      have e2 := (hB.cell (p := ⟨gb, ob + k, none⟩) hgb).trans e2'
      clear e1' e2' h
      cases x with
      | true =>
        obtain rfl := hxy rfl
        go_wp2
        exact ⟨⟨k + 1, by omega, by go_num, hB⟩, by simp [intOf]; omega⟩
      | false =>
        go_wp2
        exact ⟨⟨k + 1, by omega, by go_num, hB⟩, by simp [intOf]; omega⟩
    · obtain rfl : k = n := by omega
      go_wp2
      go_ret
      exact ⟨rfl, hB⟩
end Go.Proofs.Ytopbibhpekjaeaa
