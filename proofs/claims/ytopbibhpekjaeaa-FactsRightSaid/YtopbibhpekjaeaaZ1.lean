/- How great a grammar is, however great; rules that are the same are told as the same. -/
import Derived.Test.YtopbibhpekjaeaaP2
import Derived.Test.YtopbibhpekjaeaaM2
namespace Go.Proofs.Ytopbibhpekjaeaa
open Go.RowKit

theorem wrap_zero : wrap64 0 = 0 := by unfold wrap64; omega
theorem wrap_more (x : Int) (n : Nat) : wrap64 (wrap64 x + wrap64 (1 + n)) = wrap64 (x + (1 + n)) := by
  unfold wrap64; omega
theorem wrap_more2 (x : Int) (n : Nat) : wrap64 (wrap64 (wrap64 x + 1) + n) = wrap64 (x + (1 + n)) := by
  unfold wrap64; omega
set_option maxRecDepth 100000 in
set_option maxHeartbeats 1000000 in
theorem sizeW_any (G : Gm) (a : Option Addr) (c : Nat) (w : World) (hR : RAt w w.heap.size a G.rules) :
    Calls Try.prog 16 #[.agg #[.int .i64 G.nts, .int .i64 G.start, .slice a G.rules.length c]] w fun e w' => e = .returned (.int .i64 (wrap64 (szs G.rules))) ∧ Below w.heap.size w w' := by
  have hlen := hR.len
  have hB0 : Below w.heap.size w (w.alloc (.cells #[.int .i64 G.nts, .int .i64 G.start, .slice a G.rules.length c] 24)) := (Below.refl _ _).alloc (Nat.le_refl _) _
  go_enter Try.func16, Try.ntmps16
  go_wp2
  go_loopw [3, 9] (fun n i W => ∃ (k : Nat) (z : Int), k ≤ G.rules.length ∧ i = .int .i64 k ∧ z = wrap64 (szs (G.rules.take k)) ∧ n = .int .i64 z ∧ Below w.heap.size w W) (fun _ i _ => G.rules.length - (intOf i).toNat)
  case atStart => exact ⟨0, _, by omega, rfl, wrap_zero.symm, rfl, hB0⟩
  case round =>
    obtain ⟨k, z, hk, rfl, hz, rfl, hB⟩ := hrel
    by_cases hlt : k < G.rules.length
    · obtain ⟨r, hr⟩ : ∃ r, G.rules[k]? = some r := ⟨G.rules[k], by simp [hlt]⟩
      obtain ⟨b, o, sa, sc, rfl, hb, hK, c0, c1⟩ := (hR.keep hB).cells k r hr
      have hkl := hK.len
      have HZ : Hid (wrap64 (z + wrap64 (1 + (r.rhs.length : Int))) = wrap64 (szs (G.rules.take (k + 1)))) := by
        show _ = _
        rw [hz, wrap_more, szs_succ hr]
        congr 1
      have hw : wrap64 (1 + (r.rhs.length : Int)) = 1 + (r.rhs.length : Int) := by unfold wrap64; omega
      rw [hw] at HZ
      clear hz
      go_wp2
      exact ⟨⟨k + 1, wrap64 (z + (1 + (r.rhs.length : Int))), by omega, by go_num, HZ.out, rfl, hB.alloc hB.size _⟩, by simp [intOf]; omega⟩
    · obtain rfl : k = G.rules.length := by omega
      rw [List.take_length] at hz
      go_wp2
      go_ret
      exact ⟨by rw [hz]; rfl, hB⟩
set_option maxRecDepth 100000 in
set_option maxHeartbeats 1000000 in
theorem sizeR_any (G : Gm) (a : Option Addr) (c : Nat) (w : World) (hR : RAt w w.heap.size a G.rules) :
    Calls Try.prog 17 #[.agg #[.int .i64 G.nts, .int .i64 G.start, .slice a G.rules.length c]] w fun e w' => e = .returned (.int .i64 (wrap64 (szs G.rules))) ∧ Below w.heap.size w w' := by
  have hlen := hR.len
  obtain ⟨W0, hW0⟩ : ∃ W0, w.alloc (.cells #[.int .i64 G.nts, .int .i64 G.start, .slice a G.rules.length c] 24) = W0 := ⟨_, rfl⟩
  have hB0 : Below w.heap.size w W0 := by rw [← hW0]; exact (Below.refl _ _).alloc (Nat.le_refl _) _
  have c2 : W0.cell? ⟨w.heap.size, 2, none⟩ = some (.slice a G.rules.length c) := by rw [← hW0]; exact cell_new 2 rfl
  have hR0 := hR.keep hB0
  go_enter Try.func17, Try.ntmps17
  go_wp2
  go_loopw [3, 4] (fun n i W => W = W0 ∧ ∃ (k : Nat) (z : Int), k ≤ G.rules.length ∧ i = .int .i64 k ∧ z = wrap64 (szs (G.rules.take k)) ∧ n = .int .i64 z) (fun _ i _ => G.rules.length - (intOf i).toNat)
  case atStart => exact ⟨rfl, 0, _, by omega, rfl, wrap_zero.symm, rfl⟩
  case round =>
    obtain ⟨rfl, k, z, hk, rfl, hz, rfl⟩ := hrel
    by_cases hlt : k < G.rules.length
    · obtain ⟨r, hr⟩ : ∃ r, G.rules[k]? = some r := ⟨G.rules[k], by simp [hlt]⟩
      obtain ⟨b, o, sa, sc, rfl, hb, hK, e0, e1⟩ := hR0.cells k r hr
      have hkI : (k : Int) < G.rules.length := by omega
      have HZ : Hid (wrap64 (wrap64 (z + 1) + (r.rhs.length : Int)) = wrap64 (szs (G.rules.take (k + 1)))) := by
        show _ = _
        rw [hz, wrap_more2, szs_succ hr]
        congr 1
      clear hz
      go_wp2
      exact ⟨⟨trivial, k + 1, wrap64 (wrap64 (z + 1) + (r.rhs.length : Int)), by omega, by go_num, HZ.out, rfl⟩, by simp [intOf]; omega⟩
    · obtain rfl : k = G.rules.length := by omega
      rw [List.take_length] at hz
      go_wp2
      go_ret
      exact ⟨by rw [hz]; rfl, hB0⟩
end Go.Proofs.Ytopbibhpekjaeaa
