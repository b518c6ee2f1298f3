/- Is a grammar heavy? -/
import Derived.Test.YtopbibhpekjaeaaV2
namespace Go.Proofs.Ytopbibhpekjaeaa
open Go.RowKit

set_option maxRecDepth 100000 in
set_option maxHeartbeats 4000000 in
theorem heavy_any (G : Gm) (a : Option Addr) (c : Nat) (m : Int) (w : World) (hR : RAt w w.heap.size a G.rules) :
    Calls Try.prog 11 #[.agg #[.int .i64 G.nts, .int .i64 G.start, .slice a G.rules.length c], .int .i64 m] w fun e w' => (∃ x, e = .returned (.bool x)) ∧ Below w.heap.size w w' := by
  have hlen := hR.len
  obtain ⟨W0, hW0⟩ : ∃ W0, w.alloc (.cells #[.int .i64 G.nts, .int .i64 G.start, .slice a G.rules.length c] 24) = W0 := ⟨_, rfl⟩
  have hB0 : Below w.heap.size w W0 := by rw [← hW0]; exact (Below.refl _ _).alloc (Nat.le_refl _) _
  have c0 : W0.cell? ⟨w.heap.size, 0, none⟩ = some (.int .i64 G.nts) := by rw [← hW0]; exact cell_new 0 rfl
  have c1 : W0.cell? ⟨w.heap.size, 1, none⟩ = some (.int .i64 G.start) := by rw [← hW0]; exact cell_new 1 rfl
  have c2 : W0.cell? ⟨w.heap.size, 2, none⟩ = some (.slice a G.rules.length c) := by rw [← hW0]; exact cell_new 2 rfl
  have hR0 := hR.keep hB0
  by_cases h1 : m < G.nts
  · go_enter Try.func11, Try.ntmps11
    go_wp2
    go_ret
    refine ⟨⟨true, rfl⟩, hB0⟩
  · by_cases h2 : m < (G.rules.length : Int)
    · go_enter Try.func11, Try.ntmps11
      go_wp2
      all_goals (go_ret; first | exact ⟨⟨_, rfl⟩, hB0⟩ | exact ⟨.inr rfl, hB0⟩ | exact ⟨.inl rfl, hB0⟩)
    · go_enter Try.func11, Try.ntmps11
      go_wp2
      go_loopw [5, 6] (fun nv iv W => W = W0 ∧ ∃ (n : Int) (k : Nat), k ≤ G.rules.length ∧ nv = .int .i64 n ∧ iv = .int .i64 k) (fun _ iv _ => G.rules.length - (intOf iv).toNat)
      case atStart => exact ⟨rfl, _, 0, by omega, rfl, rfl⟩
      case round =>
        obtain ⟨rfl, n, k, hk, rfl, rfl⟩ := hrel
        by_cases hlt : k < G.rules.length
        · obtain ⟨r, hr⟩ : ∃ r, G.rules[k]? = some r := ⟨G.rules[k], by simp [hlt]⟩
          obtain ⟨b, o, sa, sc, rfl, hb, hK, e0, e1⟩ := hR0.cells k r hr
          have hkI : (k : Int) < G.rules.length := by omega
          go_wp2
          all_goals first
            | (go_ret; first | exact ⟨⟨_, rfl⟩, hB0⟩ | exact ⟨.inr rfl, hB0⟩ | exact ⟨.inl rfl, hB0⟩)
            | exact ⟨⟨trivial, _, k + 1, by omega, rfl, by go_num⟩, by simp [intOf]; omega⟩
        · obtain rfl : k = G.rules.length := by omega
          go_wp2
          go_ret
          first | exact ⟨⟨_, rfl⟩, hB0⟩ | exact ⟨.inr rfl, hB0⟩ | exact ⟨.inl rfl, hB0⟩
end Go.Proofs.Ytopbibhpekjaeaa
