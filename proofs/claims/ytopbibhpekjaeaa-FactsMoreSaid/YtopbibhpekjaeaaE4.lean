/- What is reached of any grammar. -/
import Derived.Test.YtopbibhpekjaeaaE5
import Derived.Test.YtopbibhpekjaeaaE3
namespace Go.Proofs.Ytopbibhpekjaeaa
open Go.RowKit

set_option maxRecDepth 100000 in
set_option maxHeartbeats 1000000 in
theorem Reach_row (G : Gm) (a : Option Addr) (c : Nat) (w : World) (hR : RAt w w.heap.size a G.rules) :
    Calls Try.prog 23 #[.agg #[.int .i64 G.nts, .int .i64 G.start, .slice a G.rules.length c]] w fun e w' => (∃ v l, e = .returned (.tuple #[v, .int .i64 G.code]) ∧ w'.ownsRow w.heap.size 4 1 v l.length (boolsV l) ∧ ReachIs G l) ∧ Below w.heap.size w w' := by
  obtain ⟨W0, hW0⟩ : ∃ W0, w.alloc (.cells #[.int .i64 G.nts, .int .i64 G.start, .slice a G.rules.length c] 24) = W0 := ⟨_, rfl⟩
  have hs0 : W0.heap.size = w.heap.size + 1 := by rw [← hW0]; simp
  have hB0 : Below w.heap.size w W0 := by rw [← hW0]; exact (Below.refl _ _).alloc (Nat.le_refl _) _
  have c0 : W0.cell? ⟨w.heap.size, 0, none⟩ = some (.int .i64 G.nts) := by rw [← hW0]; exact cell_new 0 rfl
  have c1 : W0.cell? ⟨w.heap.size, 1, none⟩ = some (.int .i64 G.start) := by rw [← hW0]; exact cell_new 1 rfl
  have c2 : W0.cell? ⟨w.heap.size, 2, none⟩ = some (.slice a G.rules.length c) := by rw [← hW0]; exact cell_new 2 rfl
  have hR0 := (hR.keep hB0).mono (B' := W0.heap.size) (by omega)
  have H : Hid _ := fun (_ : Unit) => askB_any 46 (enters_of Try.func46 (by kernel_rfl) rfl) G a c W0 hR0 (Reaches w.heap.size G.nts.toNat G.rules G.start.toNat) (fun hok W hW => by
    obtain ⟨N, S, hN, hS, hSN, hOk⟩ := ok_of hok
    have := reach_any N S G.rules a c W hOk hSN ((hR0.keep hW).mono hW.size)
    rw [← hN, ← hS] at this
    refine this.mono ?_
    rintro e W' ⟨⟨v, rfl, so, h1, h2⟩, hb⟩
    refine ⟨⟨v, rfl, ?_⟩, hb⟩
    rw [hN, hS, Int.toNat_natCast, Int.toNat_natCast]
    exact ⟨so, row_mono h1 (by have := hW.size; omega), h2⟩)
  go_enter Try.func23, Try.ntmps23
  go_wp2_with (go_at_call 42; refine (H.out ()).mono ?_)
  rintro e w2 ⟨⟨hn, rfl⟩ | ⟨hy, v, rfl, hv⟩, hb2⟩
  · have HN : Hid _ := hn
    clear hn
    go_wp2
    go_ret2
    exact ⟨⟨.slice none 0 0, [], by rw [← code_no HN.out]; rfl, World.ownsRow_nil _ _ _ _, .inl ⟨HN.out, rfl⟩⟩, below_of hB0 hb2⟩
  · have HY : Hid _ := hy
    clear hy
    obtain ⟨so, h1, h2, h3⟩ := hv
    go_wp2
    go_ret2
    exact ⟨⟨v, so, by rw [← code_ok HY.out]; rfl, by rw [h2]; exact h1, .inr ⟨HY.out, h2, h3⟩⟩, below_of hB0 hb2⟩
end Go.Proofs.Ytopbibhpekjaeaa
