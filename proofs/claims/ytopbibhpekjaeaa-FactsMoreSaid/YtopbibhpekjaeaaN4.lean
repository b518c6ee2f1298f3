/- Shortest of any grammar. -/
import Derived.Test.YtopbibhpekjaeaaQ4
import Derived.Test.YtopbibhpekjaeaaN3
namespace Go.Proofs.Ytopbibhpekjaeaa
open Go.RowKit

theorem Shorts.mono {base base' N : Nat} {rs : List Rl} {v : Value} {W : World} (h : Shorts base N rs v W) (hb : base' ≤ base) : Shorts base' N rs v W := by
  obtain ⟨l, h1, h2⟩ := h; exact ⟨l, row_mono h1 hb, h2⟩
theorem Shorts.below {base N : Nat} {rs : List Rl} {v : Value} {W W' : World} (h : Shorts base N rs v W) (hb : Below W.heap.size W W') : Shorts base N rs v W' := by
  obtain ⟨l, h1, h2⟩ := h; exact ⟨l, row_below h1 hb, h2⟩

set_option maxRecDepth 100000 in
set_option maxHeartbeats 1000000 in
theorem Shortest_any (G : Gm) (a : Option Addr) (c : Nat) (w : World) (hR : RAt w w.heap.size a G.rules) :
    Calls Try.prog 29 #[.agg #[.int .i64 G.nts, .int .i64 G.start, .slice a G.rules.length c]] w fun e w' => ((G.okB = false ∧ e = .returned (.tuple #[.slice none 0 0, .int .i64 3])) ∨ (G.okB = true ∧ ∃ v, e = .returned (.tuple #[v, .int .i64 0]) ∧ Shorts w.heap.size G.nts.toNat G.rules v w')) ∧ Below w.heap.size w w' := by
  obtain ⟨W0, hW0⟩ : ∃ W0, w.alloc (.cells #[.int .i64 G.nts, .int .i64 G.start, .slice a G.rules.length c] 24) = W0 := ⟨_, rfl⟩
  have hs0 : W0.heap.size = w.heap.size + 1 := by rw [← hW0]; simp
  have hB0 : Below w.heap.size w W0 := by rw [← hW0]; exact (Below.refl _ _).alloc (Nat.le_refl _) _
  have c0 : W0.cell? ⟨w.heap.size, 0, none⟩ = some (.int .i64 G.nts) := by rw [← hW0]; exact cell_new 0 rfl
  have c1 : W0.cell? ⟨w.heap.size, 1, none⟩ = some (.int .i64 G.start) := by rw [← hW0]; exact cell_new 1 rfl
  have c2 : W0.cell? ⟨w.heap.size, 2, none⟩ = some (.slice a G.rules.length c) := by rw [← hW0]; exact cell_new 2 rfl
  have hR0 := (hR.keep hB0).mono (B' := W0.heap.size) (by omega)
  have H : Hid _ := fun (_ : Unit) => askI_any 53 (enters_of Try.func53 (by kernel_rfl) rfl) G a c W0 hR0 (Shorts w.heap.size G.nts.toNat G.rules) (fun hok W hW => by
    obtain ⟨N, S, hN, hS, _, hOk⟩ := ok_of hok
    have := shortest_any N G.start G.rules a c W hOk ((hR0.keep hW).mono hW.size)
    rw [← hN] at this
    refine this.mono ?_
    rintro e W' ⟨⟨v, rfl, hv⟩, hb⟩
    refine ⟨⟨v, rfl, ?_⟩, hb⟩
    rw [hN, Int.toNat_natCast]
    exact hv.mono (by have := hW.size; omega))
  go_enter Try.func29, Try.ntmps29
  go_wp2_with (go_at_call 52; refine (H.out ()).mono ?_)
  rintro e w2 ⟨⟨hn, rfl⟩ | ⟨hy, v, rfl, hv⟩, hb2⟩
  · have HN : Hid _ := hn
    clear hn
    go_wp2
    go_ret2
    exact ⟨.inl ⟨HN.out, rfl⟩, below_of hB0 hb2⟩
  · have HY : Hid _ := hy
    clear hy
    go_wp2
    go_ret2
    exact ⟨.inr ⟨HY.out, v, rfl, hv⟩, below_of hB0 hb2⟩
end Go.Proofs.Ytopbibhpekjaeaa
