/- The fixed grammar of sums, made. -/
import Derived.Test.YtopbibhpekjaeaaV0
namespace Go.Proofs.Ytopbibhpekjaeaa
open Go.RowKit

theorem kat_of {X : World} {B b t : Nat} {fz : Nat × Nat} {cs : Array Value} {l : List Ks} (hl : l.length ≤ 100) (hb : b < B) (h : X.heap[b]? = some (.cells cs t fz)) (hc : ∀ j s, l[j]? = some s → s.set.ok ∧ cs[j * 5]? = some (.int .i64 s.nt) ∧ cs[j * 5 + 1]? = some (.int .u64 s.set.a) ∧ cs[j * 5 + 2]? = some (.int .u64 s.set.b) ∧ cs[j * 5 + 3]? = some (.int .u64 s.set.c) ∧ cs[j * 5 + 4]? = some (.int .u64 s.set.d)) : KAt X B (some ⟨b, 0, none⟩) l := by
  refine ⟨by omega, fun j s hj => ?_⟩
  obtain ⟨h0, h1, h2, h3, h4, h5⟩ := hc j s hj
  refine ⟨b, 0, rfl, hb, h0, ?_, ?_, ?_, ?_, ?_⟩ <;> simp only [Nat.zero_add]
  · exact blk_cell h h1
  · exact blk_cell h h2
  · exact blk_cell h h3
  · exact blk_cell h h4
  · exact blk_cell h h5
theorem old_blk (W : World) (o : Obj) {b : Nat} (h : b < W.heap.size) : (W.alloc o).heap[b]? = W.heap[b]? := ((Below.refl W.heap.size W).alloc (Nat.le_refl _) o).block b h
theorem sum_at (W : World) : RAt ((((W.alloc (.cells #[.int .i64 0, .int .u64 0, .int .u64 0, .int .u64 0, .int .u64 0, .int .i64 (-1), .int .u64 8796093022208, .int .u64 0, .int .u64 0, .int .u64 0, .int .i64 0, .int .u64 0, .int .u64 0, .int .u64 0, .int .u64 0] 56)).alloc (.cells #[.int .i64 1, .int .u64 0, .int .u64 0, .int .u64 0, .int .u64 0] 56)).alloc (.cells #[.int .i64 (-1), .int .u64 287948901175001088, .int .u64 0, .int .u64 0, .int .u64 0] 56)).alloc (.cells #[.int .i64 0, .slice (some ⟨W.heap.size, 0, none⟩) 3 3, .int .i64 0, .slice (some ⟨W.heap.size + 1, 0, none⟩) 1 1, .int .i64 1, .slice (some ⟨W.heap.size + 1 + 1, 0, none⟩) 1 1] 52)) (W.heap.size + 1 + 1 + 1 + 1) (some ⟨W.heap.size + 1 + 1 + 1, 0, none⟩) sumR := by
  obtain ⟨A, hA⟩ : ∃ A, W.alloc (.cells #[.int .i64 0, .int .u64 0, .int .u64 0, .int .u64 0, .int .u64 0, .int .i64 (-1), .int .u64 8796093022208, .int .u64 0, .int .u64 0, .int .u64 0, .int .i64 0, .int .u64 0, .int .u64 0, .int .u64 0, .int .u64 0] 56) = A := ⟨_, rfl⟩
  have a0 := blk_new W #[.int .i64 0, .int .u64 0, .int .u64 0, .int .u64 0, .int .u64 0, .int .i64 (-1), .int .u64 8796093022208, .int .u64 0, .int .u64 0, .int .u64 0, .int .i64 0, .int .u64 0, .int .u64 0, .int .u64 0, .int .u64 0] 56
  rw [hA] at a0 ⊢
  have sA : A.heap.size = W.heap.size + 1 := by rw [← hA]; simp
  obtain ⟨A2, hA2⟩ : ∃ A2, A.alloc (.cells #[.int .i64 1, .int .u64 0, .int .u64 0, .int .u64 0, .int .u64 0] 56) = A2 := ⟨_, rfl⟩
  have b0 := blk_new A #[.int .i64 1, .int .u64 0, .int .u64 0, .int .u64 0, .int .u64 0] 56
  have b1 := (old_blk A (.cells #[.int .i64 1, .int .u64 0, .int .u64 0, .int .u64 0, .int .u64 0] 56) (b := W.heap.size) (by omega)).trans a0
  rw [hA2] at b0 b1 ⊢
  have sB : A2.heap.size = W.heap.size + 1 + 1 := by rw [← hA2]; simp [sA]
  obtain ⟨A3, hA3⟩ : ∃ A3, A2.alloc (.cells #[.int .i64 (-1), .int .u64 287948901175001088, .int .u64 0, .int .u64 0, .int .u64 0] 56) = A3 := ⟨_, rfl⟩
  have c0 := blk_new A2 #[.int .i64 (-1), .int .u64 287948901175001088, .int .u64 0, .int .u64 0, .int .u64 0] 56
  have c1 := (old_blk A2 (.cells #[.int .i64 (-1), .int .u64 287948901175001088, .int .u64 0, .int .u64 0, .int .u64 0] 56) (b := W.heap.size) (by omega)).trans b1
  have c2 := (old_blk A2 (.cells #[.int .i64 (-1), .int .u64 287948901175001088, .int .u64 0, .int .u64 0, .int .u64 0] 56) (b := A.heap.size) (by omega)).trans b0
  rw [hA3] at c0 c1 c2 ⊢
  have sC : A3.heap.size = W.heap.size + 1 + 1 + 1 := by rw [← hA3]; simp [sB]
  obtain ⟨R, hR⟩ : ∃ R : Array Value, #[.int .i64 0, .slice (some ⟨W.heap.size, 0, none⟩) 3 3, .int .i64 0, .slice (some ⟨W.heap.size + 1, 0, none⟩) 1 1, .int .i64 1, .slice (some ⟨W.heap.size + 1 + 1, 0, none⟩) 1 1] = R := ⟨_, rfl⟩
  rw [hR]
  have d0 := blk_new A3 R 52
  have d1 := (old_blk A3 (.cells R 52) (b := W.heap.size) (by omega)).trans c1
  have d2 := (old_blk A3 (.cells R 52) (b := A.heap.size) (by omega)).trans c2
  have d3 := (old_blk A3 (.cells R 52) (b := A2.heap.size) (by omega)).trans c0
  rw [sC] at d0
  rw [sA] at d2
  rw [sB] at d3
  refine ⟨by decide, fun j r hj => ?_⟩
  have hj3 : j < 3 := (List.getElem?_eq_some_iff.1 hj).1
  have : j = 0 ∨ j = 1 ∨ j = 2 := by omega
  rcases this with rfl | rfl | rfl
  · obtain rfl : (⟨0, [⟨0, St.zero⟩, ⟨-1, pl⟩, ⟨0, St.zero⟩]⟩ : Rl) = r := by simpa [sumR] using hj
    refine ⟨W.heap.size + 1 + 1 + 1, 0, some ⟨W.heap.size, 0, none⟩, 3, rfl, by omega, kat_of (by simp) (by omega) d1 ?_, blk_cell d0 (by rw [← hR]; rfl), blk_cell d0 (by rw [← hR]; rfl)⟩
    intro j s hj
    have hj3 : j < 3 := (List.getElem?_eq_some_iff.1 hj).1
    have : j = 0 ∨ j = 1 ∨ j = 2 := by omega
    rcases this with rfl | rfl | rfl <;> (simp at hj; subst hj; exact ⟨by unfold St.ok; decide, rfl, rfl, rfl, rfl, rfl⟩)
  · obtain rfl : (⟨0, [⟨1, St.zero⟩]⟩ : Rl) = r := by simpa [sumR] using hj
    refine ⟨W.heap.size + 1 + 1 + 1, 0, some ⟨W.heap.size + 1, 0, none⟩, 1, rfl, by omega, kat_of (by simp) (by omega) d2 ?_, blk_cell d0 (by rw [← hR]; rfl), blk_cell d0 (by rw [← hR]; rfl)⟩
    intro j s hj
    have hj3 : j < 1 := (List.getElem?_eq_some_iff.1 hj).1
    obtain rfl : j = 0 := by omega
    simp at hj; subst hj; exact ⟨by unfold St.ok; decide, rfl, rfl, rfl, rfl, rfl⟩
  · obtain rfl : (⟨1, [⟨-1, dg⟩]⟩ : Rl) = r := by simpa [sumR] using hj
    refine ⟨W.heap.size + 1 + 1 + 1, 0, some ⟨W.heap.size + 1 + 1, 0, none⟩, 1, rfl, by omega, kat_of (by simp) (by omega) d3 ?_, blk_cell d0 (by rw [← hR]; rfl), blk_cell d0 (by rw [← hR]; rfl)⟩
    intro j s hj
    have hj3 : j < 1 := (List.getElem?_eq_some_iff.1 hj).1
    obtain rfl : j = 0 := by omega
    simp at hj; subst hj; exact ⟨by unfold St.ok; decide, rfl, rfl, rfl, rfl, rfl⟩
set_option maxRecDepth 100000 in
set_option maxHeartbeats 16000000 in
theorem sum_any (w : World) :
    Calls Try.prog 37 #[] w fun e w' => (∃ b, e = .returned (.agg #[.int .i64 2, .int .i64 0, .slice (some ⟨b, 0, none⟩) 3 3]) ∧ RAt w' w'.heap.size (some ⟨b, 0, none⟩) sumR) ∧ Below w.heap.size w w' := by
  go_enter Try.func37, Try.ntmps37
  go_wp2
  try simp only [Exit.inBlock, Exit.then]
  refine bodyPost_ret (results_cell_row rfl _ _ w.heap.size 24 #[.int .i64 2, .int .i64 0, .slice (some ⟨w.heap.size + 1 + 1 + 1 + 1 + 1 + 1 + 1 + 1, 0, none⟩) 3 3] (0, 0) _ rfl ?hg Try.underlying24 rfl (by kernel_rfl)) rfl ?_
  case hg => exact (old_blk _ _ (by simp only [World.size_alloc]; omega)).trans <| (old_blk _ _ (by simp only [World.size_alloc]; omega)).trans <| (old_blk _ _ (by simp only [World.size_alloc]; omega)).trans <| (old_blk _ _ (by simp only [World.size_alloc]; omega)).trans <| (old_blk _ _ (by simp only [World.size_alloc]; omega)).trans <| (old_blk _ _ (by simp only [World.size_alloc]; omega)).trans <| (old_blk _ _ (by simp only [World.size_alloc]; omega)).trans <| (old_blk _ _ (by simp only [World.size_alloc]; omega)).trans <| heap_alloc_new _ _
  refine ⟨⟨_, rfl, ?_⟩, ?_⟩
  · refine RAt.mono (B := w.heap.size + 1 + 1 + 1 + 1 + 1 + 1 + 1 + 1 + 1) ?_ (by simp)
    have := sum_at (((((w.alloc (.cells #[.int .i64 2, .int .i64 0, .slice (some ⟨w.heap.size + 1 + 1 + 1 + 1 + 1 + 1 + 1 + 1, 0, none⟩) 3 3] 24)).alloc (.cells #[.int .i64 (-1), .int .u64 8796093022208, .int .u64 0, .int .u64 0, .int .u64 0] 56)).alloc (.cells #[.int .i64 (-1), .int .u64 287948901175001088, .int .u64 0, .int .u64 0, .int .u64 0] 56)).alloc (.cells #[.int .i64 0, .int .u64 0, .int .u64 0, .int .u64 0, .int .u64 0] 56)).alloc (.cells #[.int .i64 1, .int .u64 0, .int .u64 0, .int .u64 0, .int .u64 0] 56))
    simpa only [World.size_alloc] using this
  · exact (((((((((Below.refl _ _).alloc (Nat.le_refl _) _).alloc (by first | omega | (simp; omega) | simp) _).alloc (by first | omega | (simp; omega) | simp) _).alloc (by first | omega | (simp; omega) | simp) _).alloc (by first | omega | (simp; omega) | simp) _).alloc (by first | omega | (simp; omega) | simp) _).alloc (by first | omega | (simp; omega) | simp) _).alloc (by first | omega | (simp; omega) | simp) _).alloc (by first | omega | (simp; omega) | simp) _
end Go.Proofs.Ytopbibhpekjaeaa
