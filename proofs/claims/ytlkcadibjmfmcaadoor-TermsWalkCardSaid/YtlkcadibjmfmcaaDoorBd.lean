/- Does what is written fit: fits. -/
import Derived.Test.YtlkcadibjmfmcaaDoorR0
namespace Go.Proofs.YtlkcadibjmfmcaaDoor
open Go.RowKit Go.Shelf

attribute [local go_sem] Oper.semAt_some

/-- How much is written of parts. -/
def osum (l : List (Tm × Nat)) : Nat := (l.map fun p => ownS p.1).sum
theorem osum_app (a b : List (Tm × Nat)) : osum (a ++ b) = osum a + osum b := by simp [osum]
/-- Does it fit? -/
def fitsT (d : Tm) : Bool := decide (osum (pre d 1) ≤ 65536)
/-- While one goes through: so much has been counted. -/
structure FI (w wd : World) (A : Nat → Prop) (xs : List Px) (W : World) : Prop where
  res : Boxed W (w.heap.size + 1) 4 (.bool false)
  sum : Boxed W (w.heap.size + 1 + 1) 3 (.int .i64 (osum (xs.map Px.say) : Int))
  ab : ∀ b, A b → w.heap.size + 3 ≤ b
  bel : Below (w.heap.size + 1) wd W
  few : osum (xs.map Px.say) ≤ 65536
/-- It is too much. -/
structure FX (w wd : World) (c : Code) (A : Nat → Prop) (xs : List Px) (W : World) : Prop where
  code : c = .ret
  res : Boxed W (w.heap.size + 1) 4 (.bool false)
  ab : ∀ b, A b → w.heap.size + 3 ≤ b
  bel : Below (w.heap.size + 1) wd W
  bad : 65536 < osum (xs.map Px.say)
theorem FI.stays (w wd : World) : Stays (FI w wd) := by
  intro A A' xs X Y h hi ha
  have hlr := box_lt h.res
  have hls := box_lt h.sum
  have hk : ∀ b, b < w.heap.size + 3 → b < X.heap.size → Y.heap[b]? = X.heap[b]? := fun b hb hx => hi.keep b hx (fun hA => by have := h.ab b hA; omega)
  refine ⟨(hk _ (by omega) hlr).trans h.res, (hk _ (by omega) hls).trans h.sum, fun b hb => ?_, ⟨hi.os.trans h.bel.os, hi.tape.trans h.bel.tape, hi.output.trans h.bel.output, Nat.le_trans h.bel.size hi.size, fun b hb => (hk b (by omega) (by omega)).trans (h.bel.block b hb)⟩, h.few⟩
  rcases ha b hb with h' | h'
  · exact h.ab b h'
  · omega
theorem FX.stays (w wd : World) (c : Code) (hw : w.heap.size + 3 ≤ wd.heap.size) : Stays (FX w wd c) := by
  intro A A' xs X Y h hi ha
  have hlr := box_lt h.res
  have hs := h.bel.size
  have hk : ∀ b, b < w.heap.size + 3 → b < X.heap.size → Y.heap[b]? = X.heap[b]? := fun b hb hx => hi.keep b hx (fun hA => by have := h.ab b hA; omega)
  refine ⟨h.code, (hk _ (by omega) hlr).trans h.res, fun b hb => ?_, ⟨hi.os.trans h.bel.os, hi.tape.trans h.bel.tape, hi.output.trans h.bel.output, Nat.le_trans h.bel.size hi.size, fun b hb => (hk b (by omega) (by omega)).trans (h.bel.block b hb)⟩, h.bad⟩
  rcases ha b hb with h' | h'
  · exact h.ab b h'
  · omega
theorem FI.noMind (w wd : World) {B : Nat} (hB : w.heap.size + 3 ≤ B) : NoMind B (FI w wd) := by
  intro A xs W l o o' h hl _ _
  have hk : ∀ b, b < w.heap.size + 3 → (W.putObj l o').heap[b]? = W.heap[b]? := fun b hb => World.putObj_heap_other (by omega)
  exact ⟨(hk _ (by omega)).trans h.res, (hk _ (by omega)).trans h.sum, h.ab, ⟨h.bel.os, h.bel.tape, h.bel.output, by simpa using h.bel.size, fun b hb => (hk b (by omega)).trans (h.bel.block b hb)⟩, h.few⟩
theorem FX.noMind (w wd : World) (c : Code) {B : Nat} (hB : w.heap.size + 3 ≤ B) : NoMind B (FX w wd c) := by
  intro A xs W l o o' h hl _ _
  have hk : ∀ b, b < w.heap.size + 3 → (W.putObj l o').heap[b]? = W.heap[b]? := fun b hb => World.putObj_heap_other (by omega)
  exact ⟨h.code, (hk _ (by omega)).trans h.res, h.ab, ⟨h.bel.os, h.bel.tape, h.bel.output, by simpa using h.bel.size, fun b hb => (hk b (by omega)).trans (h.bel.block b hb)⟩, h.bad⟩
theorem fits_bad {d : Tm} {xs : List Px} (h : ∃ r, xs.map Px.say ++ r = pre d 1) (hb : 65536 < osum (xs.map Px.say)) : fitsT d = false := by
  obtain ⟨r, hr⟩ := h
  unfold fitsT
  rw [← hr, osum_app]
  exact decide_eq_false (by omega)
theorem fits_good {d : Tm} {xs : List Px} (h : xs.map Px.say = pre d 1) (h2 : osum (xs.map Px.say) ≤ 65536) : fitsT d = true := by
  unfold fitsT
  rw [← h]
  exact decide_eq_true h2
end Go.Proofs.YtlkcadibjmfmcaaDoor
