/- The document's own answers Of and Range: the sets that they build byte by byte. -/
import Derived.Test.YtbbmjnhbmcbehaaW6
import Derived.Test.YtbbmjnhbmcbehaaR1
namespace Go.Proofs.Ytbbmjnhbmcbehaa
open Go.RowKit

theorem heap_set {W : World} {B i : Nat} {c : Array Value} {t : TypeId} {fz : Nat × Nat} (v : Value) (h : W.heap[B]? = some (.cells c t fz)) : (W.setCell ⟨B, i, none⟩ v).heap[B]? = some (.cells (c.setIfInBounds i v) t fz) := by
  obtain ⟨hlt, hk⟩ := Array.getElem?_eq_some_iff.1 h
  show (W.heap.modify B _)[B]? = _
  rw [Array.getElem?_eq_getElem (by rw [Array.size_modify]; exact hlt), Array.getElem_modify_self, hk]
  rfl
theorem SBox.store {s : St} {B : Nat} {W : World} (t : St) (h : SBox s B W) : SBox t B ((((W.setCell ⟨B, 0, none⟩ (.int .u64 t.a)).setCell ⟨B, 1, none⟩ (.int .u64 t.b)).setCell ⟨B, 2, none⟩ (.int .u64 t.c)).setCell ⟨B, 3, none⟩ (.int .u64 t.d)) := by
  have := heap_set (i := 3) (.int .u64 t.d) (heap_set (i := 2) (.int .u64 t.c) (heap_set (i := 1) (.int .u64 t.b) (heap_set (i := 0) (.int .u64 t.a) h)))
  exact this
theorem SBox.other {s : St} {B B' i : Nat} {W : World} (v : Value) (h : SBox s B W) (hn : B ≠ B') : SBox s B (W.setCell ⟨B', i, none⟩ v) := (Below.heap_setCell W ⟨B', i, none⟩ v B hn).trans h
theorem SBox.other4 {s : St} {B B' : Nat} {W : World} (v0 v1 v2 v3 : Value) (h : SBox s B W) (hn : B ≠ B') : SBox s B ((((W.setCell ⟨B', 0, none⟩ v0).setCell ⟨B', 1, none⟩ v1).setCell ⟨B', 2, none⟩ v2).setCell ⟨B', 3, none⟩ v3) :=
  (((h.other v0 hn).other v1 hn).other v2 hn).other v3 hn
theorem SBox.below {s : St} {B : Nat} {W W' : World} (h : SBox s B W) (hb : Below W.heap.size W W') : SBox s B W' := (hb.block B h.lt).trans h
theorem SBox.frozen {s : St} {B : Nat} {W : World} (h : SBox s B W) : ∀ o, W.frozen? ⟨B, o, none⟩ = false := fun o => by simp [World.frozen?, show W.heap[B]? = _ from h]
theorem SBox.zero (W : World) : SBox St.zero W.heap.size (W.alloc (.cells #[.int .u64 0, .int .u64 0, .int .u64 0, .int .u64 0] 33)) := World.alloc_heap_new W _
theorem below4 {w W : World} {n B : Nat} (h : Below n w W) (hB : n ≤ B) (v0 v1 v2 v3 : Value) : Below n w ((((W.setCell ⟨B, 0, none⟩ v0).setCell ⟨B, 1, none⟩ v1).setCell ⟨B, 2, none⟩ v2).setCell ⟨B, 3, none⟩ v3) :=
  (((h.setCell (p := ⟨B, 0, none⟩) hB _).setCell (p := ⟨B, 1, none⟩) hB _).setCell (p := ⟨B, 2, none⟩) hB _).setCell (p := ⟨B, 3, none⟩) hB _

end Go.Proofs.Ytbbmjnhbmcbehaa
