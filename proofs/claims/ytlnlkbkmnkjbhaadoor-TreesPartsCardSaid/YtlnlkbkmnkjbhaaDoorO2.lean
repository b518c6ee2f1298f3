/- An argument that is a path. -/
import Derived.Test.YtlnlkbkmnkjbhaaDoorO1
import Derived.Test.YtlnlkbkmnkjbhaaDoorKk
import Derived.ChangeSlices
namespace Go.Proofs.YtlnlkbkmnkjbhaaDoor
open Go.ChangeShapes Go.WideShapes Go.ChangeAt Go.RowKit Go.Deep

/-- A path that came in. -/
theorem open_path {H : Type} {enc : TypeId × Value → H} {w : World} {base : Nat} {a : Option Addr} {len cap : Nat} {d : DataW H} {p : List MemPlace}
    (h : DataW.Trod enc Tryd.prog w base (fun _ => true) true 43 (.slice a len cap) d p) :
    ∃ ps : List Int, ps.length = len ∧ IAt w w.heap.size a ps ∧ ps.length ≤ maxLen := by
  obtain ⟨fuel, hf⟩ := h
  rcases open_ints Tryd.underlying43 Tryd.underlying3 (by kernel_rfl) hf with ⟨hcs, _⟩ | ⟨x, l, c, zs, hcs, _, hl, hm, hz, _, hcell, hwz⟩
  · simp [Value.cells] at hcs
    obtain ⟨rfl, rfl, rfl⟩ := hcs
    exact ⟨[], rfl, (fun i v hi => by cases hi), Nat.zero_le _⟩
  · simp [Value.cells] at hcs
    obtain ⟨rfl, rfl, rfl⟩ := hcs
    have hz' : zs.length = cap := by simpa using hz
    have hLl : (zs.take len).length = len := by simp; omega
    refine ⟨zs.take len, hLl, fun i v hi => ?_, by omega⟩
    have hi0 := (List.getElem?_eq_some_iff.1 hi).1
    rw [hLl] at hi0
    obtain ⟨b, off, rfl, hc⟩ := ints_at hcell (by omega)
    have hci := hc i (by omega)
    refine ⟨b, off, rfl, cell_lt' hci, ?_⟩
    rw [hci]
    rw [List.getElem?_take_of_lt hi0] at hi
    simp [List.getD_eq_getElem?_getD, hi]
end Go.Proofs.YtlnlkbkmnkjbhaaDoor
