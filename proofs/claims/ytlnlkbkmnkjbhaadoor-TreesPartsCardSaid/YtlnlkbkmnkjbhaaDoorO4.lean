/- An argument that is a path: it is no longer than its room. -/
import Derived.Test.YtlnlkbkmnkjbhaaDoorO2
namespace Go.Proofs.YtlnlkbkmnkjbhaaDoor
open Go.ChangeShapes Go.WideShapes Go.ChangeAt Go.RowKit Go.Deep

theorem open_path2 {H : Type} {enc : TypeId × Value → H} {w : World} {base : Nat} {a : Option Addr} {len cap : Nat} {d : DataW H} {p : List MemPlace}
    (h : DataW.Trod enc Tryd.prog w base (fun _ => true) true 43 (.slice a len cap) d p) :
    ∃ ps : List Int, ps.length = len ∧ IAt w w.heap.size a ps ∧ ps.length ≤ maxLen ∧ ps.length ≤ cap := by
  obtain ⟨ps, h1, h2, h3⟩ := open_path h
  refine ⟨ps, h1, h2, h3, ?_⟩
  obtain ⟨fuel, hf⟩ := h
  rcases open_ints Tryd.underlying43 Tryd.underlying3 (by kernel_rfl) hf with ⟨hcs, _⟩ | ⟨x, l, c, zs, hcs, _, hl, _⟩
  · simp [Value.cells] at hcs
    obtain ⟨rfl, rfl, rfl⟩ := hcs
    omega
  · simp [Value.cells] at hcs
    obtain ⟨rfl, rfl, rfl⟩ := hcs
    omega
end Go.Proofs.YtlnlkbkmnkjbhaaDoor
