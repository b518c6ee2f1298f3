/- A row of bytes that came in: nil has no room. -/
import Derived.Test.YtbbmjnhbmcbehaaL2
namespace Go.Proofs.Ytbbmjnhbmcbehaa
open Go.ChangeShapes Go.WideShapes Go.ChangeAt Go.RowKit

theorem open_nil {H : Type} {enc : TypeId × Value → H} {w : World} {base : Nat} {a : Option Addr} {len cap : Nat} {d : DataW H} {p : List MemPlace}
    (h : DataW.Trod enc Try.prog w base (fun _ => true) true 30 (.slice a len cap) d p) : a = none → cap = 0 ∧ len = 0 := by
  intro hn
  subst hn
  obtain ⟨fuel, hf⟩ := h
  rcases open_ints Try.underlying30 Try.underlying5 (by kernel_rfl) hf with ⟨hcs, _⟩ | ⟨x, l, c, zs, hcs, _, hl, hm, hz, _, hcell, hwz⟩
  · simp [Value.cells] at hcs
    exact ⟨hcs.2, hcs.1⟩
  · simp [Value.cells] at hcs
end Go.Proofs.Ytbbmjnhbmcbehaa
