/- Arguments of the laws: a row of bytes. -/
import Derived.Test.YtbbmjnhbmcbehaaL1
import Derived.Test.YtbbmjnhbmcbehaaN5
namespace Go.Proofs.Ytbbmjnhbmcbehaa
open Go.ChangeShapes Go.WideShapes Go.ChangeAt Go.RowKit

theorem ownk : ownKnob Try.prog.godebug = none := by kernel_rfl
theorem laidOut : laidOutB Try.prog = true := by kernel_rfl
theorem cell_lt {w : World} {b o : Nat} {v : Value} (h : w.cell? ⟨b, o, none⟩ = some v) : b < w.heap.size := by
  rcases Nat.lt_or_ge b w.heap.size with h' | h'
  · exact h'
  · simp [World.cell?, Array.getElem?_eq_none h'] at h
/-- A row of bytes that came in. -/
theorem open_row {H : Type} {enc : TypeId × Value → H} {w : World} {base : Nat} {a : Option Addr} {len cap : Nat} {d : DataW H} {p : List MemPlace}
    (h : DataW.Trod enc Try.prog w base (fun _ => true) true 30 (.slice a len cap) d p) :
    ∃ L : List Nat, L.length = len ∧ len ≤ cap ∧ len ≤ maxLen ∧ (∀ n ∈ L, n < 256) ∧ Row w a L := by
  obtain ⟨fuel, hf⟩ := h
  rcases open_ints Try.underlying30 Try.underlying5 (by kernel_rfl) hf with ⟨hcs, _⟩ | ⟨x, l, c, zs, hcs, _, hl, hm, hz, _, hcell, hwz⟩
  · simp [Value.cells] at hcs
    obtain ⟨rfl, rfl, rfl⟩ := hcs
    exact ⟨[], rfl, Nat.le_refl _, Nat.zero_le _, by simp, fun i hi => absurd hi (Nat.not_lt_zero _)⟩
  · simp [Value.cells] at hcs
    obtain ⟨rfl, rfl, rfl⟩ := hcs
    have hz' : zs.length = cap := by simpa using hz
    have hLl : ((zs.take len).map Int.toNat).length = len := by simp; omega
    refine ⟨(zs.take len).map Int.toNat, hLl, hl, Nat.le_trans hl hm, ?_, ?_⟩
    · intro y hy
      obtain ⟨z, hz, rfl⟩ := List.mem_map.1 hy
      have hw := bounds_u8 (hwz z (List.mem_of_mem_take hz))
      omega
    · intro i hi
      rw [hLl] at hi
      obtain ⟨b, off, rfl, hc⟩ := ints_at hcell (by omega)
      have hci := hc i (by omega)
      refine ⟨b, off, rfl, cell_lt hci, ?_⟩
      rw [hci]
      have hi' : i < zs.length := by omega
      have hw := bounds_u8 (hwz (zs[i]) (List.getElem_mem hi'))
      simp [List.getD_eq_getElem?_getD, hi, List.getElem?_eq_getElem hi']
      omega
end Go.Proofs.Ytbbmjnhbmcbehaa
