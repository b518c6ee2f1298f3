/- An argument that is a set: its four words. -/
import Derived.Test.YtbbmjnhbmcbehaaPlain
import Derived.WalkKit
import Derived.ProofKit
import Derived.OpenShut
import Derived.ShutString
import Derived.ChangeOld
import Derived.Below
namespace Go.Proofs.Ytbbmjnhbmcbehaa
open Go.ChangeShapes Go.WideShapes Go.ChangeAt Go.RowKit

theorem okWide_set {P : Program} {t e : TypeId} {n : Nat} {w : World} {r : Reach} {b0 : Nat} {v : Value} (ht : P.underlying t = some (.array n e)) (h : Value.okWide P w r b0 t v) : ∃ cs, v = .agg cs ∧ cs.size = P.cellsOf t := by
  simp only [Value.okWide, ht] at h
  obtain ⟨cs, h1, h2, _⟩ := h
  exact ⟨cs, h1, h2⟩
theorem word_ok {x : Int} (h : (Lit.int .u64 x).wf = true) : ∃ n : Nat, x = (n : Int) ∧ n < 18446744073709551616 := by
  have := bounds_u64 h
  exact ⟨x.toNat, by omega, by omega⟩
theorem open_set {P : Program} {H : Type} {enc : TypeId × Value → H} {w : World} {base : Nat} {spare : Nat → Bool} {held : Bool} {r : Reach} {b0 : Nat} {t e : TypeId} {v : Value} {d : DataW H} {p : List MemPlace}
    (ht : P.underlying t = some (.array 4 e)) (he : P.underlying e = some (.int .u64)) (hc : P.cellsOf t = 4) (hce : P.cellsOf e = 1)
    (hv : Value.okWide P w r b0 t v) (h : DataW.Trod enc P w base spare held t v d p) :
    ∃ s : St, s.ok ∧ v = .agg #[.int .u64 s.a, .int .u64 s.b, .int .u64 s.c, .int .u64 s.d] := by
  obtain ⟨cs, rfl, hsz⟩ := okWide_set ht hv
  obtain ⟨fuel, hf⟩ := h
  obtain ⟨xs, m, _, _, _, hxl, hx⟩ := DataW.trod_array ht hf
  rw [hc] at hsz
  obtain ⟨⟨l⟩⟩ : Nonempty (Array Value) := ⟨cs⟩
  match cs, hsz with
  | ⟨[c0, c1, c2, c3]⟩, _ =>
    have k : ∀ i, i < 4 → ∃ y, DataW.trod enc P w base spare held m e ((([c0, c1, c2, c3] : List Value).drop i).take 1) = some y := by
      intro i hi
      have h1 := hx i hi
      rw [hce, Nat.mul_one, List.getElem?_eq_getElem (by omega)] at h1
      exact ⟨_, by simpa [Value.cells] using h1⟩
    obtain ⟨y0, q0⟩ := k 0 (by omega)
    obtain ⟨y1, q1⟩ := k 1 (by omega)
    obtain ⟨y2, q2⟩ := k 2 (by omega)
    obtain ⟨y3, q3⟩ := k 3 (by omega)
    obtain ⟨n0, e0, _, w0⟩ := DataW.trod_int he q0
    obtain ⟨n1, e1, _, w1⟩ := DataW.trod_int he q1
    obtain ⟨n2, e2, _, w2⟩ := DataW.trod_int he q2
    obtain ⟨n3, e3, _, w3⟩ := DataW.trod_int he q3
    simp at e0 e1 e2 e3
    obtain ⟨m0, rfl, b0⟩ := word_ok w0
    obtain ⟨m1, rfl, b1⟩ := word_ok w1
    obtain ⟨m2, rfl, b2⟩ := word_ok w2
    obtain ⟨m3, rfl, b3⟩ := word_ok w3
    subst e0 e1 e2 e3
    exact ⟨⟨m0, m1, m2, m3⟩, ⟨b0, b1, b2, b3⟩, rfl⟩
end Go.Proofs.Ytbbmjnhbmcbehaa
