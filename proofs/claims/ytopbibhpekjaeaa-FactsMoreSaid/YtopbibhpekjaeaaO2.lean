/- An argument that is a rule; how long the list of a grammar's rules is. -/
import Derived.Test.YtopbibhpekjaeaaO1
namespace Go.Proofs.Ytopbibhpekjaeaa
open Go.ChangeShapes Go.WideShapes Go.ChangeAt Go.RowKit Go.Deep

section
variable {H : Type} {enc : TypeId × Value → H} {w : World} {base : Nat} {spare : Nat → Bool} {held : Bool}
theorem open_rule {r : Reach} {b0 : Nat} {v : Value} {d : DataW H} {p : List MemPlace} (hv : Value.okWide Try.prog w r b0 52 v) (h : DataW.Trod enc Try.prog w base spare held 52 v d p) (hw : ∀ n ∈ d.weights Try.prog 52, n ≤ reachBytes) :
    ∃ (R : Rl) (a : Option Addr) (c : Nat), v = .agg #[.int .i64 R.lhs, .slice a R.rhs.length c] ∧ KAt w w.heap.size a R.rhs := by
  simp only [Value.okWide, Try.underlying52] at hv
  obtain ⟨cs, rfl, hsz, _⟩ := hv
  rw [cells52] at hsz
  obtain ⟨fuel, hf⟩ := h
  obtain ⟨xs, m, _, hd, _, hxl, hx⟩ := DataW.trod_struct Try.underlying52 hf
  have hxl2 : xs.length = 2 := hxl
  match cs, hsz with
  | ⟨[c0, c1]⟩, _ =>
    have g0 : DataW.trod enc Try.prog w base spare held m 3 ((([c0, c1] : List Value).drop 0).take (Try.prog.cellsOf 3)) = xs[0]? := by simpa [Value.cells] using hx 0 _ rfl
    have g1 : DataW.trod enc Try.prog w base spare held m 50 ((([c0, c1] : List Value).drop 1).take (Try.prog.cellsOf 50)) = xs[1]? := by simpa [Value.cells] using hx 1 _ rfl
    match xs, hxl2 with
    | [x0, x1], _ =>
      rw [cells3] at g0
      rw [cells50] at g1
      obtain ⟨n0, e0, _, _⟩ := DataW.trod_int under3 g0
      simp at e0
      have hd1 : d = .agg [x0.1, x1.1] := by simpa using (Prod.mk.inj hd).1
      obtain ⟨a, c, l, e2, hR⟩ := open_syms (v := c1) g1 (fun n hn => hw n (by
        rw [hd1]
        simp only [DataW.weights, Try.underlying52, DataW.weightsEach, List.map_cons, List.map_nil, List.mem_append]
        exact .inr (.inl hn)))
      exact ⟨⟨n0, l⟩, a, c, by rw [e0, e2], hR⟩
theorem gram_lt {i0 i1 : Value} {a : Option Addr} {n c : Nat} {d : DataW H} {p : List MemPlace} (h : DataW.Trod enc Try.prog w base spare held 24 (.agg #[i0, i1, .slice a n c]) d p) (hw : ∀ n ∈ d.weights Try.prog 24, n ≤ reachBytes) : n * 32 < 140737488355328 := by
  obtain ⟨fuel, hf⟩ := h
  obtain ⟨xs, m, _, hd, _, hxl, hx⟩ := DataW.trod_struct Try.underlying24 hf
  have hxl3 : xs.length = 3 := hxl
  have g2 : DataW.trod enc Try.prog w base spare held m 22 ((([i0, i1, .slice a n c] : List Value).drop 2).take (Try.prog.cellsOf 22)) = xs[2]? := by simpa [Value.cells] using hx 2 _ rfl
  match xs, hxl3 with
  | [x0, x1, x2], _ =>
    rw [cells22] at g2
    have hd1 : d = .agg [x0.1, x1.1, x2.1] := by simpa using (Prod.mk.inj hd).1
    have hw2 : ∀ n ∈ x2.1.weights Try.prog 22, n ≤ reachBytes := fun n hn => hw n (by
        rw [hd1]
        simp only [DataW.weights, Try.underlying24, DataW.weightsEach, List.map_cons, List.map_nil, List.mem_append]
        exact .inr (.inr (.inl hn)))
    have g2' : DataW.trod enc Try.prog w base spare held m 22 [.slice a n c] = some x2 := g2
    rcases open_slice Try.underlying22 g2' with ⟨h0, _⟩ | ⟨a', len, cap, m', n', D, Pl, h0, hb, hl, hm, hmm, rfl, hx⟩
    · simp at h0
      omega
    · simp at h0
      have hlm : len ≤ m' := by rw [hmm]; split <;> omega
      have hz := hw2 (m' * 32) (by
        simp only [DataW.weights, Try.underlying22, bytes52, List.length_map, List.length_range]
        rw [show len + (m' - len) = m' by omega]
        exact List.mem_cons_self)
      have hr := reachBytes_lt
      omega
end
end Go.Proofs.Ytopbibhpekjaeaa
