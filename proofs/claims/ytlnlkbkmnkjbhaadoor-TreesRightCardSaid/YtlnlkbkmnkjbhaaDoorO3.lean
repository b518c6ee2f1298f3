/- An argument that is a grammar. -/
import Derived.Test.YtlnlkbkmnkjbhaaDoorO2
import Derived.Test.YtlnlkbkmnkjbhaaDoorGb
namespace Go.Proofs.YtlnlkbkmnkjbhaaDoor
open Go.ChangeShapes Go.WideShapes Go.ChangeAt Go.RowKit Go.Deep


theorem cells69 : Tryd.prog.cellsOf 69 = 4 := by kernel_rfl
theorem cells67 : Tryd.prog.cellsOf 67 = 1 := by kernel_rfl
theorem cells71 : Tryd.prog.cellsOf 71 = 5 := by kernel_rfl
theorem cells61 : Tryd.prog.cellsOf 61 = 2 := by kernel_rfl
theorem cells59 : Tryd.prog.cellsOf 59 = 1 := by kernel_rfl
theorem cells22 : Tryd.prog.cellsOf 22 = 1 := by kernel_rfl
theorem cells24 : Tryd.prog.cellsOf 24 = 3 := by kernel_rfl
theorem bytes71 : Tryd.prog.bytesOf 71 = 40 := by kernel_rfl
theorem bytes61 : Tryd.prog.bytesOf 61 = 32 := by kernel_rfl
theorem under67 : Tryd.prog.underlying 67 = some (.int .u64) := by kernel_rfl
theorem under3 : Tryd.prog.underlying 3 = some (.int .i64) := by kernel_rfl
theorem word_ok {x : Int} (h : (Lit.int .u64 x).wf = true) : ∃ n : Nat, x = (n : Int) ∧ n < 18446744073709551616 := by
  have := bounds_u64 h
  exact ⟨x.toNat, by omega, by omega⟩
section
variable {H : Type} {enc : TypeId × Value → H} {w : World} {base : Nat} {spare : Nat → Bool} {held : Bool}
set_option maxRecDepth 100000 in
theorem open_set4 {fuel : Nat} {c0 c1 c2 c3 : Value} {x : DataW H × List MemPlace} (hf : DataW.trod enc Tryd.prog w base spare held fuel 69 [c0, c1, c2, c3] = some x) :
    ∃ s : St, s.ok ∧ c0 = .int .u64 s.a ∧ c1 = .int .u64 s.b ∧ c2 = .int .u64 s.c ∧ c3 = .int .u64 s.d := by
  obtain ⟨xs, m, _, _, _, hxl, hx⟩ := DataW.trod_array Tryd.underlying69 hf
  have k : ∀ i, i < 4 → ∃ y, DataW.trod enc Tryd.prog w base spare held m 67 ((([c0, c1, c2, c3] : List Value).drop i).take 1) = some y := by
    intro i hi
    have h1 := hx i hi
    rw [cells67, Nat.mul_one, List.getElem?_eq_getElem (by omega)] at h1
    exact ⟨_, h1⟩
  obtain ⟨y0, q0⟩ := k 0 (by omega)
  obtain ⟨y1, q1⟩ := k 1 (by omega)
  obtain ⟨y2, q2⟩ := k 2 (by omega)
  obtain ⟨y3, q3⟩ := k 3 (by omega)
  obtain ⟨n0, e0, _, w0⟩ := DataW.trod_int under67 q0
  obtain ⟨n1, e1, _, w1⟩ := DataW.trod_int under67 q1
  obtain ⟨n2, e2, _, w2⟩ := DataW.trod_int under67 q2
  obtain ⟨n3, e3, _, w3⟩ := DataW.trod_int under67 q3
  simp at e0 e1 e2 e3
  obtain ⟨m0, rfl, b0⟩ := word_ok w0
  obtain ⟨m1, rfl, b1⟩ := word_ok w1
  obtain ⟨m2, rfl, b2⟩ := word_ok w2
  obtain ⟨m3, rfl, b3⟩ := word_ok w3
  exact ⟨⟨m0, m1, m2, m3⟩, ⟨b0, b1, b2, b3⟩, e0, e1, e2, e3⟩
set_option maxRecDepth 100000 in
theorem open_sym {fuel : Nat} {cs : List Value} {x : DataW H × List MemPlace} (hl : cs.length = 5) (hf : DataW.trod enc Tryd.prog w base spare held fuel 71 cs = some x) :
    ∃ s : Ks, s.set.ok ∧ cs = [.int .i64 s.nt, .int .u64 s.set.a, .int .u64 s.set.b, .int .u64 s.set.c, .int .u64 s.set.d] := by
  obtain ⟨xs, m, _, _, _, hxl, hx⟩ := DataW.trod_struct Tryd.underlying71 hf
  match cs, hl with
  | [c0, c1, c2, c3, c4], _ =>
    have hxl2 : xs.length = 2 := hxl
    have g0 : DataW.trod enc Tryd.prog w base spare held m 3 ((([c0, c1, c2, c3, c4] : List Value).drop 0).take (Tryd.prog.cellsOf 3)) = xs[0]? := hx 0 _ rfl
    have g1 : DataW.trod enc Tryd.prog w base spare held m 69 ((([c0, c1, c2, c3, c4] : List Value).drop 1).take (Tryd.prog.cellsOf 69)) = xs[1]? := hx 1 _ rfl
    rw [List.getElem?_eq_getElem (by omega), cells3] at g0
    rw [List.getElem?_eq_getElem (by omega), cells69] at g1
    obtain ⟨n0, e0, _, _⟩ := DataW.trod_int under3 g0
    obtain ⟨s, hs, e1, e2, e3, e4⟩ := open_set4 (c0 := c1) (c1 := c2) (c2 := c3) (c3 := c4) g1
    simp at e0
    exact ⟨⟨n0, s⟩, hs, by rw [e0, e1, e2, e3, e4]⟩
set_option maxRecDepth 100000 in
theorem open_syms {fuel : Nat} {v : Value} {x : DataW H × List MemPlace} (h : DataW.trod enc Tryd.prog w base spare held fuel 59 [v] = some x) (hw : ∀ n ∈ x.1.weights Tryd.prog 59, n ≤ reachBytes) :
    ∃ (a : Option Addr) (c : Nat) (l : List Ks), v = .slice a l.length c ∧ KAt w w.heap.size a l := by
  rcases open_slice Tryd.underlying59 h with ⟨h0, _⟩ | ⟨a, len, cap, m, n, D, Pl, h0, hb, hl, hm, hmm, rfl, hx⟩
  · simp at h0
    exact ⟨none, 0, [], h0, by decide, fun j s hj => by cases hj⟩
  · simp at h0
    have hlm : len ≤ m := by rw [hmm]; split <;> omega
    have hz := hw (m * 40) (by
      simp only [DataW.weights, Tryd.underlying59, bytes71, List.length_map, List.length_range]
      rw [show len + (m - len) = m by omega]
      exact List.mem_cons_self)
    have hr := reachBytes_lt
    have each : ∀ i, i < len → ∃ s : Ks, s.set.ok ∧ w.cell? (a.add (i * 5)) = some (.int .i64 s.nt) ∧ w.cell? (a.add (i * 5 + 1)) = some (.int .u64 s.set.a) ∧ w.cell? (a.add (i * 5 + 2)) = some (.int .u64 s.set.b) ∧ w.cell? (a.add (i * 5 + 3)) = some (.int .u64 s.set.c) ∧ w.cell? (a.add (i * 5 + 4)) = some (.int .u64 s.set.d) := by
      intro i hi
      obtain ⟨cs', h1, h2⟩ := hx i (by omega)
      rw [cells71] at h1
      obtain ⟨_, hlen, hcell⟩ := World.cells?_some h1
      obtain ⟨s, hs, rfl⟩ := open_sym hlen h2
      have k := fun j hj => hcell j hj
      simp only [add_add] at k
      exact ⟨s, hs, by simpa using k 0 (by omega), k 1 (by omega), k 2 (by omega), k 3 (by omega), k 4 (by omega)⟩
    obtain ⟨l, hll, hlp⟩ := @list_of Ks ⟨⟨0, St.zero⟩⟩ _ _ each
    subst hll
    refine ⟨some a, cap, l, h0, by omega, fun j s hj => ?_⟩
    obtain ⟨hs, e0, e1, e2, e3, e4⟩ := hlp j s hj
    have hj0 := (List.getElem?_eq_some_iff.1 hj).1
    obtain ⟨_, f0, _⟩ := hlp 0 l[0] (by simp)
    obtain ⟨b, off, spot⟩ := a
    have hspot : spot = none := by simpa [Addr.add] using World.cell?_spot f0
    subst hspot
    rw [Addr.add_lit] at e0 e1 e2 e3 e4
    exact ⟨b, off, rfl, cell_lt' e0, hs, e0, e1, e2, e3, e4⟩
set_option maxRecDepth 100000 in
theorem open_rules {fuel : Nat} {v : Value} {x : DataW H × List MemPlace} (h : DataW.trod enc Tryd.prog w base spare held fuel 22 [v] = some x) (hw : ∀ n ∈ x.1.weights Tryd.prog 22, n ≤ reachBytes) :
    ∃ (a : Option Addr) (c : Nat) (l : List Rl), v = .slice a l.length c ∧ RAt w w.heap.size a l := by
  rcases open_slice_pairs Tryd.underlying22 Tryd.underlying61 cells61 rfl rfl cells3 cells59 h with ⟨h0, _⟩ | ⟨a, len, cap, m, n, V0, V1, D0, D1, P0, P1, h0, hb, hl, hm, hmm, rfl, hx⟩
  · simp at h0
    exact ⟨none, 0, [], h0, by decide, fun j s hj => by cases hj⟩
  · simp at h0
    have hlm : len ≤ m := by rw [hmm]; split <;> omega
    have hz := hw (m * 32) (by
      simp only [DataW.weights, Tryd.underlying22, bytes61, List.length_map, List.length_range]
      rw [show len + (m - len) = m by omega]
      exact List.mem_cons_self)
    have hr := reachBytes_lt
    have each : ∀ i, i < len → ∃ r : Rl, w.cell? (a.add (i * 2)) = some (.int .i64 r.lhs) ∧ ∃ sa sc, w.cell? (a.add (i * 2 + 1)) = some (.slice sa r.rhs.length sc) ∧ KAt w w.heap.size sa r.rhs := by
      intro i hi
      obtain ⟨h1, h2, h3, h4⟩ := hx i (by omega)
      obtain ⟨n0, e0, _, _⟩ := DataW.trod_int under3 h3
      simp at e0
      obtain ⟨sa, sc, l, e1, hK⟩ := open_syms h4 (fun n hn => hw n (by
        simp only [DataW.weights, Tryd.underlying22]
        refine List.mem_cons_of_mem _ (List.mem_append.2 (.inl ?_))
        refine weights_all (d := .agg [D0 i, D1 i]) (List.mem_map.2 ⟨i, List.mem_range.2 hi, rfl⟩) n ?_
        simp only [DataW.weights, Tryd.underlying61, DataW.weightsEach, List.map_cons, List.map_nil, List.mem_append]
        exact .inr (.inl hn)))
      exact ⟨⟨n0, l⟩, by rw [h1, e0], sa, sc, by rw [h2, e1], hK⟩
    obtain ⟨l, hll, hlp⟩ := @list_of Rl ⟨⟨0, []⟩⟩ _ _ each
    subst hll
    refine ⟨some a, cap, l, h0, by omega, fun j s hj => ?_⟩
    obtain ⟨e0, sa, sc, e1, hK⟩ := hlp j s hj
    have hj0 := (List.getElem?_eq_some_iff.1 hj).1
    obtain ⟨f0, _⟩ := hlp 0 l[0] (by simp)
    obtain ⟨b, off, spot⟩ := a
    have hspot : spot = none := by simpa [Addr.add] using World.cell?_spot f0
    subst hspot
    rw [Addr.add_lit] at e0 e1
    exact ⟨b, off, sa, sc, rfl, cell_lt' e0, hK, e0, e1⟩
set_option maxRecDepth 100000 in
theorem open_gram {r : Reach} {b0 : Nat} {v : Value} {d : DataW H} {p : List MemPlace} (hv : Value.okWide Tryd.prog w r b0 24 v) (h : DataW.Trod enc Tryd.prog w base spare held 24 v d p) (hw : ∀ n ∈ d.weights Tryd.prog 24, n ≤ reachBytes) :
    ∃ (G : Gm) (a : Option Addr) (c : Nat), v = .agg #[.int .i64 G.nts, .int .i64 G.start, .slice a G.rules.length c] ∧ RAt w w.heap.size a G.rules := by
  simp only [Value.okWide, Tryd.underlying24] at hv
  obtain ⟨cs, rfl, hsz, _⟩ := hv
  rw [cells24] at hsz
  obtain ⟨fuel, hf⟩ := h
  obtain ⟨xs, m, _, hd, _, hxl, hx⟩ := DataW.trod_struct Tryd.underlying24 hf
  have hxl3 : xs.length = 3 := hxl
  match cs, hsz with
  | ⟨[c0, c1, c2]⟩, _ =>
    have g0 : DataW.trod enc Tryd.prog w base spare held m 3 ((([c0, c1, c2] : List Value).drop 0).take (Tryd.prog.cellsOf 3)) = xs[0]? := by simpa [Value.cells] using hx 0 _ rfl
    have g1 : DataW.trod enc Tryd.prog w base spare held m 3 ((([c0, c1, c2] : List Value).drop 1).take (Tryd.prog.cellsOf 3)) = xs[1]? := by simpa [Value.cells] using hx 1 _ rfl
    have g2 : DataW.trod enc Tryd.prog w base spare held m 22 ((([c0, c1, c2] : List Value).drop 2).take (Tryd.prog.cellsOf 22)) = xs[2]? := by simpa [Value.cells] using hx 2 _ rfl
    match xs, hxl3 with
    | [x0, x1, x2], _ =>
      rw [cells3] at g0 g1
      rw [cells22] at g2
      obtain ⟨n0, e0, _, _⟩ := DataW.trod_int under3 g0
      obtain ⟨n1, e1, _, _⟩ := DataW.trod_int under3 g1
      simp at e0 e1
      have hd1 : d = .agg [x0.1, x1.1, x2.1] := by simpa using (Prod.mk.inj hd).1
      obtain ⟨a, c, l, e2, hR⟩ := open_rules (v := c2) g2 (fun n hn => hw n (by
        rw [hd1]
        simp only [DataW.weights, Tryd.underlying24, DataW.weightsEach, List.map_cons, List.map_nil, List.mem_append]
        exact .inr (.inr (.inl hn))))
      exact ⟨⟨n0, n1, l⟩, a, c, by rw [e0, e1, e2], hR⟩
end
end Go.Proofs.YtlnlkbkmnkjbhaaDoor
