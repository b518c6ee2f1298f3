/- An argument that is a document. -/
import Derived.Test.YtbmejfcbladofaaW0
import Derived.OpenShut
import Derived.ShutString
import Derived.ChangeOld
import Derived.Below
import Derived.SizedLaws
import Derived.Deep.SlicePairs
namespace Go.Proofs.Ytbmejfcbladofaa
open Go.ChangeShapes Go.WideShapes Go.ChangeAt Go.RowKit Go.Deep

theorem ownk : ownKnob Try.prog.godebug = none := by kernel_rfl
theorem laidOut : laidOutB Try.prog = true := by kernel_rfl
theorem cells3 : Try.prog.cellsOf 3 = 1 := by kernel_rfl
theorem cells9 : Try.prog.cellsOf 9 = 1 := by kernel_rfl
theorem cells22 : Try.prog.cellsOf 22 = 1 := by kernel_rfl
theorem cells24 : Try.prog.cellsOf 24 = 4 := by kernel_rfl
theorem bytes24 : Try.prog.bytesOf 24 = 56 := by kernel_rfl
theorem cell_lt' {w : World} {b o : Nat} {v : Value} (h : w.cell? ⟨b, o, none⟩ = some v) : b < w.heap.size := by
  rcases Nat.lt_or_ge b w.heap.size with h' | h'
  · exact h'
  · simp [World.cell?, Array.getElem?_eq_none h'] at h
theorem list_of {α : Type} [Inhabited α] {n : Nat} {p : Nat → α → Prop} (h : ∀ i, i < n → ∃ x, p i x) : ∃ l : List α, l.length = n ∧ ∀ i x, l[i]? = some x → p i x := by
  obtain ⟨f, hf⟩ := choose_lt h
  refine ⟨(List.range n).map f, by simp, fun i x hx => ?_⟩
  have hi : i < n := by have := (List.getElem?_eq_some_iff.1 hx).1; simpa using this
  have : x = f i := by
    rw [List.getElem?_map, List.getElem?_range hi] at hx
    simpa using hx.symm
  subst this
  exact hf i hi
section
variable {H : Type} {enc : TypeId × Value → H} {w : World} {base : Nat} {spare : Nat → Bool} {held : Bool}
theorem weights_all {P : Program} {e : TypeId} {ds : List (DataW H)} {d : DataW H} (h : d ∈ ds) : ∀ n ∈ d.weights P e, n ∈ DataW.weightsAll P e ds := by
  induction ds with
  | nil => cases h
  | cons x l ih =>
    intro n hn
    simp only [DataW.weightsAll, List.mem_append]
    rcases List.mem_cons.1 h with rfl | h
    · exact .inl hn
    · exact .inr (ih h n hn)
set_option maxRecDepth 100000 in
/-- The four cells of a document. -/
theorem open_four {fuel : Nat} {cs : List Value} {x : DataW H × List MemPlace} (hl : cs.length = 4) (hf : DataW.trod enc Try.prog w base spare held fuel 24 cs = some x) (hw : ∀ n ∈ x.1.weights Try.prog 24, n ≤ reachBytes) :
    ∃ (m : Nat) (kd nn : Int) (tx : ByteArray) (v : Value) (y : DataW H × List MemPlace), fuel = m + 1 ∧ cs = [.int .i64 kd, .string tx, .int .i64 nn, v] ∧ tx.size ≤ reachBytes ∧ DataW.trod enc Try.prog w base spare held m 22 [v] = some y ∧ ∀ n ∈ y.1.weights Try.prog 22, n ≤ reachBytes := by
  obtain ⟨xs, m, hm, hd, _, hxl, hx⟩ := DataW.trod_struct Try.underlying24 hf
  have hxl4 : xs.length = 4 := hxl
  match cs, hl with
  | [c0, c1, c2, c3], _ =>
    have g0 : DataW.trod enc Try.prog w base spare held m 3 ((([c0, c1, c2, c3] : List Value).drop 0).take (Try.prog.cellsOf 3)) = xs[0]? := hx 0 _ rfl
    have g1 : DataW.trod enc Try.prog w base spare held m 9 ((([c0, c1, c2, c3] : List Value).drop 1).take (Try.prog.cellsOf 9)) = xs[1]? := hx 1 _ rfl
    have g2 : DataW.trod enc Try.prog w base spare held m 3 ((([c0, c1, c2, c3] : List Value).drop 2).take (Try.prog.cellsOf 3)) = xs[2]? := hx 2 _ rfl
    have g3 : DataW.trod enc Try.prog w base spare held m 22 ((([c0, c1, c2, c3] : List Value).drop 3).take (Try.prog.cellsOf 22)) = xs[3]? := hx 3 _ rfl
    match xs, hxl4 with
    | [x0, x1, x2, x3], _ =>
      rw [cells3] at g0 g2
      rw [cells9] at g1
      rw [cells22] at g3
      obtain ⟨n0, e0, _, _⟩ := DataW.trod_int Try.underlying3 g0
      obtain ⟨s1, e1, e1', _⟩ := DataW.trod_string Try.underlying9 g1
      obtain ⟨n2, e2, _, _⟩ := DataW.trod_int Try.underlying3 g2
      simp at e0 e1 e2
      have hd1 : x.1 = .agg [x0.1, x1.1, x2.1, x3.1] := by simpa using (Prod.ext_iff.1 hd).1
      rw [hd1] at hw
      simp only [DataW.weights, Try.underlying24, DataW.weightsEach, List.map_cons, List.map_nil, List.mem_append] at hw
      refine ⟨m, n0, n2, s1, c3, x3, hm, by rw [e0, e1, e2], ?_, g3, fun n hn => hw n (.inr (.inr (.inr (.inl hn))))⟩
      have e1x : x1 = (.lit (.string s1.data.toList), []) := e1'
      have := hw s1.data.toList.length (.inr (.inl (by rw [e1x]; simp [DataW.weights])))
      simpa using this
/-- A row of documents. -/
theorem open_docs : ∀ (fuel : Nat) {v : Value} {x : DataW H × List MemPlace}, DataW.trod enc Try.prog w base spare held fuel 22 [v] = some x → (∀ n ∈ x.1.weights Try.prog 22, n ≤ reachBytes) →
    ∃ (a : Option Addr) (c : Nat) (l : List Dc), v = .slice a l.length c ∧ l.length ≤ c ∧ DAt w w.heap.size fuel a l ∧ TxL l := by
  intro fuel
  induction fuel using Nat.strongRecOn with
  | ind fuel ih =>
  intro v x h hw
  have hr := reachBytes_lt
  rcases DataW.trod_slice Try.underlying22 h with ⟨h0, _⟩ | ⟨a, len, cap, elems, rest, n, rfl, h0, hx, hb, hl, hm, hlen, hel, hsp, hns⟩
  · simp at h0
    refine ⟨none, 0, [], h0, Nat.le_refl _, ?_, by rw [TxL]; trivial⟩
    cases fuel with
    | zero => rfl
    | succ f => exact ⟨by decide, fun j s hj => by cases hj⟩
  · simp at h0
    have hx1 : x.1 = .slice (elems.map (·.1)) (rest.map (·.1)) := by rw [hx]
    rw [hx1] at hw
    simp only [DataW.weights, Try.underlying22, bytes24] at hw
    have hz := hw _ List.mem_cons_self
    rw [List.length_map, List.length_map, hlen] at hz
    have each : ∀ i, i < len → ∃ d : Dc, (w.cell? (a.add (i * 4)) = some (.int .i64 d.kind) ∧ w.cell? (a.add (i * 4 + 1)) = some (.string d.text) ∧ w.cell? (a.add (i * 4 + 2)) = some (.int .i64 d.n) ∧ ∃ sa sc, w.cell? (a.add (i * 4 + 3)) = some (.slice sa d.kids.length sc) ∧ d.kids.length ≤ sc ∧ DAt w w.heap.size n sa d.kids) ∧ TxD d := by
      intro i hi
      have h1 := hel i hi
      rw [List.getElem?_eq_getElem (by omega), Option.bind_eq_some_iff] at h1
      obtain ⟨cs', h1, h2⟩ := h1
      rw [cells24] at h1
      obtain ⟨_, hlen', hcell⟩ := World.cells?_some h1
      obtain ⟨m, kd, nn, tx, v', y, hm', rfl, htx, hy, hyw⟩ := open_four hlen' h2 (fun q hq => hw q (List.mem_cons_of_mem _ (List.mem_append.2 (.inl (weights_all (List.mem_map.2 ⟨elems[i], List.getElem_mem _, rfl⟩) q hq)))))
      obtain ⟨sa, sc, l, rfl, hlc, hD, hT⟩ := ih m (by omega) hy hyw
      have k := fun j hj => hcell j hj
      simp only [add_add] at k
      have hDn : DAt w w.heap.size n sa l := by rw [hm']; exact hD.up
      exact ⟨.mk kd tx nn l, ⟨by have h := k 0 (by omega); rw [Nat.add_zero] at h; exact h, k 1 (by omega), k 2 (by omega), sa, sc, k 3 (by omega), hlc, hDn⟩, TxD.mk (by simp only [Dc.text]; omega) hT⟩
    obtain ⟨l, hll, hlp⟩ := @list_of Dc _ _ _ each
    subst hll
    refine ⟨some a, cap, l, h0, hl, ⟨by omega, fun j s hj => ?_⟩, TxL.of fun d hd => ?_⟩
    · obtain ⟨⟨e0, e1, e2, sa, sc, e3, hsc, hK⟩, _⟩ := hlp j s hj
      have hj0 := (List.getElem?_eq_some_iff.1 hj).1
      obtain ⟨⟨f0, _⟩, _⟩ := hlp 0 l[0] (by simp)
      obtain ⟨b, off, spot⟩ := a
      have hspot : spot = none := by simpa [Addr.add] using World.cell?_spot f0
      subst hspot
      rw [Addr.add_lit] at e0 e1 e2 e3
      exact ⟨b, off, rfl, cell_lt' e0, sa, sc, e0, e1, e2, e3, hsc, hK⟩
    · obtain ⟨j, hj, rfl⟩ := List.getElem_of_mem hd
      exact (hlp j _ (List.getElem?_eq_getElem hj)).2
set_option maxRecDepth 100000 in
theorem open_doc {r : Reach} {b0 : Nat} {v : Value} {d : DataW H} {p : List MemPlace} (hv : Value.okWide Try.prog w r b0 24 v) (h : DataW.Trod enc Try.prog w base spare held 24 v d p) (hw : ∀ n ∈ d.weights Try.prog 24, n ≤ reachBytes) :
    ∃ (D : Dc) (a : Option Addr) (c f : Nat), v = .agg #[.int .i64 D.kind, .string D.text, .int .i64 D.n, .slice a D.kids.length c] ∧ D.kids.length ≤ c ∧ DAt w w.heap.size f a D.kids ∧ TxD D := by
  simp only [Value.okWide, Try.underlying24] at hv
  obtain ⟨cs, rfl, hsz, _⟩ := hv
  rw [cells24] at hsz
  obtain ⟨fuel, hf⟩ := h
  have hr := reachBytes_lt
  match cs, hsz with
  | ⟨[c0, c1, c2, c3]⟩, _ =>
    have hf' : DataW.trod enc Try.prog w base spare held fuel 24 [c0, c1, c2, c3] = some (d, p) := by simpa [Value.cells] using hf
    obtain ⟨m, kd, nn, tx, v', y, hm', hcs, htx, hy, hyw⟩ := open_four rfl hf' hw
    obtain ⟨sa, sc, l, rfl, hlc, hD, hT⟩ := open_docs m hy hyw
    simp at hcs
    obtain ⟨rfl, rfl, rfl, rfl⟩ := hcs
    exact ⟨.mk kd tx nn l, sa, sc, m, rfl, hlc, hD, TxD.mk (by simp only [Dc.text]; omega) hT⟩
end
end Go.Proofs.Ytbmejfcbladofaa
