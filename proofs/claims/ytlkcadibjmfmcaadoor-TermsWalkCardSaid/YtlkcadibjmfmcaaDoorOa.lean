/- Arguments: a term, a list of integers. -/
import Derived.Test.YtlkcadibjmfmcaaDoorAa
import Derived.Test.YtlkcadibjmfmcaaDoorRows
import Derived.OpenShut
import Derived.ShutString
import Derived.ChangeOld
import Derived.ChangeSlices
import Derived.Below
import Derived.SizedLaws
import Derived.Deep.SlicePairs
import Derived.Lib.LaidTab
import Derived.LaidMore
import Derived.Lay
import Derived.Stop.Joined
import Derived.Stop.LaidErr
namespace Go.Proofs.YtlkcadibjmfmcaaDoor
open Go.ChangeShapes Go.WideShapes Go.ChangeAt Go.RowKit Go.Deep

theorem ownk : ownKnob Tryd.prog.godebug = none := by kernel_rfl
theorem laidOut : laidOutB Tryd.prog = true := by kernel_rfl
theorem cells3 : Tryd.prog.cellsOf 3 = 1 := by kernel_rfl
theorem cells9 : Tryd.prog.cellsOf 9 = 1 := by kernel_rfl
theorem cells22 : Tryd.prog.cellsOf 22 = 1 := by kernel_rfl
theorem cells23 : Tryd.prog.cellsOf 23 = 1 := by kernel_rfl
theorem cells25 : Tryd.prog.cellsOf 25 = 4 := by kernel_rfl
theorem bytes25 : Tryd.prog.bytesOf 25 = 72 := by kernel_rfl
theorem bytes5 : Tryd.prog.bytesOf 5 = 1 := by kernel_rfl
theorem cell_lt' {w : World} {b o : Nat} {v : Value} (h : w.cell? ⟨b, o, none⟩ = some v) : b < w.heap.size := by
  rcases Nat.lt_or_ge b w.heap.size with h' | h'
  · exact h'
  · simp [World.cell?, Array.getElem?_eq_none h'] at h
theorem list_of {α : Type} [Inhabited α] {n : Nat} {p : Nat → α → Prop} (h : ∀ i, i < n → ∃ x, p i x) : ∃ l : List α, l.length = n ∧ ∀ i x, l[i]? = some x → p i x := by
  obtain ⟨f, hf⟩ := choose_lt h
  refine ⟨(List.range n).map f, by simp, fun i x hx => ?_⟩
  have hi : i < n := by have := (List.getElem?_eq_some_iff.1 hx).1; simpa using this
  have : x = f i := by
    rw [List.getElem?_map, List.getElem?_range hi] at hx
    simpa using hx.symm
  subst this
  exact hf i hi
section
variable {H : Type} {enc : TypeId × Value → H} {w : World} {base : Nat} {spare : Nat → Bool} {held : Bool}
theorem weights_all {P : Program} {e : TypeId} {ds : List (DataW H)} {d : DataW H} (h : d ∈ ds) : ∀ n ∈ d.weights P e, n ∈ DataW.weightsAll P e ds := by
  induction ds with
  | nil => cases h
  | cons x l ih =>
    intro n hn
    simp only [DataW.weightsAll, List.mem_append]
    rcases List.mem_cons.1 h with rfl | h
    · exact .inl hn
    · exact .inr (ih h n hn)
set_option maxRecDepth 100000 in
/-- Bytes that came in. -/
theorem open_bytes {fuel : Nat} {v : Value} {x : DataW H × List MemPlace} (h : DataW.trod enc Tryd.prog w base spare held fuel 22 [v] = some x) (hw : ∀ n ∈ x.1.weights Tryd.prog 22, n ≤ reachBytes) :
    ∃ (a : Option Addr) (c : Nat) (t : List UInt8), v = .slice a t.length c ∧ t.length ≤ c ∧ t.length ≤ 140737488355328 ∧ BAt w w.heap.size a t := by
  have hr := reachBytes_lt
  have hx0 := h
  rcases DataW.trod_slice Tryd.underlying22 h with ⟨h0, _⟩ | ⟨a', len', cap', elems, rest, n, rfl, h0, hx, hb, hl', hm', hlen, hel, hsp, hns⟩
  · simp at h0
    exact ⟨none, 0, [], h0, Nat.le_refl _, by decide, fun i c hi => by cases hi⟩
  · simp at h0
    subst h0
    have hx1 : x.1 = .slice (elems.map (·.1)) (rest.map (·.1)) := by rw [hx]
    rw [hx1] at hw
    simp only [DataW.weights, Tryd.underlying22, bytes5] at hw
    have hz := hw _ List.mem_cons_self
    rw [List.length_map, List.length_map, hlen] at hz
    rcases open_ints Tryd.underlying22 Tryd.underlying5 (by kernel_rfl) hx0 with ⟨hcs, _⟩ | ⟨y, l, c, zs, hcs, _, hl, hm, hz2, _, hcell, hwz⟩
    · simp at hcs
    · simp at hcs
      obtain ⟨rfl, rfl, rfl⟩ := hcs
      have hz' : len' ≤ zs.length := by rw [hz2]; split <;> omega
      have hLl : ((zs.take len').map fun z => UInt8.ofNat z.toNat).length = len' := by simp; omega
      refine ⟨some a', cap', (zs.take len').map fun z => UInt8.ofNat z.toNat, by rw [hLl], by rw [hLl]; exact hl, by rw [hLl]; omega, fun i c hi => ?_⟩
      have hi0 := (List.getElem?_eq_some_iff.1 hi).1
      rw [hLl] at hi0
      obtain ⟨b, off, rfl, hc⟩ := ints_at hcell (by omega)
      have hci := hc i (by omega)
      refine ⟨b, off, rfl, cell_lt' hci, ?_⟩
      rw [hci]
      have hi' : i < zs.length := by omega
      have hw := bounds_u8 (hwz (zs[i]) (List.getElem_mem hi'))
      rw [List.getElem?_map, List.getElem?_take_of_lt hi0, List.getElem?_eq_getElem hi'] at hi
      simp at hi
      subst hi
      simp [List.getD_eq_getElem?_getD, List.getElem?_eq_getElem hi', UInt8.toNat_ofNat']
      omega
set_option maxRecDepth 100000 in
/-- The four cells of a term. -/
theorem open_four {fuel : Nat} {cs : List Value} {x : DataW H × List MemPlace} (hl : cs.length = 4) (hf : DataW.trod enc Tryd.prog w base spare held fuel 25 cs = some x) (hw : ∀ n ∈ x.1.weights Tryd.prog 25, n ≤ reachBytes) :
    ∃ (m : Nat) (kd : Int) (cn : ByteArray) (ta : Option Addr) (tc : Nat) (t : List UInt8) (v : Value) (y : DataW H × List MemPlace), fuel = m + 1 ∧ cs = [.int .i64 kd, .string cn, .slice ta t.length tc, v] ∧ t.length ≤ tc ∧ t.length ≤ 140737488355328 ∧ BAt w w.heap.size ta t ∧ DataW.trod enc Tryd.prog w base spare held m 23 [v] = some y ∧ ∀ n ∈ y.1.weights Tryd.prog 23, n ≤ reachBytes := by
  obtain ⟨xs, m, hm, hd, _, hxl, hx⟩ := DataW.trod_struct Tryd.underlying25 hf
  have hxl3 : xs.length = 4 := hxl
  match cs, hl with
  | [c0, c1, c2, c3], _ =>
    have g0 : DataW.trod enc Tryd.prog w base spare held m 3 ((([c0, c1, c2, c3] : List Value).drop 0).take (Tryd.prog.cellsOf 3)) = xs[0]? := hx 0 _ rfl
    have g1 : DataW.trod enc Tryd.prog w base spare held m 9 ((([c0, c1, c2, c3] : List Value).drop 1).take (Tryd.prog.cellsOf 9)) = xs[1]? := hx 1 _ rfl
    have g2 : DataW.trod enc Tryd.prog w base spare held m 22 ((([c0, c1, c2, c3] : List Value).drop 2).take (Tryd.prog.cellsOf 22)) = xs[2]? := hx 2 _ rfl
    have g3 : DataW.trod enc Tryd.prog w base spare held m 23 ((([c0, c1, c2, c3] : List Value).drop 3).take (Tryd.prog.cellsOf 23)) = xs[3]? := hx 3 _ rfl
    match xs, hxl3 with
    | [x0, x1, x2, x3], _ =>
      rw [cells3] at g0
      rw [cells9] at g1
      rw [cells22] at g2
      rw [cells23] at g3
      have hd1 : x.1 = .agg [x0.1, x1.1, x2.1, x3.1] := by simpa using (Prod.ext_iff.1 hd).1
      rw [hd1] at hw
      simp only [DataW.weights, Tryd.underlying25, DataW.weightsEach, List.map_cons, List.map_nil, List.mem_append] at hw
      obtain ⟨n0, e0, _, _⟩ := DataW.trod_int Tryd.underlying3 g0
      obtain ⟨s1, e1, _⟩ := DataW.trod_string Tryd.underlying9 g1
      obtain ⟨ta, tc, t, rfl, h1, h2, h3⟩ := open_bytes g2 (fun n hn => hw n (.inr (.inr (.inl hn))))
      simp at e0 e1
      exact ⟨m, n0, s1, ta, tc, t, c3, x3, hm, by rw [e0, e1], h1, h2, h3, g3, fun n hn => hw n (.inr (.inr (.inr (.inl hn))))⟩
/-- A row of terms. -/
theorem open_terms : ∀ (fuel : Nat) {v : Value} {x : DataW H × List MemPlace}, DataW.trod enc Tryd.prog w base spare held fuel 23 [v] = some x → (∀ n ∈ x.1.weights Tryd.prog 23, n ≤ reachBytes) →
    ∃ (a : Option Addr) (c : Nat) (l : List Tm), v = .slice a l.length c ∧ l.length ≤ c ∧ MAt w w.heap.size fuel a l := by
  intro fuel
  induction fuel using Nat.strongRecOn with
  | ind fuel ih =>
  intro v x h hw
  have hr := reachBytes_lt
  rcases DataW.trod_slice Tryd.underlying23 h with ⟨h0, _⟩ | ⟨a, len, cap, elems, rest, n, rfl, h0, hx, hb, hl, hm, hlen, hel, hsp, hns⟩
  · simp at h0
    refine ⟨none, 0, [], h0, Nat.le_refl _, ?_⟩
    cases fuel with
    | zero => rfl
    | succ f => exact ⟨by decide, fun j s hj => by cases hj⟩
  · simp at h0
    have hx1 : x.1 = .slice (elems.map (·.1)) (rest.map (·.1)) := by rw [hx]
    rw [hx1] at hw
    simp only [DataW.weights, Tryd.underlying23, bytes25] at hw
    have hz := hw _ List.mem_cons_self
    rw [List.length_map, List.length_map, hlen] at hz
    have each : ∀ i, i < len → ∃ d : Tm, w.cell? (a.add (i * 4)) = some (.int .i64 d.kind) ∧ w.cell? (a.add (i * 4 + 1)) = some (.string d.cons) ∧ TxC w w.heap.size (a.add (i * 4 + 2)) d.text ∧ ∃ sa sc, w.cell? (a.add (i * 4 + 3)) = some (.slice sa d.kids.length sc) ∧ d.kids.length ≤ sc ∧ MAt w w.heap.size n sa d.kids := by
      intro i hi
      have h1 := hel i hi
      rw [List.getElem?_eq_getElem (by omega), Option.bind_eq_some_iff] at h1
      obtain ⟨cs', h1, h2⟩ := h1
      rw [cells25] at h1
      obtain ⟨_, hlen', hcell⟩ := World.cells?_some h1
      obtain ⟨m, kd, cn, ta, tc, t, v', y, hm', rfl, ht1, ht2, ht3, hy, hyw⟩ := open_four hlen' h2 (fun q hq => hw q (List.mem_cons_of_mem _ (List.mem_append.2 (.inl (weights_all (List.mem_map.2 ⟨elems[i], List.getElem_mem _, rfl⟩) q hq)))))
      obtain ⟨sa, sc, l, rfl, hlc, hD⟩ := ih m (by omega) hy hyw
      have k := fun j hj => hcell j hj
      simp only [add_add] at k
      have hDn : MAt w w.heap.size n sa l := by rw [hm']; exact hD.up
      exact ⟨.mk kd cn t l, by have h := k 0 (by omega); rw [Nat.add_zero] at h; exact h, k 1 (by omega), ⟨ta, tc, k 2 (by omega), ht1, ht2, ht3⟩, sa, sc, k 3 (by omega), hlc, hDn⟩
    obtain ⟨l, hll, hlp⟩ := @list_of Tm _ _ _ each
    subst hll
    refine ⟨some a, cap, l, h0, hl, ⟨by omega, fun j s hj => ?_⟩⟩
    obtain ⟨e0, e1, e2, sa, sc, e3, hsc, hK⟩ := hlp j s hj
    have hj0 := (List.getElem?_eq_some_iff.1 hj).1
    obtain ⟨f0, _⟩ := hlp 0 l[0] (by simp)
    obtain ⟨b, off, spot⟩ := a
    have hspot : spot = none := by simpa [Addr.add] using World.cell?_spot f0
    subst hspot
    rw [Addr.add_lit] at e0 e1 e2 e3
    exact ⟨b, off, rfl, cell_lt' e0, sa, sc, e0, e1, e2, e3, hsc, hK⟩
set_option maxRecDepth 100000 in
theorem open_term {r : Reach} {b0 : Nat} {v : Value} {d : DataW H} {p : List MemPlace} (hv : Value.okWide Tryd.prog w r b0 25 v) (h : DataW.Trod enc Tryd.prog w base spare held 25 v d p) (hw : ∀ n ∈ d.weights Tryd.prog 25, n ≤ reachBytes) :
    ∃ (D : Tm) (ta : Option Addr) (tc : Nat) (sa : Option Addr) (sc : Nat), v = .agg #[.int .i64 D.kind, .string D.cons, .slice ta D.text.length tc, .slice sa D.kids.length sc] ∧ TA w D ta tc sa sc := by
  simp only [Value.okWide, Tryd.underlying25] at hv
  obtain ⟨cs, rfl, hsz, _⟩ := hv
  rw [cells25] at hsz
  obtain ⟨fuel, hf⟩ := h
  match cs, hsz with
  | ⟨[c0, c1, c2, c3]⟩, _ =>
    have hf' : DataW.trod enc Tryd.prog w base spare held fuel 25 [c0, c1, c2, c3] = some (d, p) := by simpa [Value.cells] using hf
    obtain ⟨m, kd, cn, ta, tc, t, v', y, hm', hcs, h1, h2, h3, hy, hyw⟩ := open_four rfl hf' hw
    obtain ⟨sa, sc, l, rfl, hlc, hD⟩ := open_terms m hy hyw
    simp at hcs
    obtain ⟨rfl, rfl, rfl, rfl⟩ := hcs
    exact ⟨.mk kd cn t l, ta, tc, sa, sc, rfl, ⟨h1, h2, h3, hlc, m, hD⟩⟩
end
/-- Integers in memory. -/
def IAt (w : World) (B : Nat) (a : Option Addr) (l : List Int) : Prop := ∀ i v, l[i]? = some v → ∃ b o, a = some ⟨b, o, none⟩ ∧ b < B ∧ w.cell? ⟨b, o + i, none⟩ = some (.int .i64 v)
theorem IAt.nx {w w' : World} {a : Option Addr} {l : List Int} (hb : Below w.heap.size w w') (h : IAt w w.heap.size a l) : IAt w' w'.heap.size a l := fun i v hi => by
  obtain ⟨b, o, e, hlt, hc⟩ := h i v hi
  exact ⟨b, o, e, Nat.lt_of_lt_of_le hlt hb.size, (hb.cell (p := ⟨b, o + i, none⟩) hlt).trans hc⟩
/-- A list of integers that came in. -/
theorem open_path {H : Type} {enc : TypeId × Value → H} {w : World} {base : Nat} {a : Option Addr} {len cap : Nat} {d : DataW H} {p : List MemPlace}
    (h : DataW.Trod enc Tryd.prog w base (fun _ => true) true 34 (.slice a len cap) d p) :
    ∃ ps : List Int, ps.length = len ∧ IAt w w.heap.size a ps ∧ ps.length ≤ maxLen ∧ len ≤ cap := by
  obtain ⟨fuel, hf⟩ := h
  rcases open_ints Tryd.underlying34 Tryd.underlying3 (by kernel_rfl) hf with ⟨hcs, _⟩ | ⟨x, l, c, zs, hcs, _, hl, hm, hz, _, hcell, hwz⟩
  · simp [Value.cells] at hcs
    obtain ⟨rfl, rfl, rfl⟩ := hcs
    exact ⟨[], rfl, (fun i v hi => by cases hi), Nat.zero_le _, Nat.le_refl _⟩
  · simp [Value.cells] at hcs
    obtain ⟨rfl, rfl, rfl⟩ := hcs
    have hz' : zs.length = cap := by simpa using hz
    have hLl : (zs.take len).length = len := by simp; omega
    refine ⟨zs.take len, hLl, fun i v hi => ?_, by omega, hl⟩
    have hi0 := (List.getElem?_eq_some_iff.1 hi).1
    rw [hLl] at hi0
    obtain ⟨b, off, rfl, hc⟩ := ints_at hcell (by omega)
    have hci := hc i (by omega)
    refine ⟨b, off, rfl, cell_lt' hci, ?_⟩
    rw [hci]
    rw [List.getElem?_take_of_lt hi0] at hi
    simp [List.getD_eq_getElem?_getD, hi]
/-- What is laid. -/
def laid2 : List (String × DataW Unit) := [("unicode/utf8.acceptRanges", Rows.laid_unicode_utf8_acceptRanges), ("unicode/utf8.first", Rows.laid_unicode_utf8_first)]
end Go.Proofs.YtlkcadibjmfmcaaDoor
