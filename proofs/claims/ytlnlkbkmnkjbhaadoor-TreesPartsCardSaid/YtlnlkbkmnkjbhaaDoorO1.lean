/- An argument that is a tree; the table that lies there. -/
import Derived.Test.YtlnlkbkmnkjbhaaDoorI3
import Derived.Test.YtlnlkbkmnkjbhaaDoorT3
import Derived.Test.YtlnlkbkmnkjbhaaDoorRows
import Derived.OpenShut
import Derived.ShutString
import Derived.ChangeOld
import Derived.Below
import Derived.SizedLaws
import Derived.Deep.SlicePairs
import Derived.Lib.LaidTab
import Derived.LaidMore
import Derived.Stop.Joined
import Derived.Stop.LaidErr
namespace Go.Proofs.YtlnlkbkmnkjbhaaDoor
open Go.ChangeShapes Go.WideShapes Go.ChangeAt Go.RowKit Go.Deep

theorem ownk : ownKnob Tryd.prog.godebug = none := by kernel_rfl
theorem laidOut : laidOutB Tryd.prog = true := by kernel_rfl
theorem cells3 : Tryd.prog.cellsOf 3 = 1 := by kernel_rfl
theorem cells5 : Tryd.prog.cellsOf 5 = 1 := by kernel_rfl
theorem cells25 : Tryd.prog.cellsOf 25 = 1 := by kernel_rfl
theorem cells27 : Tryd.prog.cellsOf 27 = 3 := by kernel_rfl
theorem bytes27 : Tryd.prog.bytesOf 27 = 40 := by kernel_rfl
theorem cell_lt' {w : World} {b o : Nat} {v : Value} (h : w.cell? ⟨b, o, none⟩ = some v) : b < w.heap.size := by
  rcases Nat.lt_or_ge b w.heap.size with h' | h'
  · exact h'
  · simp [World.cell?, Array.getElem?_eq_none h'] at h
theorem list_of {α : Type} [Inhabited α] {n : Nat} {p : Nat → α → Prop} (h : ∀ i, i < n → ∃ x, p i x) : ∃ l : List α, l.length = n ∧ ∀ i x, l[i]? = some x → p i x := by
  obtain ⟨f, hf⟩ := choose_lt h
  refine ⟨(List.range n).map f, by simp, fun i x hx => ?_⟩
  have hi : i < n := by have := (List.getElem?_eq_some_iff.1 hx).1; simpa using this
  have : x = f i := by
    rw [List.getElem?_map, List.getElem?_range hi] at hx
    simpa using hx.symm
  subst this
  exact hf i hi
theorem byte_of {n : Int} (h : (Lit.int .u8 n).wf = true) : ∃ u : UInt8, n = (u.toNat : Int) := by
  have h' := bounds_u8 h
  exact ⟨UInt8.ofNat n.toNat, by simp [UInt8.toNat_ofNat']; omega⟩
section
variable {H : Type} {enc : TypeId × Value → H} {w : World} {base : Nat} {spare : Nat → Bool} {held : Bool}
theorem weights_all {P : Program} {e : TypeId} {ds : List (DataW H)} {d : DataW H} (h : d ∈ ds) : ∀ n ∈ d.weights P e, n ∈ DataW.weightsAll P e ds := by
  induction ds with
  | nil => cases h
  | cons x l ih =>
    intro n hn
    simp only [DataW.weightsAll, List.mem_append]
    rcases List.mem_cons.1 h with rfl | h
    · exact .inl hn
    · exact .inr (ih h n hn)
set_option maxRecDepth 100000 in
/-- The three cells of a tree. -/
theorem open_three {fuel : Nat} {cs : List Value} {x : DataW H × List MemPlace} (hl : cs.length = 3) (hf : DataW.trod enc Tryd.prog w base spare held fuel 27 cs = some x) (hw : ∀ n ∈ x.1.weights Tryd.prog 27, n ≤ reachBytes) :
    ∃ (m : Nat) (kd : Int) (u : UInt8) (v : Value) (y : DataW H × List MemPlace), fuel = m + 1 ∧ cs = [.int .i64 kd, .int .u8 (u.toNat : Int), v] ∧ DataW.trod enc Tryd.prog w base spare held m 25 [v] = some y ∧ ∀ n ∈ y.1.weights Tryd.prog 25, n ≤ reachBytes := by
  obtain ⟨xs, m, hm, hd, _, hxl, hx⟩ := DataW.trod_struct Tryd.underlying27 hf
  have hxl3 : xs.length = 3 := hxl
  match cs, hl with
  | [c0, c1, c2], _ =>
    have g0 : DataW.trod enc Tryd.prog w base spare held m 3 ((([c0, c1, c2] : List Value).drop 0).take (Tryd.prog.cellsOf 3)) = xs[0]? := hx 0 _ rfl
    have g1 : DataW.trod enc Tryd.prog w base spare held m 5 ((([c0, c1, c2] : List Value).drop 1).take (Tryd.prog.cellsOf 5)) = xs[1]? := hx 1 _ rfl
    have g2 : DataW.trod enc Tryd.prog w base spare held m 25 ((([c0, c1, c2] : List Value).drop 2).take (Tryd.prog.cellsOf 25)) = xs[2]? := hx 2 _ rfl
    match xs, hxl3 with
    | [x0, x1, x2], _ =>
      rw [cells3] at g0
      rw [cells5] at g1
      rw [cells25] at g2
      obtain ⟨n0, e0, _, _⟩ := DataW.trod_int Tryd.underlying3 g0
      obtain ⟨n1, e1, _, hu⟩ := DataW.trod_int Tryd.underlying5 g1
      obtain ⟨u, rfl⟩ := byte_of hu
      simp at e0 e1
      have hd1 : x.1 = .agg [x0.1, x1.1, x2.1] := by simpa using (Prod.ext_iff.1 hd).1
      rw [hd1] at hw
      simp only [DataW.weights, Tryd.underlying27, DataW.weightsEach, List.map_cons, List.map_nil, List.mem_append] at hw
      exact ⟨m, n0, u, c2, x2, hm, by rw [e0, e1], g2, fun n hn => hw n (.inr (.inr (.inl hn)))⟩
/-- A row of trees. -/
theorem open_trees : ∀ (fuel : Nat) {v : Value} {x : DataW H × List MemPlace}, DataW.trod enc Tryd.prog w base spare held fuel 25 [v] = some x → (∀ n ∈ x.1.weights Tryd.prog 25, n ≤ reachBytes) →
    ∃ (a : Option Addr) (c : Nat) (l : List Tr), v = .slice a l.length c ∧ l.length ≤ c ∧ TAt w w.heap.size fuel a l := by
  intro fuel
  induction fuel using Nat.strongRecOn with
  | ind fuel ih =>
  intro v x h hw
  have hr := reachBytes_lt
  rcases DataW.trod_slice Tryd.underlying25 h with ⟨h0, _⟩ | ⟨a, len, cap, elems, rest, n, rfl, h0, hx, hb, hl, hm, hlen, hel, hsp, hns⟩
  · simp at h0
    refine ⟨none, 0, [], h0, Nat.le_refl _, ?_⟩
    cases fuel with
    | zero => rfl
    | succ f => exact ⟨by decide, fun j s hj => by cases hj⟩
  · simp at h0
    have hx1 : x.1 = .slice (elems.map (·.1)) (rest.map (·.1)) := by rw [hx]
    rw [hx1] at hw
    simp only [DataW.weights, Tryd.underlying25, bytes27] at hw
    have hz := hw _ List.mem_cons_self
    rw [List.length_map, List.length_map, hlen] at hz
    have each : ∀ i, i < len → ∃ d : Tr, w.cell? (a.add (i * 3)) = some (.int .i64 d.rule) ∧ w.cell? (a.add (i * 3 + 1)) = some (.int .u8 (d.byte.toNat : Int)) ∧ ∃ sa sc, w.cell? (a.add (i * 3 + 2)) = some (.slice sa d.kids.length sc) ∧ d.kids.length ≤ sc ∧ TAt w w.heap.size n sa d.kids := by
      intro i hi
      have h1 := hel i hi
      rw [List.getElem?_eq_getElem (by omega), Option.bind_eq_some_iff] at h1
      obtain ⟨cs', h1, h2⟩ := h1
      rw [cells27] at h1
      obtain ⟨_, hlen', hcell⟩ := World.cells?_some h1
      obtain ⟨m, kd, u, v', y, hm', rfl, hy, hyw⟩ := open_three hlen' h2 (fun q hq => hw q (List.mem_cons_of_mem _ (List.mem_append.2 (.inl (weights_all (List.mem_map.2 ⟨elems[i], List.getElem_mem _, rfl⟩) q hq)))))
      obtain ⟨sa, sc, l, rfl, hlc, hD⟩ := ih m (by omega) hy hyw
      have k := fun j hj => hcell j hj
      simp only [add_add] at k
      have hDn : TAt w w.heap.size n sa l := by rw [hm']; exact hD.up
      exact ⟨.mk kd u l, by have h := k 0 (by omega); rw [Nat.add_zero] at h; exact h, k 1 (by omega), sa, sc, k 2 (by omega), hlc, hDn⟩
    obtain ⟨l, hll, hlp⟩ := @list_of Tr _ _ _ each
    subst hll
    refine ⟨some a, cap, l, h0, hl, ⟨by omega, fun j s hj => ?_⟩⟩
    obtain ⟨e0, e1, sa, sc, e3, hsc, hK⟩ := hlp j s hj
    have hj0 := (List.getElem?_eq_some_iff.1 hj).1
    obtain ⟨f0, _⟩ := hlp 0 l[0] (by simp)
    obtain ⟨b, off, spot⟩ := a
    have hspot : spot = none := by simpa [Addr.add] using World.cell?_spot f0
    subst hspot
    rw [Addr.add_lit] at e0 e1 e3
    exact ⟨b, off, rfl, cell_lt' e0, sa, sc, e0, e1, e3, hsc, hK⟩
set_option maxRecDepth 100000 in
theorem open_tree {r : Reach} {b0 : Nat} {v : Value} {d : DataW H} {p : List MemPlace} (hv : Value.okWide Tryd.prog w r b0 27 v) (h : DataW.Trod enc Tryd.prog w base spare held 27 v d p) (hw : ∀ n ∈ d.weights Tryd.prog 27, n ≤ reachBytes) :
    ∃ (D : Tr) (a : Option Addr) (c f : Nat), v = .agg #[.int .i64 D.rule, .int .u8 (D.byte.toNat : Int), .slice a D.kids.length c] ∧ D.kids.length ≤ c ∧ TAt w w.heap.size f a D.kids := by
  simp only [Value.okWide, Tryd.underlying27] at hv
  obtain ⟨cs, rfl, hsz, _⟩ := hv
  rw [cells27] at hsz
  obtain ⟨fuel, hf⟩ := h
  match cs, hsz with
  | ⟨[c0, c1, c2]⟩, _ =>
    have hf' : DataW.trod enc Tryd.prog w base spare held fuel 27 [c0, c1, c2] = some (d, p) := by simpa [Value.cells] using hf
    obtain ⟨m, kd, u, v', y, hm', hcs, hy, hyw⟩ := open_three rfl hf' hw
    obtain ⟨sa, sc, l, rfl, hlc, hD⟩ := open_trees m hy hyw
    simp at hcs
    obtain ⟨rfl, rfl, rfl⟩ := hcs
    exact ⟨.mk kd u l, sa, sc, m, rfl, hlc, hD⟩
end
/-- What is laid. -/
def laid3 : List (String × DataW Unit) := [("math/bits.deBruijn32tab", Rows.laid_math_bits_deBruijn32tab), ("math/bits.deBruijn64tab", Rows.laid_math_bits_deBruijn64tab), ("internal/strconv.uint64pow10", Rows.laid_internal_strconv_uint64pow10)]
theorem pow_eq : (Rows.laid_internal_strconv_uint64pow10 : DataW Unit) = Lib.tabData .u64 Lib.pow10Tab := by kernel_rfl
theorem gPow : Tryd.prog.globalNamed "internal/strconv.uint64pow10" = some 0 := by kernel_rfl
theorem tPow : (Tryd.prog.globals[0]?).map (·.type) = some 140 := by kernel_rfl
theorem tab_of_laid {W : World} (h : laidMetH Tryd.prog laid3 W) : Tab W.heap.size W := by
  rw [MakeChecks.laidMetH_plain _ _ _ (by kernel_rfl)] at h
  have h2 := laidMet.tail (laidMet.tail h)
  rw [pow_eq] at h2
  exact Lib.tabBelow_of_tabIs (Lib.tabIs_of_head gPow tPow Tryd.underlying140 Tryd.underlying67 (by kernel_rfl) (by kernel_rfl) h2)
theorem TAt.ups {w : World} {B : Nat} {f : Nat} {a : Option Addr} {l : List Tr} (h : TAt w B f a l) : ∀ k, TAt w B (f + k) a l
  | 0 => h
  | k + 1 => (h.ups k).up
set_option maxRecDepth 100000 in
/-- The door's own heap meets the condition. -/
theorem door_met (os : Os) (args : Array Value) : laidMetH Tryd.prog laid3 ((World.doorLaid Tryd.prog 400 os).forCall (fun _ _ => 0) ⟨#[], args, []⟩).memory :=
  laidMetH_of_parts3 (fuel := 8) (laidMet_of_run' 8 (by kernel_rfl) (by kernel_rfl)) (by kernel_rfl) (by kernel_rfl)
end Go.Proofs.YtlnlkbkmnkjbhaaDoor
