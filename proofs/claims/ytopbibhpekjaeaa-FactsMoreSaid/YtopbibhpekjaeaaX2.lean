/- A grammar is copied. -/
import Derived.Test.YtopbibhpekjaeaaX1
namespace Go.Proofs.Ytopbibhpekjaeaa
open Go.RowKit

/-- Memory while a grammar is copied: its box at w's size, behind it the answer's, and the copy's. -/
structure XC (w : World) (n0 s0 : Int) (rv : Value) (ps : List Rl) (lv : Value) (xs : List Value) (W : World) : Prop where
  row : W.ownsRow (w.heap.size + 3) 52 2 lv ps.length xs
  rx : Rx W lv (· < w.heap.size + 3) ps xs
  g2 : W.cell? ⟨w.heap.size, 2, none⟩ = some rv
  a0 : W.cell? ⟨w.heap.size + 1, 0, none⟩ = some (.int .i64 0)
  a1 : W.cell? ⟨w.heap.size + 1, 1, none⟩ = some (.int .i64 0)
  a2 : W.cell? ⟨w.heap.size + 1, 2, none⟩ = some (.slice none 0 0)
  f0 : W.frozen? ⟨w.heap.size + 1, 0, none⟩ = false
  f1 : W.frozen? ⟨w.heap.size + 1, 1, none⟩ = false
  f2 : W.frozen? ⟨w.heap.size + 1, 2, none⟩ = false
  o0 : W.cell? ⟨w.heap.size + 2, 0, none⟩ = some (.int .i64 n0)
  o1 : W.cell? ⟨w.heap.size + 2, 1, none⟩ = some (.int .i64 s0)
  o2 : W.cell? ⟨w.heap.size + 2, 2, none⟩ = some lv
  fo : W.frozen? ⟨w.heap.size + 2, 2, none⟩ = false
  bel : Below w.heap.size w W
  lt : w.heap.size + 3 ≤ W.heap.size
section
variable {w : World} {n0 s0 : Int} {rv : Value} {ps : List Rl} {lv : Value} {xs : List Value} {W W' : World}
theorem XC.below (h : XC w n0 s0 rv ps lv xs W) (hb : Below W.heap.size W W') : XC w n0 s0 rv ps lv xs W' := by
  have hl := h.lt
  have k : ∀ b q, b < W.heap.size → W'.cell? ⟨b, q, none⟩ = W.cell? ⟨b, q, none⟩ := fun b q hlt => hb.cell (p := ⟨b, q, none⟩) hlt
  have f : ∀ b q, b < W.heap.size → W'.frozen? ⟨b, q, none⟩ = W.frozen? ⟨b, q, none⟩ := fun b q hlt => hb.frozen (p := ⟨b, q, none⟩) hlt
  exact ⟨row_below h.row hb, h.rx.below hb, (k _ _ (by omega)).trans h.g2, (k _ _ (by omega)).trans h.a0, (k _ _ (by omega)).trans h.a1, (k _ _ (by omega)).trans h.a2, (f _ _ (by omega)).trans h.f0, (f _ _ (by omega)).trans h.f1, (f _ _ (by omega)).trans h.f2, (k _ _ (by omega)).trans h.o0, (k _ _ (by omega)).trans h.o1, (k _ _ (by omega)).trans h.o2, (f _ _ (by omega)).trans h.fo, below_of h.bel hb, Nat.le_trans hl hb.size⟩
theorem XC.start (w : World) (n0 s0 : Int) (rv : Value) : XC w n0 s0 rv [] (.slice none 0 0) [] (((w.alloc (.cells #[.int .i64 n0, .int .i64 s0, rv] 24)).alloc (.cells #[.int .i64 0, .int .i64 0, .slice none 0 0] 24)).alloc (.cells #[.int .i64 n0, .int .i64 s0, .slice none 0 0] 24)) := by
  have e1 : (w.alloc (.cells #[.int .i64 n0, .int .i64 s0, rv] 24)).heap.size = w.heap.size + 1 := by simp
  have e2 : ((w.alloc (.cells #[.int .i64 n0, .int .i64 s0, rv] 24)).alloc (.cells #[.int .i64 0, .int .i64 0, .slice none 0 0] 24)).heap.size = w.heap.size + 2 := by simp
  have c0 : (w.alloc (.cells #[.int .i64 n0, .int .i64 s0, rv] 24)).cell? ⟨w.heap.size, 2, none⟩ = some rv := cell_new 2 rfl
  have c1 : ∀ j v, (#[.int .i64 0, .int .i64 0, .slice none 0 0] : Array Value)[j]? = some v → ((w.alloc (.cells #[.int .i64 n0, .int .i64 s0, rv] 24)).alloc (.cells #[.int .i64 0, .int .i64 0, .slice none 0 0] 24)).cell? ⟨w.heap.size + 1, j, none⟩ = some v := fun j v hv => by
    have := cell_new (w := w.alloc (.cells #[.int .i64 n0, .int .i64 s0, rv] 24)) (t := 24) j hv
    rw [e1] at this; exact this
  have d1 : ∀ j, ((w.alloc (.cells #[.int .i64 n0, .int .i64 s0, rv] 24)).alloc (.cells #[.int .i64 0, .int .i64 0, .slice none 0 0] 24)).frozen? ⟨w.heap.size + 1, j, none⟩ = false := fun j => by
    have := World.frozen?_alloc_new (w.alloc (.cells #[.int .i64 n0, .int .i64 s0, rv] 24)) #[.int .i64 0, .int .i64 0, .slice none 0 0] 24 j
    rw [e1] at this; exact this
  have hB1 : Below w.heap.size w (w.alloc (.cells #[.int .i64 n0, .int .i64 s0, rv] 24)) := (Below.refl _ _).alloc (Nat.le_refl _) _
  generalize w.alloc (.cells #[.int .i64 n0, .int .i64 s0, rv] 24) = A at *
  have hB2 : Below A.heap.size A (A.alloc (.cells #[.int .i64 0, .int .i64 0, .slice none 0 0] 24)) := (Below.refl _ _).alloc (Nat.le_refl _) _
  have c2 := (hB2.cell (p := ⟨w.heap.size, 2, none⟩) (by show w.heap.size < _; omega)).trans c0
  have hB3 := below_of hB1 hB2
  generalize A.alloc (.cells #[.int .i64 0, .int .i64 0, .slice none 0 0] 24) = A2 at *
  have hB4 : Below A2.heap.size A2 (A2.alloc (.cells #[.int .i64 n0, .int .i64 s0, .slice none 0 0] 24)) := (Below.refl _ _).alloc (Nat.le_refl _) _
  have k : ∀ b q, b < A2.heap.size → (A2.alloc (.cells #[.int .i64 n0, .int .i64 s0, .slice none 0 0] 24)).cell? ⟨b, q, none⟩ = A2.cell? ⟨b, q, none⟩ := fun b q hlt => hB4.cell (p := ⟨b, q, none⟩) hlt
  have f : ∀ b q, b < A2.heap.size → (A2.alloc (.cells #[.int .i64 n0, .int .i64 s0, .slice none 0 0] 24)).frozen? ⟨b, q, none⟩ = A2.frozen? ⟨b, q, none⟩ := fun b q hlt => hB4.frozen (p := ⟨b, q, none⟩) hlt
  have o : ∀ j v, (#[.int .i64 n0, .int .i64 s0, .slice none 0 0] : Array Value)[j]? = some v → (A2.alloc (.cells #[.int .i64 n0, .int .i64 s0, .slice none 0 0] 24)).cell? ⟨w.heap.size + 2, j, none⟩ = some v := fun j v hv => by
    have := cell_new (w := A2) (t := 24) j hv
    rw [e2] at this; exact this
  have fo := World.frozen?_alloc_new A2 #[.int .i64 n0, .int .i64 s0, .slice none 0 0] 24 2
  rw [e2] at fo
  exact ⟨World.ownsRow_nil _ _ _ _, Rx.nil _ _ _, (k _ _ (by omega)).trans c2, (k _ _ (by omega)).trans (c1 0 _ rfl), (k _ _ (by omega)).trans (c1 1 _ rfl), (k _ _ (by omega)).trans (c1 2 _ rfl), (f _ _ (by omega)).trans (d1 0), (f _ _ (by omega)).trans (d1 1), (f _ _ (by omega)).trans (d1 2), o 0 _ rfl, o 1 _ rfl, o 2 _ rfl, fo, below_of hB3 hB4, by simp; omega⟩
/-- A rule more. -/
theorem XC.step (h : XC w n0 s0 rv ps lv xs W) {Wm w1 : World} (hm : Below W.heap.size W Wm) {g1 cap1 : Nat} {r : Rl} {sa : Option Addr} {sc : Nat} (hK : KAt W W.heap.size sa r.rhs) (hb : ∀ b o, sa = some ⟨b, o, none⟩ → 0 < r.rhs.length → lv.ownBlock ≠ some b ∧ ¬ b < w.heap.size + 3) (hg : Wm.grownBy w1 lv.ownBlock)
    (hown : w1.ownsRow (w.heap.size + 3) 52 2 (.slice (some ⟨g1, 0, none⟩) (ps.length + 1) cap1) (ps.length + 1) (xs ++ [.int .i64 r.lhs, .slice sa r.rhs.length sc])) (hat : lv.ownBlock = some g1 ∨ g1 = Wm.heap.size) :
    XC w n0 s0 rv (ps ++ [r]) (.slice (some ⟨g1, 0, none⟩) (ps.length + 1) cap1) (xs ++ [.int .i64 r.lhs, .slice sa r.rhs.length sc]) (w1.setCell ⟨w.heap.size + 2, 2, none⟩ (.slice (some ⟨g1, 0, none⟩) (ps.length + 1) cap1)) := by
  have hl := h.lt
  have hsm := hm.size
  have hgs := hg.size
  have hlo : ∀ q, lv.ownBlock = some q → w.heap.size + 3 ≤ q := fun q hq => (h.row.lt q hq).1
  have hc1 : ∀ b, b < W.heap.size → lv.ownBlock ≠ some b → ∀ q, w1.cell? ⟨b, q, none⟩ = W.cell? ⟨b, q, none⟩ := fun b hlt hne q =>
    (hg.cell_far ⟨b, q, none⟩ (by show b < _; omega) (fun e => hne e.symm)).trans (hm.cell (p := ⟨b, q, none⟩) hlt)
  have hf1 : ∀ b, b < W.heap.size → lv.ownBlock ≠ some b → ∀ q, w1.frozen? ⟨b, q, none⟩ = W.frozen? ⟨b, q, none⟩ := fun b hlt hne q =>
    (hg.frozen_far ⟨b, q, none⟩ (by show b < _; omega) (fun e => hne e.symm)).trans (hm.frozen (p := ⟨b, q, none⟩) hlt)
  have hs1 : (w1.setCell ⟨w.heap.size + 2, 2, none⟩ (.slice (some ⟨g1, 0, none⟩) (ps.length + 1) cap1)).heap.size = w1.heap.size := by simp [World.setCell]
  have hc2 : ∀ b q, b ≠ w.heap.size + 2 → (w1.setCell ⟨w.heap.size + 2, 2, none⟩ (.slice (some ⟨g1, 0, none⟩) (ps.length + 1) cap1)).cell? ⟨b, q, none⟩ = w1.cell? ⟨b, q, none⟩ := fun b q hne => World.cell?_setCell_far _ _ _ _ (fun e => hne e.symm)
  have n0' : ∀ i, i < 3 → lv.ownBlock ≠ some (w.heap.size + i) := fun i hi e => by have := hlo _ e; omega
  have hk : ∀ b, b < W.heap.size → lv.ownBlock ≠ some b → b ≠ w.heap.size + 2 → ∀ q, (w1.setCell ⟨w.heap.size + 2, 2, none⟩ (.slice (some ⟨g1, 0, none⟩) (ps.length + 1) cap1)).cell? ⟨b, q, none⟩ = W.cell? ⟨b, q, none⟩ := fun b h1 h2 h3 q => (hc2 b q h3).trans (hc1 b h1 h2 q)
  have hfr : ∀ b, b < W.heap.size → lv.ownBlock ≠ some b → ∀ q, (w1.setCell ⟨w.heap.size + 2, 2, none⟩ (.slice (some ⟨g1, 0, none⟩) (ps.length + 1) cap1)).frozen? ⟨b, q, none⟩ = W.frozen? ⟨b, q, none⟩ := fun b h1 h2 q => (World.frozen?_setCell _ _ _ _).trans (hf1 b h1 h2 q)
  refine ⟨?_, ?_, (hk _ (by omega) (n0' 0 (by omega)) (by omega) _).trans h.g2, (hk _ (by omega) (n0' 1 (by omega)) (by omega) _).trans h.a0, (hk _ (by omega) (n0' 1 (by omega)) (by omega) _).trans h.a1, (hk _ (by omega) (n0' 1 (by omega)) (by omega) _).trans h.a2, (hfr _ (by omega) (n0' 1 (by omega)) _).trans h.f0, (hfr _ (by omega) (n0' 1 (by omega)) _).trans h.f1, (hfr _ (by omega) (n0' 1 (by omega)) _).trans h.f2, ?_, ?_, ?_, (hfr _ (by omega) (n0' 2 (by omega)) _).trans h.fo, ?_, by omega⟩
  · rw [List.length_append]; exact row_set hown (by show w.heap.size + 2 < _; omega) _
  · refine (h.rx.snoc sc hK hb).move (by omega) (fun b h1 h2 h3 => hk b h1 h2 (by omega)) (fun b hlt e => ?_)
    have e' : g1 = b := by simpa [Value.ownBlock] using e
    rcases hat with hat | hat
    · rw [← e']; exact hat
    · omega
  · rw [World.cell?_setCell_other _ _ _ _ (by simp), hc1 _ (by omega) (n0' 2 (by omega))]; exact h.o0
  · rw [World.cell?_setCell_other _ _ _ _ (by simp), hc1 _ (by omega) (n0' 2 (by omega))]; exact h.o1
  · exact World.cell?_setCell_same' _ _ _ (by rw [hc1 _ (by omega) (n0' 2 (by omega)), h.o2]; rfl)
  · exact ((h.bel.trans (hm.mono (by omega))).grown hg (by omega) (fun q hq => by have := hlo q hq; omega)).setCell (by show w.heap.size ≤ w.heap.size + 2; omega) _
/-- A rule's symbols are copied. -/
theorem XC.copied (h : XC w n0 s0 rv ps lv xs W) {r : Rl} {va : Option Addr} {vc : Nat} {w1 : World} (hbel : Below (W.alloc (.cells #[.int .i64 r.lhs, .slice none 0 0] 52)).drew.heap.size (W.alloc (.cells #[.int .i64 r.lhs, .slice none 0 0] 52)).drew w1)
    (hown : w1.ownsRow (W.alloc (.cells #[.int .i64 r.lhs, .slice none 0 0] 52)).drew.heap.size 56 5 (.slice va r.rhs.length vc) r.rhs.length (ksV r.rhs)) (hok : ∀ s ∈ r.rhs, s.set.ok) (hl : r.rhs.length * 40 ≤ 140737488355328) :
    ∃ W6, w1.setCell ⟨W.heap.size, 1, none⟩ (.slice va r.rhs.length vc) = W6 ∧ XC w n0 s0 rv ps lv xs W6 ∧ W6.cell? ⟨W.heap.size, 0, none⟩ = some (.int .i64 r.lhs) ∧ W6.cell? ⟨W.heap.size, 1, none⟩ = some (.slice va r.rhs.length vc) ∧ KAt W6 W6.heap.size va r.rhs ∧ (∀ b o, va = some ⟨b, o, none⟩ → 0 < r.rhs.length → lv.ownBlock ≠ some b ∧ ¬ b < w.heap.size + 3) := by
  have hlt := h.lt
  have hB1 : Below W.heap.size W (W.alloc (.cells #[.int .i64 r.lhs, .slice none 0 0] 52)).drew := ((Below.refl _ _).alloc (Nat.le_refl _) _).drew
  have c0 : (W.alloc (.cells #[.int .i64 r.lhs, .slice none 0 0] 52)).drew.cell? ⟨W.heap.size, 0, none⟩ = some (.int .i64 r.lhs) := cell_new 0 rfl
  have c1 : (W.alloc (.cells #[.int .i64 r.lhs, .slice none 0 0] 52)).drew.cell? ⟨W.heap.size, 1, none⟩ = some (.slice none 0 0) := cell_new 1 rfl
  have hs1 : (W.alloc (.cells #[.int .i64 r.lhs, .slice none 0 0] 52)).drew.heap.size = W.heap.size + 1 := by simp
  generalize (W.alloc (.cells #[.int .i64 r.lhs, .slice none 0 0] 52)).drew = A at *
  have hB2 : Below W.heap.size W w1 := below_of hB1 hbel
  have d0 := (hbel.cell (p := ⟨W.heap.size, 0, none⟩) (by show W.heap.size < _; omega)).trans c0
  have d1 := (hbel.cell (p := ⟨W.heap.size, 1, none⟩) (by show W.heap.size < _; omega)).trans c1
  have hB3 : Below W.heap.size W (w1.setCell ⟨W.heap.size, 1, none⟩ (.slice va r.rhs.length vc)) := hB2.setCell (Nat.le_refl _) _
  have hrow : (w1.setCell ⟨W.heap.size, 1, none⟩ (.slice va r.rhs.length vc)).ownsRow A.heap.size 56 5 (.slice va r.rhs.length vc) r.rhs.length (ksV r.rhs) := row_set hown (by show W.heap.size < _; omega) _
  obtain ⟨a', c', e, hK, hfar⟩ := ks_kat hrow hok hl
  cases e
  refine ⟨_, rfl, h.below hB3, ?_, World.cell?_setCell_same' _ _ _ (by rw [d1]; rfl), hK, fun b o e h0 => ?_⟩
  · rw [World.cell?_setCell_other _ _ _ _ (by simp)]; exact d0
  · obtain ⟨g, e', hg⟩ := hfar h0
    rw [e] at e'
    cases e'
    exact ⟨fun e2 => by have := (h.row.lt _ e2).2; omega, by omega⟩
end
end Go.Proofs.Ytopbibhpekjaeaa
