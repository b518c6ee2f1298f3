/- A grammar that is put together of another one's rules. -/
import Derived.Test.YtopbibhpekjaeaaT0
namespace Go.Proofs.Ytopbibhpekjaeaa
open Go.RowKit

theorem row_set {W : World} {B : Nat} {e : TypeId} {k : Nat} {v : Value} {n : Nat} {xs : List Value} (h : W.ownsRow B e k v n xs) {a : Addr} (ha : a.block < B) (u : Value) : (W.setCell a u).ownsRow B e k v n xs := by
  refine ⟨h.1, ?_⟩
  rcases h.2 with h0 | ⟨g, cap, cur, hv, hbg, hg, rest⟩
  · exact .inl h0
  · exact .inr ⟨g, cap, cur, hv, hbg, (Below.heap_setCell W a u g (by omega)).trans hg, rest⟩
/-- The cells of a row of rules. -/
structure Rw (w : World) (B : Nat) (ps : List Rl) (xs : List Value) : Prop where
  len : xs.length = ps.length * 2
  cells : ∀ j r, ps[j]? = some r → ∃ sa sc, KAt w B sa r.rhs ∧ xs[j * 2]? = some (.int .i64 r.lhs) ∧ xs[j * 2 + 1]? = some (.slice sa r.rhs.length sc)
theorem Rw.nil (w : World) (B : Nat) : Rw w B [] [] := ⟨rfl, fun j r h => by cases h⟩
theorem Rw.snoc {w : World} {B : Nat} {ps : List Rl} {xs : List Value} (h : Rw w B ps xs) {r : Rl} {sa : Option Addr} (sc : Nat) (hK : KAt w B sa r.rhs) : Rw w B (ps ++ [r]) (xs ++ [.int .i64 r.lhs, .slice sa r.rhs.length sc]) := by
  have hl := h.len
  refine ⟨by simp [hl]; omega, fun j q hj => ?_⟩
  by_cases hlt : j < ps.length
  · rw [List.getElem?_append_left hlt] at hj
    obtain ⟨sa, sc, h1, h2, h3⟩ := h.cells j q hj
    exact ⟨sa, sc, h1, by rw [List.getElem?_append_left (by omega)]; exact h2, by rw [List.getElem?_append_left (by omega)]; exact h3⟩
  · have := (List.getElem?_eq_some_iff.1 hj).1
    simp at this
    obtain rfl : j = ps.length := by omega
    simp at hj
    subst hj
    refine ⟨sa, sc, hK, ?_, ?_⟩
    · rw [List.getElem?_append_right (by omega), hl, Nat.sub_self]; rfl
    · rw [List.getElem?_append_right (by omega), hl, show ps.length * 2 + 1 - ps.length * 2 = 1 by omega]; rfl
theorem Rw.rat {w W : World} {B base : Nat} {ps : List Rl} {xs : List Value} {v : Value} (h : Rw w B ps xs) (hr : W.ownsRow base 52 2 v ps.length xs) (hb : Below B w W) (hB : B ≤ W.heap.size) (hl : ps.length * 32 ≤ 140737488355328) : ∃ a c, v = .slice a ps.length c ∧ RAt W W.heap.size a ps := by
  by_cases h0 : ps.length = 0
  · obtain ⟨a, c, rfl⟩ := row_slice hr
    exact ⟨a, c, rfl, hl, fun j r hj => by have := (List.getElem?_eq_some_iff.1 hj).1; omega⟩
  · obtain ⟨g, c, rfl, _, hg⟩ := row_at hr (by omega)
    refine ⟨_, c, rfl, hl, fun j r hj => ?_⟩
    obtain ⟨sa, sc, h1, h2, h3⟩ := h.cells j r hj
    have hlt := (List.getElem?_eq_some_iff.1 hj).1
    have hxl := h.len
    refine ⟨g, 0, sa, sc, rfl, hg, (h1.keep hb).mono hB, ?_, ?_⟩
    · have := hr.cellAt (j * 2) (by omega)
      rw [Nat.zero_add]; rw [this]; exact h2
    · have := hr.cellAt (j * 2 + 1) (by omega)
      rw [Nat.zero_add]; rw [this]; exact h3
/-- What is read while a rule is appended. -/
structure XS (gb xb b q : Nat) (rv lv u0 u1 : Value) (W : World) : Prop where
  gr : W.cell? ⟨gb, 2, none⟩ = some rv
  xr : W.cell? ⟨xb, 2, none⟩ = some lv
  fz : W.frozen? ⟨xb, 2, none⟩ = false
  e0 : W.cell? ⟨b, q, none⟩ = some u0
  e1 : W.cell? ⟨b, q + 1, none⟩ = some u1
  l0 : gb < W.heap.size
  l1 : xb < W.heap.size
  l2 : b < W.heap.size
section
variable {gb xb b q : Nat} {rv lv u0 u1 : Value} {W W' : World}
theorem XS.drew (h : XS gb xb b q rv lv u0 u1 W) : XS gb xb b q rv lv u0 u1 W.drew := ⟨h.gr, h.xr, h.fz, h.e0, h.e1, h.l0, h.l1, h.l2⟩
theorem XS.alloc (h : XS gb xb b q rv lv u0 u1 W) (o : Obj) : XS gb xb b q rv lv u0 u1 (W.alloc o) :=
  have hb : Below W.heap.size W (W.alloc o) := (Below.refl _ _).alloc (Nat.le_refl _) o
  ⟨(hb.cell (p := ⟨gb, 2, none⟩) h.l0).trans h.gr, (hb.cell (p := ⟨xb, 2, none⟩) h.l1).trans h.xr, (hb.frozen (p := ⟨xb, 2, none⟩) h.l1).trans h.fz, (hb.cell (p := ⟨b, q, none⟩) h.l2).trans h.e0, (hb.cell (p := ⟨b, q + 1, none⟩) h.l2).trans h.e1, Nat.lt_of_lt_of_le h.l0 hb.size, Nat.lt_of_lt_of_le h.l1 hb.size, Nat.lt_of_lt_of_le h.l2 hb.size⟩
theorem XS.grown {row : Option Nat} (h : XS gb xb b q rv lv u0 u1 W) (hg : W.grownBy W' row) (n0 : row ≠ some gb) (n1 : row ≠ some xb) (n2 : row ≠ some b) (hs : W.heap.size ≤ W'.heap.size) : XS gb xb b q rv lv u0 u1 W' :=
  ⟨(hg.cell_far ⟨gb, 2, none⟩ h.l0 (fun e => n0 e.symm)).trans h.gr, (hg.cell_far ⟨xb, 2, none⟩ h.l1 (fun e => n1 e.symm)).trans h.xr, (hg.frozen_far ⟨xb, 2, none⟩ h.l1 (fun e => n1 e.symm)).trans h.fz, (hg.cell_far ⟨b, q, none⟩ h.l2 (fun e => n2 e.symm)).trans h.e0, (hg.cell_far ⟨b, q + 1, none⟩ h.l2 (fun e => n2 e.symm)).trans h.e1, by have := h.l0; omega, by have := h.l1; omega, by have := h.l2; omega⟩
end
/-- The rules at these places. -/
def pick (rs : List Rl) (l : List Nat) : List Rl := l.filterMap (rs[·]?)
theorem pick_len {rs : List Rl} : ∀ {l : List Nat}, (∀ i ∈ l, i < rs.length) → (pick rs l).length = l.length
  | [], _ => rfl
  | a :: l, h => by
    have h1 : rs[a]? = some (rs[a]'(h a (by simp))) := by simp
    have := pick_len (l := l) fun i hi => h i (List.mem_cons_of_mem _ hi)
    unfold pick at *
    rw [List.filterMap_cons, h1]
    simp [this]
theorem pick_take {rs : List Rl} {l : List Nat} {k i : Nat} {r : Rl} (hk : l[k]? = some i) (hr : rs[i]? = some r) : pick rs (l.take (k + 1)) = pick rs (l.take k) ++ [r] := by
  unfold pick
  rw [List.take_add_one, hk, List.filterMap_append]
  simp [hr]
theorem pick_mem {rs : List Rl} {l : List Nat} {r : Rl} : r ∈ pick rs l ↔ ∃ i ∈ l, rs[i]? = some r := by
  unfold pick; exact List.mem_filterMap
theorem info52 : (Try.prog.info? 52).map (fun i => (i.zero, i.size, i.bytes)) = some (some (.agg #[.int .i64 0, .slice none 0 0]), 2, 32) := by kernel_rfl
theorem cell_two_new (w : World) (u v : Value) (t : TypeId) : ∀ j x, [u, v][j]? = some x → (w.alloc (.cells #[u, v] t)).drew.cell? ((⟨w.heap.size, 0, none⟩ : Addr).add j) = some x := fun j x hx => by
  have hadd : (⟨w.heap.size, 0, none⟩ : Addr).add j = ⟨w.heap.size, j, none⟩ := by unfold Addr.add; split <;> simp_all
  rw [hadd]
  show (w.alloc (.cells #[u, v] t)).cell? ⟨w.heap.size, j, none⟩ = some x
  exact cell_new j (by simpa using hx)
/-- A grammar in a box of its own, its rules taken out of another one; W1 is the memory ahead of the box. -/
structure XI (w : World) (nts start : Int) (W1 : World) (ps : List Rl) (lv : Value) (xs : List Value) (W : World) : Prop where
  row : W.ownsRow (W1.heap.size + 1) 52 2 lv ps.length xs
  rw : Rw w w.heap.size ps xs
  c0 : W.cell? ⟨W1.heap.size, 0, none⟩ = some (.int .i64 nts)
  c1 : W.cell? ⟨W1.heap.size, 1, none⟩ = some (.int .i64 start)
  c2 : W.cell? ⟨W1.heap.size, 2, none⟩ = some lv
  fz : W.frozen? ⟨W1.heap.size, 2, none⟩ = false
  bel : Below W1.heap.size W1 W
  lt : W1.heap.size < W.heap.size
theorem XI.start (w : World) (nts start : Int) (W1 : World) : XI w nts start W1 [] (.slice none 0 0) [] (W1.alloc (.cells #[.int .i64 nts, .int .i64 start, .slice none 0 0] 24)) :=
  ⟨World.ownsRow_nil _ _ _ _, Rw.nil _ _, cell_new 0 rfl, cell_new 1 rfl, cell_new 2 rfl, World.frozen?_alloc_new _ _ _ _, (Below.refl _ _).alloc (Nat.le_refl _) _, by simp⟩
theorem XI.step {w : World} {nts start : Int} {W1 : World} {ps : List Rl} {lv : Value} {xs : List Value} {W Wm w1 : World} (h : XI w nts start W1 ps lv xs W) (hm : Below W.heap.size W Wm) {g1 cap1 : Nat} {r : Rl} {sa : Option Addr} {sc : Nat} (hK : KAt w w.heap.size sa r.rhs) (hg : Wm.grownBy w1 lv.ownBlock)
    (hown : w1.ownsRow (W1.heap.size + 1) 52 2 (.slice (some ⟨g1, 0, none⟩) (ps.length + 1) cap1) (ps.length + 1) (xs ++ [.int .i64 r.lhs, .slice sa r.rhs.length sc])) :
    XI w nts start W1 (ps ++ [r]) (.slice (some ⟨g1, 0, none⟩) (ps.length + 1) cap1) (xs ++ [.int .i64 r.lhs, .slice sa r.rhs.length sc]) (w1.setCell ⟨W1.heap.size, 2, none⟩ (.slice (some ⟨g1, 0, none⟩) (ps.length + 1) cap1)) := by
  have hlt := h.lt
  have hsm := hm.size
  have hne : lv.ownBlock ≠ some W1.heap.size := fun e => by have := (h.row.lt _ e).1; omega
  have hcell : ∀ q, w1.cell? ⟨W1.heap.size, q, none⟩ = W.cell? ⟨W1.heap.size, q, none⟩ := fun q =>
    (hg.cell_far ⟨W1.heap.size, q, none⟩ (by show W1.heap.size < _; omega) (fun e => hne e.symm)).trans (hm.cell (p := ⟨W1.heap.size, q, none⟩) h.lt)
  have hfr : w1.frozen? ⟨W1.heap.size, 2, none⟩ = false :=
    (hg.frozen_far ⟨W1.heap.size, 2, none⟩ (by show W1.heap.size < _; omega) (fun e => hne e.symm)).trans ((hm.frozen (p := ⟨W1.heap.size, 2, none⟩) h.lt).trans h.fz)
  have hgs := hg.size
  refine ⟨?_, h.rw.snoc sc hK, ?_, ?_, ?_, (World.frozen?_setCell _ _ _ _).trans hfr, ?_, ?_⟩
  · rw [List.length_append]; exact row_set hown (by show W1.heap.size < _; omega) _
  · rw [World.cell?_setCell_other _ _ _ _ (by simp), hcell]; exact h.c0
  · rw [World.cell?_setCell_other _ _ _ _ (by simp), hcell]; exact h.c1
  · exact World.cell?_setCell_same' _ _ _ (by rw [hcell, h.c2]; rfl)
  · exact ((h.bel.trans (hm.mono (by omega))).grown hg (by omega) (fun q hq => by have := (h.row.lt q hq).1; omega)).setCell (Nat.le_refl _) _
  · have : (w1.setCell ⟨W1.heap.size, 2, none⟩ (.slice (some ⟨g1, 0, none⟩) (ps.length + 1) cap1)).heap.size = w1.heap.size := by simp [World.setCell]
    omega
/-- The grammar in its box, as an argument. -/
theorem XI.rat {w : World} {nts start : Int} {W1 : World} {ps : List Rl} {lv : Value} {xs : List Value} {W : World} (h : XI w nts start W1 ps lv xs W) (hw : Below w.heap.size w W1) (hl : ps.length * 32 ≤ 140737488355328) : ∃ a c, lv = .slice a ps.length c ∧ RAt W W.heap.size a ps := by
  have hb : Below w.heap.size w W := hw.trans (h.bel.mono hw.size)
  exact h.rw.rat h.row hb hb.size hl
end Go.Proofs.Ytopbibhpekjaeaa
