/- The document's Put: what it has in memory. -/
import Derived.Test.YtlnlkbkmnkjbhaaDoorXr
import Derived.Test.YtlnlkbkmnkjbhaaDoorP1
import Derived.Test.YtlnlkbkmnkjbhaaDoorY1
namespace Go.Proofs.YtlnlkbkmnkjbhaaDoor
open Go.RowKit Go.Shelf

/-- Where Put begins: two trees in their boxes, and the place of what is told. -/
structure P3 (w : World) (d s : Tr) (sa ta : Option Addr) (sc tc : Nat) (W : World) : Prop where
  bel : Below w.heap.size w W
  d0 : W.cell? ⟨w.heap.size, 0, none⟩ = some (.int .i64 d.rule)
  d1 : W.cell? ⟨w.heap.size, 1, none⟩ = some (.int .u8 (d.byte.toNat : Int))
  d2 : W.cell? ⟨w.heap.size, 2, none⟩ = some (.slice sa d.kids.length sc)
  s0 : W.cell? ⟨w.heap.size + 1, 0, none⟩ = some (.int .i64 s.rule)
  s1 : W.cell? ⟨w.heap.size + 1, 1, none⟩ = some (.int .u8 (s.byte.toNat : Int))
  s2 : W.cell? ⟨w.heap.size + 1, 2, none⟩ = some (.slice ta s.kids.length tc)
  r0 : W.cell? ⟨w.heap.size + 1 + 1, 0, none⟩ = some (.int .i64 0)
  r1 : W.cell? ⟨w.heap.size + 1 + 1, 1, none⟩ = some (.int .u8 0)
  r2 : W.cell? ⟨w.heap.size + 1 + 1, 2, none⟩ = some (.slice none 0 0)
  rf : ∀ q, W.frozen? ⟨w.heap.size + 1 + 1, q, none⟩ = false
  lt : w.heap.size + 1 + 1 < W.heap.size
theorem P3.nx {w : World} {d s : Tr} {sa ta : Option Addr} {sc tc : Nat} {W W' : World} (h : P3 w d s sa ta sc tc W) (hb : Below W.heap.size W W') : P3 w d s sa ta sc tc W' := by
  have hl := h.lt
  have k : ∀ b q, b < W.heap.size → W'.cell? ⟨b, q, none⟩ = W.cell? ⟨b, q, none⟩ := fun b q hlt => hb.cell (p := ⟨b, q, none⟩) hlt
  exact ⟨below_of h.bel hb, (k _ _ (by omega)).trans h.d0, (k _ _ (by omega)).trans h.d1, (k _ _ (by omega)).trans h.d2, (k _ _ (by omega)).trans h.s0, (k _ _ (by omega)).trans h.s1, (k _ _ (by omega)).trans h.s2, (k _ _ (by omega)).trans h.r0, (k _ _ (by omega)).trans h.r1, (k _ _ (by omega)).trans h.r2, fun q => (hb.frozen (p := ⟨w.heap.size + 1 + 1, q, none⟩) hl).trans (h.rf q), Nat.lt_of_lt_of_le hl hb.size⟩
theorem P3.start (w : World) (d s : Tr) (sa ta : Option Addr) (sc tc : Nat) : P3 w d s sa ta sc tc (((w.alloc (.cells #[.int .i64 d.rule, .int .u8 (d.byte.toNat : Int), .slice sa d.kids.length sc] 27)).alloc (.cells #[.int .i64 s.rule, .int .u8 (s.byte.toNat : Int), .slice ta s.kids.length tc] 27)).alloc (.cells #[.int .i64 0, .int .u8 0, .slice none 0 0] 27)) := by
  obtain ⟨A, hA⟩ : ∃ A, w.alloc (.cells #[.int .i64 d.rule, .int .u8 (d.byte.toNat : Int), .slice sa d.kids.length sc] 27) = A := ⟨_, rfl⟩
  obtain ⟨B, hB⟩ : ∃ B, A.alloc (.cells #[.int .i64 s.rule, .int .u8 (s.byte.toNat : Int), .slice ta s.kids.length tc] 27) = B := ⟨_, rfl⟩
  obtain ⟨C, hC⟩ : ∃ C, B.alloc (.cells #[.int .i64 0, .int .u8 0, .slice none 0 0] 27) = C := ⟨_, rfl⟩
  rw [hA, hB, hC]
  have sA : A.heap.size = w.heap.size + 1 := by rw [← hA]; simp
  have sB : B.heap.size = w.heap.size + 1 + 1 := by rw [← hB]; simp [sA]
  have sC : C.heap.size = w.heap.size + 1 + 1 + 1 := by rw [← hC]; simp [sB]
  have bA : Below w.heap.size w A := by rw [← hA]; exact (Below.refl _ _).alloc (Nat.le_refl _) _
  have bB : Below A.heap.size A B := by rw [← hB]; exact (Below.refl _ _).alloc (Nat.le_refl _) _
  have bC : Below B.heap.size B C := by rw [← hC]; exact (Below.refl _ _).alloc (Nat.le_refl _) _
  have a : ∀ j v, (#[.int .i64 d.rule, .int .u8 (d.byte.toNat : Int), .slice sa d.kids.length sc] : Array Value)[j]? = some v → C.cell? ⟨w.heap.size, j, none⟩ = some v := fun j v hv => (bC.cell (p := ⟨w.heap.size, j, none⟩) (by show w.heap.size < _; omega)).trans ((bB.cell (p := ⟨w.heap.size, j, none⟩) (by show w.heap.size < _; omega)).trans (by rw [← hA]; exact cell_new j hv))
  have b : ∀ j v, (#[.int .i64 s.rule, .int .u8 (s.byte.toNat : Int), .slice ta s.kids.length tc] : Array Value)[j]? = some v → C.cell? ⟨w.heap.size + 1, j, none⟩ = some v := fun j v hv => (bC.cell (p := ⟨w.heap.size + 1, j, none⟩) (by show w.heap.size + 1 < _; omega)).trans (by rw [← hB, ← sA]; exact cell_new j hv)
  have c : ∀ j v, (#[.int .i64 0, .int .u8 0, .slice none 0 0] : Array Value)[j]? = some v → C.cell? ⟨w.heap.size + 1 + 1, j, none⟩ = some v := fun j v hv => by rw [← hC, ← sB]; exact cell_new j hv
  exact ⟨below_of bA (bB.trans (bC.mono (by omega))), a 0 _ rfl, a 1 _ rfl, a 2 _ rfl, b 0 _ rfl, b 1 _ rfl, b 2 _ rfl, c 0 _ rfl, c 1 _ rfl, c 2 _ rfl, fun q => by rw [← hC, ← sB]; exact World.frozen?_alloc_at _ _ _ _ rfl, by omega⟩
theorem TIn.upg {w : World} {S : Nat → Prop} : ∀ {f : Nat} {a : Option Addr} {l : List Tr}, TIn w S f a l → TIn w S (f + 1) a l
  | 0, a, l, h => by
    have h' : l = [] := h
    subst h'
    exact ⟨by decide, fun j d hj => by cases hj⟩
  | f + 1, a, l, h => by
    refine ⟨h.1, fun j d hj => ?_⟩
    obtain ⟨b, o, e, hs, sa, sc, c0, c1, c2, hc, hd⟩ := h.2 j d hj
    exact ⟨b, o, e, hs, sa, sc, c0, c1, c2, hc, hd.upg⟩
theorem TIn.ups {w : World} {S : Nat → Prop} {f : Nat} {a : Option Addr} {l : List Tr} (h : TIn w S f a l) : ∀ n, TIn w S (f + n) a l
  | 0 => h
  | n + 1 => (h.ups n).upg
/-- What was told of a part lies in a box of its own. -/
structure KB (W0 : World) (c : Nat) (y : Tr) (F : Nat) (ya : Option Addr) (yc : Nat) (V : World) : Prop where
  bel : Below W0.heap.size W0 V
  lo : W0.heap.size ≤ c
  lt : c < V.heap.size
  y0 : V.cell? ⟨c, 0, none⟩ = some (.int .i64 y.rule)
  y1 : V.cell? ⟨c, 1, none⟩ = some (.int .u8 (y.byte.toNat : Int))
  y2 : V.cell? ⟨c, 2, none⟩ = some (.slice ya y.kids.length yc)
  yc : y.kids.length ≤ yc
  ty : TIn V (fun b => W0.heap.size ≤ b ∧ b < V.heap.size) F ya y.kids
/-- The cells of a row of kids; what they lead to lies from lo on, not in the row's own block, and not in block c. -/
structure Cy (c f lo : Nat) (W : World) (lv : Value) (ps : List Tr) (xs : List Value) : Prop where
  len : xs.length = ps.length * 3
  cells : ∀ j d, ps[j]? = some d → ∃ (sa : Option Addr) (sc : Nat) (S : Nat → Prop), TIn W S f sa d.kids ∧ (∀ b, S b → lo ≤ b ∧ b < W.heap.size ∧ lv.ownBlock ≠ some b ∧ b ≠ c) ∧ d.kids.length ≤ sc ∧ xs[j * 3]? = some (.int .i64 d.rule) ∧ xs[j * 3 + 1]? = some (.int .u8 (d.byte.toNat : Int)) ∧ xs[j * 3 + 2]? = some (.slice sa d.kids.length sc)
section
variable {c f lo : Nat} {W W' : World} {lv lv' : Value} {ps : List Tr} {xs : List Value}
theorem Cy.nil (c f lo : Nat) (W : World) (lv : Value) : Cy c f lo W lv [] [] := ⟨rfl, fun j d h => by cases h⟩
theorem Cy.move (h : Cy c f lo W lv ps xs) (hs : W.heap.size ≤ W'.heap.size) (hk : ∀ b, lo ≤ b → b < W.heap.size → lv.ownBlock ≠ some b → b ≠ c → ∀ q, W'.cell? ⟨b, q, none⟩ = W.cell? ⟨b, q, none⟩) (hl : ∀ b, b < W.heap.size → lv'.ownBlock = some b → lv.ownBlock = some b) : Cy c f lo W' lv' ps xs := by
  refine ⟨h.len, fun j d hj => ?_⟩
  obtain ⟨sa, sc, S, h1, h2, h3, h4⟩ := h.cells j d hj
  refine ⟨sa, sc, S, h1.keep (fun b hb => hk b (h2 b hb).1 (h2 b hb).2.1 (h2 b hb).2.2.1 (h2 b hb).2.2.2), fun b hb => ⟨(h2 b hb).1, by have := (h2 b hb).2.1; omega, fun e => (h2 b hb).2.2.1 (hl b (h2 b hb).2.1 e), (h2 b hb).2.2.2⟩, h3, h4⟩
theorem Cy.below (h : Cy c f lo W lv ps xs) (hb : Below W.heap.size W W') : Cy c f lo W' lv ps xs :=
  h.move hb.size (fun b _ hlt _ _ q => hb.cell (p := ⟨b, q, none⟩) hlt) (fun _ _ e => e)
theorem Cy.snoc (h : Cy c f lo W lv ps xs) {d : Tr} {sa : Option Addr} {sc : Nat} {S : Nat → Prop} (h1 : TIn W S f sa d.kids) (h2 : ∀ b, S b → lo ≤ b ∧ b < W.heap.size ∧ lv.ownBlock ≠ some b ∧ b ≠ c) (h3 : d.kids.length ≤ sc) : Cy c f lo W lv (ps ++ [d]) (xs ++ [.int .i64 d.rule, .int .u8 (d.byte.toNat : Int), .slice sa d.kids.length sc]) := by
  have hl := h.len
  refine ⟨by simp [hl]; omega, fun j q hj => ?_⟩
  by_cases hlt : j < ps.length
  · rw [List.getElem?_append_left hlt] at hj
    obtain ⟨sa, sc, S, t1, t2, t3, t4, t5, t6⟩ := h.cells j q hj
    exact ⟨sa, sc, S, t1, t2, t3, by rw [List.getElem?_append_left (by omega)]; exact t4, by rw [List.getElem?_append_left (by omega)]; exact t5, by rw [List.getElem?_append_left (by omega)]; exact t6⟩
  · have := (List.getElem?_eq_some_iff.1 hj).1
    simp at this
    obtain rfl : j = ps.length := by omega
    simp at hj
    subst hj
    refine ⟨sa, sc, S, h1, h2, h3, ?_, ?_, ?_⟩
    · rw [List.getElem?_append_right (by omega), hl, Nat.sub_self]; rfl
    · rw [List.getElem?_append_right (by omega), hl, show ps.length * 3 + 1 - ps.length * 3 = 1 by omega]; rfl
    · rw [List.getElem?_append_right (by omega), hl, show ps.length * 3 + 2 - ps.length * 3 = 2 by omega]; rfl
theorem Cy.tin (h : Cy c f lo W lv ps xs) (hr : W.ownsRow lo 27 3 lv ps.length xs) (hl : ps.length * 40 ≤ 140737488355328) (hrc : ∀ b, lv.ownBlock = some b → b ≠ c) : ∃ a v, lv = .slice a ps.length v ∧ ps.length ≤ v ∧ TIn W (fun b => lo ≤ b ∧ b < W.heap.size ∧ b ≠ c) (f + 1) a ps := by
  by_cases h0 : ps.length = 0
  · rcases hr.2 with ⟨e, _⟩ | ⟨g, cap, cur, e, _, _, hc, _⟩
    · exact ⟨none, 0, by rw [e, h0], by omega, hl, fun j d hj => by have := (List.getElem?_eq_some_iff.1 hj).1; omega⟩
    · exact ⟨_, _, e, hc, hl, fun j d hj => by have := (List.getElem?_eq_some_iff.1 hj).1; omega⟩
  · obtain ⟨g, v, rfl, hg, hgs, hc⟩ := row_at hr (by omega)
    refine ⟨_, v, rfl, hc, hl, fun j d hj => ?_⟩
    obtain ⟨sa, sc, S, t1, t2, t3, t4, t5, t6⟩ := h.cells j d hj
    have hlt := (List.getElem?_eq_some_iff.1 hj).1
    have hxl := h.len
    refine ⟨g, 0, rfl, ⟨hg, hgs, hrc g rfl⟩, sa, sc, ?_, ?_, ?_, t3, t1.wide (fun b hb => ⟨(t2 b hb).1, (t2 b hb).2.1, (t2 b hb).2.2.2⟩)⟩
    · have := hr.cellAt (j * 3) (by omega)
      rw [Nat.zero_add]; rw [this]; exact t4
    · have := hr.cellAt (j * 3 + 1) (by omega)
      rw [Nat.zero_add]; rw [this]; exact t5
    · have := hr.cellAt (j * 3 + 2) (by omega)
      rw [Nat.zero_add]; rw [this]; exact t6
end
/-- While Put's list grows: the row of kids, in a box of its own behind V. -/
structure PW (V : World) (d : Tr) (lo G : Nat) (pk : List Tr) (lv : Value) (xs : List Value) (W : World) : Prop where
  row : W.ownsRow (V.heap.size + 1) 27 3 lv pk.length xs
  cx : Cy V.heap.size G lo W lv pk xs
  o0 : W.cell? ⟨V.heap.size, 0, none⟩ = some (.int .i64 d.rule)
  o1 : W.cell? ⟨V.heap.size, 1, none⟩ = some (.int .u8 (d.byte.toNat : Int))
  o2 : W.cell? ⟨V.heap.size, 2, none⟩ = some lv
  fo : W.frozen? ⟨V.heap.size, 2, none⟩ = false
  bel : Below V.heap.size V W
  lt : V.heap.size + 1 ≤ W.heap.size
section
variable {V : World} {d : Tr} {lo G : Nat} {pk : List Tr} {lv : Value} {xs : List Value} {W W' : World}
theorem PW.below (h : PW V d lo G pk lv xs W) (hb : Below W.heap.size W W') : PW V d lo G pk lv xs W' := by
  have hl := h.lt
  have k : ∀ b q, b < W.heap.size → W'.cell? ⟨b, q, none⟩ = W.cell? ⟨b, q, none⟩ := fun b q hlt => hb.cell (p := ⟨b, q, none⟩) hlt
  exact ⟨row_below h.row hb, h.cx.below hb, (k _ _ (by omega)).trans h.o0, (k _ _ (by omega)).trans h.o1, (k _ _ (by omega)).trans h.o2, (hb.frozen (p := ⟨V.heap.size, 2, none⟩) (by show V.heap.size < _; omega)).trans h.fo, below_of h.bel hb, Nat.le_trans hl hb.size⟩
theorem PW.start (V : World) (d : Tr) (lo G : Nat) : PW V d lo G [] (.slice none 0 0) [] (V.alloc (.cells #[.int .i64 d.rule, .int .u8 (d.byte.toNat : Int), .slice none 0 0] 27)) :=
  ⟨World.ownsRow_nil _ _ _ _, Cy.nil _ _ _ _ _, cell_new 0 rfl, cell_new 1 rfl, cell_new 2 rfl, World.frozen?_alloc_at _ _ _ _ rfl, (Below.refl _ _).alloc (Nat.le_refl _) _, by simp⟩
/-- A kid more. -/
theorem PW.step (h : PW V d lo G pk lv xs W) {Wm w1 : World} (hm : Below W.heap.size W Wm) {g1 cap1 : Nat} {e : Tr} {sa : Option Addr} {sc : Nat} {S : Nat → Prop} (hK : TIn W S G sa e.kids) (hb : ∀ b, S b → lo ≤ b ∧ b < W.heap.size ∧ lv.ownBlock ≠ some b ∧ b ≠ V.heap.size) (hsc : e.kids.length ≤ sc) (hg : Wm.grownBy w1 lv.ownBlock)
    (hown : w1.ownsRow (V.heap.size + 1) 27 3 (.slice (some ⟨g1, 0, none⟩) (pk.length + 1) cap1) (pk.length + 1) (xs ++ [.int .i64 e.rule, .int .u8 (e.byte.toNat : Int), .slice sa e.kids.length sc])) (hat : lv.ownBlock = some g1 ∨ g1 = Wm.heap.size) :
    PW V d lo G (pk ++ [e]) (.slice (some ⟨g1, 0, none⟩) (pk.length + 1) cap1) (xs ++ [.int .i64 e.rule, .int .u8 (e.byte.toNat : Int), .slice sa e.kids.length sc]) (w1.setCell ⟨V.heap.size, 2, none⟩ (.slice (some ⟨g1, 0, none⟩) (pk.length + 1) cap1)) := by
  have hl := h.lt
  have hsm := hm.size
  have hgs := hg.size
  have hlo : ∀ q, lv.ownBlock = some q → V.heap.size + 1 ≤ q := fun q hq => (h.row.lt q hq).1
  have hc1 : ∀ b, b < W.heap.size → lv.ownBlock ≠ some b → ∀ q, w1.cell? ⟨b, q, none⟩ = W.cell? ⟨b, q, none⟩ := fun b hlt hne q =>
    (hg.cell_far ⟨b, q, none⟩ (by show b < _; omega) (fun e => hne e.symm)).trans (hm.cell (p := ⟨b, q, none⟩) hlt)
  have hf1 : ∀ b, b < W.heap.size → lv.ownBlock ≠ some b → ∀ q, w1.frozen? ⟨b, q, none⟩ = W.frozen? ⟨b, q, none⟩ := fun b hlt hne q =>
    (hg.frozen_far ⟨b, q, none⟩ (by show b < _; omega) (fun e => hne e.symm)).trans (hm.frozen (p := ⟨b, q, none⟩) hlt)
  have hs1 : (w1.setCell ⟨V.heap.size, 2, none⟩ (.slice (some ⟨g1, 0, none⟩) (pk.length + 1) cap1)).heap.size = w1.heap.size := by simp [World.setCell]
  have n0 : lv.ownBlock ≠ some V.heap.size := fun e => by have := hlo _ e; omega
  have hk : ∀ b, b < W.heap.size → lv.ownBlock ≠ some b → b ≠ V.heap.size → ∀ q, (w1.setCell ⟨V.heap.size, 2, none⟩ (.slice (some ⟨g1, 0, none⟩) (pk.length + 1) cap1)).cell? ⟨b, q, none⟩ = W.cell? ⟨b, q, none⟩ := fun b h1 h2 h3 q => (World.cell?_setCell_far _ _ _ _ (fun e => h3 e.symm)).trans (hc1 b h1 h2 q)
  refine ⟨?_, ?_, ?_, ?_, ?_, (World.frozen?_setCell _ _ _ _).trans ((hf1 _ (by omega) n0 _).trans h.fo), ?_, by omega⟩
  · rw [List.length_append]; exact row_set hown (by show V.heap.size < _; omega) _
  · refine (h.cx.snoc hK hb hsc).move (by omega) (fun b h0 h1 h2 h3 => hk b h1 h2 h3) (fun b hlt e => ?_)
    have e' : g1 = b := by simpa [Value.ownBlock] using e
    rcases hat with hat | hat
    · rw [← e']; exact hat
    · omega
  · rw [World.cell?_setCell_other _ _ _ _ (by simp), hc1 _ (by omega) n0]; exact h.o0
  · rw [World.cell?_setCell_other _ _ _ _ (by simp), hc1 _ (by omega) n0]; exact h.o1
  · exact World.cell?_setCell_same' _ _ _ (by rw [hc1 _ (by omega) n0, h.o2]; rfl)
  · exact ((h.bel.trans (hm.mono (by omega))).grown hg (by omega) (fun q hq => by have := hlo q hq; omega)).setCell (by show V.heap.size ≤ V.heap.size; omega) _
end
theorem KB.of_set {W0 w7 : World} {c : Nat} {y : Tr} {F : Nat} {ya : Option Addr} {yc : Nat} (hb : Below W0.heap.size W0 w7) (hlo : W0.heap.size ≤ c) (hlt : c < w7.heap.size) {v0 v1 v2 : Value} (z0 : w7.cell? ⟨c, 0, none⟩ = some v0) (z1 : w7.cell? ⟨c, 1, none⟩ = some v1) (z2 : w7.cell? ⟨c, 2, none⟩ = some v2) (hyc : y.kids.length ≤ yc) (ht : TIn w7 (fun b => c + 1 ≤ b ∧ b < w7.heap.size) F ya y.kids) :
    KB W0 c y F ya yc (((w7.setCell ⟨c, 0, none⟩ (.int .i64 y.rule)).setCell ⟨c, 1, none⟩ (.int .u8 (y.byte.toNat : Int))).setCell ⟨c, 2, none⟩ (.slice ya y.kids.length yc)) := by
  have hbb := below_set3 hb hlo (.int .i64 y.rule) (.int .u8 (y.byte.toNat : Int)) (.slice ya y.kids.length yc)
  have hty : TIn (((w7.setCell ⟨c, 0, none⟩ (.int .i64 y.rule)).setCell ⟨c, 1, none⟩ (.int .u8 (y.byte.toNat : Int))).setCell ⟨c, 2, none⟩ (.slice ya y.kids.length yc)) (fun b => c + 1 ≤ b ∧ b < w7.heap.size) F ya y.kids := ht.keep (fun b hb q => far3 (by have := hb.1; omega) 0 1 2 q _ _ _)
  obtain ⟨A1, e1⟩ : ∃ A, w7.setCell ⟨c, 0, none⟩ (.int .i64 y.rule) = A := ⟨_, rfl⟩
  obtain ⟨A2, e2⟩ : ∃ A, A1.setCell ⟨c, 1, none⟩ (.int .u8 (y.byte.toNat : Int)) = A := ⟨_, rfl⟩
  obtain ⟨A3, e3⟩ : ∃ A, A2.setCell ⟨c, 2, none⟩ (.slice ya y.kids.length yc) = A := ⟨_, rfl⟩
  rw [e1, e2, e3] at hbb hty ⊢
  have hz : A3.heap.size = w7.heap.size := by rw [← e3, ← e2, ← e1]; simp [World.setCell]
  have p0 : A1.cell? ⟨c, 0, none⟩ = some (.int .i64 y.rule) := by rw [← e1]; exact World.cell?_setCell_same' _ _ _ (by rw [z0]; rfl)
  have p1' : A1.cell? ⟨c, 1, none⟩ = w7.cell? ⟨c, 1, none⟩ := by rw [← e1]; exact World.cell?_setCell_other _ _ _ _ (by simp)
  have p2' : A1.cell? ⟨c, 2, none⟩ = w7.cell? ⟨c, 2, none⟩ := by rw [← e1]; exact World.cell?_setCell_other _ _ _ _ (by simp)
  have q0 : A2.cell? ⟨c, 0, none⟩ = A1.cell? ⟨c, 0, none⟩ := by rw [← e2]; exact World.cell?_setCell_other _ _ _ _ (by simp)
  have q1 : A2.cell? ⟨c, 1, none⟩ = some (.int .u8 (y.byte.toNat : Int)) := by rw [← e2]; exact World.cell?_setCell_same' _ _ _ (by rw [p1', z1]; rfl)
  have q2 : A2.cell? ⟨c, 2, none⟩ = A1.cell? ⟨c, 2, none⟩ := by rw [← e2]; exact World.cell?_setCell_other _ _ _ _ (by simp)
  have u0 : A3.cell? ⟨c, 0, none⟩ = A2.cell? ⟨c, 0, none⟩ := by rw [← e3]; exact World.cell?_setCell_other _ _ _ _ (by simp)
  have u1 : A3.cell? ⟨c, 1, none⟩ = A2.cell? ⟨c, 1, none⟩ := by rw [← e3]; exact World.cell?_setCell_other _ _ _ _ (by simp)
  have u2 : A3.cell? ⟨c, 2, none⟩ = some (.slice ya y.kids.length yc) := by rw [← e3]; exact World.cell?_setCell_same' _ _ _ (by rw [q2, p2', z2]; rfl)
  exact ⟨hbb, hlo, by omega, u0.trans (q0.trans p0), u1.trans q1, u2, hyc, hty.wide (fun b hb => ⟨by have := hb.1; omega, by rw [hz]; exact hb.2⟩)⟩
end Go.Proofs.YtlnlkbkmnkjbhaaDoor
