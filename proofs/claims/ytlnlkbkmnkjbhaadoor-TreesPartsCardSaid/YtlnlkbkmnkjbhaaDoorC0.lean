/- A tree's copy in memory, while it is made: the kids' copies lie apart from the row that grows. -/
import Derived.Test.YtlnlkbkmnkjbhaaDoorX1
import Derived.Deep.AppendLies
import Derived.Deep.RegionHeld
namespace Go.Proofs.YtlnlkbkmnkjbhaaDoor
open Go.RowKit

/-- Trees in a row, all that they are made of in blocks of S. -/
def TIn (w : World) (S : Nat → Prop) : Nat → Option Addr → List Tr → Prop
  | 0, _, l => l = []
  | f + 1, a, l => l.length * 40 ≤ 140737488355328 ∧ ∀ j d, l[j]? = some d → ∃ b o, a = some ⟨b, o, none⟩ ∧ S b ∧ ∃ sa sc, w.cell? ⟨b, o + j * 3, none⟩ = some (.int .i64 d.rule) ∧ w.cell? ⟨b, o + j * 3 + 1, none⟩ = some (.int .u8 (d.byte.toNat : Int)) ∧ w.cell? ⟨b, o + j * 3 + 2, none⟩ = some (.slice sa d.kids.length sc) ∧ d.kids.length ≤ sc ∧ TIn w S f sa d.kids
theorem TIn.keep {w w' : World} {S : Nat → Prop} (hk : ∀ b, S b → ∀ q, w'.cell? ⟨b, q, none⟩ = w.cell? ⟨b, q, none⟩) : ∀ {f : Nat} {a : Option Addr} {l : List Tr}, TIn w S f a l → TIn w' S f a l
  | 0, _, _, h => h
  | f + 1, a, l, h => by
    refine ⟨h.1, fun j d hj => ?_⟩
    obtain ⟨b, o, e, hs, sa, sc, c0, c1, c2, hc, hd⟩ := h.2 j d hj
    exact ⟨b, o, e, hs, sa, sc, (hk b hs _).trans c0, (hk b hs _).trans c1, (hk b hs _).trans c2, hc, hd.keep hk⟩
theorem TIn.wide {w : World} {S S' : Nat → Prop} (hk : ∀ b, S b → S' b) : ∀ {f : Nat} {a : Option Addr} {l : List Tr}, TIn w S f a l → TIn w S' f a l
  | 0, _, _, h => h
  | f + 1, a, l, h => by
    refine ⟨h.1, fun j d hj => ?_⟩
    obtain ⟨b, o, e, hs, sa, sc, c0, c1, c2, hc, hd⟩ := h.2 j d hj
    exact ⟨b, o, e, hk b hs, sa, sc, c0, c1, c2, hc, hd.wide hk⟩
theorem TIn.tat {w : World} {S : Nat → Prop} {B : Nat} (hk : ∀ b, S b → b < B) : ∀ {f : Nat} {a : Option Addr} {l : List Tr}, TIn w S f a l → TAt w B f a l
  | 0, _, _, h => h
  | f + 1, a, l, h => by
    refine ⟨h.1, fun j d hj => ?_⟩
    obtain ⟨b, o, e, hs, sa, sc, c0, c1, c2, hc, hd⟩ := h.2 j d hj
    exact ⟨b, o, e, hk b hs, sa, sc, c0, c1, c2, hc, hd.tat hk⟩
theorem row_below {W W' : World} {B : Nat} {e : TypeId} {k : Nat} {v : Value} {n : Nat} {xs : List Value} (h : W.ownsRow B e k v n xs) (hb : Below W.heap.size W W') : W'.ownsRow B e k v n xs := by
  refine ⟨h.1, ?_⟩
  rcases h.2 with h0 | ⟨g, cap, cur, hv, hbg, hg, rest⟩
  · exact .inl h0
  · exact .inr ⟨g, cap, cur, hv, hbg, (hb.block g (Array.getElem?_eq_some_iff.1 hg).1).trans hg, rest⟩
theorem row_set {W : World} {B : Nat} {e : TypeId} {k : Nat} {v : Value} {n : Nat} {xs : List Value} (h : W.ownsRow B e k v n xs) {a : Addr} (ha : a.block < B) (u : Value) : (W.setCell a u).ownsRow B e k v n xs := by
  refine ⟨h.1, ?_⟩
  rcases h.2 with h0 | ⟨g, cap, cur, hv, hbg, hg, rest⟩
  · exact .inl h0
  · exact .inr ⟨g, cap, cur, hv, hbg, (Below.heap_setCell W a u g (by omega)).trans hg, rest⟩
theorem below_of {w W w2 : World} (h : Below w.heap.size w W) (hb : Below W.heap.size W w2) : Below w.heap.size w w2 := h.trans (hb.mono h.size)
/-- The cells of a row of copies; what they lead to lies from lo on, and not in the row's own block. -/
structure Cx (f lo : Nat) (W : World) (lv : Value) (ps : List Tr) (xs : List Value) : Prop where
  len : xs.length = ps.length * 3
  cells : ∀ j d, ps[j]? = some d → ∃ (sa : Option Addr) (sc : Nat) (S : Nat → Prop), TIn W S f sa d.kids ∧ (∀ b, S b → lo ≤ b ∧ b < W.heap.size ∧ lv.ownBlock ≠ some b) ∧ d.kids.length ≤ sc ∧ xs[j * 3]? = some (.int .i64 d.rule) ∧ xs[j * 3 + 1]? = some (.int .u8 (d.byte.toNat : Int)) ∧ xs[j * 3 + 2]? = some (.slice sa d.kids.length sc)
section
variable {f lo : Nat} {W W' : World} {lv lv' : Value} {ps : List Tr} {xs : List Value}
theorem Cx.nil (f lo : Nat) (W : World) (lv : Value) : Cx f lo W lv [] [] := ⟨rfl, fun j d h => by cases h⟩
theorem Cx.move (h : Cx f lo W lv ps xs) (hs : W.heap.size ≤ W'.heap.size) (hk : ∀ b, lo ≤ b → b < W.heap.size → lv.ownBlock ≠ some b → ∀ q, W'.cell? ⟨b, q, none⟩ = W.cell? ⟨b, q, none⟩) (hl : ∀ b, b < W.heap.size → lv'.ownBlock = some b → lv.ownBlock = some b) : Cx f lo W' lv' ps xs := by
  refine ⟨h.len, fun j d hj => ?_⟩
  obtain ⟨sa, sc, S, h1, h2, h3, h4⟩ := h.cells j d hj
  refine ⟨sa, sc, S, h1.keep (fun b hb => hk b (h2 b hb).1 (h2 b hb).2.1 (h2 b hb).2.2), fun b hb => ⟨(h2 b hb).1, by have := (h2 b hb).2.1; omega, fun e => (h2 b hb).2.2 (hl b (h2 b hb).2.1 e)⟩, h3, h4⟩
theorem Cx.below (h : Cx f lo W lv ps xs) (hb : Below W.heap.size W W') : Cx f lo W' lv ps xs :=
  h.move hb.size (fun b _ hlt _ q => hb.cell (p := ⟨b, q, none⟩) hlt) (fun _ _ e => e)
theorem Cx.snoc (h : Cx f lo W lv ps xs) {d : Tr} {sa : Option Addr} {sc : Nat} {S : Nat → Prop} (h1 : TIn W S f sa d.kids) (h2 : ∀ b, S b → lo ≤ b ∧ b < W.heap.size ∧ lv.ownBlock ≠ some b) (h3 : d.kids.length ≤ sc) : Cx f lo W lv (ps ++ [d]) (xs ++ [.int .i64 d.rule, .int .u8 (d.byte.toNat : Int), .slice sa d.kids.length sc]) := by
  have hl := h.len
  refine ⟨by simp [hl]; omega, fun j q hj => ?_⟩
  by_cases hlt : j < ps.length
  · rw [List.getElem?_append_left hlt] at hj
    obtain ⟨sa, sc, S, t1, t2, t3, t4, t5, t6⟩ := h.cells j q hj
    exact ⟨sa, sc, S, t1, t2, t3, by rw [List.getElem?_append_left (by omega)]; exact t4, by rw [List.getElem?_append_left (by omega)]; exact t5, by rw [List.getElem?_append_left (by omega)]; exact t6⟩
  · have := (List.getElem?_eq_some_iff.1 hj).1
    simp at this
    obtain rfl : j = ps.length := by omega
    simp at hj
    subst hj
    refine ⟨sa, sc, S, h1, h2, h3, ?_, ?_, ?_⟩
    · rw [List.getElem?_append_right (by omega), hl, Nat.sub_self]; rfl
    · rw [List.getElem?_append_right (by omega), hl, show ps.length * 3 + 1 - ps.length * 3 = 1 by omega]; rfl
    · rw [List.getElem?_append_right (by omega), hl, show ps.length * 3 + 2 - ps.length * 3 = 2 by omega]; rfl
theorem Cx.tin (h : Cx f lo W lv ps xs) (hr : W.ownsRow lo 27 3 lv ps.length xs) (hl : ps.length * 40 ≤ 140737488355328) : ∃ a c, lv = .slice a ps.length c ∧ ps.length ≤ c ∧ TIn W (fun b => lo ≤ b ∧ b < W.heap.size) (f + 1) a ps := by
  by_cases h0 : ps.length = 0
  · rcases hr.2 with ⟨e, _⟩ | ⟨g, cap, cur, e, _, _, hc, _⟩
    · exact ⟨none, 0, by rw [e, h0], by omega, hl, fun j d hj => by have := (List.getElem?_eq_some_iff.1 hj).1; omega⟩
    · exact ⟨_, _, e, hc, hl, fun j d hj => by have := (List.getElem?_eq_some_iff.1 hj).1; omega⟩
  · obtain ⟨g, c, rfl, hg, hgs, hc⟩ := row_at hr (by omega)
    refine ⟨_, c, rfl, hc, hl, fun j d hj => ?_⟩
    obtain ⟨sa, sc, S, t1, t2, t3, t4, t5, t6⟩ := h.cells j d hj
    have hlt := (List.getElem?_eq_some_iff.1 hj).1
    have hxl := h.len
    refine ⟨g, 0, rfl, ⟨hg, hgs⟩, sa, sc, ?_, ?_, ?_, t3, t1.wide (fun b hb => ⟨(t2 b hb).1, (t2 b hb).2.1⟩)⟩
    · have := hr.cellAt (j * 3) (by omega)
      rw [Nat.zero_add]; rw [this]; exact t4
    · have := hr.cellAt (j * 3 + 1) (by omega)
      rw [Nat.zero_add]; rw [this]; exact t5
    · have := hr.cellAt (j * 3 + 2) (by omega)
      rw [Nat.zero_add]; rw [this]; exact t6
end
/-- While a tree is copied. -/
structure CC (w : World) (f : Nat) (r : Int) (u : UInt8) (rv : Value) (ps : List Tr) (lv : Value) (xs : List Value) (W : World) : Prop where
  row : W.ownsRow (w.heap.size + 3) 27 3 lv ps.length xs
  cx : Cx f (w.heap.size + 3) W lv ps xs
  g2 : W.cell? ⟨w.heap.size, 2, none⟩ = some rv
  a0 : W.cell? ⟨w.heap.size + 1, 0, none⟩ = some (.int .i64 0)
  a1 : W.cell? ⟨w.heap.size + 1, 1, none⟩ = some (.int .u8 0)
  a2 : W.cell? ⟨w.heap.size + 1, 2, none⟩ = some (.slice none 0 0)
  f0 : W.frozen? ⟨w.heap.size + 1, 0, none⟩ = false
  f1 : W.frozen? ⟨w.heap.size + 1, 1, none⟩ = false
  f2 : W.frozen? ⟨w.heap.size + 1, 2, none⟩ = false
  o0 : W.cell? ⟨w.heap.size + 2, 0, none⟩ = some (.int .i64 r)
  o1 : W.cell? ⟨w.heap.size + 2, 1, none⟩ = some (.int .u8 (u.toNat : Int))
  o2 : W.cell? ⟨w.heap.size + 2, 2, none⟩ = some lv
  fo : W.frozen? ⟨w.heap.size + 2, 2, none⟩ = false
  bel : Below w.heap.size w W
  lt : w.heap.size + 3 ≤ W.heap.size
section
variable {w : World} {f : Nat} {r : Int} {u : UInt8} {rv : Value} {ps : List Tr} {lv : Value} {xs : List Value} {W W' : World}
theorem CC.below (h : CC w f r u rv ps lv xs W) (hb : Below W.heap.size W W') : CC w f r u rv ps lv xs W' := by
  have hl := h.lt
  have k : ∀ b q, b < W.heap.size → W'.cell? ⟨b, q, none⟩ = W.cell? ⟨b, q, none⟩ := fun b q hlt => hb.cell (p := ⟨b, q, none⟩) hlt
  have f' : ∀ b q, b < W.heap.size → W'.frozen? ⟨b, q, none⟩ = W.frozen? ⟨b, q, none⟩ := fun b q hlt => hb.frozen (p := ⟨b, q, none⟩) hlt
  exact ⟨row_below h.row hb, h.cx.below hb, (k _ _ (by omega)).trans h.g2, (k _ _ (by omega)).trans h.a0, (k _ _ (by omega)).trans h.a1, (k _ _ (by omega)).trans h.a2, (f' _ _ (by omega)).trans h.f0, (f' _ _ (by omega)).trans h.f1, (f' _ _ (by omega)).trans h.f2, (k _ _ (by omega)).trans h.o0, (k _ _ (by omega)).trans h.o1, (k _ _ (by omega)).trans h.o2, (f' _ _ (by omega)).trans h.fo, below_of h.bel hb, Nat.le_trans hl hb.size⟩
theorem CC.start (w : World) (f : Nat) (r : Int) (u : UInt8) (rv : Value) : CC w f r u rv [] (.slice none 0 0) [] (((w.alloc (.cells #[.int .i64 r, .int .u8 (u.toNat : Int), rv] 27)).alloc (.cells #[.int .i64 0, .int .u8 0, .slice none 0 0] 27)).alloc (.cells #[.int .i64 r, .int .u8 (u.toNat : Int), .slice none 0 0] 27)) := by
  have e1 : (w.alloc (.cells #[.int .i64 r, .int .u8 (u.toNat : Int), rv] 27)).heap.size = w.heap.size + 1 := by simp
  have e2 : ((w.alloc (.cells #[.int .i64 r, .int .u8 (u.toNat : Int), rv] 27)).alloc (.cells #[.int .i64 0, .int .u8 0, .slice none 0 0] 27)).heap.size = w.heap.size + 2 := by simp
  have c0 : (w.alloc (.cells #[.int .i64 r, .int .u8 (u.toNat : Int), rv] 27)).cell? ⟨w.heap.size, 2, none⟩ = some rv := cell_new 2 rfl
  have c1 : ∀ j v, (#[.int .i64 0, .int .u8 0, .slice none 0 0] : Array Value)[j]? = some v → ((w.alloc (.cells #[.int .i64 r, .int .u8 (u.toNat : Int), rv] 27)).alloc (.cells #[.int .i64 0, .int .u8 0, .slice none 0 0] 27)).cell? ⟨w.heap.size + 1, j, none⟩ = some v := fun j v hv => by
    have := cell_new (w := w.alloc (.cells #[.int .i64 r, .int .u8 (u.toNat : Int), rv] 27)) (t := 27) j hv
    rw [e1] at this; exact this
  have d1 : ∀ j, ((w.alloc (.cells #[.int .i64 r, .int .u8 (u.toNat : Int), rv] 27)).alloc (.cells #[.int .i64 0, .int .u8 0, .slice none 0 0] 27)).frozen? ⟨w.heap.size + 1, j, none⟩ = false := fun j => by
    have := World.frozen?_alloc_new (w.alloc (.cells #[.int .i64 r, .int .u8 (u.toNat : Int), rv] 27)) #[.int .i64 0, .int .u8 0, .slice none 0 0] 27 j
    rw [e1] at this; exact this
  have hB1 : Below w.heap.size w (w.alloc (.cells #[.int .i64 r, .int .u8 (u.toNat : Int), rv] 27)) := (Below.refl _ _).alloc (Nat.le_refl _) _
  generalize w.alloc (.cells #[.int .i64 r, .int .u8 (u.toNat : Int), rv] 27) = A at *
  have hB2 : Below A.heap.size A (A.alloc (.cells #[.int .i64 0, .int .u8 0, .slice none 0 0] 27)) := (Below.refl _ _).alloc (Nat.le_refl _) _
  have c2 := (hB2.cell (p := ⟨w.heap.size, 2, none⟩) (by show w.heap.size < _; omega)).trans c0
  have hB3 := below_of hB1 hB2
  generalize A.alloc (.cells #[.int .i64 0, .int .u8 0, .slice none 0 0] 27) = A2 at *
  have hB4 : Below A2.heap.size A2 (A2.alloc (.cells #[.int .i64 r, .int .u8 (u.toNat : Int), .slice none 0 0] 27)) := (Below.refl _ _).alloc (Nat.le_refl _) _
  have k : ∀ b q, b < A2.heap.size → (A2.alloc (.cells #[.int .i64 r, .int .u8 (u.toNat : Int), .slice none 0 0] 27)).cell? ⟨b, q, none⟩ = A2.cell? ⟨b, q, none⟩ := fun b q hlt => hB4.cell (p := ⟨b, q, none⟩) hlt
  have f' : ∀ b q, b < A2.heap.size → (A2.alloc (.cells #[.int .i64 r, .int .u8 (u.toNat : Int), .slice none 0 0] 27)).frozen? ⟨b, q, none⟩ = A2.frozen? ⟨b, q, none⟩ := fun b q hlt => hB4.frozen (p := ⟨b, q, none⟩) hlt
  have o : ∀ j v, (#[.int .i64 r, .int .u8 (u.toNat : Int), .slice none 0 0] : Array Value)[j]? = some v → (A2.alloc (.cells #[.int .i64 r, .int .u8 (u.toNat : Int), .slice none 0 0] 27)).cell? ⟨w.heap.size + 2, j, none⟩ = some v := fun j v hv => by
    have := cell_new (w := A2) (t := 27) j hv
    rw [e2] at this; exact this
  have fo := World.frozen?_alloc_new A2 #[.int .i64 r, .int .u8 (u.toNat : Int), .slice none 0 0] 27 2
  rw [e2] at fo
  exact ⟨World.ownsRow_nil _ _ _ _, Cx.nil _ _ _ _, (k _ _ (by omega)).trans c2, (k _ _ (by omega)).trans (c1 0 _ rfl), (k _ _ (by omega)).trans (c1 1 _ rfl), (k _ _ (by omega)).trans (c1 2 _ rfl), (f' _ _ (by omega)).trans (d1 0), (f' _ _ (by omega)).trans (d1 1), (f' _ _ (by omega)).trans (d1 2), o 0 _ rfl, o 1 _ rfl, o 2 _ rfl, fo, below_of hB3 hB4, by simp; omega⟩
/-- A kid more. -/
theorem CC.step (h : CC w f r u rv ps lv xs W) {Wm w1 : World} (hm : Below W.heap.size W Wm) {g1 cap1 : Nat} {d : Tr} {sa : Option Addr} {sc : Nat} {S : Nat → Prop} (hK : TIn W S f sa d.kids) (hb : ∀ b, S b → w.heap.size + 3 ≤ b ∧ b < W.heap.size ∧ lv.ownBlock ≠ some b) (hsc : d.kids.length ≤ sc) (hg : Wm.grownBy w1 lv.ownBlock)
    (hown : w1.ownsRow (w.heap.size + 3) 27 3 (.slice (some ⟨g1, 0, none⟩) (ps.length + 1) cap1) (ps.length + 1) (xs ++ [.int .i64 d.rule, .int .u8 (d.byte.toNat : Int), .slice sa d.kids.length sc])) (hat : lv.ownBlock = some g1 ∨ g1 = Wm.heap.size) :
    CC w f r u rv (ps ++ [d]) (.slice (some ⟨g1, 0, none⟩) (ps.length + 1) cap1) (xs ++ [.int .i64 d.rule, .int .u8 (d.byte.toNat : Int), .slice sa d.kids.length sc]) (w1.setCell ⟨w.heap.size + 2, 2, none⟩ (.slice (some ⟨g1, 0, none⟩) (ps.length + 1) cap1)) := by
  have hl := h.lt
  have hsm := hm.size
  have hgs := hg.size
  have hlo : ∀ q, lv.ownBlock = some q → w.heap.size + 3 ≤ q := fun q hq => (h.row.lt q hq).1
  have hc1 : ∀ b, b < W.heap.size → lv.ownBlock ≠ some b → ∀ q, w1.cell? ⟨b, q, none⟩ = W.cell? ⟨b, q, none⟩ := fun b hlt hne q =>
    (hg.cell_far ⟨b, q, none⟩ (by show b < _; omega) (fun e => hne e.symm)).trans (hm.cell (p := ⟨b, q, none⟩) hlt)
  have hf1 : ∀ b, b < W.heap.size → lv.ownBlock ≠ some b → ∀ q, w1.frozen? ⟨b, q, none⟩ = W.frozen? ⟨b, q, none⟩ := fun b hlt hne q =>
    (hg.frozen_far ⟨b, q, none⟩ (by show b < _; omega) (fun e => hne e.symm)).trans (hm.frozen (p := ⟨b, q, none⟩) hlt)
  have hs1 : (w1.setCell ⟨w.heap.size + 2, 2, none⟩ (.slice (some ⟨g1, 0, none⟩) (ps.length + 1) cap1)).heap.size = w1.heap.size := by simp [World.setCell]
  have hc2 : ∀ b q, b ≠ w.heap.size + 2 → (w1.setCell ⟨w.heap.size + 2, 2, none⟩ (.slice (some ⟨g1, 0, none⟩) (ps.length + 1) cap1)).cell? ⟨b, q, none⟩ = w1.cell? ⟨b, q, none⟩ := fun b q hne => World.cell?_setCell_far _ _ _ _ (fun e => hne e.symm)
  have n0' : ∀ i, i < 3 → lv.ownBlock ≠ some (w.heap.size + i) := fun i hi e => by have := hlo _ e; omega
  have hk : ∀ b, b < W.heap.size → lv.ownBlock ≠ some b → b ≠ w.heap.size + 2 → ∀ q, (w1.setCell ⟨w.heap.size + 2, 2, none⟩ (.slice (some ⟨g1, 0, none⟩) (ps.length + 1) cap1)).cell? ⟨b, q, none⟩ = W.cell? ⟨b, q, none⟩ := fun b h1 h2 h3 q => (hc2 b q h3).trans (hc1 b h1 h2 q)
  have hfr : ∀ b, b < W.heap.size → lv.ownBlock ≠ some b → ∀ q, (w1.setCell ⟨w.heap.size + 2, 2, none⟩ (.slice (some ⟨g1, 0, none⟩) (ps.length + 1) cap1)).frozen? ⟨b, q, none⟩ = W.frozen? ⟨b, q, none⟩ := fun b h1 h2 q => (World.frozen?_setCell _ _ _ _).trans (hf1 b h1 h2 q)
  refine ⟨?_, ?_, (hk _ (by omega) (n0' 0 (by omega)) (by omega) _).trans h.g2, (hk _ (by omega) (n0' 1 (by omega)) (by omega) _).trans h.a0, (hk _ (by omega) (n0' 1 (by omega)) (by omega) _).trans h.a1, (hk _ (by omega) (n0' 1 (by omega)) (by omega) _).trans h.a2, (hfr _ (by omega) (n0' 1 (by omega)) _).trans h.f0, (hfr _ (by omega) (n0' 1 (by omega)) _).trans h.f1, (hfr _ (by omega) (n0' 1 (by omega)) _).trans h.f2, ?_, ?_, ?_, (hfr _ (by omega) (n0' 2 (by omega)) _).trans h.fo, ?_, by omega⟩
  · rw [List.length_append]; exact row_set hown (by show w.heap.size + 2 < _; omega) _
  · refine (h.cx.snoc hK hb hsc).move (by omega) (fun b h0 h1 h2 => hk b h1 h2 (by omega)) (fun b hlt e => ?_)
    have e' : g1 = b := by simpa [Value.ownBlock] using e
    rcases hat with hat | hat
    · rw [← e']; exact hat
    · omega
  · rw [World.cell?_setCell_other _ _ _ _ (by simp), hc1 _ (by omega) (n0' 2 (by omega))]; exact h.o0
  · rw [World.cell?_setCell_other _ _ _ _ (by simp), hc1 _ (by omega) (n0' 2 (by omega))]; exact h.o1
  · exact World.cell?_setCell_same' _ _ _ (by rw [hc1 _ (by omega) (n0' 2 (by omega)), h.o2]; rfl)
  · exact ((h.bel.trans (hm.mono (by omega))).grown hg (by omega) (fun q hq => by have := hlo q hq; omega)).setCell (by show w.heap.size ≤ w.heap.size + 2; omega) _
end
end Go.Proofs.YtlnlkbkmnkjbhaaDoor
