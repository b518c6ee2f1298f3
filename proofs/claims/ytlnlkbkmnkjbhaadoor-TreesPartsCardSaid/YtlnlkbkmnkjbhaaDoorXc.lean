/- A tree is copied: how the copy lies. -/
import Derived.Test.YtlnlkbkmnkjbhaaDoorXa
import Derived.OwnWalk
namespace Go.Proofs.YtlnlkbkmnkjbhaaDoor
open Go.RowKit

namespace X
/-- The cells of a row of copies; what they lead to lies from lo on, and not in the row's own block. -/
structure Cx (f lo : Nat) (W : World) (lv : Value) (ps : List Tr) (xs : List Value) : Prop where
  len : xs.length = ps.length * 3
  cells : ∀ j d, ps[j]? = some d → ∃ (sa : Option Addr) (sc : Nat) (S : Nat → Prop), TIx W S f sa d.kids ∧ (∀ b, S b → lo ≤ b ∧ b < W.heap.size ∧ lv.ownBlock ≠ some b) ∧ d.kids.length ≤ sc ∧ xs[j * 3]? = some (.int .i64 d.rule) ∧ xs[j * 3 + 1]? = some (.int .u8 (d.byte.toNat : Int)) ∧ xs[j * 3 + 2]? = some (.slice sa d.kids.length sc)
section
variable {f lo : Nat} {W W' : World} {lv lv' : Value} {ps : List Tr} {xs : List Value}
theorem Cx.nil (f lo : Nat) (W : World) (lv : Value) : Cx f lo W lv [] [] := ⟨rfl, fun j d h => by cases h⟩
theorem Cx.move (h : Cx f lo W lv ps xs) (hs : W.heap.size ≤ W'.heap.size) (hk : ∀ b, lo ≤ b → b < W.heap.size → lv.ownBlock ≠ some b → W'.heap[b]? = W.heap[b]?) (hl : ∀ b, b < W.heap.size → lv'.ownBlock = some b → lv.ownBlock = some b) : Cx f lo W' lv' ps xs := by
  refine ⟨h.len, fun j d hj => ?_⟩
  obtain ⟨sa, sc, S, h1, h2, h3, h4⟩ := h.cells j d hj
  refine ⟨sa, sc, S, h1.keep (fun b hb => hk b (h2 b hb).1 (h2 b hb).2.1 (h2 b hb).2.2), fun b hb => ⟨(h2 b hb).1, by have := (h2 b hb).2.1; omega, fun e => (h2 b hb).2.2 (hl b (h2 b hb).2.1 e)⟩, h3, h4⟩
theorem Cx.below (h : Cx f lo W lv ps xs) (hb : Below W.heap.size W W') : Cx f lo W' lv ps xs :=
  h.move hb.size (fun b _ hlt _ => hb.block b hlt) (fun _ _ e => e)
theorem Cx.snoc (h : Cx f lo W lv ps xs) {d : Tr} {sa : Option Addr} {sc : Nat} {S : Nat → Prop} (h1 : TIx W S f sa d.kids) (h2 : ∀ b, S b → lo ≤ b ∧ b < W.heap.size ∧ lv.ownBlock ≠ some b) (h3 : d.kids.length ≤ sc) : Cx f lo W lv (ps ++ [d]) (xs ++ [.int .i64 d.rule, .int .u8 (d.byte.toNat : Int), .slice sa d.kids.length sc]) := by
  have hl := h.len
  refine ⟨by simp [hl]; omega, fun j q hj => ?_⟩
  by_cases hlt : j < ps.length
  · rw [List.getElem?_append_left hlt] at hj
    obtain ⟨sa, sc, S, t1, t2, t3, t4, t5, t6⟩ := h.cells j q hj
    exact ⟨sa, sc, S, t1, t2, t3, by rw [List.getElem?_append_left (by omega)]; exact t4, by rw [List.getElem?_append_left (by omega)]; exact t5, by rw [List.getElem?_append_left (by omega)]; exact t6⟩
  · have := (List.getElem?_eq_some_iff.1 hj).1
    simp at this
    obtain rfl : j = ps.length := by omega
    simp at hj
    subst hj
    refine ⟨sa, sc, S, h1, h2, h3, ?_, ?_, ?_⟩
    · rw [List.getElem?_append_right (by omega), hl, Nat.sub_self]; rfl
    · rw [List.getElem?_append_right (by omega), hl, show ps.length * 3 + 1 - ps.length * 3 = 1 by omega]; rfl
    · rw [List.getElem?_append_right (by omega), hl, show ps.length * 3 + 2 - ps.length * 3 = 2 by omega]; rfl
theorem Cx.tin (h : Cx f lo W lv ps xs) (hr : W.ownsRow lo 27 3 lv ps.length xs) (hl : ps.length * 40 ≤ 140737488355328) : ∃ a c, lv = .slice a ps.length c ∧ ps.length ≤ c ∧ TIx W (fun b => lo ≤ b ∧ b < W.heap.size) (f + 1) a ps := by
  by_cases h0 : ps.length = 0
  · rcases hr.2 with ⟨e, _⟩ | ⟨g, cap, cur, e, _, _, hc, _⟩
    · exact ⟨none, 0, by rw [e, h0], by omega, hl, fun j d hj => by have := (List.getElem?_eq_some_iff.1 hj).1; omega⟩
    · exact ⟨_, _, e, hc, hl, fun j d hj => by have := (List.getElem?_eq_some_iff.1 hj).1; omega⟩
  · obtain ⟨g, c, rfl, hg, hgs, hc⟩ := row_at hr (by omega)
    refine ⟨_, c, rfl, hc, hl, fun j d hj => ?_⟩
    obtain ⟨sa, sc, S, t1, t2, t3, t4, t5, t6⟩ := h.cells j d hj
    have hlt := (List.getElem?_eq_some_iff.1 hj).1
    have hxl := h.len
    refine ⟨g, 0, rfl, ⟨hg, hgs⟩, ⟨rfl, fun q => hr.frozenAt q⟩, sa, sc, ?_, ?_, ?_, t3, t1.wide (fun b hb => ⟨(t2 b hb).1, (t2 b hb).2.1⟩)⟩
    · have := hr.cellAt (j * 3) (by omega)
      rw [Nat.zero_add]; rw [this]; exact t4
    · have := hr.cellAt (j * 3 + 1) (by omega)
      rw [Nat.zero_add]; rw [this]; exact t5
    · have := hr.cellAt (j * 3 + 2) (by omega)
      rw [Nat.zero_add]; rw [this]; exact t6
end
/-- While a tree is copied. -/
structure CC (w : World) (f : Nat) (r : Int) (u : UInt8) (rv : Value) (ps : List Tr) (lv : Value) (xs : List Value) (W : World) : Prop where
  row : W.ownsRow (w.heap.size + 3) 27 3 lv ps.length xs
  cx : Cx f (w.heap.size + 3) W lv ps xs
  g2 : W.cell? ⟨w.heap.size, 2, none⟩ = some rv
  a0 : W.cell? ⟨w.heap.size + 1, 0, none⟩ = some (.int .i64 0)
  a1 : W.cell? ⟨w.heap.size + 1, 1, none⟩ = some (.int .u8 0)
  a2 : W.cell? ⟨w.heap.size + 1, 2, none⟩ = some (.slice none 0 0)
  f0 : W.frozen? ⟨w.heap.size + 1, 0, none⟩ = false
  f1 : W.frozen? ⟨w.heap.size + 1, 1, none⟩ = false
  f2 : W.frozen? ⟨w.heap.size + 1, 2, none⟩ = false
  o0 : W.cell? ⟨w.heap.size + 2, 0, none⟩ = some (.int .i64 r)
  o1 : W.cell? ⟨w.heap.size + 2, 1, none⟩ = some (.int .u8 (u.toNat : Int))
  o2 : W.cell? ⟨w.heap.size + 2, 2, none⟩ = some lv
  fo : W.frozen? ⟨w.heap.size + 2, 2, none⟩ = false
  bel : Below w.heap.size w W
  lt : w.heap.size + 3 ≤ W.heap.size
section
variable {w : World} {f : Nat} {r : Int} {u : UInt8} {rv : Value} {ps : List Tr} {lv : Value} {xs : List Value} {W W' : World}
theorem CC.below (h : CC w f r u rv ps lv xs W) (hb : Below W.heap.size W W') : CC w f r u rv ps lv xs W' := by
  have hl := h.lt
  have k : ∀ b q, b < W.heap.size → W'.cell? ⟨b, q, none⟩ = W.cell? ⟨b, q, none⟩ := fun b q hlt => hb.cell (p := ⟨b, q, none⟩) hlt
  have f' : ∀ b q, b < W.heap.size → W'.frozen? ⟨b, q, none⟩ = W.frozen? ⟨b, q, none⟩ := fun b q hlt => hb.frozen (p := ⟨b, q, none⟩) hlt
  exact ⟨row_below h.row hb, h.cx.below hb, (k _ _ (by omega)).trans h.g2, (k _ _ (by omega)).trans h.a0, (k _ _ (by omega)).trans h.a1, (k _ _ (by omega)).trans h.a2, (f' _ _ (by omega)).trans h.f0, (f' _ _ (by omega)).trans h.f1, (f' _ _ (by omega)).trans h.f2, (k _ _ (by omega)).trans h.o0, (k _ _ (by omega)).trans h.o1, (k _ _ (by omega)).trans h.o2, (f' _ _ (by omega)).trans h.fo, below_of h.bel hb, Nat.le_trans hl hb.size⟩
theorem CC.start (w : World) (f : Nat) (r : Int) (u : UInt8) (rv : Value) : CC w f r u rv [] (.slice none 0 0) [] (((w.alloc (.cells #[.int .i64 r, .int .u8 (u.toNat : Int), rv] 27)).alloc (.cells #[.int .i64 0, .int .u8 0, .slice none 0 0] 27)).alloc (.cells #[.int .i64 r, .int .u8 (u.toNat : Int), .slice none 0 0] 27)) := by
  have e1 : (w.alloc (.cells #[.int .i64 r, .int .u8 (u.toNat : Int), rv] 27)).heap.size = w.heap.size + 1 := by simp
  have e2 : ((w.alloc (.cells #[.int .i64 r, .int .u8 (u.toNat : Int), rv] 27)).alloc (.cells #[.int .i64 0, .int .u8 0, .slice none 0 0] 27)).heap.size = w.heap.size + 2 := by simp
  have c0 : (w.alloc (.cells #[.int .i64 r, .int .u8 (u.toNat : Int), rv] 27)).cell? ⟨w.heap.size, 2, none⟩ = some rv := cell_new 2 rfl
  have c1 : ∀ j v, (#[.int .i64 0, .int .u8 0, .slice none 0 0] : Array Value)[j]? = some v → ((w.alloc (.cells #[.int .i64 r, .int .u8 (u.toNat : Int), rv] 27)).alloc (.cells #[.int .i64 0, .int .u8 0, .slice none 0 0] 27)).cell? ⟨w.heap.size + 1, j, none⟩ = some v := fun j v hv => by
    have := cell_new (w := w.alloc (.cells #[.int .i64 r, .int .u8 (u.toNat : Int), rv] 27)) (t := 27) j hv
    rw [e1] at this; exact this
  have d1 : ∀ j, ((w.alloc (.cells #[.int .i64 r, .int .u8 (u.toNat : Int), rv] 27)).alloc (.cells #[.int .i64 0, .int .u8 0, .slice none 0 0] 27)).frozen? ⟨w.heap.size + 1, j, none⟩ = false := fun j => by
    have := World.frozen?_alloc_new (w.alloc (.cells #[.int .i64 r, .int .u8 (u.toNat : Int), rv] 27)) #[.int .i64 0, .int .u8 0, .slice none 0 0] 27 j
    rw [e1] at this; exact this
  have hB1 : Below w.heap.size w (w.alloc (.cells #[.int .i64 r, .int .u8 (u.toNat : Int), rv] 27)) := (Below.refl _ _).alloc (Nat.le_refl _) _
  generalize w.alloc (.cells #[.int .i64 r, .int .u8 (u.toNat : Int), rv] 27) = A at *
  have hB2 : Below A.heap.size A (A.alloc (.cells #[.int .i64 0, .int .u8 0, .slice none 0 0] 27)) := (Below.refl _ _).alloc (Nat.le_refl _) _
  have c2 := (hB2.cell (p := ⟨w.heap.size, 2, none⟩) (by show w.heap.size < _; omega)).trans c0
  have hB3 := below_of hB1 hB2
  generalize A.alloc (.cells #[.int .i64 0, .int .u8 0, .slice none 0 0] 27) = A2 at *
  have hB4 : Below A2.heap.size A2 (A2.alloc (.cells #[.int .i64 r, .int .u8 (u.toNat : Int), .slice none 0 0] 27)) := (Below.refl _ _).alloc (Nat.le_refl _) _
  have k : ∀ b q, b < A2.heap.size → (A2.alloc (.cells #[.int .i64 r, .int .u8 (u.toNat : Int), .slice none 0 0] 27)).cell? ⟨b, q, none⟩ = A2.cell? ⟨b, q, none⟩ := fun b q hlt => hB4.cell (p := ⟨b, q, none⟩) hlt
  have f' : ∀ b q, b < A2.heap.size → (A2.alloc (.cells #[.int .i64 r, .int .u8 (u.toNat : Int), .slice none 0 0] 27)).frozen? ⟨b, q, none⟩ = A2.frozen? ⟨b, q, none⟩ := fun b q hlt => hB4.frozen (p := ⟨b, q, none⟩) hlt
  have o : ∀ j v, (#[.int .i64 r, .int .u8 (u.toNat : Int), .slice none 0 0] : Array Value)[j]? = some v → (A2.alloc (.cells #[.int .i64 r, .int .u8 (u.toNat : Int), .slice none 0 0] 27)).cell? ⟨w.heap.size + 2, j, none⟩ = some v := fun j v hv => by
    have := cell_new (w := A2) (t := 27) j hv
    rw [e2] at this; exact this
  have fo := World.frozen?_alloc_new A2 #[.int .i64 r, .int .u8 (u.toNat : Int), .slice none 0 0] 27 2
  rw [e2] at fo
  exact ⟨World.ownsRow_nil _ _ _ _, Cx.nil _ _ _ _, (k _ _ (by omega)).trans c2, (k _ _ (by omega)).trans (c1 0 _ rfl), (k _ _ (by omega)).trans (c1 1 _ rfl), (k _ _ (by omega)).trans (c1 2 _ rfl), (f' _ _ (by omega)).trans (d1 0), (f' _ _ (by omega)).trans (d1 1), (f' _ _ (by omega)).trans (d1 2), o 0 _ rfl, o 1 _ rfl, o 2 _ rfl, fo, below_of hB3 hB4, by simp; omega⟩
/-- A kid more. -/
theorem CC.step (h : CC w f r u rv ps lv xs W) {Wm w1 : World} (hm : Below W.heap.size W Wm) {g1 cap1 : Nat} {d : Tr} {sa : Option Addr} {sc : Nat} {S : Nat → Prop} (hK : TIx W S f sa d.kids) (hb : ∀ b, S b → w.heap.size + 3 ≤ b ∧ b < W.heap.size ∧ lv.ownBlock ≠ some b) (hsc : d.kids.length ≤ sc) (hg : Wm.grownBy w1 lv.ownBlock)
    (hown : w1.ownsRow (w.heap.size + 3) 27 3 (.slice (some ⟨g1, 0, none⟩) (ps.length + 1) cap1) (ps.length + 1) (xs ++ [.int .i64 d.rule, .int .u8 (d.byte.toNat : Int), .slice sa d.kids.length sc])) (hat : lv.ownBlock = some g1 ∨ g1 = Wm.heap.size) :
    CC w f r u rv (ps ++ [d]) (.slice (some ⟨g1, 0, none⟩) (ps.length + 1) cap1) (xs ++ [.int .i64 d.rule, .int .u8 (d.byte.toNat : Int), .slice sa d.kids.length sc]) (w1.setCell ⟨w.heap.size + 2, 2, none⟩ (.slice (some ⟨g1, 0, none⟩) (ps.length + 1) cap1)) := by
  have hl := h.lt
  have hsm := hm.size
  have hgs := hg.size
  have hlo : ∀ q, lv.ownBlock = some q → w.heap.size + 3 ≤ q := fun q hq => (h.row.lt q hq).1
  have hc1 : ∀ b, b < W.heap.size → lv.ownBlock ≠ some b → ∀ q, w1.cell? ⟨b, q, none⟩ = W.cell? ⟨b, q, none⟩ := fun b hlt hne q =>
    (hg.cell_far ⟨b, q, none⟩ (by show b < _; omega) (fun e => hne e.symm)).trans (hm.cell (p := ⟨b, q, none⟩) hlt)
  have hf1 : ∀ b, b < W.heap.size → lv.ownBlock ≠ some b → ∀ q, w1.frozen? ⟨b, q, none⟩ = W.frozen? ⟨b, q, none⟩ := fun b hlt hne q =>
    (hg.frozen_far ⟨b, q, none⟩ (by show b < _; omega) (fun e => hne e.symm)).trans (hm.frozen (p := ⟨b, q, none⟩) hlt)
  have hs1 : (w1.setCell ⟨w.heap.size + 2, 2, none⟩ (.slice (some ⟨g1, 0, none⟩) (ps.length + 1) cap1)).heap.size = w1.heap.size := by simp [World.setCell]
  have hc2 : ∀ b q, b ≠ w.heap.size + 2 → (w1.setCell ⟨w.heap.size + 2, 2, none⟩ (.slice (some ⟨g1, 0, none⟩) (ps.length + 1) cap1)).cell? ⟨b, q, none⟩ = w1.cell? ⟨b, q, none⟩ := fun b q hne => World.cell?_setCell_far _ _ _ _ (fun e => hne e.symm)
  have n0' : ∀ i, i < 3 → lv.ownBlock ≠ some (w.heap.size + i) := fun i hi e => by have := hlo _ e; omega
  have hk : ∀ b, b < W.heap.size → lv.ownBlock ≠ some b → b ≠ w.heap.size + 2 → ∀ q, (w1.setCell ⟨w.heap.size + 2, 2, none⟩ (.slice (some ⟨g1, 0, none⟩) (ps.length + 1) cap1)).cell? ⟨b, q, none⟩ = W.cell? ⟨b, q, none⟩ := fun b h1 h2 h3 q => (hc2 b q h3).trans (hc1 b h1 h2 q)
  have hfr : ∀ b, b < W.heap.size → lv.ownBlock ≠ some b → ∀ q, (w1.setCell ⟨w.heap.size + 2, 2, none⟩ (.slice (some ⟨g1, 0, none⟩) (ps.length + 1) cap1)).frozen? ⟨b, q, none⟩ = W.frozen? ⟨b, q, none⟩ := fun b h1 h2 q => (World.frozen?_setCell _ _ _ _).trans (hf1 b h1 h2 q)
  have hkb : ∀ b, b < W.heap.size → lv.ownBlock ≠ some b → b ≠ w.heap.size + 2 → (w1.setCell ⟨w.heap.size + 2, 2, none⟩ (.slice (some ⟨g1, 0, none⟩) (ps.length + 1) cap1)).heap[b]? = W.heap[b]? := fun b h1 h2 h3 => (Below.heap_setCell w1 ⟨w.heap.size + 2, 2, none⟩ _ b h3).trans ((hg.block b (by omega) (fun e => h2 e.symm)).trans (hm.block b h1))
  refine ⟨?_, ?_, (hk _ (by omega) (n0' 0 (by omega)) (by omega) _).trans h.g2, (hk _ (by omega) (n0' 1 (by omega)) (by omega) _).trans h.a0, (hk _ (by omega) (n0' 1 (by omega)) (by omega) _).trans h.a1, (hk _ (by omega) (n0' 1 (by omega)) (by omega) _).trans h.a2, (hfr _ (by omega) (n0' 1 (by omega)) _).trans h.f0, (hfr _ (by omega) (n0' 1 (by omega)) _).trans h.f1, (hfr _ (by omega) (n0' 1 (by omega)) _).trans h.f2, ?_, ?_, ?_, (hfr _ (by omega) (n0' 2 (by omega)) _).trans h.fo, ?_, by omega⟩
  · rw [List.length_append]; exact row_set hown (by show w.heap.size + 2 < _; omega) _
  · refine (h.cx.snoc hK hb hsc).move (by omega) (fun b h0 h1 h2 => hkb b h1 h2 (by omega)) (fun b hlt e => ?_)
    have e' : g1 = b := by simpa [Value.ownBlock] using e
    rcases hat with hat | hat
    · rw [← e']; exact hat
    · omega
  · rw [World.cell?_setCell_other _ _ _ _ (by simp), hc1 _ (by omega) (n0' 2 (by omega))]; exact h.o0
  · rw [World.cell?_setCell_other _ _ _ _ (by simp), hc1 _ (by omega) (n0' 2 (by omega))]; exact h.o1
  · exact World.cell?_setCell_same' _ _ _ (by rw [hc1 _ (by omega) (n0' 2 (by omega)), h.o2]; rfl)
  · exact ((h.bel.trans (hm.mono (by omega))).grown hg (by omega) (fun q hq => by have := hlo q hq; omega)).setCell (by show w.heap.size ≤ w.heap.size + 2; omega) _
end
set_option maxRecDepth 100000 in
set_option maxHeartbeats 8000000 in
theorem copy_step : ∀ (f : Nat) (d : Tr) (sa : Option Addr) (sc : Nat) (w : World), (∀ x ∈ d.kids, ∀ (xa : Option Addr) (xc : Nat) (w : World), TAt w w.heap.size f xa x.kids → Calls Tryd.prog 16 #[.agg #[.int .i64 x.rule, .int .u8 (x.byte.toNat : Int), .slice xa x.kids.length xc]] w fun e w' => (∃ va vc, e = .returned (.agg #[.int .i64 x.rule, .int .u8 (x.byte.toNat : Int), .slice va x.kids.length vc]) ∧ x.kids.length ≤ vc ∧ TIx w' (fun b => w.heap.size ≤ b ∧ b < w'.heap.size) f va x.kids) ∧ Below w.heap.size w w') → TAt w w.heap.size (f + 1) sa d.kids →
    Calls Tryd.prog 16 #[.agg #[.int .i64 d.rule, .int .u8 (d.byte.toNat : Int), .slice sa d.kids.length sc]] w fun e w' => (∃ va vc, e = .returned (.agg #[.int .i64 d.rule, .int .u8 (d.byte.toNat : Int), .slice va d.kids.length vc]) ∧ d.kids.length ≤ vc ∧ TIx w' (fun b => w.heap.size ≤ b ∧ b < w'.heap.size) (f + 1) va d.kids) ∧ Below w.heap.size w w' := by
  intro f d sa sc w ih hk
  have hlen := hk.1
  obtain ⟨i0, hinf, hz0, hz1, hz2⟩ := info_parts info24
  have HI : Hid _ := ih
  have HK : Hid _ := hk.2
  obtain ⟨n, hn⟩ : ∃ n, d.kids.length = n := ⟨_, rfl⟩
  rw [hn] at hlen ⊢
  have hX0 := CC.start w f d.rule d.byte (.slice sa n sc)
  clear ih hk
  go_enter Tryd.func16, Tryd.ntmps16
  go_wp2
  go_loopw [4] (fun iv W => ∃ (k : Nat) (lv : Value) (xs : List Value), k ≤ n ∧ iv = .int .i64 k ∧ CC w f d.rule d.byte (.slice sa n sc) (d.kids.take k) lv xs W) (fun iv _ => n - (intOf iv).toNat)
  case atStart => exact ⟨0, _, _, by omega, rfl, hX0⟩
  case round =>
    obtain ⟨k, lv, xs, hk, rfl, hX⟩ := hrel
    clear hX0
    by_cases hlt : k < n
    · obtain ⟨x, hx⟩ : ∃ x, d.kids[k]? = some x := ⟨d.kids[k]'(by omega), by simp⟩
      obtain ⟨b, o, rfl, hb, xa, xc, e0, e1, e2, hxc, hxk⟩ := HK.out k x hx
      have hps : (d.kids.take k).length = k := by rw [List.length_take]; omega
      have HP : Hid (d.kids.take (k + 1) = d.kids.take k ++ [x]) := by show _ = _; rw [List.take_add_one, hx]; rfl
      generalize d.kids.take k = ps at hX hps HP
      have hg2 := hX.g2
      have hXl := hX.lt
      have hXb := hX.bel
      have hbs := hXb.size
      have e0' := (hXb.cell (p := ⟨b, o + k * 3, none⟩) hb).trans e0
      have e1' := (hXb.cell (p := ⟨b, o + k * 3 + 1, none⟩) hb).trans e1
      have e2' := (hXb.cell (p := ⟨b, o + k * 3 + 2, none⟩) hb).trans e2
      have hkI : (k : Int) < n := by omega
      have HC : Hid _ := fun (_ : Unit) => HI.out x (List.mem_of_getElem? hx) xa xc wr ((hxk.keep hXb).mono hbs)
      have HX : Hid _ := hX
      clear e0 e1 e2 hxk hx hX HK HI hXb
      go_wp2_with (go_at_call 16; refine (HC.out ()).mono ?_)
      rintro e w2 ⟨⟨va, vc, rfl, hvc, htin⟩, hb2⟩
      have hX2 := HX.out.below hb2
      have hl2 := hX2.lt
      obtain ⟨W6, hW6⟩ : ∃ W6, w2.alloc (.cells #[.int .i64 x.rule, .int .u8 (x.byte.toNat : Int), .slice va x.kids.length vc] 27) = W6 := ⟨_, rfl⟩
      have hB6 : Below w2.heap.size w2 W6 := by rw [← hW6]; exact (Below.refl _ _).alloc (Nat.le_refl _) _
      have s6 : W6.heap.size = w2.heap.size + 1 := by rw [← hW6]; simp
      have t0 : W6.cell? ⟨w2.heap.size, 0, none⟩ = some (.int .i64 x.rule) := by rw [← hW6]; exact cell_new 0 rfl
      have t1 : W6.cell? ⟨w2.heap.size, 1, none⟩ = some (.int .u8 (x.byte.toNat : Int)) := by rw [← hW6]; exact cell_new 1 rfl
      have t2 : W6.cell? ⟨w2.heap.size, 2, none⟩ = some (.slice va x.kids.length vc) := by rw [← hW6]; exact cell_new 2 rfl
      have hX6 := hX2.below hB6
      have hrow := hX6.row
      have o2 : W6.cell? ⟨w.heap.size + 1 + 1, 2, none⟩ = some lv := hX6.o2
      have htin6 : TIx W6 (fun b => wr.heap.size ≤ b ∧ b < w2.heap.size) f va x.kids := htin.keep (fun b hb => hB6.block b hb.2)
      have hfar : ∀ b, (wr.heap.size ≤ b ∧ b < w2.heap.size) → w.heap.size + 3 ≤ b ∧ b < W6.heap.size ∧ lv.ownBlock ≠ some b := fun b hb => ⟨by omega, by omega, fun e => by have := (HX.out.row.lt b e).2; omega⟩
      have HT : Hid _ := fun (_ : Unit) => htin6
      have HF : Hid _ := hfar
      have HX6 : Hid _ := hX6
      have HROW : Hid _ := fun (_ : Unit) => hrow
      have hl6 := hX6.lt
      clear s6
      clear htin hX2 hb2 hg2 e0' e1' e2' HC htin6 hfar hX6 hB6
      go_wp2_with (at_builtin; refine wpList_append_lies _ rfl _ _ 25 rfl (w.heap.size + 3) 27 i0 _ 3 40 Tryd.underlying25 hinf hz0 hz1 hz2 rfl (by decide) lv ps.length xs rfl ((HROW.out ()).alloc _) ⟨W6.heap.size, 0, none⟩ 1 1 [.int .i64 x.rule, .int .u8 (x.byte.toNat : Int), .slice va x.kids.length vc] rfl rfl ?ca1 ?ca2 (by decide) ?ca3 ?ca4 ?ca5 (W6.heap.size + 1) (by simp) ?_)
      case ca1 => exact cell_three_new _ _ _ _ _
      case ca2 => first | rfl | (intro u hu; simp at hu; rcases hu with rfl | rfl | rfl <;> rfl)
      case ca3 => unfold maxLen; omega
      case ca4 => omega
      case ca5 => simp; omega
      intro g1 cap1 w7 hown7 hgrow hat _
      have hBm : Below W6.heap.size W6 (W6.alloc (.cells #[.int .i64 x.rule, .int .u8 (x.byte.toNat : Int), .slice va x.kids.length vc] 27)) := (Below.refl _ _).alloc (Nat.le_refl _) _
      have hsm : (W6.alloc (.cells #[.int .i64 x.rule, .int .u8 (x.byte.toNat : Int), .slice va x.kids.length vc] 27)).heap.size = W6.heap.size + 1 := by simp
      have n2 : lv.ownBlock ≠ some (w.heap.size + 1 + 1) := fun e => by have := ((HROW.out ()).lt _ e).1; omega
      have p2 : w7.cell? ⟨w.heap.size + 1 + 1, 2, none⟩ = some lv := (hgrow.cell_far ⟨w.heap.size + 1 + 1, 2, none⟩ (by show w.heap.size + 1 + 1 < _; omega) (fun e => n2 e.symm)).trans ((hBm.cell (p := ⟨w.heap.size + 1 + 1, 2, none⟩) (by show w.heap.size + 1 + 1 < _; omega)).trans o2)
      have pf : w7.frozen? ⟨w.heap.size + 1 + 1, 2, none⟩ = false := (hgrow.frozen_far ⟨w.heap.size + 1 + 1, 2, none⟩ (by show w.heap.size + 1 + 1 < _; omega) (fun e => n2 e.symm)).trans ((hBm.frozen (p := ⟨w.heap.size + 1 + 1, 2, none⟩) (by show w.heap.size + 1 + 1 < _; omega)).trans HX6.out.fo)
      have hst := HX6.out.step (g1 := g1) (cap1 := cap1) (sc := vc) hBm (HT.out ()) HF.out hvc hgrow (by rw [hps]; exact hown7) (by rw [hsm]; exact hat)
      rw [hps] at hst
      have HS : Hid _ := hst
      clear hst hgrow hown7 hat hBm hsm n2 hrow o2 t0 t1 t2
      go_wp2
      refine ⟨⟨k + 1, .slice (some ⟨g1, 0, none⟩) (k + 1) cap1, xs ++ [.int .i64 x.rule, .int .u8 (x.byte.toNat : Int), .slice va x.kids.length vc], by omega, by go_num, ?_⟩, by simp [intOf]; omega⟩
      rw [HP.out]
      exact HS.out
    · obtain rfl : k = n := by omega
      rw [List.take_of_length_le (by omega)] at hX
      have hrow := hX.row
      have htin := hX.cx.tin hrow (by rw [hn]; exact hlen)
      have a0 := hX.a0
      have a1 := hX.a1
      have a2 := hX.a2
      have f0 := hX.f0
      have f1 := hX.f1
      have f2 := hX.f2
      have g2 := hX.g2
      have o0 : wr.cell? ⟨w.heap.size + 1 + 1, 0, none⟩ = some (.int .i64 d.rule) := hX.o0
      have o1 : wr.cell? ⟨w.heap.size + 1 + 1, 1, none⟩ = some (.int .u8 (d.byte.toNat : Int)) := hX.o1
      have o2 : wr.cell? ⟨w.heap.size + 1 + 1, 2, none⟩ = some lv := hX.o2
      have hbel := hX.bel
      have hl := hX.lt
      obtain ⟨la, lc, rfl, hlc, hti⟩ := htin
      rw [hn] at o2 hlc
      have HT : Hid _ := fun (_ : Unit) => hti
      have HB : Hid _ := hbel
      clear hX hrow hti HI HK hbel
      go_wp2
      refine bodyPost_ret (v := .agg #[.int .i64 d.rule, .int .u8 (d.byte.toNat : Int), .slice la k lc]) (by simp [results, Tryd.results16, go_sem, a0, a1, a2]) rfl ?_
      have hsB : w.heap.size ≤ w.heap.size + 1 := by omega
      refine ⟨⟨la, lc, rfl, hlc, ?_⟩, ((HB.out.setCell hsB _).setCell hsB _).setCell hsB _⟩
      refine ((HT.out ()).keep (fun b hb => ?_)).wide (fun b hb => ⟨by omega, by simp [World.setCell]; exact hb.2⟩)
      have hne : w.heap.size + 1 ≠ b := by omega
      exact set3_block hne _ _ _ _ _ _
theorem copy_any : ∀ (f : Nat) (d : Tr) (sa : Option Addr) (sc : Nat) (w : World), TAt w w.heap.size f sa d.kids → Calls Tryd.prog 16 #[.agg #[.int .i64 d.rule, .int .u8 (d.byte.toNat : Int), .slice sa d.kids.length sc]] w fun e w' => (∃ va vc, e = .returned (.agg #[.int .i64 d.rule, .int .u8 (d.byte.toNat : Int), .slice va d.kids.length vc]) ∧ d.kids.length ≤ vc ∧ TIx w' (fun b => w.heap.size ≤ b ∧ b < w'.heap.size) f va d.kids) ∧ Below w.heap.size w w' := by
  intro f
  induction f with
  | zero =>
    intro d sa sc w hk
    have h0 : d.kids = [] := hk
    refine (copy_step 0 d sa sc w (fun x hx => by rw [h0] at hx; cases hx) (hk.up)).mono ?_
    rintro e w' ⟨⟨va, vc, h1, h2, _⟩, h4⟩
    exact ⟨⟨va, vc, h1, h2, h0⟩, h4⟩
  | succ f ih => exact fun d sa sc w hk => copy_step f d sa sc w (fun x _ xa xc W hW => ih x xa xc W hW) hk
end X
end Go.Proofs.YtlnlkbkmnkjbhaaDoor
