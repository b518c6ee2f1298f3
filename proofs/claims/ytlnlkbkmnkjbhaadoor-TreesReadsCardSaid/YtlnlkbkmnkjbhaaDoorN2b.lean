/- The document's own reader of a tree's text: while kids are read. -/
import Derived.Test.YtlnlkbkmnkjbhaaDoorN2
namespace Go.Proofs.YtlnlkbkmnkjbhaaDoor
open Go.RowKit

/-- While a node's kids are read: the node in a box. -/
structure KN (w : World) (s : ByteArray) (n G q0 m q : Nat) (l : List Tr) (xs : List Value) (v : Value) (f : Nat) (first : Bool) (W : World) : Prop where
  bel : Below (w.heap.size + 2) ((w.alloc (.cells #[.int .i64 0, .int .u8 0, .slice none 0 0] 27)).alloc (.cells #[.int .i64 0, .int .i64 0] 52)) W
  b0 : W.cell? ⟨w.heap.size + 1 + 1, 0, none⟩ = some (.int .i64 (n : Int))
  b1 : W.cell? ⟨w.heap.size + 1 + 1, 1, none⟩ = some (.int .u8 0)
  b2 : W.cell? ⟨w.heap.size + 1 + 1, 2, none⟩ = some v
  bf : ∀ j, W.frozen? ⟨w.heap.size + 1 + 1, j, none⟩ = false
  lt : w.heap.size + 1 + 1 < W.heap.size
  row : W.ownsRow (w.heap.size + 3) 27 3 v l.length xs
  cx : Cx G (w.heap.size + 3) W v l xs
  hi : q ≤ s.size
  len : l.length ≤ q
  fg : f ≤ G
  fst : first = true ↔ l = []
  fu : 2 * (s.size - q) ≤ f
  fu' : first = false → 2 * (s.size - q) + 1 < f
  eq : rrest s f q m l first = rkids s G q0 m
theorem KN.start {w : World} {s : ByteArray} {n G q0 m : Nat} (hq : q0 ≤ s.size) (hG : 2 * (s.size - q0) ≤ G) : KN w s n G q0 m q0 [] [] (.slice none 0 0) G true (((w.alloc (.cells #[.int .i64 0, .int .u8 0, .slice none 0 0] 27)).alloc (.cells #[.int .i64 0, .int .i64 0] 52)).alloc (.cells #[.int .i64 (n : Int), .int .u8 0, .slice none 0 0] 27)) := by
  have hs : ((w.alloc (.cells #[.int .i64 0, .int .u8 0, .slice none 0 0] 27)).alloc (.cells #[.int .i64 0, .int .i64 0] 52)).heap.size = w.heap.size + 1 + 1 := by simp
  refine ⟨(Below.refl _ _).alloc (by simp) _, ?_, ?_, ?_, fun j => ?_, by simp, World.ownsRow_nil _ _ _ _, Cx.nil _ _ _ _, hq, by simp, Nat.le_refl _, by simp, hG, fun h => by simp at h, rfl⟩
  · rw [← hs]; exact cell_new 0 rfl
  · rw [← hs]; exact cell_new 1 rfl
  · rw [← hs]; exact cell_new 2 rfl
  · rw [← hs]; exact World.frozen?_alloc_new _ _ _ _
theorem KN.below {w : World} {s : ByteArray} {n G q0 m q : Nat} {l : List Tr} {xs : List Value} {v : Value} {f : Nat} {first : Bool} {W W' : World} (h : KN w s n G q0 m q l xs v f first W) (hb : Below W.heap.size W W') : KN w s n G q0 m q l xs v f first W' := by
  have hl := h.lt
  have k : ∀ j, W'.cell? ⟨w.heap.size + 1 + 1, j, none⟩ = W.cell? ⟨w.heap.size + 1 + 1, j, none⟩ := fun j => hb.cell (p := ⟨w.heap.size + 1 + 1, j, none⟩) hl
  exact ⟨h.bel.trans (hb.mono (by omega)), (k 0).trans h.b0, (k 1).trans h.b1, (k 2).trans h.b2, fun j => (hb.frozen (p := ⟨w.heap.size + 1 + 1, j, none⟩) hl).trans (h.bf j), Nat.lt_of_lt_of_le hl hb.size, row_below h.row hb, h.cx.below hb, h.hi, h.len, h.fg, h.fst, h.fu, h.fu', h.eq⟩
/-- One kid more. -/
theorem KN.step {w : World} {s : ByteArray} {n G q0 m q : Nat} {l : List Tr} {xs : List Value} {lv : Value} {f : Nat} {first : Bool} {W w5 wm w7 : World} (h : KN w s n G q0 m q l xs lv f first W) (hb5 : Below W.heap.size W w5) (hm : Below w5.heap.size w5 wm) {g1 cap1 sc f1 q2 : Nat} {d : Tr} {sa : Option Addr} (hK : TIn w5 (fun b => W.heap.size ≤ b ∧ b < w5.heap.size) f1 sa d.kids) (hsc : d.kids.length ≤ sc)
    (hown : w7.ownsRow (w.heap.size + 3) 27 3 (.slice (some ⟨g1, 0, none⟩) (l.length + 1) cap1) (l.length + 1) (xs ++ [.int .i64 d.rule, .int .u8 (d.byte.toNat : Int), .slice sa d.kids.length sc])) (hg : wm.grownBy w7 lv.ownBlock) (hat : lv.ownBlock = some g1 ∨ w5.heap.size ≤ g1) (hq2 : q2 ≤ s.size) (hlen : l.length + 1 ≤ q2) (hf1 : f1 ≤ G) (hfu : 2 * (s.size - q2) + 1 < f1) (heq : rk s f1 q2 m (l ++ [d]) = rkids s G q0 m) :
    KN w s n G q0 m q2 (l ++ [d]) (xs ++ [.int .i64 d.rule, .int .u8 (d.byte.toNat : Int), .slice sa d.kids.length sc]) (.slice (some ⟨g1, 0, none⟩) (l.length + 1) cap1) f1 false (w7.setCell ⟨w.heap.size + 1 + 1, 2, none⟩ (.slice (some ⟨g1, 0, none⟩) (l.length + 1) cap1)) := by
  have h5 := h.below hb5
  have hl5 := h5.lt
  have hrow5 := h5.row
  have hs5 := hb5.size
  have hsm := hm.size
  have hs7 := hg.size
  have hl0 := h.lt
  have hnb : lv.ownBlock ≠ some (w.heap.size + 1 + 1) := fun e => by have := (hrow5.lt _ e).1; omega
  have hk : ∀ b, b < w5.heap.size → lv.ownBlock ≠ some b → w7.heap[b]? = w5.heap[b]? := fun b hb hne => (hg.block b (by omega) (fun e => hne e.symm)).trans (hm.block b hb)
  have hbox := hk (w.heap.size + 1 + 1) hl5 hnb
  have c : ∀ j, w7.cell? ⟨w.heap.size + 1 + 1, j, none⟩ = w5.cell? ⟨w.heap.size + 1 + 1, j, none⟩ := fun j => World.cell?_of_block (a := ⟨w.heap.size + 1 + 1, j, none⟩) hbox
  obtain ⟨X, hX⟩ : ∃ X, w7.setCell ⟨w.heap.size + 1 + 1, 2, none⟩ (.slice (some ⟨g1, 0, none⟩) (l.length + 1) cap1) = X := ⟨_, rfl⟩
  have hxr := row_set hown (a := ⟨w.heap.size + 1 + 1, 2, none⟩) (by show w.heap.size + 1 + 1 < _; omega) (.slice (some ⟨g1, 0, none⟩) (l.length + 1) cap1)
  have hxf : ∀ j, X.frozen? ⟨w.heap.size + 1 + 1, j, none⟩ = false := fun j => by rw [← hX, World.frozen?_setCell]; exact (World.frozen?_of_block (a := ⟨w.heap.size + 1 + 1, j, none⟩) hbox).trans (h5.bf j)
  rw [hX] at hxr ⊢
  obtain ⟨x1, x2, x3, x4, x5, x6, x7⟩ := set_step hX
  have hGn : TIn w5 (fun b => W.heap.size ≤ b ∧ b < w5.heap.size) G sa d.kids := by
    have := hK.le (G - f1); rw [show f1 + (G - f1) = G by omega] at this; exact this
  have hsn := h5.cx.snoc hGn (fun b hb => ⟨by omega, hb.2, fun e => by have := (h.row.lt b e).2; omega⟩) hsc
  refine ⟨⟨x4.trans (hg.os.trans (hm.os.trans h5.bel.os)), x5.trans (hg.tape.trans (hm.tape.trans h5.bel.tape)), x6.trans (hg.output.trans (hm.output.trans h5.bel.output)), by have := h5.bel.size; omega, fun b hb => ?_⟩, (x2 0 (by omega)).trans ((c 0).trans h5.b0), (x2 1 (by omega)).trans ((c 1).trans h5.b1), x3 _ ((c 2).trans h5.b2), hxf, by omega, by rw [List.length_append]; exact hxr, ?_, hq2, by simp; omega, hf1, by simp, by omega, fun _ => hfu, heq⟩
  · exact (x1 b (by omega)).trans ((hk b (by omega) (fun e => by have := (hrow5.lt _ e).1; omega)).trans (h5.bel.block b hb))
  · refine hsn.move (by omega) (fun b hlo hlt hne q => ?_) (fun b hlt e => ?_)
    · exact World.cell?_of_block (a := ⟨b, q, none⟩) ((x1 b (by omega)).trans (hk b hlt hne))
    · have e' : g1 = b := by simpa [Value.ownBlock] using e
      rcases hat with hat | hat
      · rw [← e']; exact hat
      · omega
end Go.Proofs.YtlnlkbkmnkjbhaaDoor
