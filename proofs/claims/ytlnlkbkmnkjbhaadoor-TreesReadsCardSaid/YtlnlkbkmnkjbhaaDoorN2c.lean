/- The document's own reader of a tree's text: one kid more is read, plain; a node's kids, told. -/
import Derived.Test.YtlnlkbkmnkjbhaaDoorN2b
namespace Go.Proofs.YtlnlkbkmnkjbhaaDoor
open Go.RowKit

theorem KN.one {w : World} {s : ByteArray} {n G q0 m q : Nat} {l : List Tr} {xs : List Value} {v : Value} {f : Nat} {first : Bool} {W : World} (h : KN w s n G q0 m q l xs v f first W) (hq : q < s.size) (hb : bt s q = if first then 40 else 32) (hn : first = true → ¬ (q + 1 < s.size ∧ bt s (q + 1) = 41)) : ∃ f1, f1 ≤ G ∧ 2 * (s.size - (q + 1)) < f1 ∧ (∀ q3, q + 1 < q3 → q3 ≤ s.size → 2 * (s.size - q3) + 1 < f1) ∧ rkids s G q0 m = match rt s f1 (q + 1) m with | .bad q c => .bad q c | .ok d q => rk s f1 q m (l ++ [d]) := by
  have hfg := h.fg
  rw [← h.eq]
  unfold rrest
  cases first with
  | true =>
    have hl := h.fst.1 rfl
    have hfu := h.fu
    subst hl
    obtain ⟨f2, rfl⟩ : ∃ f2, f = f2 + 2 := ⟨f - 2, by omega⟩
    refine ⟨f2 + 1, by omega, by omega, fun q3 h1 h2 => by omega, ?_⟩
    rw [if_pos rfl, rkids_one hq hb (hn rfl)]
    rfl
  | false =>
    have hfu := h.fu' rfl
    have hl : l ≠ [] := fun e => by have := h.fst.2 e; cases this
    obtain ⟨f2, rfl⟩ : ∃ f2, f = f2 + 1 := ⟨f - 1, by omega⟩
    refine ⟨f2, by omega, by omega, fun q3 h1 h2 => by omega, ?_⟩
    rw [if_neg (by simp), rk_one hl hq hb]
    rfl
/-- All kids are read: the node is told. -/
theorem KN.told {w : World} {s : ByteArray} {n G q0 m q : Nat} {l : List Tr} {xs : List Value} {la : Option Addr} {lc f : Nat} {first : Bool} {W X : World} (h : KN w s n G q0 m q l xs (.slice la l.length lc) f first W) (hs6 : s.size ≤ 65536) (Q : Nat) (xb : Below w.heap.size w X) (xs' : X.heap.size = W.heap.size) (xo : ∀ b, b ≠ w.heap.size → b ≠ w.heap.size + 1 → X.heap[b]? = W.heap[b]?) :
    OPost (G + 1) w (.ok (.mk (n : Int) 0 l) Q) (.returned (.tuple #[.agg #[.int .i64 (n : Int), .int .u8 0, .slice la l.length lc], .int .i64 (Q : Int), .agg #[.int .i64 0, .int .i64 0]])) X := by
  have hl := h.len
  have hh := h.hi
  obtain ⟨a, c, e, hc, htin⟩ := h.cx.tin h.row (by omega)
  cases e
  refine ⟨⟨la, lc, rfl, hc, ?_⟩, xb⟩
  exact (htin.keep (fun b hb q => World.cell?_of_block (a := ⟨b, q, none⟩) (xo b (by omega) (by omega)))).wide (fun b hb => ⟨by omega, by omega⟩)
end Go.Proofs.YtlnlkbkmnkjbhaaDoor
