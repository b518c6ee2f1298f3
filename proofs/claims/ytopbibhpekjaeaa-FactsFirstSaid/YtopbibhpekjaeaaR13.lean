/- The first bytes of any grammar, by the document's own answer. -/
import Derived.Test.YtopbibhpekjaeaaR4
import Derived.Test.YtopbibhpekjaeaaR12
import Derived.Test.YtopbibhpekjaeaaA1
import Derived.Test.YtopbibhpekjaeaaS1
namespace Go.Proofs.Ytopbibhpekjaeaa
open Go.RowKit

theorem opTo_or {s t : St} (hs : s.ok) (ht : t.ok) : opTo (fun x y => x || y) s t 256 = s.or t :=
  St.ext' (opTo_ok _ _ _ _) (St.or_ok hs ht) fun b hb => by rw [opTo_has _ _ _ _ hb 256 (Nat.le_refl _), St.has_or]; simp [hb]
theorem refOr_any (s t : St) (w : World) (hs : s.ok) (ht : t.ok) :
    Calls Try.prog 50 #[.int .i64 0, .agg #[.int .u64 s.a, .int .u64 s.b, .int .u64 s.c, .int .u64 s.d], .agg #[.int .u64 t.a, .int .u64 t.b, .int .u64 t.c, .int .u64 t.d]] w fun e w' => e = .returned (.agg #[.int .u64 (s.or t).a, .int .u64 (s.or t).b, .int .u64 (s.or t).c, .int .u64 (s.or t).d]) ∧ Below w.heap.size w w' := by
  have := op0_any s t w hs ht
  rw [opTo_or hs ht] at this
  exact this
/-- What stands while a rule's symbols are gone through: the sets, the rule's box, and what was there. -/
structure FM (W1 : World) (go N co X m : Nat) (sv : Value) (out : List St) (W : World) : Prop where
  row : W.ownsRow W1.heap.size 49 4 (.slice (some ⟨go, 0, none⟩) N co) N (setsV out)
  bel : Below W1.heap.size W1 W
  b0 : W.cell? ⟨X, 0, none⟩ = some (.int .i64 (m : Int))
  b1 : W.cell? ⟨X, 1, none⟩ = some sv
  lt : X < W.heap.size
theorem FM.below {W1 : World} {go N co X m : Nat} {sv : Value} {out : List St} {W W' : World} (h : FM W1 go N co X m sv out W) (hb : Below W.heap.size W W') : FM W1 go N co X m sv out W' :=
  ⟨row_below h.row hb, h.bel.trans (hb.mono h.bel.size), (hb.cell (p := ⟨X, 0, none⟩) h.lt).trans h.b0, (hb.cell (p := ⟨X, 1, none⟩) h.lt).trans h.b1, Nat.lt_of_lt_of_le h.lt hb.size⟩
theorem FM.put {W1 : World} {go N co X m : Nat} {sv : Value} {out : List St} {W : World} (h : FM W1 go N co X m sv out W) (hgo : W1.heap.size ≤ go) (hx : X ≠ go) {n : Nat} (hn : n < out.length) (u : St) : FM W1 go N co X m sv (out.set n u) (put4 W go (n * 4) u) := by
  have hb : ∀ q, (put4 W go (n * 4) u).cell? ⟨X, q, none⟩ = W.cell? ⟨X, q, none⟩ := fun q => by
    unfold put4
    rw [World.cell?_setCell_far _ _ _ _ (fun e => hx e.symm), World.cell?_setCell_far _ _ _ _ (fun e => hx e.symm), World.cell?_setCell_far _ _ _ _ (fun e => hx e.symm), World.cell?_setCell_far _ _ _ _ (fun e => hx e.symm)]
  have hbel : Below W1.heap.size W1 (put4 W go (n * 4) u) := by
    unfold put4
    exact (((h.bel.setCell (p := ⟨go, _, none⟩) hgo _).setCell (p := ⟨go, _, none⟩) hgo _).setCell (p := ⟨go, _, none⟩) hgo _).setCell (p := ⟨go, _, none⟩) hgo _
  exact ⟨put4_row h.row hn u, hbel, (hb 0).trans h.b0, (hb 1).trans h.b1, by rw [put4_size]; exact h.lt⟩
end Go.Proofs.Ytopbibhpekjaeaa
