/- A page in memory: what is written, and what is still to be written. -/
import Derived.Test.YtbmejfcbladofaaU0
import Derived.Lib.AppendStr
namespace Go.Proofs.Ytbmejfcbladofaa
open Go.RowKit

structure Pg where
  wd : Int
  tx : List UInt8
  col : Int
  br : Nat
  long : Bool
def bytesU (l : List UInt8) : List Value := l.map fun b => Value.int .u8 b.toNat
/-- Things that are read at a slice of block tb. -/
def ThAt (W : World) (tb : Nat) (v : Value) (l : List Th) : Prop := ∃ a c, v = .slice a l.length c ∧ l.length ≤ c ∧ ∀ j t, l[j]? = some t → ∃ o, a = some ⟨tb, o, none⟩ ∧ W.cell? ⟨tb, o + j, none⟩ = some t.val
/-- What is so from each of a list of things on, and of the end, read at a slice of block sb. -/
def SrAt (W : World) (sb : Nat) (v : Value) (l : List Th) : Prop := ∃ o c, v = .slice (some ⟨sb, o, none⟩) (l.length + 1) c ∧ l.length + 1 ≤ c ∧ ∀ j, j ≤ l.length → W.cell? ⟨sb, o + j * 3, none⟩ = some (.int .i64 ((sr (l.drop j)).b : Int)) ∧ W.cell? ⟨sb, o + j * 3 + 1, none⟩ = some (.int .i64 ((sr (l.drop j)).n : Int)) ∧ W.cell? ⟨sb, o + j * 3 + 2, none⟩ = some (.int .i64 ((sr (l.drop j)).h : Int))
theorem ThAt.keep {W W' : World} {tb : Nat} {v : Value} {l : List Th} (h : ThAt W tb v l) (hk : W'.heap[tb]? = W.heap[tb]?) : ThAt W' tb v l := by
  obtain ⟨a, c, rfl, hc, h⟩ := h
  refine ⟨a, c, rfl, hc, fun j t hj => ?_⟩
  obtain ⟨o, ha, hcell⟩ := h j t hj
  exact ⟨o, ha, (World.cell?_of_block (a := ⟨tb, o + j, none⟩) hk).trans hcell⟩
theorem SrAt.keep {W W' : World} {sb : Nat} {v : Value} {l : List Th} (h : SrAt W sb v l) (hk : W'.heap[sb]? = W.heap[sb]?) : SrAt W' sb v l := by
  obtain ⟨o, c, rfl, hc, h⟩ := h
  refine ⟨o, c, rfl, hc, fun j hj => ?_⟩
  obtain ⟨h0, h1, h2⟩ := h j hj
  have k : ∀ q, W'.cell? ⟨sb, q, none⟩ = W.cell? ⟨sb, q, none⟩ := fun q => World.cell?_of_block (a := ⟨sb, q, none⟩) hk
  exact ⟨(k _).trans h0, (k _).trans h1, (k _).trans h2⟩
/-- A page at block PB; tb and sb hold the things and what is so from them on. -/
structure PgAt (lo PB tb sb : Nat) (p : Pg) (l : List Th) (tv rv fv : Value) (W : World) : Prop where
  blk : W.heap[PB]? = some (.cells #[.int .i64 p.wd, tv, .int .i64 p.col, .int .i64 (p.br : Int), .bool p.long, rv, fv] 69 (0, 0))
  row : W.ownsRow lo 5 1 tv p.tx.length (bytesU p.tx)
  th : ThAt W tb rv l
  sr : SrAt W sb fv l
  n1 : tv.ownBlock ≠ some PB
  n2 : tv.ownBlock ≠ some tb
  n3 : tv.ownBlock ≠ some sb
  n4 : tb ≠ PB
  n5 : sb ≠ PB
  lt1 : tb < W.heap.size
  lt2 : sb < W.heap.size
  lop : lo ≤ PB
theorem blk_cell {W : World} {PB : Nat} {cs : Array Value} {t : TypeId} (h : W.heap[PB]? = some (.cells cs t (0, 0))) {j : Nat} {v : Value} (hj : cs[j]? = some v) : W.cell? ⟨PB, j, none⟩ = some v ∧ W.frozen? ⟨PB, j, none⟩ = false := by
  refine ⟨?_, ?_⟩
  · simp [World.cell?, h, hj]
  · simp [World.frozen?, h]
theorem blk_set {W : World} {PB : Nat} {cs : Array Value} {t : TypeId} (h : W.heap[PB]? = some (.cells cs t (0, 0))) (j : Nat) (u : Value) : (W.setCell ⟨PB, j, none⟩ u).heap[PB]? = some (.cells (cs.setIfInBounds j u) t (0, 0)) := heap_setCell_same W PB j cs t u h
end Go.Proofs.Ytbmejfcbladofaa
