/- Blocks that stand while a set's bytes are gone through: plain bookkeeping for the law CharsetEach. -/
import Derived.Test.YtpjnohpjdmgglabB1
import Derived.Test.YtpjnohpjdmgglabA3
namespace Go.Proofs.Ytpjnohpjdmgglab
open Go.RowKit Go.Shelf

def CB (c : Array Value) (t : TypeId) (B : Nat) (W : World) : Prop := W.heap[B]? = some (.cells c t (0, 0))
theorem CB.new (c : Array Value) (t : TypeId) (W : World) : CB c t W.heap.size (W.alloc (.cells c t)) := World.alloc_heap_new W _
theorem CB.lt {c : Array Value} {t : TypeId} {B : Nat} {W : World} (h : CB c t B W) : B < W.heap.size := (Array.getElem?_eq_some_iff.1 h).1
theorem CB.below {c : Array Value} {t : TypeId} {B : Nat} {W W' : World} (h : CB c t B W) (hb : Below W.heap.size W W') : CB c t B W' := (hb.block B h.lt).trans h
theorem CB.alloc {c : Array Value} {t : TypeId} {B : Nat} {W : World} (h : CB c t B W) (o : Obj) : CB c t B (W.alloc o) := h.below ((Below.refl _ _).alloc (Nat.le_refl _) o)
theorem CB.one {v : Value} {t : TypeId} {B : Nat} {W : World} (h : CB #[v] t B W) : W.cell? ⟨B, 0, none⟩ = some v ∧ ∀ o, W.frozen? ⟨B, o, none⟩ = false := by
  refine ⟨?_, fun o => ?_⟩ <;> simp [World.cell?, World.frozen?, show W.heap[B]? = _ from h]
theorem CB.at {c : Array Value} {t : TypeId} {B i : Nat} {v : Value} {W : World} (h : CB c t B W) (hi : c[i]? = some v) : W.cell? ⟨B, i, none⟩ = some v := by
  simp [World.cell?, show W.heap[B]? = _ from h, hi]
theorem CB.put {v : Value} {t : TypeId} {B : Nat} {W : World} (v' : Value) (h : CB #[v] t B W) : CB #[v'] t B (W.setCell ⟨B, 0, none⟩ v') := heap_set (i := 0) v' h
theorem CB.other {c : Array Value} {t : TypeId} {B B' i : Nat} {W : World} (v : Value) (h : CB c t B W) (hn : B ≠ B') : CB c t B (W.setCell ⟨B', i, none⟩ v) := (Below.heap_setCell W ⟨B', i, none⟩ v B hn).trans h
theorem CB.own {β : Type} (c : β → Array Value) (t : TypeId) (B : Nat) : Own (fun (b : β) W => CB (c b) t B W) := by
  rintro b X Y row h hg hrow
  refine (hg.block B h.lt (fun e' => ?_)).trans h
  obtain ⟨o, ho, hc⟩ := hrow B e'.symm
  rw [show X.heap[B]? = _ from h] at ho; cases ho; cases hc
/-- The blocks of the law's variables: n bytes were told, out of those of L, whose list lies at a. -/
structure J (w : World) (s : St) (m : Nat) (a : Option Addr) (cap : Nat) (L : List (Fin 256)) (B n : Nat) (W : World) : Prop where
  bm : CB #[.int .i64 m] 3 (w.heap.size + 1) W
  br : CB #[.bool false] 4 (w.heap.size + 1 + 1) W
  bl : CB #[.slice a L.length cap] 32 B W
  bn : CB #[.int .i64 n] 3 (B + 1) W
  bs : SBox s (B + 1 + 1) W
  row : L.length = 0 ∨ ∃ g cur, a = some ⟨g, 0, none⟩ ∧ CB cur 5 g W ∧ w.heap.size + 1 + 1 < g ∧ g < B ∧ ∀ i, i < L.length → cur[i]? = some (.int .u8 ((L.getD i 0).val : Int))
  lt : w.heap.size + 1 + 1 < B
theorem J.own {w : World} {s : St} {m : Nat} {a : Option Addr} {cap : Nat} {L : List (Fin 256)} {B : Nat} : Own (fun (pre : List (Fin 256)) W => J w s m a cap L B pre.length W) := by
  rintro b X Y row h hg hrow
  refine ⟨CB.own (fun (_ : Unit) => #[.int .i64 m]) 3 _ () X Y row h.bm hg hrow, CB.own (fun (_ : Unit) => #[.bool false]) 4 _ () X Y row h.br hg hrow, CB.own (fun (_ : Unit) => #[.slice a L.length cap]) 32 _ () X Y row h.bl hg hrow, CB.own (fun (_ : Unit) => #[.int .i64 b.length]) 3 _ () X Y row h.bn hg hrow, SBox.own s _ () X Y row h.bs hg hrow, ?_, h.lt⟩
  rcases h.row with h0 | ⟨g, cur, h1, h2, h3, h4, h5⟩
  · exact .inl h0
  · exact .inr ⟨g, cur, h1, CB.own (fun (_ : Unit) => cur) 5 _ () X Y row h2 hg hrow, h3, h4, h5⟩
theorem J.step {w W : World} {s : St} {m : Nat} {a : Option Addr} {cap : Nat} {L : List (Fin 256)} {B n : Nat} (n' : Nat) (h : J w s m a cap L B n W) : J w s m a cap L B n' (W.setCell ⟨B + 1, 0, none⟩ (.int .i64 n')) := by
  have := h.lt
  refine ⟨h.bm.other _ (by omega), h.br.other _ (by omega), h.bl.other _ (by omega), h.bn.put _, h.bs.other _ (by omega), ?_, h.lt⟩
  rcases h.row with h0 | ⟨g, cur, h1, h2, h3, h4, h5⟩
  · exact .inl h0
  · exact .inr ⟨g, cur, h1, h2.other _ (by omega), h3, h4, h5⟩
theorem J.below {w W W' : World} {s : St} {m : Nat} {a : Option Addr} {cap : Nat} {L : List (Fin 256)} {B n : Nat} (h : J w s m a cap L B n W) (hb : Below W.heap.size W W') : J w s m a cap L B n W' := by
  refine ⟨h.bm.below hb, h.br.below hb, h.bl.below hb, h.bn.below hb, h.bs.below hb, ?_, h.lt⟩
  rcases h.row with h0 | ⟨g, cur, h1, h2, h3, h4, h5⟩
  · exact .inl h0
  · exact .inr ⟨g, cur, h1, h2.below hb, h3, h4, h5⟩
theorem keeps_set {N : Nat} {W : World} {c : Array Value} {t : TypeId} {B : Nat} (v : Value) (h : CB c t B W) : KeepsFrom N W (W.setCell ⟨B, 0, none⟩ v) := by
  refine ⟨by simp, fun k o _ hk ho => ?_⟩
  have : k ≠ B := by
    intro e; subst e
    rw [show W.heap[k]? = _ from h] at hk
    cases hk; cases ho
  exact (Below.heap_setCell W ⟨B, 0, none⟩ v k this).trans hk
/-- What was told is the beginning of L. -/
def Beg (L pre : List (Fin 256)) : Prop := pre = L.take pre.length
end Go.Proofs.Ytpjnohpjdmgglab
