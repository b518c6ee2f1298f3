/- Lengths in memory: rows of numbers that are named by the cells of one block; a rule that is looked at. -/
import Derived.Test.YtopbibhpekjaeaaF6
import Derived.Test.YtopbibhpekjaeaaC2
import Derived.Test.YtopbibhpekjaeaaN3
namespace Go.Proofs.Ytopbibhpekjaeaa
open Go.RowKit

structure Rows (W : World) (base : Nat) (vs : List Value) (f : Nat → List Nat) : Prop where
  inner : ∀ (i : Nat) (v : Value), vs[i]? = some v → W.ownsRow base 3 1 v (f i).length (intsV (f i))
  apart : ∀ (i j : Nat) (v u : Value), i ≠ j → vs[i]? = some v → vs[j]? = some u → v.ownBlock = none ∨ v.ownBlock ≠ u.ownBlock
section
variable {W W' : World} {base : Nat} {vs : List Value} {f : Nat → List Nat}
theorem Rows.below (h : Rows W base vs f) (hb : Below W.heap.size W W') : Rows W' base vs f := ⟨fun i v hv => row_below (h.inner i v hv) hb, h.apart⟩
theorem Rows.push {m x g' c' : Nat} {v : Value} {W1 w2 X : World} (h : Rows W base vs f) (hm : vs[m]? = some v) (h1 : Below W.heap.size W W1)
    (hown : w2.ownsRow base 3 1 (.slice (some ⟨g', 0, none⟩) ((f m).length + 1) c') ((f m).length + 1) (intsV (f m) ++ [.int .i64 (x : Int)])) (hg : W1.grownBy w2 v.ownBlock) (hat : v.ownBlock = some g' ∨ g' = W1.heap.size)
    (hX : ∀ {v' : Value} {n : Nat} {xs : List Value}, w2.ownsRow base 3 1 v' n xs → X.ownsRow base 3 1 v' n xs) :
    Rows X base (vs.set m (.slice (some ⟨g', 0, none⟩) ((f m).length + 1) c')) (fun i => if i = m then f i ++ [x] else f i) := by
  have hT1 := h.below h1
  have hml : m < vs.length := (List.getElem?_eq_some_iff.1 hm).1
  have hs := h1.size
  have hnew : ∀ (i : Nat) (u : Value), i ≠ m → vs[i]? = some u → u.ownBlock = none ∨ u.ownBlock ≠ some g' := fun i u hi hu => by
    rcases hat with hat | hat
    · rw [← hat]; exact h.apart i m u v hi hu hm
    · cases hub : u.ownBlock with
      | none => exact .inl rfl
      | some b =>
        right
        intro e
        have e' : b = g' := by simpa using e
        have := ((h.inner i u hu).lt b hub).2
        omega
  refine ⟨?_, ?_⟩
  · intro i u hu
    by_cases hi : i = m
    · subst hi
      rw [List.getElem?_set_self hml] at hu
      obtain rfl := Option.some.inj hu
      simp only [if_true]
      rw [intsV_snoc, List.length_append]
      exact hX hown
    · rw [List.getElem?_set_ne (fun e => hi e.symm)] at hu
      simp only [if_neg hi]
      exact hX ((hT1.inner i u hu).kept hg (h.apart i m u v hi hu hm))
  · intro i j u u' hij hu hu'
    by_cases hi : i = m
    · subst hi
      rw [List.getElem?_set_self hml] at hu
      obtain rfl := Option.some.inj hu
      rw [List.getElem?_set_ne hij] at hu'
      right
      rcases hnew j u' (fun e => hij e.symm) hu' with h0 | h0
      · rw [h0]; simp [Value.ownBlock]
      · exact fun e => h0 e.symm
    · rw [List.getElem?_set_ne (fun e => hi e.symm)] at hu
      by_cases hj : j = m
      · subst hj
        rw [List.getElem?_set_self hml] at hu'
        obtain rfl := Option.some.inj hu'
        exact hnew i u hi hu
      · rw [List.getElem?_set_ne (fun e => hj e.symm)] at hu'
        exact h.apart i j u u' hij hu hu'
theorem Rows.put {m r x g n c : Nat} (h : Rows W base vs f) (hm : vs[m]? = some (.slice (some ⟨g, 0, none⟩) n c)) (hn : (f m).length = n) : Rows (W.setCell ⟨g, r, none⟩ (.int .i64 (x : Int))) base vs (fun i => if i = m then (f i).set r x else f i) := by
  subst hn
  have hst := (h.inner m _ hm).stored r (.int .i64 (x : Int))
  refine ⟨fun i v hv => ?_, h.apart⟩
  by_cases e : i = m
  · subst e
    rw [hm] at hv
    obtain rfl := Option.some.inj hv
    simp only [if_true]
    rw [intsV_set, List.length_set]; exact hst.1
  · simp only [if_neg e]
    exact (h.inner i v hv).kept hst.2 (by have := h.apart i m v _ e hv hm; simpa [Value.ownBlock] using this)
end
/-- The block of lengths: three cells of the grammar, the rows known and missing, and 513 rows ready. -/
structure LB (W : World) (base L : Nat) (hd vs : List Value) (f : Nat → List Nat) : Prop where
  blk : W.heap[L]? = some (.cells (hd ++ vs).toArray 90 (0, 0))
  hl : hd.length = 3
  vl : vs.length = 515
  rows : Rows W base vs f
section
variable {W W' : World} {base L : Nat} {hd vs : List Value} {f : Nat → List Nat}
theorem LB.lt (h : LB W base L hd vs f) : L < W.heap.size := heap_lt' h.blk
theorem LB.below (h : LB W base L hd vs f) (hb : Below W.heap.size W W') : LB W' base L hd vs f := ⟨(hb.block L h.lt).trans h.blk, h.hl, h.vl, h.rows.below hb⟩
theorem LB.head (h : LB W base L hd vs f) {i : Nat} {v : Value} (hv : hd[i]? = some v) : W.cell? ⟨L, i, none⟩ = some v :=
  blk_cell h.blk (by rw [List.getElem?_toArray, List.getElem?_append_left (List.getElem?_eq_some_iff.1 hv).1]; exact hv)
theorem LB.cell (h : LB W base L hd vs f) {i : Nat} {v : Value} (hv : vs[i]? = some v) : W.cell? ⟨L, 3 + i, none⟩ = some v :=
  blk_cell h.blk (by rw [List.getElem?_toArray, List.getElem?_append_right (by rw [h.hl]; omega), h.hl, Nat.add_sub_cancel_left]; exact hv)
theorem LB.ne (h : LB W base L hd vs f) {i : Nat} {v : Value} (hv : vs[i]? = some v) : v.ownBlock ≠ some L := row_ne_blk (h.rows.inner i v hv) h.blk (by decide)
theorem LB.get (h : LB W base L hd vs f) {i : Nat} (hi : i < 515) : ∃ v, vs[i]? = some v := ⟨vs[i]'(by rw [h.vl]; exact hi), by simp⟩
/-- A row's number is written over. -/
theorem LB.put {m r x g n c : Nat} (h : LB W base L hd vs f) (hm : vs[m]? = some (.slice (some ⟨g, 0, none⟩) n c)) (hn : (f m).length = n) : LB (W.setCell ⟨g, r, none⟩ (.int .i64 (x : Int))) base L hd vs (fun i => if i = m then (f i).set r x else f i) :=
  ⟨by rw [Below.heap_setCell _ _ _ _ (fun e => h.ne hm (by simp [Value.ownBlock]; exact e.symm))]; exact h.blk, h.hl, h.vl, h.rows.put hm hn⟩
theorem setCell_blk {X : World} {cs : Array Value} {t : TypeId} {q : Nat} {u : Value} (h : X.heap[L]? = some (.cells cs t (0, 0))) : (X.setCell ⟨L, q, none⟩ u).heap[L]? = some (.cells (cs.setIfInBounds q u) t (0, 0)) := heap_setCell_same X L q cs t u h
/-- A number is put behind a row. -/
theorem LB.push {m x g' c' n1 : Nat} {v : Value} {W2 w1 : World} {xs : List Nat} (h : LB W base L hd vs f) (hm : vs[m]? = some v) (HX : Hid (f m = xs)) (hB2 : Below W.heap.size W W2) (hs2 : W2.heap.size = n1)
    (hown : w1.ownsRow base 3 1 (.slice (some ⟨g', 0, none⟩) (xs.length + 1) c') (xs.length + 1) (intsV xs ++ [.int .i64 (x : Int)])) (hg : (W2.alloc (.cells #[.int .i64 (x : Int)] 3)).drew.grownBy w1 v.ownBlock) (hat : v.ownBlock = some g' ∨ g' = n1 + 1) :
    LB (w1.setCell ⟨L, 3 + m, none⟩ (.slice (some ⟨g', 0, none⟩) (xs.length + 1) c')) base L hd (vs.set m (.slice (some ⟨g', 0, none⟩) (xs.length + 1) c')) (fun i => if i = m then f i ++ [x] else f i) := by
  obtain rfl := HX.out
  have hml : m < vs.length := (List.getElem?_eq_some_iff.1 hm).1
  have hb : w1.heap[L]? = some (.cells (hd ++ vs).toArray 90 (0, 0)) := by
    have h2 := h.below hB2
    rw [hg.block L (by have := h2.lt; simp; omega) (fun e => h.ne hm e.symm)]
    show (W2.alloc _).heap[L]? = _
    rw [Below.heap_alloc _ _ _ h2.lt]; exact h2.blk
  refine ⟨?_, h.hl, by rw [List.length_set]; exact h.vl, ?_⟩
  · rw [setCell_blk hb]
    congr 2
    rw [List.setIfInBounds_toArray, List.set_append_right _ _ (by rw [h.hl]; omega), h.hl, Nat.add_sub_cancel_left]
  · refine h.rows.push (W1 := (W2.alloc (.cells #[.int .i64 (x : Int)] 3)).drew) hm ((hB2.alloc hB2.size _).drew) hown hg ?_ ?_
    · rcases hat with e | e
      · exact .inl e
      · right; simp; omega
    · intro v' n ys hv'
      exact ownsRow_setCell_other hv' (row_ne_blk hv' hb (by decide)) _
end
end Go.Proofs.Ytopbibhpekjaeaa
