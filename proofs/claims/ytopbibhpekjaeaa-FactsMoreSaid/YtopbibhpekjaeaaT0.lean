/- Rows of memory, and tables: rows of rows of numbers. -/
import Derived.Test.YtopbibhpekjaeaaM2
import Derived.Deep.OwnRows
namespace Go.Proofs.Ytopbibhpekjaeaa
open Go.RowKit

section
variable {B B' C : Nat} {e : TypeId} {k : Nat} {v : Value} {n : Nat} {xs : List Value} {W W' : World}
theorem heap_lt' {b : Nat} {o : Obj} (h : W.heap[b]? = some o) : b < W.heap.size := (Array.getElem?_eq_some_iff.1 h).1
theorem row_below (h : W.ownsRow B e k v n xs) (hb : Below W.heap.size W W') : W'.ownsRow B e k v n xs := by
  refine ⟨h.1, ?_⟩
  rcases h.2 with h0 | ⟨g, cap, cur, hv, hbg, hg, rest⟩
  · exact .inl h0
  · exact .inr ⟨g, cap, cur, hv, hbg, (hb.block g (heap_lt' hg)).trans hg, rest⟩
theorem row_belowB (h : W.ownsRow B e k v n xs) (hb : Below C W W') (hc : ∀ g, v.ownBlock = some g → g < C) : W'.ownsRow B e k v n xs := by
  refine ⟨h.1, ?_⟩
  rcases h.2 with h0 | ⟨g, cap, cur, hv, hbg, hg, rest⟩
  · exact .inl h0
  · exact .inr ⟨g, cap, cur, hv, hbg, (hb.block g (hc g (by rw [hv]; rfl))).trans hg, rest⟩
theorem row_mono (h : W.ownsRow B e k v n xs) (hb : B' ≤ B) : W.ownsRow B' e k v n xs := by
  refine ⟨h.1, ?_⟩
  rcases h.2 with h0 | ⟨g, cap, cur, hv, hbg, rest⟩
  · exact .inl h0
  · exact .inr ⟨g, cap, cur, hv, Nat.le_trans hb hbg, rest⟩
theorem row_slice (h : W.ownsRow B e k v n xs) : ∃ a c, v = .slice a n c := by
  rcases h.2 with ⟨rfl, rfl⟩ | ⟨g, cap, cur, rfl, _⟩
  · exact ⟨_, _, rfl⟩
  · exact ⟨_, _, rfl⟩
theorem row_at (h : W.ownsRow B e k v n xs) (hn : 0 < n) : ∃ g c, v = .slice (some ⟨g, 0, none⟩) n c ∧ B ≤ g ∧ g < W.heap.size := by
  rcases h.2 with ⟨_, h0⟩ | ⟨g, cap, cur, hv, hb, hg, _⟩
  · omega
  · exact ⟨g, cap, hv, hb, heap_lt' hg⟩
theorem row_ne {b1 b2 : Nat} {e1 e2 : TypeId} {s1 s2 : Nat} {v1 v2 : Value} {n1 n2 : Nat} {x1 x2 : List Value} (h1 : W.ownsRow b1 e1 s1 v1 n1 x1) (h2 : W.ownsRow b2 e2 s2 v2 n2 x2) (hne : e1 ≠ e2) : v1.ownBlock = none ∨ v1.ownBlock ≠ v2.ownBlock := by
  rcases h1.2 with ⟨rfl, _⟩ | ⟨g, cap, cur, rfl, _, hg, _⟩
  · exact .inl rfl
  · right
    rcases h2.2 with ⟨rfl, _⟩ | ⟨g', cap', cur', rfl, _, hg', _⟩
    · simp [Value.ownBlock]
    · simp only [Value.ownBlock]
      intro e
      obtain rfl : g = g' := by simpa using e
      have := hg.symm.trans hg'
      simp at this
      exact hne this.2
end
def intsV (l : List Nat) : List Value := l.map fun (n : Nat) => .int .i64 (n : Int)
theorem intsV_snoc (l : List Nat) (n : Nat) : intsV (l ++ [n]) = intsV l ++ [.int .i64 (n : Int)] := by simp [intsV]
theorem intsV_app (l m : List Nat) : intsV (l ++ m) = intsV l ++ intsV m := by simp [intsV]

/-- A table of N rows of numbers, each row in a block of its own. -/
structure Tab (W : World) (base : Nat) (tv : Value) (N : Nat) (f : Nat → List Nat) (vs : List Value) : Prop where
  row : W.ownsRow base 41 1 tv N vs
  inner : ∀ (i : Nat) (v : Value), vs[i]? = some v → W.ownsRow base 3 1 v (f i).length (intsV (f i))
  apart : ∀ (i j : Nat) (v u : Value), i ≠ j → vs[i]? = some v → vs[j]? = some u → v.ownBlock = none ∨ v.ownBlock ≠ u.ownBlock
section
variable {W W' : World} {base N : Nat} {tv : Value} {f : Nat → List Nat} {vs : List Value}
theorem Tab.below (h : Tab W base tv N f vs) (hb : Below W.heap.size W W') : Tab W' base tv N f vs :=
  ⟨row_below h.row hb, fun i v hv => row_below (h.inner i v hv) hb, h.apart⟩
theorem Tab.drew (h : Tab W base tv N f vs) : Tab W.drew base tv N f vs := ⟨h.row, h.inner, h.apart⟩
theorem Tab.mono {base' : Nat} (h : Tab W base tv N f vs) (hb : base' ≤ base) : Tab W base' tv N f vs :=
  ⟨row_mono h.row hb, fun i v hv => row_mono (h.inner i v hv) hb, h.apart⟩
theorem Tab.len (h : Tab W base tv N f vs) : vs.length = N := by simpa using h.row.1
theorem Tab.made (W : World) (base N : Nat) (hb : base ≤ W.heap.size) (hN : N ≤ maxLen) : Tab (W.alloc (.cells (madeCells #[.slice none 0 0] N) 41)) base (.slice (some ⟨W.heap.size, 0, none⟩) N N) N (fun _ => []) (List.replicate N (.slice none 0 0)) := by
  refine ⟨?_, ?_, ?_⟩
  · have := World.ownsRow_lit (e := 41) (size := 1) W (madeCells #[.slice none 0 0] N) N hb hN (by rw [size_madeCells]; omega)
    rwa [toList_madeCells_one] at this
  · intro i v hv
    obtain rfl := (List.mem_replicate.1 (List.mem_of_getElem? hv)).2
    exact World.ownsRow_nil _ _ _ _
  · intro i j v u _ hv _
    obtain rfl := (List.mem_replicate.1 (List.mem_of_getElem? hv)).2
    exact .inl rfl
/-- A number more behind row m: the row was appended to, and put back. -/
theorem Tab.push {g c m x g' c' : Nat} {v : Value} {W1 w2 : World} (h : Tab W base (.slice (some ⟨g, 0, none⟩) N c) N f vs) (hm : vs[m]? = some v) (h1 : Below W.heap.size W W1) (hs : W.heap.size ≤ W1.heap.size)
    (hown : w2.ownsRow base 3 1 (.slice (some ⟨g', 0, none⟩) ((f m).length + 1) c') ((f m).length + 1) (intsV (f m) ++ [.int .i64 (x : Int)])) (hg : W1.grownBy w2 v.ownBlock) (hat : v.ownBlock = some g' ∨ g' = W1.heap.size) :
    Tab (w2.setCell ⟨g, m, none⟩ (.slice (some ⟨g', 0, none⟩) ((f m).length + 1) c')) base (.slice (some ⟨g, 0, none⟩) N c) N (fun i => if i = m then f i ++ [x] else f i) (vs.set m (.slice (some ⟨g', 0, none⟩) ((f m).length + 1) c')) := by
  have hT1 := h.below h1
  have hv1 := hT1.inner m v hm
  have hr2 := hT1.row.kept hg (row_ne hT1.row hv1 (by decide))
  have hst := hr2.stored m (.slice (some ⟨g', 0, none⟩) ((f m).length + 1) c')
  have hother : ∀ {v' : Value} {n : Nat} {xs : List Value}, w2.ownsRow base 3 1 v' n xs → (w2.setCell ⟨g, m, none⟩ (.slice (some ⟨g', 0, none⟩) ((f m).length + 1) c')).ownsRow base 3 1 v' n xs := fun h' => by
    refine h'.kept hst.2 ?_
    have := row_ne h' hr2 (by decide)
    simpa [Value.ownBlock] using this
  have hml : m < vs.length := (List.getElem?_eq_some_iff.1 hm).1
  have hnew : ∀ (i : Nat) (u : Value), i ≠ m → vs[i]? = some u → u.ownBlock = none ∨ u.ownBlock ≠ some g' := fun i u hi hu => by
    rcases hat with hat | hat
    · rw [← hat]; exact h.apart i m u v hi hu hm
    · cases hub : u.ownBlock with
      | none => exact .inl rfl
      | some b =>
        right
        intro e
        have e' : b = g' := by simpa using e
        have := ((h.inner i u hu).lt b hub).2
        omega
  refine ⟨hst.1, ?_, ?_⟩
  · intro i u hu
    by_cases hi : i = m
    · subst hi
      rw [List.getElem?_set_self hml] at hu
      obtain rfl := Option.some.inj hu
      simp only [if_true]
      rw [intsV_snoc, List.length_append]
      exact hother hown
    · rw [List.getElem?_set_ne (fun e => hi e.symm)] at hu
      simp only [if_neg hi]
      exact hother ((hT1.inner i u hu).kept hg (h.apart i m u v hi hu hm))
  · intro i j u u' hij hu hu'
    by_cases hi : i = m
    · subst hi
      rw [List.getElem?_set_self hml] at hu
      obtain rfl := Option.some.inj hu
      rw [List.getElem?_set_ne hij] at hu'
      right
      rcases hnew j u' (fun e => hij e.symm) hu' with h0 | h0
      · rw [h0]; simp [Value.ownBlock]
      · exact fun e => h0 e.symm
    · rw [List.getElem?_set_ne (fun e => hi e.symm)] at hu
      by_cases hj : j = m
      · subst hj
        rw [List.getElem?_set_self hml] at hu'
        obtain rfl := Option.some.inj hu'
        exact hnew i u hi hu
      · rw [List.getElem?_set_ne (fun e => hj e.symm)] at hu'
        exact h.apart i j u u' hij hu hu'
end
theorem info3 : (Try.prog.info? 3).map (fun i => (i.zero, i.size, i.bytes)) = some (some (.int .i64 0), 1, 8) := by kernel_rfl
theorem info41 : (Try.prog.info? 41).map (fun i => (i.zero, i.size, i.bytes)) = some (some (.slice none 0 0), 1, 24) := by kernel_rfl
theorem info4 : (Try.prog.info? 4).map (fun i => (i.zero, i.size, i.bytes)) = some (some (.bool false), 1, 1) := by kernel_rfl
end Go.Proofs.Ytopbibhpekjaeaa
