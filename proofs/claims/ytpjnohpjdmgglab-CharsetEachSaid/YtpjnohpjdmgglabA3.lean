/- Plain facts of sets: the laws of union, meet, difference and complement, and of sizes; and boxes that hold a set. -/
import Derived.Test.YtpjnohpjdmgglabW10
import Derived.Test.YtpjnohpjdmgglabA2
namespace Go.Proofs.Ytpjnohpjdmgglab
open Go.RowKit

theorem St.minus_ok {s t : St} (hs : s.ok) : (s.minus t).ok := St.and_ok hs
theorem upTo_count (s : St) : ∀ k, (upTo s k).length = (List.range k).countP s.has
  | 0 => rfl
  | k + 1 => by
    rw [List.range_succ, List.countP_append, ← upTo_count s k]
    cases hh : s.has k with
    | true => rw [upTo_yes hh]; simp [hh]
    | false => rw [upTo_no hh]; simp [hh]
theorem count_split (p : Nat → Bool) (a b : Nat) : (List.range (a + b)).countP p = (List.range a).countP p + (List.range b).countP (fun j => p (a + j)) := by
  rw [List.range_add, List.countP_append, List.countP_map]; rfl
theorem word_count (s : St) (i : Nat) : (List.range 64).countP (fun j => s.has (64 * i + j)) = pc 64 (s.w i) := by
  rw [pc_count]
  apply List.countP_congr
  intro j hj
  have hj' : j < 64 := List.mem_range.1 hj
  unfold St.has
  rw [show (64 * i + j) / 64 = i from by omega, show (64 * i + j) % 64 = j from by omega]
theorem size_count (s : St) : s.size = (List.range 256).countP s.has := by
  rw [show (256 : Nat) = 64 + (64 + (64 + 64)) from rfl, count_split, count_split, count_split]
  have h0 := word_count s 0
  have h1 := word_count s 1
  have h2 := word_count s 2
  have h3 := word_count s 3
  simp only [Nat.mul_zero, Nat.zero_add, Nat.mul_one, Nat.reduceMul] at h0 h1 h2 h3
  have e2 : (fun j => s.has (64 + (64 + j))) = fun j => s.has (128 + j) := by funext j; congr 1; omega
  have e3 : (fun j => s.has (64 + (64 + (64 + j)))) = fun j => s.has (192 + j) := by funext j; congr 1; omega
  rw [e2, e3, h0, h1, h2, h3]
  unfold St.size St.w
  simp; omega
theorem size_le (s : St) : s.size ≤ 256 := by
  rw [size_count]; exact Nat.le_trans List.countP_le_length (by simp)
theorem count_or_and (p q : Nat → Bool) : ∀ l : List Nat, l.countP (fun n => p n || q n) + l.countP (fun n => p n && q n) = l.countP p + l.countP q
  | [] => rfl
  | a :: l => by
    have := count_or_and p q l
    simp only [List.countP_cons]
    cases p a <;> cases q a <;> simp <;> omega
theorem size_sum (s t : St) : (s.or t).size + (s.and t).size = s.size + t.size := by
  rw [size_count, size_count, size_count, size_count, ← count_or_and s.has t.has]
  congr 1
  · congr 1; funext n; rw [St.has_or]
  · congr 1; funext n; rw [St.has_and]
theorem count_not (p : Nat → Bool) : ∀ l : List Nat, l.countP p + l.countP (fun n => !p n) = l.length
  | [] => rfl
  | a :: l => by
    have := count_not p l
    simp only [List.countP_cons, List.length_cons]
    cases p a <;> simp <;> omega
theorem size_not (s : St) (hs : s.ok) : s.size + s.not.size = 256 := by
  have := count_not s.has (List.range 256)
  rw [size_count, size_count]
  have e : (List.range 256).countP s.not.has = (List.range 256).countP (fun n => !s.has n) := by
    congr 1; funext n; rw [St.has_not s hs]
  rw [e, this]; simp
theorem dem (s t : St) (hs : s.ok) (ht : t.ok) : s.not.and t.not = (s.or t).not :=
  St.ext' (St.and_ok s.not_ok) (St.not_ok _) (fun n _ => by rw [St.has_and, St.has_not s hs, St.has_not t ht, St.has_not _ (St.or_ok hs ht), St.has_or]; simp)
theorem dist (s t u : St) (hs : s.ok) : (s.and t).or (s.and u) = s.and (t.or u) :=
  St.ext' (St.or_ok (St.and_ok hs) (St.and_ok hs)) (St.and_ok hs) (fun n _ => by rw [St.has_or, St.has_and, St.has_and, St.has_and, St.has_or]; cases s.has n <;> simp)
theorem notnot (s : St) (hs : s.ok) : s.not.not = s :=
  St.ext' (St.not_ok _) hs (fun n _ => by rw [St.has_not _ s.not_ok, St.has_not s hs]; simp)

theorem heap_set {W : World} {B i : Nat} {c : Array Value} {t : TypeId} {fz : Nat × Nat} (v : Value) (h : W.heap[B]? = some (.cells c t fz)) : (W.setCell ⟨B, i, none⟩ v).heap[B]? = some (.cells (c.setIfInBounds i v) t fz) := by
  obtain ⟨hlt, hk⟩ := Array.getElem?_eq_some_iff.1 h
  show (W.heap.modify B _)[B]? = _
  rw [Array.getElem?_eq_getElem (by rw [Array.size_modify]; exact hlt), Array.getElem_modify_self, hk]
  rfl
theorem SBox.store {s : St} {B : Nat} {W : World} (t : St) (h : SBox s B W) : SBox t B ((((W.setCell ⟨B, 0, none⟩ (.int .u64 t.a)).setCell ⟨B, 1, none⟩ (.int .u64 t.b)).setCell ⟨B, 2, none⟩ (.int .u64 t.c)).setCell ⟨B, 3, none⟩ (.int .u64 t.d)) := by
  have := heap_set (i := 3) (.int .u64 t.d) (heap_set (i := 2) (.int .u64 t.c) (heap_set (i := 1) (.int .u64 t.b) (heap_set (i := 0) (.int .u64 t.a) h)))
  exact this
theorem SBox.other {s : St} {B B' i : Nat} {W : World} (v : Value) (h : SBox s B W) (hn : B ≠ B') : SBox s B (W.setCell ⟨B', i, none⟩ v) := (Below.heap_setCell W ⟨B', i, none⟩ v B hn).trans h
theorem SBox.other4 {s : St} {B B' : Nat} {W : World} (v0 v1 v2 v3 : Value) (h : SBox s B W) (hn : B ≠ B') : SBox s B ((((W.setCell ⟨B', 0, none⟩ v0).setCell ⟨B', 1, none⟩ v1).setCell ⟨B', 2, none⟩ v2).setCell ⟨B', 3, none⟩ v3) :=
  (((h.other v0 hn).other v1 hn).other v2 hn).other v3 hn
theorem SBox.frozen {s : St} {B : Nat} {W : World} (h : SBox s B W) : ∀ o, W.frozen? ⟨B, o, none⟩ = false := fun o => by simp [World.frozen?, show W.heap[B]? = _ from h]
theorem SBox.zero (W : World) : SBox St.zero W.heap.size (W.alloc (.cells #[.int .u64 0, .int .u64 0, .int .u64 0, .int .u64 0] 24)) := World.alloc_heap_new W _
theorem below4 {w W : World} {n B : Nat} (h : Below n w W) (hB : n ≤ B) (v0 v1 v2 v3 : Value) : Below n w ((((W.setCell ⟨B, 0, none⟩ v0).setCell ⟨B, 1, none⟩ v1).setCell ⟨B, 2, none⟩ v2).setCell ⟨B, 3, none⟩ v3) :=
  (((h.setCell (p := ⟨B, 0, none⟩) hB _).setCell (p := ⟨B, 1, none⟩) hB _).setCell (p := ⟨B, 2, none⟩) hB _).setCell (p := ⟨B, 3, none⟩) hB _

/-- Three arguments' boxes stand, and what was there. -/
def Tri (w : World) (s t u : St) (W : World) : Prop := SBox s w.heap.size W ∧ SBox t (w.heap.size + 1) W ∧ SBox u (w.heap.size + 1 + 1) W ∧ Below w.heap.size w W
theorem Tri.drew {w W : World} {s t u : St} (h : Tri w s t u W) : Tri w s t u W.drew := ⟨h.1, h.2.1, h.2.2.1, h.2.2.2.drew⟩
theorem Tri.nx {w W W' : World} {s t u : St} (hb : Below W.heap.size W W') (h : Tri w s t u W) : Tri w s t u W' := ⟨h.1.below hb, h.2.1.below hb, h.2.2.1.below hb, below_of h.2.2.2 hb⟩
theorem Tri.alloc {w W : World} {s t u : St} (o : Obj) (h : Tri w s t u W) : Tri w s t u (W.alloc o) := h.nx ((Below.refl _ _).alloc (Nat.le_refl _) o)
theorem Tri.lt {w W : World} {s t u : St} (h : Tri w s t u W) : w.heap.size + 1 + 1 < W.heap.size := h.2.2.1.lt
theorem Tri.set4 {w W : World} {s t u : St} {B : Nat} (v0 v1 v2 v3 : Value) (h : Tri w s t u W) (hB : w.heap.size + 1 + 1 < B) : Tri w s t u ((((W.setCell ⟨B, 0, none⟩ v0).setCell ⟨B, 1, none⟩ v1).setCell ⟨B, 2, none⟩ v2).setCell ⟨B, 3, none⟩ v3) :=
  ⟨h.1.other4 _ _ _ _ (by omega), h.2.1.other4 _ _ _ _ (by omega), h.2.2.1.other4 _ _ _ _ (by omega), below4 h.2.2.2 (by omega) _ _ _ _⟩
theorem Tri.start (w : World) (s t u : St) : Tri w s t u (((w.alloc (.cells #[.int .u64 s.a, .int .u64 s.b, .int .u64 s.c, .int .u64 s.d] 24)).alloc (.cells #[.int .u64 t.a, .int .u64 t.b, .int .u64 t.c, .int .u64 t.d] 24)).alloc (.cells #[.int .u64 u.a, .int .u64 u.b, .int .u64 u.c, .int .u64 u.d] 24)) := by
  obtain ⟨h1, h2, h3⟩ := Two.start w s t
  refine ⟨h1.alloc _, h2.alloc _, ?_, h3.alloc h3.size _⟩
  have := SBox.new u ((w.alloc (.cells #[.int .u64 s.a, .int .u64 s.b, .int .u64 s.c, .int .u64 s.d] 24)).alloc (.cells #[.int .u64 t.a, .int .u64 t.b, .int .u64 t.c, .int .u64 t.d] 24))
  rwa [World.size_alloc, World.size_alloc] at this

end Go.Proofs.Ytpjnohpjdmgglab
