/- The document's own answer Op, of what two sets have together. -/
import Derived.Test.YtopbibhpekjaeaaA0
import Derived.Deep.RegionHeld3
import Derived.Deep.DrawnRows
import Derived.RangeFuncRecord
namespace Go.Proofs.Ytopbibhpekjaeaa
open Go.RowKit

def SBox (s : St) (B : Nat) (W : World) : Prop := W.heap[B]? = some (.cells #[.int .u64 s.a, .int .u64 s.b, .int .u64 s.c, .int .u64 s.d] 49 (0, 0))
theorem SBox.new (s : St) (W : World) : SBox s W.heap.size (W.alloc (.cells #[.int .u64 s.a, .int .u64 s.b, .int .u64 s.c, .int .u64 s.d] 49)) := World.alloc_heap_new W _
theorem SBox.lt {s : St} {B : Nat} {W : World} (h : SBox s B W) : B < W.heap.size := (Array.getElem?_eq_some_iff.1 h).1
theorem SBox.cells {s : St} {B : Nat} {W : World} (h : SBox s B W) : W.cell? ⟨B, 0, none⟩ = some (.int .u64 s.a) ∧ W.cell? ⟨B, 1, none⟩ = some (.int .u64 s.b) ∧ W.cell? ⟨B, 2, none⟩ = some (.int .u64 s.c) ∧ W.cell? ⟨B, 3, none⟩ = some (.int .u64 s.d) := by
  refine ⟨?_, ?_, ?_, ?_⟩ <;> simp [World.cell?, show W.heap[B]? = _ from h]
theorem SBox.kept {s : St} {B : Nat} {W W' : World} {row : Option Nat} (h : SBox s B W) (hg : W.grownBy W' row) (hne : some B ≠ row) : SBox s B W' := (hg.block B h.lt hne).trans h
theorem SBox.alloc {s : St} {B : Nat} {W : World} (h : SBox s B W) (o : Obj) : SBox s B (W.alloc o) := h.kept (World.grownBy_alloc W o none) (by simp)
theorem heap_set {W : World} {B i : Nat} {c : Array Value} {t : TypeId} {fz : Nat × Nat} (v : Value) (h : W.heap[B]? = some (.cells c t fz)) : (W.setCell ⟨B, i, none⟩ v).heap[B]? = some (.cells (c.setIfInBounds i v) t fz) := by
  obtain ⟨hlt, hk⟩ := Array.getElem?_eq_some_iff.1 h
  show (W.heap.modify B _)[B]? = _
  rw [Array.getElem?_eq_getElem (by rw [Array.size_modify]; exact hlt), Array.getElem_modify_self, hk]
  rfl
theorem SBox.store {s : St} {B : Nat} {W : World} (t : St) (h : SBox s B W) : SBox t B ((((W.setCell ⟨B, 0, none⟩ (.int .u64 t.a)).setCell ⟨B, 1, none⟩ (.int .u64 t.b)).setCell ⟨B, 2, none⟩ (.int .u64 t.c)).setCell ⟨B, 3, none⟩ (.int .u64 t.d)) := by
  have := heap_set (i := 3) (.int .u64 t.d) (heap_set (i := 2) (.int .u64 t.c) (heap_set (i := 1) (.int .u64 t.b) (heap_set (i := 0) (.int .u64 t.a) h)))
  exact this
theorem SBox.other {s : St} {B B' i : Nat} {W : World} (v : Value) (h : SBox s B W) (hn : B ≠ B') : SBox s B (W.setCell ⟨B', i, none⟩ v) := (Below.heap_setCell W ⟨B', i, none⟩ v B hn).trans h
theorem SBox.other4 {s : St} {B B' : Nat} {W : World} (v0 v1 v2 v3 : Value) (h : SBox s B W) (hn : B ≠ B') : SBox s B ((((W.setCell ⟨B', 0, none⟩ v0).setCell ⟨B', 1, none⟩ v1).setCell ⟨B', 2, none⟩ v2).setCell ⟨B', 3, none⟩ v3) :=
  (((h.other v0 hn).other v1 hn).other v2 hn).other v3 hn
theorem SBox.below {s : St} {B : Nat} {W W' : World} (h : SBox s B W) (hb : Below W.heap.size W W') : SBox s B W' := (hb.block B h.lt).trans h
theorem SBox.frozen {s : St} {B : Nat} {W : World} (h : SBox s B W) : ∀ o, W.frozen? ⟨B, o, none⟩ = false := fun o => by simp [World.frozen?, show W.heap[B]? = _ from h]
theorem SBox.zero (W : World) : SBox St.zero W.heap.size (W.alloc (.cells #[.int .u64 0, .int .u64 0, .int .u64 0, .int .u64 0] 49)) := World.alloc_heap_new W _
theorem below4 {w W : World} {n B : Nat} (h : Below n w W) (hB : n ≤ B) (v0 v1 v2 v3 : Value) : Below n w ((((W.setCell ⟨B, 0, none⟩ v0).setCell ⟨B, 1, none⟩ v1).setCell ⟨B, 2, none⟩ v2).setCell ⟨B, 3, none⟩ v3) :=
  (((h.setCell (p := ⟨B, 0, none⟩) hB _).setCell (p := ⟨B, 1, none⟩) hB _).setCell (p := ⟨B, 2, none⟩) hB _).setCell (p := ⟨B, 3, none⟩) hB _

def opTo (f : Bool → Bool → Bool) (s t : St) : Nat → St
  | 0 => St.zero
  | k + 1 => if f (s.has k) (t.has k) then (opTo f s t k).add k else opTo f s t k
theorem opTo_ok (f : Bool → Bool → Bool) (s t : St) : ∀ k, (opTo f s t k).ok
  | 0 => St.zero_ok
  | k + 1 => by
    unfold opTo; split
    · exact St.add_ok (opTo_ok f s t k) k
    · exact opTo_ok f s t k
theorem opTo_has (f : Bool → Bool → Bool) (s t : St) (m : Nat) (hm : m < 256) : ∀ k, k ≤ 256 → (opTo f s t k).has m = (decide (m < k) && f (s.has m) (t.has m))
  | 0, _ => by simp [opTo, St.has_zero]
  | k + 1, hk => by
    have ih := opTo_has f s t m hm k (by omega)
    unfold opTo
    by_cases e : m = k
    · subst e
      split
      · next h => rw [St.has_add _ _ _ hm hm]; simp [h]
      · next h => rw [ih]; simp at h; simp [h]
    · have e2 : decide (m < k + 1) = decide (m < k) := by rw [decide_eq_decide]; omega
      split
      · rw [St.has_add _ _ _ (by omega) hm, ih, e2]; simp [e]
      · rw [ih, e2]
/-- Four boxes stand, and what was there. -/
def Four (w : World) (s t r : St) (W : World) : Prop := SBox s w.heap.size W ∧ SBox t (w.heap.size + 1) W ∧ SBox St.zero (w.heap.size + 1 + 1) W ∧ SBox r (w.heap.size + 1 + 1 + 1) W ∧ Below w.heap.size w W
theorem Four.drew {w W : World} {s t r : St} (h : Four w s t r W) : Four w s t r W.drew := ⟨h.1, h.2.1, h.2.2.1, h.2.2.2.1, h.2.2.2.2.drew⟩
theorem Four.nx {w W W' : World} {s t r : St} (hb : Below W.heap.size W W') (h : Four w s t r W) : Four w s t r W' := ⟨h.1.below hb, h.2.1.below hb, h.2.2.1.below hb, h.2.2.2.1.below hb, below_of h.2.2.2.2 hb⟩
theorem Four.cells {w W' : World} {s t r : St} (h : Four w s t r W') : W'.cell? ⟨w.heap.size, 0, none⟩ = some (.int .u64 s.a) ∧ W'.cell? ⟨w.heap.size, 1, none⟩ = some (.int .u64 s.b) ∧ W'.cell? ⟨w.heap.size, 2, none⟩ = some (.int .u64 s.c) ∧ W'.cell? ⟨w.heap.size, 3, none⟩ = some (.int .u64 s.d) ∧ W'.cell? ⟨w.heap.size + 1, 0, none⟩ = some (.int .u64 t.a) ∧ W'.cell? ⟨w.heap.size + 1, 1, none⟩ = some (.int .u64 t.b) ∧ W'.cell? ⟨w.heap.size + 1, 2, none⟩ = some (.int .u64 t.c) ∧ W'.cell? ⟨w.heap.size + 1, 3, none⟩ = some (.int .u64 t.d) := by
  obtain ⟨a0, a1, a2, a3⟩ := h.1.cells
  obtain ⟨b0, b1, b2, b3⟩ := h.2.1.cells
  exact ⟨a0, a1, a2, a3, b0, b1, b2, b3⟩
theorem Four.put {w W : World} {s t r : St} (q : St) (h : Four w s t r W) : Four w s t q ((((W.setCell ⟨w.heap.size + 1 + 1 + 1, 0, none⟩ (.int .u64 q.a)).setCell ⟨w.heap.size + 1 + 1 + 1, 1, none⟩ (.int .u64 q.b)).setCell ⟨w.heap.size + 1 + 1 + 1, 2, none⟩ (.int .u64 q.c)).setCell ⟨w.heap.size + 1 + 1 + 1, 3, none⟩ (.int .u64 q.d)) :=
  ⟨h.1.other4 _ _ _ _ (by omega), h.2.1.other4 _ _ _ _ (by omega), h.2.2.1.other4 _ _ _ _ (by omega), h.2.2.2.1.store q, below4 h.2.2.2.2 (by omega) _ _ _ _⟩
theorem Four.start (w : World) (s t : St) : Four w s t St.zero ((((w.alloc (.cells #[.int .u64 s.a, .int .u64 s.b, .int .u64 s.c, .int .u64 s.d] 49)).alloc (.cells #[.int .u64 t.a, .int .u64 t.b, .int .u64 t.c, .int .u64 t.d] 49)).alloc (.cells #[.int .u64 0, .int .u64 0, .int .u64 0, .int .u64 0] 49)).alloc (.cells #[.int .u64 0, .int .u64 0, .int .u64 0, .int .u64 0] 49)) := by
  have b1 := SBox.new t (w.alloc (.cells #[.int .u64 s.a, .int .u64 s.b, .int .u64 s.c, .int .u64 s.d] 49))
  rw [World.size_alloc] at b1
  have b2 := SBox.zero ((w.alloc (.cells #[.int .u64 s.a, .int .u64 s.b, .int .u64 s.c, .int .u64 s.d] 49)).alloc (.cells #[.int .u64 t.a, .int .u64 t.b, .int .u64 t.c, .int .u64 t.d] 49))
  rw [World.size_alloc, World.size_alloc] at b2
  have b3 := SBox.zero (((w.alloc (.cells #[.int .u64 s.a, .int .u64 s.b, .int .u64 s.c, .int .u64 s.d] 49)).alloc (.cells #[.int .u64 t.a, .int .u64 t.b, .int .u64 t.c, .int .u64 t.d] 49)).alloc (.cells #[.int .u64 0, .int .u64 0, .int .u64 0, .int .u64 0] 49))
  rw [World.size_alloc, World.size_alloc, World.size_alloc] at b3
  exact ⟨(((SBox.new s w).alloc _).alloc _).alloc _, (b1.alloc _).alloc _, b2.alloc _, b3, ((((Below.refl _ _).alloc (Nat.le_refl _) _).alloc (by simp <;> omega) _).alloc (by simp <;> omega) _).alloc (by simp <;> omega) _⟩

set_option maxRecDepth 100000 in
set_option maxHeartbeats 4000000 in
theorem op0_any (s t : St) (w : World) (hs : s.ok) (ht : t.ok) :
    Calls Try.prog 50 #[.int .i64 0, .agg #[.int .u64 s.a, .int .u64 s.b, .int .u64 s.c, .int .u64 s.d], .agg #[.int .u64 t.a, .int .u64 t.b, .int .u64 t.c, .int .u64 t.d]] w fun e w' => e = .returned (.agg #[.int .u64 (opTo (fun x y => x || y) s t 256).a, .int .u64 (opTo (fun x y => x || y) s t 256).b, .int .u64 (opTo (fun x y => x || y) s t 256).c, .int .u64 (opTo (fun x y => x || y) s t 256).d]) ∧ Below w.heap.size w w' := by
  have T0 := Four.start w s t
  go_enter Try.func50, Try.ntmps50
  go_wp2
  go_loopw [8] (fun i wr => ∃ (k : Nat) (r : St), k ≤ 256 ∧ i = .int .i64 k ∧ r = opTo (fun x y => x || y) s t k ∧ Four w s t r wr) (fun i _ => 256 - (intOf i).toNat)
  case atStart => exact ⟨0, St.zero, by omega, rfl, rfl, T0⟩
  case round =>
    clear T0
    obtain ⟨k, r, hk, rfl, hr, T⟩ := hrel
    have hok : r.ok := by rw [hr]; exact opTo_ok _ s t k
    by_cases hlt : k < 256
    · have HX : Hid _ := fun w => rhas_any s k w hs hlt
      have HY : Hid _ := fun w => rhas_any t k w ht hlt
      have HW : Hid _ := fun w => rwith_any r k w hok hlt
      obtain ⟨q, hqe⟩ : ∃ q, r.add k = q := ⟨_, rfl⟩
      rw [hqe] at HW
      have TC := T.cells
      rcases Bool.eq_false_or_eq_true (s.has k) with hx | hx <;> rcases Bool.eq_false_or_eq_true (t.has k) with hy | hy
      · have hx : s.has k = true := by assumption
        have hy : t.has k = true := by assumption
        rw [hx] at HX
        rw [hy] at HY
        have HT : Hid (opTo (fun x y => x || y) s t (k + 1) = q) := by show _ = _; rw [← hqe]; simp [opTo, hx, hy, hr]
        clear hx hy hr hqe
        go_wp2
        go_region_held3 (fun W' => W'.cell? ⟨w.heap.size, 0, none⟩ = some (.int .u64 s.a) ∧ W'.cell? ⟨w.heap.size, 1, none⟩ = some (.int .u64 s.b) ∧ W'.cell? ⟨w.heap.size, 2, none⟩ = some (.int .u64 s.c) ∧ W'.cell? ⟨w.heap.size, 3, none⟩ = some (.int .u64 s.d) ∧ W'.cell? ⟨w.heap.size + 1, 0, none⟩ = some (.int .u64 t.a) ∧ W'.cell? ⟨w.heap.size + 1, 1, none⟩ = some (.int .u64 t.b) ∧ W'.cell? ⟨w.heap.size + 1, 2, none⟩ = some (.int .u64 t.c) ∧ W'.cell? ⟨w.heap.size + 1, 3, none⟩ = some (.int .u64 t.d)) (exact T.cells) (first | (go_at_call_of 67 s.a; refine (HX.out _).mono ?_; rintro e w1 ⟨rfl, hb1⟩; replace T : Four w s t r w1 := (by first | exact Four.nx hb1 T | exact Four.nx hb1 T.drew); clear hb1) | (go_at_call_of 67 t.a; refine (HY.out _).mono ?_; rintro e w1 ⟨rfl, hb1⟩; replace T : Four w s t r w1 := (by first | exact Four.nx hb1 T | exact Four.nx hb1 T.drew); clear hb1))
        obtain ⟨c0, c1, c2, c3⟩ := T.2.2.2.1.cells
        have ff := T.2.2.2.1.frozen
        go_wp2_with (go_at_call 68; refine (HW.out _).mono ?_)
        rintro e w1 ⟨rfl, hb1⟩
        replace T := Four.nx hb1 T
        obtain ⟨c0, c1, c2, c3⟩ := T.2.2.2.1.cells
        have ff := T.2.2.2.1.frozen
        go_wp2
        exact ⟨⟨k + 1, q, by omega, by go_num, by rw [HT.out], T.put q⟩, by simp [intOf]; omega⟩
      · have hx : s.has k = true := by assumption
        have hy : t.has k = false := by assumption
        rw [hx] at HX
        rw [hy] at HY
        have HT : Hid (opTo (fun x y => x || y) s t (k + 1) = q) := by show _ = _; rw [← hqe]; simp [opTo, hx, hy, hr]
        clear hx hy hr hqe
        go_wp2
        go_region_held3 (fun W' => W'.cell? ⟨w.heap.size, 0, none⟩ = some (.int .u64 s.a) ∧ W'.cell? ⟨w.heap.size, 1, none⟩ = some (.int .u64 s.b) ∧ W'.cell? ⟨w.heap.size, 2, none⟩ = some (.int .u64 s.c) ∧ W'.cell? ⟨w.heap.size, 3, none⟩ = some (.int .u64 s.d) ∧ W'.cell? ⟨w.heap.size + 1, 0, none⟩ = some (.int .u64 t.a) ∧ W'.cell? ⟨w.heap.size + 1, 1, none⟩ = some (.int .u64 t.b) ∧ W'.cell? ⟨w.heap.size + 1, 2, none⟩ = some (.int .u64 t.c) ∧ W'.cell? ⟨w.heap.size + 1, 3, none⟩ = some (.int .u64 t.d)) (exact T.cells) (first | (go_at_call_of 67 s.a; refine (HX.out _).mono ?_; rintro e w1 ⟨rfl, hb1⟩; replace T : Four w s t r w1 := (by first | exact Four.nx hb1 T | exact Four.nx hb1 T.drew); clear hb1) | (go_at_call_of 67 t.a; refine (HY.out _).mono ?_; rintro e w1 ⟨rfl, hb1⟩; replace T : Four w s t r w1 := (by first | exact Four.nx hb1 T | exact Four.nx hb1 T.drew); clear hb1))
        obtain ⟨c0, c1, c2, c3⟩ := T.2.2.2.1.cells
        have ff := T.2.2.2.1.frozen
        go_wp2_with (go_at_call 68; refine (HW.out _).mono ?_)
        rintro e w1 ⟨rfl, hb1⟩
        replace T := Four.nx hb1 T
        obtain ⟨c0, c1, c2, c3⟩ := T.2.2.2.1.cells
        have ff := T.2.2.2.1.frozen
        go_wp2
        exact ⟨⟨k + 1, q, by omega, by go_num, by rw [HT.out], T.put q⟩, by simp [intOf]; omega⟩
      · have hx : s.has k = false := by assumption
        have hy : t.has k = true := by assumption
        rw [hx] at HX
        rw [hy] at HY
        have HT : Hid (opTo (fun x y => x || y) s t (k + 1) = q) := by show _ = _; rw [← hqe]; simp [opTo, hx, hy, hr]
        clear hx hy hr hqe
        go_wp2
        go_region_held3 (fun W' => W'.cell? ⟨w.heap.size, 0, none⟩ = some (.int .u64 s.a) ∧ W'.cell? ⟨w.heap.size, 1, none⟩ = some (.int .u64 s.b) ∧ W'.cell? ⟨w.heap.size, 2, none⟩ = some (.int .u64 s.c) ∧ W'.cell? ⟨w.heap.size, 3, none⟩ = some (.int .u64 s.d) ∧ W'.cell? ⟨w.heap.size + 1, 0, none⟩ = some (.int .u64 t.a) ∧ W'.cell? ⟨w.heap.size + 1, 1, none⟩ = some (.int .u64 t.b) ∧ W'.cell? ⟨w.heap.size + 1, 2, none⟩ = some (.int .u64 t.c) ∧ W'.cell? ⟨w.heap.size + 1, 3, none⟩ = some (.int .u64 t.d)) (exact T.cells) (first | (go_at_call_of 67 s.a; refine (HX.out _).mono ?_; rintro e w1 ⟨rfl, hb1⟩; replace T : Four w s t r w1 := (by first | exact Four.nx hb1 T | exact Four.nx hb1 T.drew); clear hb1) | (go_at_call_of 67 t.a; refine (HY.out _).mono ?_; rintro e w1 ⟨rfl, hb1⟩; replace T : Four w s t r w1 := (by first | exact Four.nx hb1 T | exact Four.nx hb1 T.drew); clear hb1))
        obtain ⟨c0, c1, c2, c3⟩ := T.2.2.2.1.cells
        have ff := T.2.2.2.1.frozen
        go_wp2_with (go_at_call 68; refine (HW.out _).mono ?_)
        rintro e w1 ⟨rfl, hb1⟩
        replace T := Four.nx hb1 T
        obtain ⟨c0, c1, c2, c3⟩ := T.2.2.2.1.cells
        have ff := T.2.2.2.1.frozen
        go_wp2
        exact ⟨⟨k + 1, q, by omega, by go_num, by rw [HT.out], T.put q⟩, by simp [intOf]; omega⟩
      · have hx : s.has k = false := by assumption
        have hy : t.has k = false := by assumption
        rw [hx] at HX
        rw [hy] at HY
        have HT : Hid (opTo (fun x y => x || y) s t (k + 1) = r) := by show _ = _; simp [opTo, hx, hy, hr]
        clear hx hy hr
        go_wp2
        go_region_held3 (fun W' => W'.cell? ⟨w.heap.size, 0, none⟩ = some (.int .u64 s.a) ∧ W'.cell? ⟨w.heap.size, 1, none⟩ = some (.int .u64 s.b) ∧ W'.cell? ⟨w.heap.size, 2, none⟩ = some (.int .u64 s.c) ∧ W'.cell? ⟨w.heap.size, 3, none⟩ = some (.int .u64 s.d) ∧ W'.cell? ⟨w.heap.size + 1, 0, none⟩ = some (.int .u64 t.a) ∧ W'.cell? ⟨w.heap.size + 1, 1, none⟩ = some (.int .u64 t.b) ∧ W'.cell? ⟨w.heap.size + 1, 2, none⟩ = some (.int .u64 t.c) ∧ W'.cell? ⟨w.heap.size + 1, 3, none⟩ = some (.int .u64 t.d)) (exact T.cells) (first | (go_at_call_of 67 s.a; refine (HX.out _).mono ?_; rintro e w1 ⟨rfl, hb1⟩; replace T : Four w s t r w1 := (by first | exact Four.nx hb1 T | exact Four.nx hb1 T.drew); clear hb1) | (go_at_call_of 67 t.a; refine (HY.out _).mono ?_; rintro e w1 ⟨rfl, hb1⟩; replace T : Four w s t r w1 := (by first | exact Four.nx hb1 T | exact Four.nx hb1 T.drew); clear hb1))
        go_wp2
        exact ⟨⟨k + 1, r, by omega, by go_num, by rw [HT.out], T⟩, by simp [intOf]; omega⟩
    · obtain rfl : k = 256 := by omega
      have HT0 : Hid _ := hr
      clear hr
      have ff0 := T.2.2.1.frozen
      obtain ⟨d0, d1, d2, d3⟩ := T.2.2.1.cells
      obtain ⟨c0, c1, c2, c3⟩ := T.2.2.2.1.cells
      simp only [St.zero] at d0 d1 d2 d3
      go_wp2
      refine bodyPost_ret (v := .agg #[.int .u64 r.a, .int .u64 r.b, .int .u64 r.c, .int .u64 r.d]) (by simp [results, Try.results50, go_sem, d0, d1, d2, d3]) rfl ⟨by rw [HT0.out], ?_⟩
      exact below4 T.2.2.2.2 (by omega) _ _ _ _

end Go.Proofs.Ytopbibhpekjaeaa
