/- The document's own answers Of and Range: the sets that they build byte by byte. -/
import Derived.Test.YtpjnohpjdmgglaaW6
import Derived.Test.YtpjnohpjdmgglaaR1
namespace Go.Proofs.Ytpjnohpjdmgglaa
open Go.RowKit

theorem heap_set {W : World} {B i : Nat} {c : Array Value} {t : TypeId} {fz : Nat × Nat} (v : Value) (h : W.heap[B]? = some (.cells c t fz)) : (W.setCell ⟨B, i, none⟩ v).heap[B]? = some (.cells (c.setIfInBounds i v) t fz) := by
  obtain ⟨hlt, hk⟩ := Array.getElem?_eq_some_iff.1 h
  show (W.heap.modify B _)[B]? = _
  rw [Array.getElem?_eq_getElem (by rw [Array.size_modify]; exact hlt), Array.getElem_modify_self, hk]
  rfl
theorem SBox.store {s : St} {B : Nat} {W : World} (t : St) (h : SBox s B W) : SBox t B ((((W.setCell ⟨B, 0, none⟩ (.int .u64 t.a)).setCell ⟨B, 1, none⟩ (.int .u64 t.b)).setCell ⟨B, 2, none⟩ (.int .u64 t.c)).setCell ⟨B, 3, none⟩ (.int .u64 t.d)) := by
  have := heap_set (i := 3) (.int .u64 t.d) (heap_set (i := 2) (.int .u64 t.c) (heap_set (i := 1) (.int .u64 t.b) (heap_set (i := 0) (.int .u64 t.a) h)))
  exact this
theorem SBox.other {s : St} {B B' i : Nat} {W : World} (v : Value) (h : SBox s B W) (hn : B ≠ B') : SBox s B (W.setCell ⟨B', i, none⟩ v) := (Below.heap_setCell W ⟨B', i, none⟩ v B hn).trans h
theorem SBox.other4 {s : St} {B B' : Nat} {W : World} (v0 v1 v2 v3 : Value) (h : SBox s B W) (hn : B ≠ B') : SBox s B ((((W.setCell ⟨B', 0, none⟩ v0).setCell ⟨B', 1, none⟩ v1).setCell ⟨B', 2, none⟩ v2).setCell ⟨B', 3, none⟩ v3) :=
  (((h.other v0 hn).other v1 hn).other v2 hn).other v3 hn
theorem SBox.below {s : St} {B : Nat} {W W' : World} (h : SBox s B W) (hb : Below W.heap.size W W') : SBox s B W' := (hb.block B h.lt).trans h
theorem SBox.frozen {s : St} {B : Nat} {W : World} (h : SBox s B W) : ∀ o, W.frozen? ⟨B, o, none⟩ = false := fun o => by simp [World.frozen?, show W.heap[B]? = _ from h]
theorem SBox.zero (W : World) : SBox St.zero W.heap.size (W.alloc (.cells #[.int .u64 0, .int .u64 0, .int .u64 0, .int .u64 0] 26)) := World.alloc_heap_new W _
theorem below4 {w W : World} {n B : Nat} (h : Below n w W) (hB : n ≤ B) (v0 v1 v2 v3 : Value) : Below n w ((((W.setCell ⟨B, 0, none⟩ v0).setCell ⟨B, 1, none⟩ v1).setCell ⟨B, 2, none⟩ v2).setCell ⟨B, 3, none⟩ v3) :=
  (((h.setCell (p := ⟨B, 0, none⟩) hB _).setCell (p := ⟨B, 1, none⟩) hB _).setCell (p := ⟨B, 2, none⟩) hB _).setCell (p := ⟨B, 3, none⟩) hB _

set_option maxHeartbeats 2000000 in
theorem rrange_any (lo hi : Nat) (w : World) (h1 : hi ≤ 255) (h2 : lo ≤ hi) :
    Calls Try.prog 12 #[.int .i64 lo, .int .i64 hi] w fun e w' => e = .returned (.tuple #[.agg #[.int .u64 (rng lo (hi + 1 - lo)).a, .int .u64 (rng lo (hi + 1 - lo)).b, .int .u64 (rng lo (hi + 1 - lo)).c, .int .u64 (rng lo (hi + 1 - lo)).d], .int .i64 0]) ∧ Below w.heap.size w w' := by
  have g1 : decide ((lo : Int) < 0) = false := by simp
  have g2 : decide ((255 : Int) < (hi : Int)) = false := by simp; omega
  have g3 : decide ((hi : Int) < (lo : Int)) = false := by simp; omega
  have g3' : decide (hi < lo) = false := by simp; omega
  have z0 := (SBox.zero w).alloc (.cells #[.int .u64 0, .int .u64 0, .int .u64 0, .int .u64 0] 26)
  have z1 := SBox.zero (w.alloc (.cells #[.int .u64 0, .int .u64 0, .int .u64 0, .int .u64 0] 26))
  rw [World.size_alloc] at z1
  have hb0 : Below w.heap.size w ((w.alloc (.cells #[.int .u64 0, .int .u64 0, .int .u64 0, .int .u64 0] 26)).alloc (.cells #[.int .u64 0, .int .u64 0, .int .u64 0, .int .u64 0] 26)) := ((Below.refl _ _).alloc (Nat.le_refl _) _).alloc (by simp <;> omega) _
  go_enter Try.func12, Try.ntmps12
  go_wp2
  go_loopw [7] (fun i wr => ∃ (k : Nat) (t : St), lo + k ≤ hi + 1 ∧ i = .int .i64 (lo + k : Nat) ∧ t = rng lo k ∧ SBox St.zero w.heap.size wr ∧ SBox t (w.heap.size + 1) wr ∧ Below w.heap.size w wr) (fun i _ => hi + 1 - (intOf i).toNat)
  case atStart => exact ⟨0, St.zero, by omega, rfl, rfl, z0, z1, hb0⟩
  case round =>
    clear z0 z1 hb0
    obtain ⟨k, t, hk, rfl, ht, y0, y1, hB⟩ := hrel
    have hok : t.ok := by rw [ht]; exact rng_ok lo k
    obtain ⟨c0, c1, c2, c3⟩ := y1.cells
    have ff := y1.frozen
    by_cases hlt : lo + k ≤ hi
    · have HT : Hid (t.add (lo + k) = rng lo (k + 1)) := by show _ = _; rw [ht]; rfl
      have HV : Hid (lo + k + 1 = lo + (k + 1)) := by show _ = _; omega
      clear ht
      have HW : Hid _ := fun w => rwith_any t (lo + k) w hok (by omega)
      generalize t.add (lo + k) = r at *
      generalize lo + k = v at *
      go_wp2_with (go_at_call 33; refine (HW.out _).mono ?_)
      rintro e w1 ⟨rfl, hb1⟩
      have x0 := y0.below hb1
      have x1 := y1.below hb1
      obtain ⟨c0, c1, c2, c3⟩ := x1.cells
      have ff := x1.frozen
      go_wp2
      exact ⟨⟨k + 1, r, by have := HV.out; omega, by rw [← HV.out]; go_num, HT.out, x0.other4 _ _ _ _ (by omega), x1.store r, below4 (below_of hB hb1) (by omega) _ _ _ _⟩, by simp [intOf]; omega⟩
    · have e : hi + 1 - lo = k := by omega
      have HT0 : Hid (t = rng lo k) := ht
      clear ht
      have ff0 := y0.frozen
      obtain ⟨d0, d1, d2, d3⟩ := y0.cells
      simp only [St.zero] at d0 d1 d2 d3
      go_wp2
      refine bodyPost_ret (v := .tuple #[.agg #[.int .u64 t.a, .int .u64 t.b, .int .u64 t.c, .int .u64 t.d], .int .i64 0]) (by simp [results, Try.results12, go_sem, d0, d1, d2, d3]) rfl ⟨by rw [e, HT0.out], ?_⟩
      exact below4 hB (Nat.le_refl _) _ _ _ _
set_option maxHeartbeats 1000000 in
theorem rrange_bad (lo hi : Int) (w : World) (h : lo < 0 ∨ 255 < hi ∨ hi < lo) :
    Calls Try.prog 12 #[.int .i64 lo, .int .i64 hi] w fun e w' => e = .returned (.tuple #[.agg #[.int .u64 0, .int .u64 0, .int .u64 0, .int .u64 0], .int .i64 10]) ∧ Below w.heap.size w w' := by
  by_cases h1 : lo < 0
  · go_enter Try.func12, Try.ntmps12
    go_wp2
    refine bodyPost_ret (v := .tuple #[.agg #[.int .u64 0, .int .u64 0, .int .u64 0, .int .u64 0], .int .i64 10]) (by simp [results, Try.results12, go_sem]) rfl ⟨rfl, ?_⟩
    exact ((Below.refl _ _).alloc (Nat.le_refl _) _).alloc (by simp <;> omega) _
  · by_cases h2 : 255 < hi
    · have g1 : decide (lo < 0) = false := by simp; omega
      go_enter Try.func12, Try.ntmps12
      go_wp2
      refine bodyPost_ret (v := .tuple #[.agg #[.int .u64 0, .int .u64 0, .int .u64 0, .int .u64 0], .int .i64 10]) (by simp [results, Try.results12, go_sem]) rfl ⟨rfl, ?_⟩
      exact ((Below.refl _ _).alloc (Nat.le_refl _) _).alloc (by simp <;> omega) _
    · have h3 : hi < lo := by omega
      have g1 : decide (lo < 0) = false := by simp; omega
      have g2 : decide (255 < hi) = false := by simp; omega
      go_enter Try.func12, Try.ntmps12
      go_wp2
      refine bodyPost_ret (v := .tuple #[.agg #[.int .u64 0, .int .u64 0, .int .u64 0, .int .u64 0], .int .i64 10]) (by simp [results, Try.results12, go_sem]) rfl ⟨rfl, ?_⟩
      exact ((Below.refl _ _).alloc (Nat.le_refl _) _).alloc (by simp <;> omega) _

end Go.Proofs.Ytpjnohpjdmgglaa
