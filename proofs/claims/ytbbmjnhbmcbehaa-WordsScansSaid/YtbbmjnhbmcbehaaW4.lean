/- What Within, Minus and Range answer, at every input and in every memory: each call returns, and turns nothing that was there. -/
import Derived.Test.YtbbmjnhbmcbehaaProg
import Derived.Test.YtbbmjnhbmcbehaaW2
import Derived.Deep.RegionHeld3
import Derived.RegionTactic
import Derived.ChangeAlike
import Derived.Deep.DrawnRows
import Derived.Deep.RegionWith
import Derived.BigRegion
namespace Go.Proofs.Ytbbmjnhbmcbehaa
open Go.RowKit

theorem bcell {W w1 : World} (hb : Below W.heap.size W w1) : (∀ b o, b < W.heap.size → w1.cell? ⟨b, o, none⟩ = W.cell? ⟨b, o, none⟩) ∧ (∀ b o, b < W.heap.size → w1.frozen? ⟨b, o, none⟩ = W.frozen? ⟨b, o, none⟩) :=
  ⟨fun b o h => hb.cell (p := ⟨b, o, none⟩) h, fun b o h => hb.frozen (p := ⟨b, o, none⟩) h⟩
theorem setCell_drewN (w : World) (n : Nat) (a : Addr) (v : Value) : (w.drewN n).setCell a v = (w.setCell a v).drewN n := rfl
theorem below_of {w W w2 : World} (h : Below w.heap.size w W) (hb : Below W.heap.size W w2) : Below w.heap.size w w2 := h.trans (hb.mono h.size)

attribute [local go_sem] setCell_drewN
def rng (lo : Nat) : Nat → St
  | 0 => St.zero
  | k + 1 => (rng lo k).add (lo + k)
theorem rng_ok (lo : Nat) : ∀ k, (rng lo k).ok
  | 0 => St.zero_ok
  | k + 1 => St.add_ok (rng_ok lo k) _
set_option maxRecDepth 100000 in
set_option maxHeartbeats 1000000 in
theorem range_any (lo hi : Nat) (w : World) (h1 : hi ≤ 255) (h2 : lo ≤ hi) :
    Calls Try.prog 101 #[.int .i64 lo, .int .i64 hi] w fun e w' => e = .returned (.tuple #[.agg #[.int .u64 (rng lo (hi + 1 - lo)).a, .int .u64 (rng lo (hi + 1 - lo)).b, .int .u64 (rng lo (hi + 1 - lo)).c, .int .u64 (rng lo (hi + 1 - lo)).d], .int .i64 0]) ∧ Below w.heap.size w w' := by
  have g1 : decide ((lo : Int) < 0) = false := by simp
  have g2 : decide ((255 : Int) < (hi : Int)) = false := by simp; omega
  have g3 : decide ((hi : Int) < (lo : Int)) = false := by simp; omega
  go_enter Try.func101, Try.ntmps101
  go_wp2
  go_loopw [7] (fun i wr => ∃ (k : Nat) (t : St) (nq : Nat), lo + k ≤ hi + 1 ∧ i = .int .i64 (lo + k : Nat) ∧ t = rng lo k ∧ wr = ((w.alloc (.cells #[.int .u64 0, .int .u64 0, .int .u64 0, .int .u64 0] 33)).alloc (.cells #[.int .u64 t.a, .int .u64 t.b, .int .u64 t.c, .int .u64 t.d] 33)).drewN nq) (fun i _ => hi + 1 - (intOf i).toNat)
  case atStart => exact ⟨0, St.zero, 0, by omega, rfl, rfl, rfl⟩
  case round =>
    obtain ⟨k, t, nq, hk, rfl, ht, rfl⟩ := hrel
    have hok : t.ok := by rw [ht]; exact rng_ok lo k
    by_cases hlt : lo + k ≤ hi
    · have HT : Hid (t.add (lo + k) = rng lo (k + 1)) := by show _ = _; rw [ht]; rfl
      clear ht
      have HV : Hid (lo + k + 1 = lo + (k + 1)) := by show _ = _; omega
      generalize lo + k = v at *
      have hq : v / 64 = 0 ∨ v / 64 = 1 ∨ v / 64 = 2 ∨ v / 64 = 3 := by omega
      have b0 := or_pow t.a (v % 64) hok.1 (Nat.mod_lt _ (by omega))
      have b1 := or_pow t.b (v % 64) hok.2.1 (Nat.mod_lt _ (by omega))
      have b2 := or_pow t.c (v % 64) hok.2.2.1 (Nat.mod_lt _ (by omega))
      have b3 := or_pow t.d (v % 64) hok.2.2.2 (Nat.mod_lt _ (by omega))
      rcases hq with hq | hq | hq | hq
      · have E : Hid _ := St.add0 t v hq
        go_wp2
        go_region
        go_wp2
        exact ⟨⟨k + 1, t.add v, nq + 1, by have := HV.out; omega, by rw [← HV.out]; go_num, HT.out, by rw [E.out]⟩, by simp [intOf]; omega⟩
      · have E : Hid _ := St.add1 t v hq
        go_wp2
        go_region
        go_wp2
        exact ⟨⟨k + 1, t.add v, nq + 1, by have := HV.out; omega, by rw [← HV.out]; go_num, HT.out, by rw [E.out]⟩, by simp [intOf]; omega⟩
      · have E : Hid _ := St.add2 t v hq
        go_wp2
        go_region
        go_wp2
        exact ⟨⟨k + 1, t.add v, nq + 1, by have := HV.out; omega, by rw [← HV.out]; go_num, HT.out, by rw [E.out]⟩, by simp [intOf]; omega⟩
      · have E : Hid _ := St.add3 t v hq
        go_wp2
        go_region
        go_wp2
        exact ⟨⟨k + 1, t.add v, nq + 1, by have := HV.out; omega, by rw [← HV.out]; go_num, HT.out, by rw [E.out]⟩, by simp [intOf]; omega⟩
    · have e : hi + 1 - lo = k := by omega
      subst ht
      go_wp2
      refine bodyPost_ret (v := .tuple #[.agg #[.int .u64 (rng lo k).a, .int .u64 (rng lo k).b, .int .u64 (rng lo k).c, .int .u64 (rng lo k).d], .int .i64 0]) (by simp [results, Try.results101, go_sem]) rfl ⟨by rw [e], ?_⟩
      exact below_drewN (((Below.refl _ _).alloc (Nat.le_refl _) _).alloc (by simp <;> omega) _) _
set_option maxRecDepth 100000 in
set_option maxHeartbeats 1000000 in
theorem range_bad (lo hi : Int) (w : World) (h : lo < 0 ∨ 255 < hi ∨ hi < lo) :
    Calls Try.prog 101 #[.int .i64 lo, .int .i64 hi] w fun e w' => e = .returned (.tuple #[.agg #[.int .u64 0, .int .u64 0, .int .u64 0, .int .u64 0], .int .i64 10]) ∧ Below w.heap.size w w' := by
  by_cases h1 : lo < 0
  · go_enter Try.func101, Try.ntmps101
    go_wp2
    refine bodyPost_ret (v := .tuple #[.agg #[.int .u64 0, .int .u64 0, .int .u64 0, .int .u64 0], .int .i64 10]) (by simp [results, Try.results101, go_sem]) rfl ⟨rfl, ?_⟩
    exact (Below.refl _ _).alloc (Nat.le_refl _) _
  · by_cases h2 : 255 < hi
    · have g1 : decide (lo < 0) = false := by simp; omega
      go_enter Try.func101, Try.ntmps101
      go_wp2
      refine bodyPost_ret (v := .tuple #[.agg #[.int .u64 0, .int .u64 0, .int .u64 0, .int .u64 0], .int .i64 10]) (by simp [results, Try.results101, go_sem]) rfl ⟨rfl, ?_⟩
      exact (Below.refl _ _).alloc (Nat.le_refl _) _
    · have h3 : hi < lo := by omega
      have g1 : decide (lo < 0) = false := by simp; omega
      have g2 : decide (255 < hi) = false := by simp; omega
      go_enter Try.func101, Try.ntmps101
      go_wp2
      refine bodyPost_ret (v := .tuple #[.agg #[.int .u64 0, .int .u64 0, .int .u64 0, .int .u64 0], .int .i64 10]) (by simp [results, Try.results101, go_sem]) rfl ⟨rfl, ?_⟩
      exact (Below.refl _ _).alloc (Nat.le_refl _) _

end Go.Proofs.Ytbbmjnhbmcbehaa
