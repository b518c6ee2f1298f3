/- (*scanner).pass: a word gets its place, and the scanner goes over it. -/
import Derived.Test.YtbbmjnhbmcbehaaN12
import Derived.Test.YtbbmjnhbmcbehaaN8
import Derived.BigRegion
namespace Go.Proofs.Ytbbmjnhbmcbehaa
open Go.RowKit

theorem grown_drew {w W : World} {r : Option Nat} (h : w.grownBy W r) : w.grownBy W.drew r := ⟨h.os, h.tape, h.output, h.size, h.block⟩
set_option maxRecDepth 100000 in
set_option maxHeartbeats 4000000 in
theorem pass_any (x : ByteArray) (b p ln bg : Nat) (k : Nat) (t : ByteArray) (va : Option Addr) (vn vc : Nat) (s : St) (n : Nat) (w : World) (hp : p + t.size ≤ 65536) (hbg : bg ≤ p) (hb : Sc w b x p ln bg) :
    Calls Try.prog 31 #[.pointer (some ⟨b, 0, none⟩), wv k t (.slice va vn vc) s n 0 0 0] w fun e w' => e = .returned (wv k t (.slice va vn vc) s n p ln (p - bg + 1)) ∧ Sc w' b x (p + t.size) ln bg ∧ w.grownBy w' (some b) := by
  have e0 := Blk.cell hb 0 (v := .string x) rfl
  have e1 := Blk.cell hb 1 (v := .int .i64 (p : Int)) rfl
  have e2 := Blk.cell hb 2 (v := .int .i64 (ln : Int)) rfl
  have e3 := Blk.cell hb 3 (v := .int .i64 (bg : Int)) rfl
  have z := Blk.frozen hb
  have hl := Blk.lt hb
  have hpi : (p : Int) + t.size ≤ 65536 := by omega
  have hbi : (bg : Int) ≤ p := by omega
  have hl1 : b ≠ w.heap.size := by omega
  unfold wv
  go_enter Try.func31, Try.ntmps31
  go_wp2
  go_region
  all_goals go_wp2
  go_region
  all_goals go_wp2
  have hcol : (p : Int) - bg + 1 = ((p - bg + 1 : Nat) : Int) := by omega
  refine bodyPost_ret (v := .agg #[.int .i64 (k : Int), .string t, .slice va vn vc, .int .u64 (s.a : Int), .int .u64 (s.b : Int), .int .u64 (s.c : Int), .int .u64 (s.d : Int), .int .i64 (n : Int), .int .i64 (p : Int), .int .i64 (ln : Int), .int .i64 ((p : Int) - bg + 1)]) (by simp [results, Try.results31, go_sem]) rfl ⟨by rw [hcol], ?_, ?_⟩
  · exact (Blk.alloc (Blk.alloc (Blk.set hb 1 (.int .i64 ((p : Int) + t.size))) _) _)
  · exact grown_drew (grown_drew (grown_trans (grown_trans (grownBy_setCell w b 1 _) (World.grownBy_alloc _ _ _)) (World.grownBy_alloc _ _ _)))
end Go.Proofs.Ytbbmjnhbmcbehaa
