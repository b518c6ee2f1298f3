/- Grammars that are the same are told as the same. -/
import Derived.Test.YtopbibhpekjaeaaP2
import Derived.Test.YtopbibhpekjaeaaT0
import Derived.Deep.RegionHeld3
namespace Go.Proofs.Ytopbibhpekjaeaa
open Go.RowKit

theorem eq49d (s : St) (w : World) : (Op.equalIn 9999 49 (.agg #[.int .u64 s.a, .int .u64 s.b, .int .u64 s.c, .int .u64 s.d]) (.agg #[.int .u64 s.a, .int .u64 s.b, .int .u64 s.c, .int .u64 s.d])).run Try.prog w = .ok true w := by
  have hp : ∀ (x0 x1 x2 x3 : Value) w, ((part 47 #[x0, x1, x2, x3] 0).run Try.prog w = .ok x0 w) ∧ ((part 47 #[x0, x1, x2, x3] 1).run Try.prog w = .ok x1 w) ∧ ((part 47 #[x0, x1, x2, x3] 2).run Try.prog w = .ok x2 w) ∧ ((part 47 #[x0, x1, x2, x3] 3).run Try.prog w = .ok x3 w) := by
    intro x0 x1 x2 x3 w
    refine ⟨?_, ?_, ?_, ?_⟩ <;> kernel_rfl
  have hz : ∀ w, (sizeOf 47).run Try.prog w = .ok 1 w := fun w => by kernel_rfl
  have he : ∀ (a b : Nat) w, (Op.equalIn 9998 47 (.int .u64 a) (.int .u64 b)).run Try.prog w = .ok ((a : Int) == (b : Int)) w := fun a b w => run_equalIn_int w 9997 47 .u64 .u64 a b Try.underlying47
  rw [show (9999 : Nat) = 9998 + 1 from rfl]
  rw [Op.equalIn]
  simp only [Sem.run_bind, run_underlying Try.underlying49, Result.andThen_ok]
  simp [Std.Legacy.Range.forIn_eq_forIn_range', List.range', hz, hp, he]
theorem eq56 (n : Int) (s : St) (w : World) : (Op.equalIn 10000 56 (.agg #[.int .i64 n, .int .u64 s.a, .int .u64 s.b, .int .u64 s.c, .int .u64 s.d]) (.agg #[.int .i64 n, .int .u64 s.a, .int .u64 s.b, .int .u64 s.c, .int .u64 s.d])).run Try.prog w = .ok true w := by
  have hp : ∀ (x0 x1 x2 x3 x4 : Value) w, ((part 3 #[x0, x1, x2, x3, x4] 0).run Try.prog w = .ok x0 w) ∧ ((part 49 #[x0, x1, x2, x3, x4] 1).run Try.prog w = .ok (.agg #[x1, x2, x3, x4]) w) := by
    intro x0 x1 x2 x3 x4 w
    refine ⟨?_, ?_⟩ <;> kernel_rfl
  have h0 : Try.prog.stoodInHeld 56 = false := by kernel_rfl
  have he : ∀ (a b : Int) w, (Op.equalIn 9999 3 (.int .i64 a) (.int .i64 b)).run Try.prog w = .ok (a == b) w := fun a b w => run_equalIn_int w 9998 3 .i64 .i64 a b Try.underlying3
  rw [show (10000 : Nat) = 9999 + 1 from rfl]
  rw [Op.equalIn]
  simp only [Sem.run_bind, run_underlying Try.underlying56, Result.andThen_ok]
  simp [h0, hp, he, eq49d]
set_option maxRecDepth 100000 in
set_option maxHeartbeats 4000000 in
theorem sameRule_any (R : Rl) (a b : Option Addr) (ca cb : Nat) (w : World) (hA : KAt w w.heap.size a R.rhs) (hB : KAt w w.heap.size b R.rhs) :
    Calls Try.prog 41 #[.agg #[.int .i64 R.lhs, .slice a R.rhs.length ca], .agg #[.int .i64 R.lhs, .slice b R.rhs.length cb]] w fun e w' => e = .returned (.bool true) ∧ Below w.heap.size w w' := by
  have hlen := hA.len
  obtain ⟨n, hn⟩ : ∃ n, R.rhs.length = n := ⟨_, rfl⟩
  rw [hn] at hlen ⊢
  have hB0 : Below w.heap.size w ((w.alloc (.cells #[.int .i64 R.lhs, .slice a n ca] 52)).alloc (.cells #[.int .i64 R.lhs, .slice b n cb] 52)) := ((Below.refl _ _).alloc (Nat.le_refl _) _).alloc (by simp) _
  have c1 : ((w.alloc (.cells #[.int .i64 R.lhs, .slice a n ca] 52)).alloc (.cells #[.int .i64 R.lhs, .slice b n cb] 52)).cell? ⟨w.heap.size, 1, none⟩ = some (.slice a n ca) := by
    rw [World.cell?_alloc_past _ _ _ (by simp)]; exact cell_new 1 rfl
  have d1 : ((w.alloc (.cells #[.int .i64 R.lhs, .slice a n ca] 52)).alloc (.cells #[.int .i64 R.lhs, .slice b n cb] 52)).cell? ⟨w.heap.size + 1, 1, none⟩ = some (.slice b n cb) := by simp
  go_enter Try.func41, Try.ntmps41
  go_wp2
  go_loopw [5] (fun i W => ∃ k : Nat, k ≤ n ∧ i = .int .i64 k ∧ Below w.heap.size w W ∧ W.cell? ⟨w.heap.size, 1, none⟩ = some (.slice a n ca) ∧ W.cell? ⟨w.heap.size + 1, 1, none⟩ = some (.slice b n cb)) (fun i _ => n - (intOf i).toNat)
  case atStart => exact ⟨0, by omega, rfl, hB0, c1, d1⟩
  case round =>
    obtain ⟨k, hk, rfl, hBw, e1, f1⟩ := hrel
    clear c1 d1 hB0
    by_cases hlt : k < n
    · obtain ⟨s, hs⟩ : ∃ s, R.rhs[k]? = some s := ⟨R.rhs[k]'(by omega), by simp⟩
      obtain ⟨x, o, rfl, hx, _, x0, x1, x2, x3, x4⟩ := (hA.keep hBw).cells k s hs
      obtain ⟨y, q, rfl, hy, _, y0, y1, y2, y3, y4⟩ := (hB.keep hBw).cells k s hs
      have hkI : (k : Int) < n := by omega
      have he := fun w => eq56 s.nt s.set w
      clear hA hB hs
      go_wp2
      go_quiet (fail)
      go_wp2
      exact ⟨⟨k + 1, by omega, by go_num, below_drewN hBw _, e1, f1⟩, by simp [intOf]; omega⟩
    · obtain rfl : k = n := by omega
      go_wp2
      go_ret
      exact ⟨rfl, hBw⟩
/-- What is read while two rules are compared. -/
structure SG (gb xb b q d r : Nat) (u v s0 s1 t0 t1 : Value) (W : World) : Prop where
  g : W.cell? ⟨gb, 2, none⟩ = some u
  x : W.cell? ⟨xb, 2, none⟩ = some v
  e0 : W.cell? ⟨b, q, none⟩ = some s0
  e1 : W.cell? ⟨b, q + 1, none⟩ = some s1
  f0 : W.cell? ⟨d, r, none⟩ = some t0
  f1 : W.cell? ⟨d, r + 1, none⟩ = some t1
  l0 : gb < W.heap.size
  l1 : xb < W.heap.size
  l2 : b < W.heap.size
  l3 : d < W.heap.size
section
variable {gb xb b q d r : Nat} {u v s0 s1 t0 t1 : Value} {W W' : World}
theorem SG.below (h : SG gb xb b q d r u v s0 s1 t0 t1 W) (hb : Below W.heap.size W W') : SG gb xb b q d r u v s0 s1 t0 t1 W' :=
  ⟨(hb.cell (p := ⟨gb, 2, none⟩) h.l0).trans h.g, (hb.cell (p := ⟨xb, 2, none⟩) h.l1).trans h.x, (hb.cell (p := ⟨b, q, none⟩) h.l2).trans h.e0, (hb.cell (p := ⟨b, q + 1, none⟩) h.l2).trans h.e1, (hb.cell (p := ⟨d, r, none⟩) h.l3).trans h.f0, (hb.cell (p := ⟨d, r + 1, none⟩) h.l3).trans h.f1, Nat.lt_of_lt_of_le h.l0 hb.size, Nat.lt_of_lt_of_le h.l1 hb.size, Nat.lt_of_lt_of_le h.l2 hb.size, Nat.lt_of_lt_of_le h.l3 hb.size⟩
theorem SG.drew (h : SG gb xb b q d r u v s0 s1 t0 t1 W) : SG gb xb b q d r u v s0 s1 t0 t1 W.drew := ⟨h.g, h.x, h.e0, h.e1, h.f0, h.f1, h.l0, h.l1, h.l2, h.l3⟩
theorem SG.facts (h : SG gb xb b q d r u v s0 s1 t0 t1 W) : W.cell? ⟨gb, 2, none⟩ = some u ∧ W.cell? ⟨xb, 2, none⟩ = some v ∧ W.cell? ⟨b, q, none⟩ = some s0 ∧ W.cell? ⟨b, q + 1, none⟩ = some s1 ∧ W.cell? ⟨d, r, none⟩ = some t0 ∧ W.cell? ⟨d, r + 1, none⟩ = some t1 := ⟨h.g, h.x, h.e0, h.e1, h.f0, h.f1⟩
end
set_option maxRecDepth 100000 in
set_option maxHeartbeats 8000000 in
theorem sameGram_any (nts start : Int) (rs : List Rl) (a b : Option Addr) (ca cb : Nat) (w : World) (hA : RAt w w.heap.size a rs) (hB : RAt w w.heap.size b rs) :
    Calls Try.prog 18 #[.agg #[.int .i64 nts, .int .i64 start, .slice a rs.length ca], .agg #[.int .i64 nts, .int .i64 start, .slice b rs.length cb]] w fun e w' => e = .returned (.bool true) ∧ Below w.heap.size w w' := by
  have hlen := hA.len
  obtain ⟨n, hn⟩ : ∃ n, rs.length = n := ⟨_, rfl⟩
  rw [hn] at hlen ⊢
  have hB0 : Below w.heap.size w ((w.alloc (.cells #[.int .i64 nts, .int .i64 start, .slice a n ca] 24)).alloc (.cells #[.int .i64 nts, .int .i64 start, .slice b n cb] 24)) := ((Below.refl _ _).alloc (Nat.le_refl _) _).alloc (by simp) _
  have hs0 : ((w.alloc (.cells #[.int .i64 nts, .int .i64 start, .slice a n ca] 24)).alloc (.cells #[.int .i64 nts, .int .i64 start, .slice b n cb] 24)).heap.size = w.heap.size + 2 := by simp
  have c1 : ((w.alloc (.cells #[.int .i64 nts, .int .i64 start, .slice a n ca] 24)).alloc (.cells #[.int .i64 nts, .int .i64 start, .slice b n cb] 24)).cell? ⟨w.heap.size, 2, none⟩ = some (.slice a n ca) := by
    rw [World.cell?_alloc_past _ _ _ (by simp)]; exact cell_new 2 rfl
  have d1 : ((w.alloc (.cells #[.int .i64 nts, .int .i64 start, .slice a n ca] 24)).alloc (.cells #[.int .i64 nts, .int .i64 start, .slice b n cb] 24)).cell? ⟨w.heap.size + 1, 2, none⟩ = some (.slice b n cb) := by simp
  go_enter Try.func18, Try.ntmps18
  go_wp2
  go_loopw [5] (fun i W => ∃ k : Nat, k ≤ n ∧ i = .int .i64 k ∧ Below w.heap.size w W ∧ w.heap.size + 2 ≤ W.heap.size ∧ W.cell? ⟨w.heap.size, 2, none⟩ = some (.slice a n ca) ∧ W.cell? ⟨w.heap.size + 1, 2, none⟩ = some (.slice b n cb)) (fun i _ => n - (intOf i).toNat)
  case atStart => exact ⟨0, by omega, rfl, hB0, by omega, c1, d1⟩
  case round =>
    obtain ⟨k, hk, rfl, hBw, hsz, e1, f1⟩ := hrel
    clear c1 d1 hB0 hs0
    by_cases hlt : k < n
    · obtain ⟨s, hs⟩ : ∃ s, rs[k]? = some s := ⟨rs[k]'(by omega), by simp⟩
      have hbs := hBw.size
      obtain ⟨x, o, sa, sc, rfl, hx, hKa, x0, x1⟩ := (hA.keep hBw).cells k s hs
      obtain ⟨y, q, ta, tc, rfl, hy, hKb, y0, y1⟩ := (hB.keep hBw).cells k s hs
      have hkI : (k : Int) < n := by omega
      have T : SG w.heap.size (w.heap.size + 1) x (o + k * 2) y (q + k * 2) (.slice (some ⟨x, o, none⟩) n ca) (.slice (some ⟨y, q, none⟩) n cb) (.int .i64 s.lhs) (.slice sa s.rhs.length sc) (.int .i64 s.lhs) (.slice ta s.rhs.length tc) wr := ⟨e1, f1, x0, x1, y0, y1, by omega, by omega, by omega, by omega⟩
      have H : Hid (∀ W, Below wr.heap.size wr W → Calls Try.prog 41 #[.agg #[.int .i64 s.lhs, .slice sa s.rhs.length sc], .agg #[.int .i64 s.lhs, .slice ta s.rhs.length tc]] W fun e w' => e = .returned (.bool true) ∧ Below W.heap.size W w') := fun W hW => sameRule_any s sa ta sc tc W ((hKa.keep (hW.mono hbs)).mono (Nat.le_trans hbs hW.size)) ((hKb.keep (hW.mono hbs)).mono (Nat.le_trans hbs hW.size))
      clear hA hB hs x0 x1 y0 y1 hKa hKb
      go_wp2
      go_region_held3 (fun W' => W'.cell? ⟨w.heap.size, 2, none⟩ = some (.slice (some ⟨x, o, none⟩) n ca) ∧ W'.cell? ⟨w.heap.size + 1, 2, none⟩ = some (.slice (some ⟨y, q, none⟩) n cb) ∧ W'.cell? ⟨x, o + k * 2, none⟩ = some (.int .i64 s.lhs) ∧ W'.cell? ⟨x, o + k * 2 + 1, none⟩ = some (.slice sa s.rhs.length sc) ∧ W'.cell? ⟨y, q + k * 2, none⟩ = some (.int .i64 s.lhs) ∧ W'.cell? ⟨y, q + k * 2 + 1, none⟩ = some (.slice ta s.rhs.length tc)) (first | exact T.facts | exact T.drew.facts) ((go_at_call 41; refine (H.out _ (by first | exact (Below.refl _ _).drew | exact Below.refl _ _)).mono ?_; rintro e w1 ⟨rfl, hb1⟩; replace T : SG w.heap.size (w.heap.size + 1) x (o + k * 2) y (q + k * 2) (.slice (some ⟨x, o, none⟩) n ca) (.slice (some ⟨y, q, none⟩) n cb) (.int .i64 s.lhs) (.slice sa s.rhs.length sc) (.int .i64 s.lhs) (.slice ta s.rhs.length tc) w1 := (by first | exact T.below hb1 | exact T.drew.below hb1)))
      have hb1' : Below wr.heap.size wr w1 := ⟨hb1.os, hb1.tape, hb1.output, hb1.size, hb1.block⟩
      have t1 := T.g
      have t2 := T.x
      have hs1 := hb1'.size
      go_wp2
      exact ⟨⟨k + 1, by omega, by go_num, below_of hBw hb1', by omega, t1, t2⟩, by simp [intOf]; omega⟩
    · obtain rfl : k = n := by omega
      go_wp2
      go_ret
      exact ⟨rfl, hBw⟩
end Go.Proofs.Ytopbibhpekjaeaa
