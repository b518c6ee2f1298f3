/- What Size, Of and the comparison of sets answer, at every input and in every memory: each call returns, and turns nothing that was there. -/
import Derived.Test.YtbbmjnhbmcbehaaProg
import Derived.Test.YtbbmjnhbmcbehaaW1
import Derived.Test.YtbbmjnhbmcbehaaOnes
namespace Go.Proofs.Ytbbmjnhbmcbehaa
open Go.RowKit

theorem St.same_eq (s t : St) : (s.same t = true) ↔ s = t := by
  cases s; cases t; simp [St.same, and_assoc]
set_option maxRecDepth 100000 in
theorem eq26 (s t : St) (w : World) : (Op.equalIn 10000 33 (.agg #[.int .u64 s.a, .int .u64 s.b, .int .u64 s.c, .int .u64 s.d]) (.agg #[.int .u64 t.a, .int .u64 t.b, .int .u64 t.c, .int .u64 t.d])).run Try.prog w = .ok (St.same s t) w := by
  have hp : ∀ (x0 x1 x2 x3 : Value) w, ((part 31 #[x0, x1, x2, x3] 0).run Try.prog w = .ok x0 w) ∧ ((part 31 #[x0, x1, x2, x3] 1).run Try.prog w = .ok x1 w) ∧ ((part 31 #[x0, x1, x2, x3] 2).run Try.prog w = .ok x2 w) ∧ ((part 31 #[x0, x1, x2, x3] 3).run Try.prog w = .ok x3 w) := by
    intro x0 x1 x2 x3 w
    refine ⟨?_, ?_, ?_, ?_⟩ <;> kernel_rfl
  have hz : ∀ w, (sizeOf 31).run Try.prog w = .ok 1 w := fun w => by kernel_rfl
  have he : ∀ (a b : Nat) w, (Op.equalIn 9999 31 (.int .u64 a) (.int .u64 b)).run Try.prog w = .ok ((a : Int) == (b : Int)) w := fun a b w => run_equalIn_int w 9998 31 .u64 .u64 a b Try.underlying31
  rw [show (10000 : Nat) = 9999 + 1 from rfl]
  rw [Op.equalIn]
  simp only [Sem.run_bind, run_underlying Try.underlying33, Result.andThen_ok]
  simp [Std.Legacy.Range.forIn_eq_forIn_range', List.range', hz, hp, he]
  unfold St.same
  by_cases h0 : s.a = t.a
  · by_cases h1 : s.b = t.b
    · by_cases h2 : s.c = t.c
      · by_cases h3 : s.d = t.d
        · simp [h0, h1, h2, h3]
        · have : ¬ (s.d : Int) = t.d := by omega
          simp [h0, h1, h2, h3, this]
      · have : ¬ (s.c : Int) = t.c := by omega
        simp [h0, h1, h2, this]
    · have : ¬ (s.b : Int) = t.b := by omega
      simp [h0, h1, this]
  · have : ¬ (s.a : Int) = t.a := by omega
    simp [h0, this]
theorem eq50 (x y x' y' : Int) (w : World) : (Op.equalIn 10000 26 (.agg #[.int .i64 x, .int .i64 y]) (.agg #[.int .i64 x', .int .i64 y'])).run Try.prog w = .ok (x == x' && y == y') w := by
  go_simp
  by_cases h0 : x = x' <;> by_cases h1 : y = y' <;> simp [h0, h1]

theorem wrap_u64_nat (n : Nat) (h : n < 18446744073709551616) : IntKind.u64.wrap (n : Int) = n := by
  rw [IntKind.wrap_u64]; omega
theorem and_nat (a : Nat) (m : Nat) (A M : Int) (hA : A = (a : Int)) (hM : M = (m : Int)) (ha : a < 18446744073709551616) (hm : m < 18446744073709551616) : bits .and .u64 A M = ((a &&& m : Nat) : Int) := by
  rw [hA, hM]; exact u64_and_nat a m ha hm
theorem or_pow (x k : Nat) (hx : x < 18446744073709551616) (hk : k < 64) : bits .or .u64 (x : Int) (IntKind.u64.wrap (2 ^ k)) = ((x ||| 2 ^ k : Nat) : Int) := by
  have h := wrap_u64_nat (2 ^ k) (pow_lt64 k hk)
  have e : ((2 ^ k : Nat) : Int) = 2 ^ k := by simp
  rw [e] at h
  rw [h, ← e]
  exact u64_or_nat x (2 ^ k) hx (pow_lt64 k hk)
def ofL (l : List Nat) : St := l.foldl St.add St.zero
theorem St.add0 (t : St) (v : Nat) (h : v / 64 = 0) : t.add v = ⟨t.a ||| 2 ^ (v % 64), t.b, t.c, t.d⟩ := by simp [St.add, h]
theorem St.add1 (t : St) (v : Nat) (h : v / 64 = 1) : t.add v = ⟨t.a, t.b ||| 2 ^ (v % 64), t.c, t.d⟩ := by simp [St.add, h]
theorem St.add2 (t : St) (v : Nat) (h : v / 64 = 2) : t.add v = ⟨t.a, t.b, t.c ||| 2 ^ (v % 64), t.d⟩ := by simp [St.add, h]
theorem St.add3 (t : St) (v : Nat) (h : v / 64 = 3) : t.add v = ⟨t.a, t.b, t.c, t.d ||| 2 ^ (v % 64)⟩ := by simp [St.add, h]
set_option maxRecDepth 100000 in
set_option maxHeartbeats 1000000 in
theorem of_any (bk o n c : Nat) (l : List Nat) (w : World) (hn : n = l.length) (hl : ∀ x ∈ l, x < 256) (hm : n ≤ maxLen) (hbk : bk < w.heap.size)
    (hc : ∀ i, i < n → w.cell? ⟨bk, o + i, none⟩ = some (.int .u8 (l.getD i 0 : Nat))) :
    Calls Try.prog 50 #[.slice (some ⟨bk, o, none⟩) n c] w fun e w' => e = .returned (.agg #[.int .u64 (ofL l).a, .int .u64 (ofL l).b, .int .u64 (ofL l).c, .int .u64 (ofL l).d]) ∧ Below w.heap.size w w' := by
  unfold maxLen at hm
  have hlk : ∀ k, l.getD k 0 < 256 := by
    intro k; rw [List.getD_eq_getElem?_getD]
    cases h : l[k]? with
    | none => simp
    | some v => simpa using hl v (List.mem_of_getElem? h)
  go_enter Try.func50, Try.ntmps50
  go_wp2
  go_loopw [8] (fun i wr => ∃ (k : Nat) (t : St), k ≤ n ∧ i = .int .i64 k ∧ t = ofL (l.take k) ∧ t.ok ∧ wr = (w.alloc (.cells #[.int .u64 0, .int .u64 0, .int .u64 0, .int .u64 0] 33)).alloc (.cells #[.int .u64 t.a, .int .u64 t.b, .int .u64 t.c, .int .u64 t.d] 33)) (fun i _ => n - (intOf i).toNat)
  case atStart => exact ⟨0, St.zero, by omega, rfl, rfl, St.zero_ok, rfl⟩
  case round =>
    obtain ⟨k, t, hk, rfl, ht, hok, rfl⟩ := hrel
    by_cases hlt : k < n
    · have hck := hc k hlt
      have hv := hlk k
      have HT : Hid (t.add (l.getD k 0) = ofL (l.take (k + 1))) := by
        show _ = _
        unfold ofL at *
        rw [List.take_succ_eq_append_getElem (by omega), List.foldl_append, ← ht]
        simp [List.getD_eq_getElem?_getD, List.getElem?_eq_getElem (show k < l.length by omega)]
      clear ht
      generalize l.getD k 0 = v at *
      have hold : ∀ o1 o2, ((w.alloc o1).alloc o2).cell? ⟨bk, o + k, none⟩ = some (.int .u8 (v : Int)) := by
        intro o1 o2
        have hB : Below w.heap.size w ((w.alloc o1).alloc o2) := ((Below.refl _ _).alloc (Nat.le_refl _) _).alloc (by simp <;> omega) _
        rw [hB.cell (p := ⟨bk, o + k, none⟩) hbk]; exact hck
      have HA : Hid ((t.add v).ok) := St.add_ok hok v
      have hq : v / 64 = 0 ∨ v / 64 = 1 ∨ v / 64 = 2 ∨ v / 64 = 3 := by omega
      have b0 := or_pow t.a (v % 64) hok.1 (Nat.mod_lt _ (by omega))
      have b1 := or_pow t.b (v % 64) hok.2.1 (Nat.mod_lt _ (by omega))
      have b2 := or_pow t.c (v % 64) hok.2.2.1 (Nat.mod_lt _ (by omega))
      have b3 := or_pow t.d (v % 64) hok.2.2.2 (Nat.mod_lt _ (by omega))
      rcases hq with hq | hq | hq | hq
      · have E : Hid _ := St.add0 t v hq
        go_wp2
        refine ⟨⟨k + 1, t.add v, by omega, by go_num, HT.out, HA.out, by rw [E.out]⟩, by simp [intOf]; omega⟩
      · have E : Hid _ := St.add1 t v hq
        go_wp2
        refine ⟨⟨k + 1, t.add v, by omega, by go_num, HT.out, HA.out, by rw [E.out]⟩, by simp [intOf]; omega⟩
      · have E : Hid _ := St.add2 t v hq
        go_wp2
        refine ⟨⟨k + 1, t.add v, by omega, by go_num, HT.out, HA.out, by rw [E.out]⟩, by simp [intOf]; omega⟩
      · have E : Hid _ := St.add3 t v hq
        go_wp2
        refine ⟨⟨k + 1, t.add v, by omega, by go_num, HT.out, HA.out, by rw [E.out]⟩, by simp [intOf]; omega⟩
    · have e : l.take k = l := List.take_of_length_le (by omega)
      rw [e] at ht
      subst ht
      go_wp2
      refine bodyPost_ret (v := .agg #[.int .u64 (ofL l).a, .int .u64 (ofL l).b, .int .u64 (ofL l).c, .int .u64 (ofL l).d]) (by simp [results, Try.results50, go_sem]) rfl ⟨rfl, ?_⟩
      exact ((Below.refl _ _).alloc (Nat.le_refl _) _).alloc (by simp <;> omega) _

end Go.Proofs.Ytbbmjnhbmcbehaa
