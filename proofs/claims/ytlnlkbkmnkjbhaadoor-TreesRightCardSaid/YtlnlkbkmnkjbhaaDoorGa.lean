/- Sets of bytes: plain, held against one another, asked for a byte. -/
import Derived.Test.YtlnlkbkmnkjbhaaDoorC1
import Derived.Test.YtlnlkbkmnkjbhaaDoorI4
import Derived.WalkKit
import Derived.WalkSpells
import Derived.WalkLawsBesides
import Derived.Deep.RegionHeld3
import Derived.RegionTactic
import Derived.ChangeAlike
import Derived.Deep.DrawnRows
import Derived.Deep.RegionWith
import Derived.BigRegion
import Derived.Laws.BitsAllLaws
namespace Go.Proofs.YtlnlkbkmnkjbhaaDoor

structure St where
  a : Nat
  b : Nat
  c : Nat
  d : Nat

def St.w (s : St) (i : Nat) : Nat := if i = 0 then s.a else if i = 1 then s.b else if i = 2 then s.c else s.d
def St.ok (s : St) : Prop := s.a < 18446744073709551616 ∧ s.b < 18446744073709551616 ∧ s.c < 18446744073709551616 ∧ s.d < 18446744073709551616
theorem St.w_lt (s : St) (h : s.ok) (i : Nat) : s.w i < 18446744073709551616 := by
  unfold St.w; obtain ⟨h1, h2, h3, h4⟩ := h
  split
  · exact h1
  · split
    · exact h2
    · split
      · exact h3
      · exact h4
theorem St.get (s : St) (i : Nat) (h : i < 4) : [Value.int .u64 (s.a : Int), .int .u64 (s.b : Int), .int .u64 (s.c : Int), .int .u64 (s.d : Int)][i]? = some (.int .u64 (s.w i : Int)) := by
  match i, h with
  | 0, _ => rfl
  | 1, _ => rfl
  | 2, _ => rfl
  | 3, _ => rfl
def St.has (s : St) (n : Nat) : Bool := (s.w (n / 64)).testBit (n % 64)
def St.zero : St := ⟨0, 0, 0, 0⟩
def St.or (s t : St) : St := ⟨s.a ||| t.a, s.b ||| t.b, s.c ||| t.c, s.d ||| t.d⟩
def St.and (s t : St) : St := ⟨s.a &&& t.a, s.b &&& t.b, s.c &&& t.c, s.d &&& t.d⟩
def St.not (s : St) : St := ⟨18446744073709551615 - s.a, 18446744073709551615 - s.b, 18446744073709551615 - s.c, 18446744073709551615 - s.d⟩
def St.add (s : St) (n : Nat) : St :=
  if n / 64 = 0 then { s with a := s.a ||| 2 ^ (n % 64) } else if n / 64 = 1 then { s with b := s.b ||| 2 ^ (n % 64) }
  else if n / 64 = 2 then { s with c := s.c ||| 2 ^ (n % 64) } else { s with d := s.d ||| 2 ^ (n % 64) }

theorem pow_lt64 (k : Nat) (h : k < 64) : 2 ^ k < 18446744073709551616 := by
  have : 2 ^ k < 2 ^ 64 := Nat.pow_lt_pow_right (by omega) h
  simpa using this
theorem or_lt64 {x y : Nat} (hx : x < 18446744073709551616) (hy : y < 18446744073709551616) : x ||| y < 18446744073709551616 :=
  Nat.or_lt_two_pow (n := 64) hx hy
theorem and_lt64 {x y : Nat} (hx : x < 18446744073709551616) : x &&& y < 18446744073709551616 :=
  Nat.lt_of_le_of_lt Nat.and_le_left hx
theorem St.zero_ok : St.zero.ok := by unfold St.ok St.zero; decide
theorem St.or_ok {s t : St} (hs : s.ok) (ht : t.ok) : (s.or t).ok :=
  ⟨or_lt64 hs.1 ht.1, or_lt64 hs.2.1 ht.2.1, or_lt64 hs.2.2.1 ht.2.2.1, or_lt64 hs.2.2.2 ht.2.2.2⟩
theorem St.and_ok {s t : St} (hs : s.ok) : (s.and t).ok :=
  ⟨and_lt64 hs.1, and_lt64 hs.2.1, and_lt64 hs.2.2.1, and_lt64 hs.2.2.2⟩
theorem St.not_ok (s : St) : s.not.ok := by
  refine ⟨?_, ?_, ?_, ?_⟩ <;> (simp only [St.not]; omega)
theorem St.add_ok {s : St} (hs : s.ok) (n : Nat) : (s.add n).ok := by
  have hp := pow_lt64 (n % 64) (Nat.mod_lt _ (by omega))
  obtain ⟨h1, h2, h3, h4⟩ := hs
  unfold St.add
  split
  · exact ⟨or_lt64 h1 hp, h2, h3, h4⟩
  · split
    · exact ⟨h1, or_lt64 h2 hp, h3, h4⟩
    · split
      · exact ⟨h1, h2, or_lt64 h3 hp, h4⟩
      · exact ⟨h1, h2, h3, or_lt64 h4 hp⟩

theorem St.w_or (s t : St) (i : Nat) : (s.or t).w i = s.w i ||| t.w i := by
  unfold St.w St.or; split <;> (try split) <;> (try split) <;> rfl
theorem St.w_and (s t : St) (i : Nat) : (s.and t).w i = s.w i &&& t.w i := by
  unfold St.w St.and; split <;> (try split) <;> (try split) <;> rfl
theorem St.w_not (s : St) (i : Nat) : s.not.w i = 18446744073709551615 - s.w i := by
  unfold St.w St.not; split <;> (try split) <;> (try split) <;> rfl
theorem St.w_zero (i : Nat) : St.zero.w i = 0 := by
  unfold St.w St.zero; split <;> (try split) <;> (try split) <;> rfl
theorem St.w_add (s : St) (n i : Nat) (hn : n < 256) (hi : i < 4) : (s.add n).w i = if i = n / 64 then s.w i ||| 2 ^ (n % 64) else s.w i := by
  have h : n / 64 = 0 ∨ n / 64 = 1 ∨ n / 64 = 2 ∨ n / 64 = 3 := by omega
  have h' : i = 0 ∨ i = 1 ∨ i = 2 ∨ i = 3 := by omega
  unfold St.add
  rcases h with h | h | h | h <;> rcases h' with h' | h' | h' | h' <;> subst h' <;> rw [h] <;> rfl

theorem testBit_not64 (x k : Nat) (hx : x < 18446744073709551616) (hk : k < 64) : (18446744073709551615 - x).testBit k = !x.testBit k := by
  have e : 18446744073709551615 - x = 2 ^ 64 - (x + 1) := by omega
  rw [e, Nat.testBit_two_pow_sub_succ (by simpa using hx)]
  simp [hk]

theorem St.has_or (s t : St) (n : Nat) : (s.or t).has n = (s.has n || t.has n) := by
  unfold St.has; rw [St.w_or, Nat.testBit_or]
theorem St.has_and (s t : St) (n : Nat) : (s.and t).has n = (s.has n && t.has n) := by
  unfold St.has; rw [St.w_and, Nat.testBit_and]
theorem St.has_not (s : St) (hs : s.ok) (n : Nat) : s.not.has n = !s.has n := by
  unfold St.has; rw [St.w_not, testBit_not64 _ _ (s.w_lt hs _) (Nat.mod_lt _ (by omega))]
theorem St.has_zero (n : Nat) : St.zero.has n = false := by
  unfold St.has; rw [St.w_zero]; exact Nat.zero_testBit _
theorem St.has_add (s : St) (n m : Nat) (hn : n < 256) (hm : m < 256) : (s.add n).has m = (s.has m || decide (m = n)) := by
  unfold St.has; rw [St.w_add s n (m / 64) hn (by omega)]
  by_cases h : m / 64 = n / 64
  · rw [if_pos h, Nat.testBit_or, Nat.testBit_two_pow]
    congr 1
    rw [decide_eq_decide]; omega
  · rw [if_neg h]
    have : decide (m = n) = false := by rw [decide_eq_false_iff_not]; intro e; rw [e] at h; exact h rfl
    rw [this, Bool.or_false]

theorem nat_ext64 {x y : Nat} (hx : x < 18446744073709551616) (hy : y < 18446744073709551616) (h : ∀ k, k < 64 → x.testBit k = y.testBit k) : x = y := by
  apply Nat.eq_of_testBit_eq
  intro i
  by_cases hi : i < 64
  · exact h i hi
  · have hp : (2 : Nat) ^ 64 ≤ 2 ^ i := Nat.pow_le_pow_right (by omega) (by omega)
    have h1 : (2 : Nat) ^ 64 = 18446744073709551616 := by decide
    rw [Nat.testBit_lt_two_pow (by omega), Nat.testBit_lt_two_pow (by omega)]

theorem St.ext' {s t : St} (hs : s.ok) (ht : t.ok) (h : ∀ n, n < 256 → s.has n = t.has n) : s = t := by
  have hw : ∀ i, i < 4 → s.w i = t.w i := by
    intro i hi
    refine nat_ext64 (s.w_lt hs i) (t.w_lt ht i) ?_
    intro k hk
    have := h (64 * i + k) (by omega)
    unfold St.has at this
    rw [show (64 * i + k) / 64 = i from by omega, show (64 * i + k) % 64 = k from by omega] at this
    exact this
  have h0 := hw 0 (by omega); have h1 := hw 1 (by omega); have h2 := hw 2 (by omega); have h3 := hw 3 (by omega)
  cases s; cases t
  simp only [St.w, if_true] at h0 h1 h2 h3
  simp at h0 h1 h2 h3
  subst h0 h1 h2 h3; rfl

theorem has_bit (x k : Nat) (hx : x < 18446744073709551616) : (bits .and .u64 ((x : Int) / 2 ^ k) 1 == 1) = x.testBit k := by
  have e : ((x : Int) / 2 ^ k) = ((x / 2 ^ k : Nat) : Int) := by
    simp
  have hx' : x / 2 ^ k < 18446744073709551616 := Nat.lt_of_le_of_lt (Nat.div_le_self _ _) hx
  rw [e]
  have := u64_and_nat (x / 2 ^ k) 1 hx' (by decide)
  rw [show ((1 : Nat) : Int) = 1 from rfl] at this
  rw [this, nat_mask1, Nat.testBit_eq_decide_div_mod_eq]
  rw [Bool.eq_iff_iff]; simp; omega

theorem xor_max (x : Nat) (hx : x < 18446744073709551616) : bits .xor .u64 IntKind.u64.max (x : Int) = ((18446744073709551615 - x : Nat) : Int) := by
  have h := u64_xor_nat 18446744073709551615 x (by omega) hx
  have e : IntKind.u64.max = ((18446744073709551615 : Nat) : Int) := by decide
  rw [e, h]
  congr 1
  refine nat_ext64 (Nat.xor_lt_two_pow (n := 64) (by omega) hx) (by omega) ?_
  intro k hk
  rw [testBit_not64 x k hx hk, Nat.testBit_xor]
  have : (18446744073709551615 : Nat).testBit k = true := by
    have := Nat.testBit_two_pow_sub_one 64 k
    rw [show (2 : Nat) ^ 64 - 1 = 18446744073709551615 from by decide] at this
    rw [this]; simpa using hk
  rw [this, Bool.true_xor]

open Go.RowKit
def St.same (s t : St) : Bool := s.a == t.a && s.b == t.b && s.c == t.c && s.d == t.d
theorem St.same_eq (s t : St) : (s.same t = true) ↔ s = t := by
  cases s; cases t; simp [St.same, and_assoc]
set_option maxRecDepth 100000 in
theorem eq49 (s t : St) (w : World) : (Op.equalIn 10000 69 (.agg #[.int .u64 s.a, .int .u64 s.b, .int .u64 s.c, .int .u64 s.d]) (.agg #[.int .u64 t.a, .int .u64 t.b, .int .u64 t.c, .int .u64 t.d])).run Tryd.prog w = .ok (St.same s t) w := by
  have hp : ∀ (x0 x1 x2 x3 : Value) w, ((part 67 #[x0, x1, x2, x3] 0).run Tryd.prog w = .ok x0 w) ∧ ((part 67 #[x0, x1, x2, x3] 1).run Tryd.prog w = .ok x1 w) ∧ ((part 67 #[x0, x1, x2, x3] 2).run Tryd.prog w = .ok x2 w) ∧ ((part 67 #[x0, x1, x2, x3] 3).run Tryd.prog w = .ok x3 w) := by
    intro x0 x1 x2 x3 w
    refine ⟨?_, ?_, ?_, ?_⟩ <;> kernel_rfl
  have hz : ∀ w, (sizeOf 67).run Tryd.prog w = .ok 1 w := fun w => by kernel_rfl
  have he : ∀ (a b : Nat) w, (Op.equalIn 9999 67 (.int .u64 a) (.int .u64 b)).run Tryd.prog w = .ok ((a : Int) == (b : Int)) w := fun a b w => run_equalIn_int w 9998 67 .u64 .u64 a b Tryd.underlying67
  rw [show (10000 : Nat) = 9999 + 1 from rfl]
  rw [Op.equalIn]
  simp only [Sem.run_bind, run_underlying Tryd.underlying69, Result.andThen_ok]
  simp [Std.Legacy.Range.forIn_eq_forIn_range', List.range', hz, hp, he]
  unfold St.same
  by_cases h0 : s.a = t.a
  · by_cases h1 : s.b = t.b
    · by_cases h2 : s.c = t.c
      · by_cases h3 : s.d = t.d
        · simp [h0, h1, h2, h3]
        · have : ¬ (s.d : Int) = t.d := by omega
          simp [h0, h1, h2, h3, this]
      · have : ¬ (s.c : Int) = t.c := by omega
        simp [h0, h1, h2, this]
    · have : ¬ (s.b : Int) = t.b := by omega
      simp [h0, h1, this]
  · have : ¬ (s.a : Int) = t.a := by omega
    simp [h0, this]
def St.any (s : St) : Bool := !(s.same St.zero)
def stV (s : St) : Value := .agg #[.int .u64 (s.a : Int), .int .u64 (s.b : Int), .int .u64 (s.c : Int), .int .u64 (s.d : Int)]
theorem eq49z (s : St) (w : World) : (Op.equalIn 10000 69 (.agg #[.int .u64 s.a, .int .u64 s.b, .int .u64 s.c, .int .u64 s.d]) (.agg #[.int .u64 0, .int .u64 0, .int .u64 0, .int .u64 0])).run Tryd.prog w = .ok (St.same s St.zero) w := eq49 s St.zero w
set_option maxHeartbeats 400000 in
theorem shas_any (s : St) (n : Nat) (w : World) (hs : s.ok) (hn : n < 256) :
    Calls Tryd.prog 83 #[.agg #[.int .u64 s.a, .int .u64 s.b, .int .u64 s.c, .int .u64 s.d], .int .u8 n] w fun e w' => e = .returned (.bool (s.has n)) ∧ Below w.heap.size w w' := by
  have hg := s.get (n / 64) (by omega)
  have hl := s.w_lt hs (n / 64)
  have H : Hid (s.has n = (s.w (n / 64)).testBit (n % 64)) := rfl
  generalize s.w (n / 64) = x at *
  have H2 : Hid ((bits .and .u64 ((x : Int) / 2 ^ (n % 64)) 1 == 1) = x.testBit (n % 64)) := has_bit x _ hl
  go_enter Tryd.func83, Tryd.ntmps83
  go_wp2
  go_ret
  exact ⟨ret_bool (by rw [H2.out, H.out]), (Below.refl _ _).alloc (Nat.le_refl _) _⟩
theorem wrap_u64_nat (n : Nat) (h : n < 18446744073709551616) : IntKind.u64.wrap (n : Int) = n := by
  rw [IntKind.wrap_u64]; omega
theorem div_pow_succ (x k : Nat) : x / 2 ^ k / 2 = x / 2 ^ (k + 1) := by rw [Nat.pow_succ, Nat.div_div_eq_div_mul]
theorem rem_bit (x k : Nat) : ((((x / 2 ^ k : Nat) : Int) % 2) == 1) = x.testBit k := by
  rw [Nat.testBit_eq_decide_div_mod_eq]
  generalize x / 2 ^ k = y
  rw [Bool.eq_iff_iff]; simp; omega

set_option maxHeartbeats 1000000 in
theorem rhas_any (s : St) (n : Nat) (w : World) (hs : s.ok) (hn : n < 256) :
    Calls Tryd.prog 66 #[.agg #[.int .u64 s.a, .int .u64 s.b, .int .u64 s.c, .int .u64 s.d], .int .i64 n] w fun e w' => e = .returned (.bool (s.has n)) ∧ Below w.heap.size w w' := by
  have HB : Hid (((((s.w (n / 64) / 2 ^ (n % 64) : Nat) : Int) % 2) == 1) = s.has n) := rem_bit _ _
  have hl := s.w_lt hs (n / 64)
  have g1 : decide ((n : Int) < 0) = false := by simp
  have g2 : decide ((255 : Int) < (n : Int)) = false := by simp; omega
  generalize s.has n = ans at *
  have hq : n / 64 = 0 ∨ n / 64 = 1 ∨ n / 64 = 2 ∨ n / 64 = 3 := by omega
  rcases hq with hq | hq | hq | hq
  · have hw : s.w (n / 64) = s.a := by rw [hq]; rfl
    rw [hw] at HB hl
    generalize hx : s.a = x at *
    have e0 : (((n : Int) / 64) == 0) = true := by rw [beq_iff_eq]; omega
    have e1 : (((n : Int) / 64) == 1) = false := by rw [beq_eq_false_iff_ne]; omega
    have e2 : (((n : Int) / 64) == 2) = false := by rw [beq_eq_false_iff_ne]; omega
    have e3 : (((n : Int) / 64) == 3) = false := by rw [beq_eq_false_iff_ne]; omega
    go_enter Tryd.func66, Tryd.ntmps66
    go_wp2
    go_loop [5, 6] (fun v i => ∃ k : Nat, k ≤ n % 64 ∧ i = .int .i64 k ∧ v = .int .u64 (x / 2 ^ k : Nat)) (fun _ i => n % 64 - (intOf i).toNat)
    case atStart => exact ⟨0, Nat.zero_le _, rfl, by simp⟩
    case round =>
      obtain ⟨k, hk, rfl, rfl⟩ := hrel
      have hd : x / 2 ^ k < 18446744073709551616 := Nat.lt_of_le_of_lt (Nat.div_le_self _ _) hl
      by_cases hlt : k < n % 64
      · have HS : Hid _ := div_pow_succ x k
        generalize x / 2 ^ k = y at *
        go_wp2
        go_round
        case rel => exact ⟨k + 1, by omega, by go_num, by rw [← HS.out]; go_num⟩
        case measure => simp [intOf]; omega
      · obtain rfl : k = n % 64 := by omega
        generalize x / 2 ^ (n % 64) = y at *
        go_wp2
        go_ret
        exact ⟨ret_bool (by rw [← HB.out]), (Below.refl _ _).alloc (Nat.le_refl _) _⟩
  · have hw : s.w (n / 64) = s.b := by rw [hq]; rfl
    rw [hw] at HB hl
    generalize hx : s.b = x at *
    have e0 : (((n : Int) / 64) == 0) = false := by rw [beq_eq_false_iff_ne]; omega
    have e1 : (((n : Int) / 64) == 1) = true := by rw [beq_iff_eq]; omega
    have e2 : (((n : Int) / 64) == 2) = false := by rw [beq_eq_false_iff_ne]; omega
    have e3 : (((n : Int) / 64) == 3) = false := by rw [beq_eq_false_iff_ne]; omega
    go_enter Tryd.func66, Tryd.ntmps66
    go_wp2
    go_loop [5, 6] (fun v i => ∃ k : Nat, k ≤ n % 64 ∧ i = .int .i64 k ∧ v = .int .u64 (x / 2 ^ k : Nat)) (fun _ i => n % 64 - (intOf i).toNat)
    case atStart => exact ⟨0, Nat.zero_le _, rfl, by simp⟩
    case round =>
      obtain ⟨k, hk, rfl, rfl⟩ := hrel
      have hd : x / 2 ^ k < 18446744073709551616 := Nat.lt_of_le_of_lt (Nat.div_le_self _ _) hl
      by_cases hlt : k < n % 64
      · have HS : Hid _ := div_pow_succ x k
        generalize x / 2 ^ k = y at *
        go_wp2
        go_round
        case rel => exact ⟨k + 1, by omega, by go_num, by rw [← HS.out]; go_num⟩
        case measure => simp [intOf]; omega
      · obtain rfl : k = n % 64 := by omega
        generalize x / 2 ^ (n % 64) = y at *
        go_wp2
        go_ret
        exact ⟨ret_bool (by rw [← HB.out]), (Below.refl _ _).alloc (Nat.le_refl _) _⟩
  · have hw : s.w (n / 64) = s.c := by rw [hq]; rfl
    rw [hw] at HB hl
    generalize hx : s.c = x at *
    have e0 : (((n : Int) / 64) == 0) = false := by rw [beq_eq_false_iff_ne]; omega
    have e1 : (((n : Int) / 64) == 1) = false := by rw [beq_eq_false_iff_ne]; omega
    have e2 : (((n : Int) / 64) == 2) = true := by rw [beq_iff_eq]; omega
    have e3 : (((n : Int) / 64) == 3) = false := by rw [beq_eq_false_iff_ne]; omega
    go_enter Tryd.func66, Tryd.ntmps66
    go_wp2
    go_loop [5, 6] (fun v i => ∃ k : Nat, k ≤ n % 64 ∧ i = .int .i64 k ∧ v = .int .u64 (x / 2 ^ k : Nat)) (fun _ i => n % 64 - (intOf i).toNat)
    case atStart => exact ⟨0, Nat.zero_le _, rfl, by simp⟩
    case round =>
      obtain ⟨k, hk, rfl, rfl⟩ := hrel
      have hd : x / 2 ^ k < 18446744073709551616 := Nat.lt_of_le_of_lt (Nat.div_le_self _ _) hl
      by_cases hlt : k < n % 64
      · have HS : Hid _ := div_pow_succ x k
        generalize x / 2 ^ k = y at *
        go_wp2
        go_round
        case rel => exact ⟨k + 1, by omega, by go_num, by rw [← HS.out]; go_num⟩
        case measure => simp [intOf]; omega
      · obtain rfl : k = n % 64 := by omega
        generalize x / 2 ^ (n % 64) = y at *
        go_wp2
        go_ret
        exact ⟨ret_bool (by rw [← HB.out]), (Below.refl _ _).alloc (Nat.le_refl _) _⟩
  · have hw : s.w (n / 64) = s.d := by rw [hq]; rfl
    rw [hw] at HB hl
    generalize hx : s.d = x at *
    have e0 : (((n : Int) / 64) == 0) = false := by rw [beq_eq_false_iff_ne]; omega
    have e1 : (((n : Int) / 64) == 1) = false := by rw [beq_eq_false_iff_ne]; omega
    have e2 : (((n : Int) / 64) == 2) = false := by rw [beq_eq_false_iff_ne]; omega
    have e3 : (((n : Int) / 64) == 3) = true := by rw [beq_iff_eq]; omega
    go_enter Tryd.func66, Tryd.ntmps66
    go_wp2
    go_loop [5, 6] (fun v i => ∃ k : Nat, k ≤ n % 64 ∧ i = .int .i64 k ∧ v = .int .u64 (x / 2 ^ k : Nat)) (fun _ i => n % 64 - (intOf i).toNat)
    case atStart => exact ⟨0, Nat.zero_le _, rfl, by simp⟩
    case round =>
      obtain ⟨k, hk, rfl, rfl⟩ := hrel
      have hd : x / 2 ^ k < 18446744073709551616 := Nat.lt_of_le_of_lt (Nat.div_le_self _ _) hl
      by_cases hlt : k < n % 64
      · have HS : Hid _ := div_pow_succ x k
        generalize x / 2 ^ k = y at *
        go_wp2
        go_round
        case rel => exact ⟨k + 1, by omega, by go_num, by rw [← HS.out]; go_num⟩
        case measure => simp [intOf]; omega
      · obtain rfl : k = n % 64 := by omega
        generalize x / 2 ^ (n % 64) = y at *
        go_wp2
        go_ret
        exact ⟨ret_bool (by rw [← HB.out]), (Below.refl _ _).alloc (Nat.le_refl _) _⟩

set_option maxHeartbeats 400000 in
theorem rhas_out (s : St) (n : Int) (w : World) (h : n < 0 ∨ 255 < n) :
    Calls Tryd.prog 66 #[.agg #[.int .u64 s.a, .int .u64 s.b, .int .u64 s.c, .int .u64 s.d], .int .i64 n] w fun e w' => e = .returned (.bool false) ∧ Below w.heap.size w w' := by
  by_cases h1 : n < 0
  · go_enter Tryd.func66, Tryd.ntmps66
    go_wp2
    go_ret
    exact ⟨rfl, (Below.refl _ _).alloc (Nat.le_refl _) _⟩
  · have h2 : 255 < n := by omega
    have g1 : decide (n < 0) = false := by simp; omega
    go_enter Tryd.func66, Tryd.ntmps66
    go_wp2
    go_ret
    exact ⟨rfl, (Below.refl _ _).alloc (Nat.le_refl _) _⟩

end Go.Proofs.YtlnlkbkmnkjbhaaDoor
