/- What the document's own answers for sets compute: a byte asked for, a byte more, a list, a range, at every input and in every memory. -/
import Derived.Test.YtopbibhpekjaeaaM0
import Derived.Test.YtopbibhpekjaeaaOnes
namespace Go.Proofs.Ytopbibhpekjaeaa
open Go.RowKit
theorem wrap_u64_nat (n : Nat) (h : n < 18446744073709551616) : IntKind.u64.wrap (n : Int) = n := by
  rw [IntKind.wrap_u64]; omega
theorem St.add0 (t : St) (v : Nat) (h : v / 64 = 0) : t.add v = ⟨t.a ||| 2 ^ (v % 64), t.b, t.c, t.d⟩ := by simp [St.add, h]
theorem St.add1 (t : St) (v : Nat) (h : v / 64 = 1) : t.add v = ⟨t.a, t.b ||| 2 ^ (v % 64), t.c, t.d⟩ := by simp [St.add, h]
theorem St.add2 (t : St) (v : Nat) (h : v / 64 = 2) : t.add v = ⟨t.a, t.b, t.c ||| 2 ^ (v % 64), t.d⟩ := by simp [St.add, h]
theorem St.add3 (t : St) (v : Nat) (h : v / 64 = 3) : t.add v = ⟨t.a, t.b, t.c, t.d ||| 2 ^ (v % 64)⟩ := by simp [St.add, h]

theorem div_pow_succ (x k : Nat) : x / 2 ^ k / 2 = x / 2 ^ (k + 1) := by rw [Nat.pow_succ, Nat.div_div_eq_div_mul]
theorem rem_bit (x k : Nat) : ((((x / 2 ^ k : Nat) : Int) % 2) == 1) = x.testBit k := by
  rw [Nat.testBit_eq_decide_div_mod_eq]
  generalize x / 2 ^ k = y
  rw [Bool.eq_iff_iff]; simp; omega

set_option maxHeartbeats 1000000 in
theorem rhas_any (s : St) (n : Nat) (w : World) (hs : s.ok) (hn : n < 256) :
    Calls Try.prog 67 #[.agg #[.int .u64 s.a, .int .u64 s.b, .int .u64 s.c, .int .u64 s.d], .int .i64 n] w fun e w' => e = .returned (.bool (s.has n)) ∧ Below w.heap.size w w' := by
  have HB : Hid (((((s.w (n / 64) / 2 ^ (n % 64) : Nat) : Int) % 2) == 1) = s.has n) := rem_bit _ _
  have hl := s.w_lt hs (n / 64)
  have g1 : decide ((n : Int) < 0) = false := by simp
  have g2 : decide ((255 : Int) < (n : Int)) = false := by simp; omega
  generalize s.has n = ans at *
  have hq : n / 64 = 0 ∨ n / 64 = 1 ∨ n / 64 = 2 ∨ n / 64 = 3 := by omega
  rcases hq with hq | hq | hq | hq
  · have hw : s.w (n / 64) = s.a := by rw [hq]; rfl
    rw [hw] at HB hl
    generalize hx : s.a = x at *
    have e0 : (((n : Int) / 64) == 0) = true := by rw [beq_iff_eq]; omega
    have e1 : (((n : Int) / 64) == 1) = false := by rw [beq_eq_false_iff_ne]; omega
    have e2 : (((n : Int) / 64) == 2) = false := by rw [beq_eq_false_iff_ne]; omega
    have e3 : (((n : Int) / 64) == 3) = false := by rw [beq_eq_false_iff_ne]; omega
    go_enter Try.func67, Try.ntmps67
    go_wp2
    go_loop [5, 6] (fun v i => ∃ k : Nat, k ≤ n % 64 ∧ i = .int .i64 k ∧ v = .int .u64 (x / 2 ^ k : Nat)) (fun _ i => n % 64 - (intOf i).toNat)
    case atStart => exact ⟨0, Nat.zero_le _, rfl, by simp⟩
    case round =>
      obtain ⟨k, hk, rfl, rfl⟩ := hrel
      have hd : x / 2 ^ k < 18446744073709551616 := Nat.lt_of_le_of_lt (Nat.div_le_self _ _) hl
      by_cases hlt : k < n % 64
      · have HS : Hid _ := div_pow_succ x k
        generalize x / 2 ^ k = y at *
        go_wp2
        go_round
        case rel => exact ⟨k + 1, by omega, by go_num, by rw [← HS.out]; go_num⟩
        case measure => simp [intOf]; omega
      · obtain rfl : k = n % 64 := by omega
        generalize x / 2 ^ (n % 64) = y at *
        go_wp2
        go_ret
        exact ⟨ret_bool (by rw [← HB.out]), (Below.refl _ _).alloc (Nat.le_refl _) _⟩
  · have hw : s.w (n / 64) = s.b := by rw [hq]; rfl
    rw [hw] at HB hl
    generalize hx : s.b = x at *
    have e0 : (((n : Int) / 64) == 0) = false := by rw [beq_eq_false_iff_ne]; omega
    have e1 : (((n : Int) / 64) == 1) = true := by rw [beq_iff_eq]; omega
    have e2 : (((n : Int) / 64) == 2) = false := by rw [beq_eq_false_iff_ne]; omega
    have e3 : (((n : Int) / 64) == 3) = false := by rw [beq_eq_false_iff_ne]; omega
    go_enter Try.func67, Try.ntmps67
    go_wp2
    go_loop [5, 6] (fun v i => ∃ k : Nat, k ≤ n % 64 ∧ i = .int .i64 k ∧ v = .int .u64 (x / 2 ^ k : Nat)) (fun _ i => n % 64 - (intOf i).toNat)
    case atStart => exact ⟨0, Nat.zero_le _, rfl, by simp⟩
    case round =>
      obtain ⟨k, hk, rfl, rfl⟩ := hrel
      have hd : x / 2 ^ k < 18446744073709551616 := Nat.lt_of_le_of_lt (Nat.div_le_self _ _) hl
      by_cases hlt : k < n % 64
      · have HS : Hid _ := div_pow_succ x k
        generalize x / 2 ^ k = y at *
        go_wp2
        go_round
        case rel => exact ⟨k + 1, by omega, by go_num, by rw [← HS.out]; go_num⟩
        case measure => simp [intOf]; omega
      · obtain rfl : k = n % 64 := by omega
        generalize x / 2 ^ (n % 64) = y at *
        go_wp2
        go_ret
        exact ⟨ret_bool (by rw [← HB.out]), (Below.refl _ _).alloc (Nat.le_refl _) _⟩
  · have hw : s.w (n / 64) = s.c := by rw [hq]; rfl
    rw [hw] at HB hl
    generalize hx : s.c = x at *
    have e0 : (((n : Int) / 64) == 0) = false := by rw [beq_eq_false_iff_ne]; omega
    have e1 : (((n : Int) / 64) == 1) = false := by rw [beq_eq_false_iff_ne]; omega
    have e2 : (((n : Int) / 64) == 2) = true := by rw [beq_iff_eq]; omega
    have e3 : (((n : Int) / 64) == 3) = false := by rw [beq_eq_false_iff_ne]; omega
    go_enter Try.func67, Try.ntmps67
    go_wp2
    go_loop [5, 6] (fun v i => ∃ k : Nat, k ≤ n % 64 ∧ i = .int .i64 k ∧ v = .int .u64 (x / 2 ^ k : Nat)) (fun _ i => n % 64 - (intOf i).toNat)
    case atStart => exact ⟨0, Nat.zero_le _, rfl, by simp⟩
    case round =>
      obtain ⟨k, hk, rfl, rfl⟩ := hrel
      have hd : x / 2 ^ k < 18446744073709551616 := Nat.lt_of_le_of_lt (Nat.div_le_self _ _) hl
      by_cases hlt : k < n % 64
      · have HS : Hid _ := div_pow_succ x k
        generalize x / 2 ^ k = y at *
        go_wp2
        go_round
        case rel => exact ⟨k + 1, by omega, by go_num, by rw [← HS.out]; go_num⟩
        case measure => simp [intOf]; omega
      · obtain rfl : k = n % 64 := by omega
        generalize x / 2 ^ (n % 64) = y at *
        go_wp2
        go_ret
        exact ⟨ret_bool (by rw [← HB.out]), (Below.refl _ _).alloc (Nat.le_refl _) _⟩
  · have hw : s.w (n / 64) = s.d := by rw [hq]; rfl
    rw [hw] at HB hl
    generalize hx : s.d = x at *
    have e0 : (((n : Int) / 64) == 0) = false := by rw [beq_eq_false_iff_ne]; omega
    have e1 : (((n : Int) / 64) == 1) = false := by rw [beq_eq_false_iff_ne]; omega
    have e2 : (((n : Int) / 64) == 2) = false := by rw [beq_eq_false_iff_ne]; omega
    have e3 : (((n : Int) / 64) == 3) = true := by rw [beq_iff_eq]; omega
    go_enter Try.func67, Try.ntmps67
    go_wp2
    go_loop [5, 6] (fun v i => ∃ k : Nat, k ≤ n % 64 ∧ i = .int .i64 k ∧ v = .int .u64 (x / 2 ^ k : Nat)) (fun _ i => n % 64 - (intOf i).toNat)
    case atStart => exact ⟨0, Nat.zero_le _, rfl, by simp⟩
    case round =>
      obtain ⟨k, hk, rfl, rfl⟩ := hrel
      have hd : x / 2 ^ k < 18446744073709551616 := Nat.lt_of_le_of_lt (Nat.div_le_self _ _) hl
      by_cases hlt : k < n % 64
      · have HS : Hid _ := div_pow_succ x k
        generalize x / 2 ^ k = y at *
        go_wp2
        go_round
        case rel => exact ⟨k + 1, by omega, by go_num, by rw [← HS.out]; go_num⟩
        case measure => simp [intOf]; omega
      · obtain rfl : k = n % 64 := by omega
        generalize x / 2 ^ (n % 64) = y at *
        go_wp2
        go_ret
        exact ⟨ret_bool (by rw [← HB.out]), (Below.refl _ _).alloc (Nat.le_refl _) _⟩

set_option maxHeartbeats 400000 in
theorem rhas_out (s : St) (n : Int) (w : World) (h : n < 0 ∨ 255 < n) :
    Calls Try.prog 67 #[.agg #[.int .u64 s.a, .int .u64 s.b, .int .u64 s.c, .int .u64 s.d], .int .i64 n] w fun e w' => e = .returned (.bool false) ∧ Below w.heap.size w w' := by
  by_cases h1 : n < 0
  · go_enter Try.func67, Try.ntmps67
    go_wp2
    go_ret
    exact ⟨rfl, (Below.refl _ _).alloc (Nat.le_refl _) _⟩
  · have h2 : 255 < n := by omega
    have g1 : decide (n < 0) = false := by simp; omega
    go_enter Try.func67, Try.ntmps67
    go_wp2
    go_ret
    exact ⟨rfl, (Below.refl _ _).alloc (Nat.le_refl _) _⟩

theorem or_add_and : ∀ (k x y : Nat), x < 2 ^ k → y < 2 ^ k → (x ||| y) + (x &&& y) = x + y
  | 0, x, y, hx, hy => by
    have : x = 0 := by simpa using hx
    have : y = 0 := by simpa using hy
    subst_vars; rfl
  | k + 1, x, y, hx, hy => by
    rw [Nat.pow_succ] at hx hy
    have ih := or_add_and k (x / 2) (y / 2) (by omega) (by omega)
    have e1 : (x ||| y) / 2 = x / 2 ||| y / 2 := Nat.or_div_two
    have e2 : (x &&& y) / 2 = x / 2 &&& y / 2 := Nat.and_div_two
    have q1 : (x ||| y) % 2 + (x &&& y) % 2 = x % 2 + y % 2 := by
      have a1 := Nat.or_mod_two_pow (a := x) (b := y) (n := 1)
      have a2 := Nat.and_mod_two_pow (a := x) (b := y) (n := 1)
      rw [Nat.pow_one] at a1 a2
      rw [a1, a2]
      have hx : x % 2 = 0 ∨ x % 2 = 1 := by omega
      have hy : y % 2 = 0 ∨ y % 2 = 1 := by omega
      rcases hx with hx | hx <;> rcases hy with hy | hy <;> rw [hx, hy] <;> decide
    omega
theorem add_or (x k : Nat) (hx : x < 18446744073709551616) (hk : k < 64) (h : x.testBit k = false) : x + 2 ^ k = x ||| 2 ^ k := by
  have h1 := or_add_and 64 x (2 ^ k) (by simpa using hx) (by have := pow_lt64 k hk; simpa using this)
  have h2 : x &&& 2 ^ k = 0 := by
    rw [Nat.testBit_eq_decide_div_mod_eq] at h
    have : x / 2 ^ k % 2 = 0 := by
      have := of_decide_eq_false h; omega
    rw [nat_bit, this, Nat.zero_mul]
  omega
theorem St.add_has (s : St) (n : Nat) (hs : s.ok) (hn : n < 256) (h : s.has n = true) : s.add n = s :=
  St.ext' (St.add_ok hs n) hs (fun m hm => by
    rw [St.has_add s n m hn hm]
    by_cases e : m = n
    · subst e; simp [h]
    · simp [e])

set_option maxHeartbeats 2000000 in
theorem rwith_any (s : St) (n : Nat) (w : World) (hs : s.ok) (hn : n < 256) :
    Calls Try.prog 68 #[.agg #[.int .u64 s.a, .int .u64 s.b, .int .u64 s.c, .int .u64 s.d], .int .i64 n] w fun e w' => e = .returned (.agg #[.int .u64 (s.add n).a, .int .u64 (s.add n).b, .int .u64 (s.add n).c, .int .u64 (s.add n).d]) ∧ Below w.heap.size w w' := by
  have HH : Hid _ := fun w => rhas_any s n w hs hn
  have g1 : decide ((n : Int) < 0) = false := by simp
  have g2 : decide ((255 : Int) < (n : Int)) = false := by simp; omega
  have hb0 : Below w.heap.size w ((w.alloc (.cells #[.int .u64 s.a, .int .u64 s.b, .int .u64 s.c, .int .u64 s.d] 49)).alloc (.cells #[.int .u64 0, .int .u64 0, .int .u64 0, .int .u64 0] 49)) := ((Below.refl _ _).alloc (Nat.le_refl _) _).alloc (by simp <;> omega) _
  cases hh : s.has n with
  | true =>
    rw [St.add_has s n hs hn hh]
    rw [hh] at HH
    clear hh
    go_enter Try.func68, Try.ntmps68
    go_wp2_with (go_at_call 67; refine (HH.out _).mono ?_)
    rintro e w1 ⟨rfl, hb1⟩
    have a0 : w1.cell? ⟨w.heap.size, 0, none⟩ = some (.int .u64 s.a) := (hb1.cell (p := ⟨w.heap.size, 0, none⟩) (by simp <;> omega)).trans (by go_simp)
    have a1 : w1.cell? ⟨w.heap.size, 1, none⟩ = some (.int .u64 s.b) := (hb1.cell (p := ⟨w.heap.size, 1, none⟩) (by simp <;> omega)).trans (by go_simp)
    have a2 : w1.cell? ⟨w.heap.size, 2, none⟩ = some (.int .u64 s.c) := (hb1.cell (p := ⟨w.heap.size, 2, none⟩) (by simp <;> omega)).trans (by go_simp)
    have a3 : w1.cell? ⟨w.heap.size, 3, none⟩ = some (.int .u64 s.d) := (hb1.cell (p := ⟨w.heap.size, 3, none⟩) (by simp <;> omega)).trans (by go_simp)
    have b0 : w1.cell? ⟨w.heap.size + 1, 0, none⟩ = some (.int .u64 0) := (hb1.cell (p := ⟨w.heap.size + 1, 0, none⟩) (by simp <;> omega)).trans (by go_simp)
    have b1 : w1.cell? ⟨w.heap.size + 1, 1, none⟩ = some (.int .u64 0) := (hb1.cell (p := ⟨w.heap.size + 1, 1, none⟩) (by simp <;> omega)).trans (by go_simp)
    have b2 : w1.cell? ⟨w.heap.size + 1, 2, none⟩ = some (.int .u64 0) := (hb1.cell (p := ⟨w.heap.size + 1, 2, none⟩) (by simp <;> omega)).trans (by go_simp)
    have b3 : w1.cell? ⟨w.heap.size + 1, 3, none⟩ = some (.int .u64 0) := (hb1.cell (p := ⟨w.heap.size + 1, 3, none⟩) (by simp <;> omega)).trans (by go_simp)
    have f0 : ∀ o, w1.frozen? ⟨w.heap.size, o, none⟩ = false := fun o => (hb1.frozen (p := ⟨w.heap.size, o, none⟩) (by simp <;> omega)).trans (by go_simp)
    have f1 : ∀ o, w1.frozen? ⟨w.heap.size + 1, o, none⟩ = false := fun o => (hb1.frozen (p := ⟨w.heap.size + 1, o, none⟩) (by simp <;> omega)).trans (by go_simp)
    go_wp2
    refine bodyPost_ret (v := .agg #[.int .u64 s.a, .int .u64 s.b, .int .u64 s.c, .int .u64 s.d]) (by simp [results, Try.results68, go_sem, b0, b1, b2, b3]) rfl ⟨rfl, ?_⟩
    have hB1 := below_of hb0 hb1
    refine Below.setCell (Below.setCell (Below.setCell (Below.setCell hB1 ?_ _) ?_ _) ?_ _) ?_ _ <;> (simp only; omega)
  | false =>
    have hl := s.w_lt hs (n / 64)
    have HO : s.w (n / 64) + 2 ^ (n % 64) = s.w (n / 64) ||| 2 ^ (n % 64) := add_or _ _ hl (Nat.mod_lt _ (by omega)) hh
    rw [hh] at HH
    clear hh
    have hq : n / 64 = 0 ∨ n / 64 = 1 ∨ n / 64 = 2 ∨ n / 64 = 3 := by omega
    rcases hq with hq | hq | hq | hq
    · have hw : s.w (n / 64) = s.a := by rw [hq]; rfl
      rw [hw] at HO hl
      have EA : Hid _ := St.add0 s n hq
      rw [← HO] at EA
      have e0 : (((n : Int) / 64) == 0) = true := by rw [beq_iff_eq]; omega
      have e1 : (((n : Int) / 64) == 1) = false := by rw [beq_eq_false_iff_ne]; omega
      have e2 : (((n : Int) / 64) == 2) = false := by rw [beq_eq_false_iff_ne]; omega
      have e3 : (((n : Int) / 64) == 3) = false := by rw [beq_eq_false_iff_ne]; omega
      have hsm : s.a + 2 ^ (n % 64) < 18446744073709551616 := by rw [HO]; exact or_lt64 hl (pow_lt64 _ (Nat.mod_lt _ (by omega)))
      clear HO
      go_enter Try.func68, Try.ntmps68
      go_wp2_with (go_at_call 67; refine (HH.out _).mono ?_)
      rintro e w1 ⟨rfl, hb1⟩
      have hA := hb1
      have a0 : w1.cell? ⟨w.heap.size, 0, none⟩ = some (.int .u64 s.a) := (hA.cell (p := ⟨w.heap.size, 0, none⟩) (by simp <;> omega)).trans (by go_simp)
      have a1 : w1.cell? ⟨w.heap.size, 1, none⟩ = some (.int .u64 s.b) := (hA.cell (p := ⟨w.heap.size, 1, none⟩) (by simp <;> omega)).trans (by go_simp)
      have a2 : w1.cell? ⟨w.heap.size, 2, none⟩ = some (.int .u64 s.c) := (hA.cell (p := ⟨w.heap.size, 2, none⟩) (by simp <;> omega)).trans (by go_simp)
      have a3 : w1.cell? ⟨w.heap.size, 3, none⟩ = some (.int .u64 s.d) := (hA.cell (p := ⟨w.heap.size, 3, none⟩) (by simp <;> omega)).trans (by go_simp)
      have b0 : w1.cell? ⟨w.heap.size + 1, 0, none⟩ = some (.int .u64 0) := (hA.cell (p := ⟨w.heap.size + 1, 0, none⟩) (by simp <;> omega)).trans (by go_simp)
      have b1 : w1.cell? ⟨w.heap.size + 1, 1, none⟩ = some (.int .u64 0) := (hA.cell (p := ⟨w.heap.size + 1, 1, none⟩) (by simp <;> omega)).trans (by go_simp)
      have b2 : w1.cell? ⟨w.heap.size + 1, 2, none⟩ = some (.int .u64 0) := (hA.cell (p := ⟨w.heap.size + 1, 2, none⟩) (by simp <;> omega)).trans (by go_simp)
      have b3 : w1.cell? ⟨w.heap.size + 1, 3, none⟩ = some (.int .u64 0) := (hA.cell (p := ⟨w.heap.size + 1, 3, none⟩) (by simp <;> omega)).trans (by go_simp)
      have f0 : ∀ o, w1.frozen? ⟨w.heap.size, o, none⟩ = false := fun o => (hA.frozen (p := ⟨w.heap.size, o, none⟩) (by simp <;> omega)).trans (by go_simp)
      have f1 : ∀ o, w1.frozen? ⟨w.heap.size + 1, o, none⟩ = false := fun o => (hA.frozen (p := ⟨w.heap.size + 1, o, none⟩) (by simp <;> omega)).trans (by go_simp)
      go_wp2
      go_loop [5, 6] (fun v i => ∃ k : Nat, k ≤ n % 64 ∧ i = .int .i64 k ∧ v = .int .u64 (2 ^ k : Nat)) (fun _ i => n % 64 - (intOf i).toNat)
      case atStart => exact ⟨0, Nat.zero_le _, rfl, by simp⟩
      case round =>
        obtain ⟨k, hk, rfl, rfl⟩ := hrel
        by_cases hlt : k < n % 64
        · have HS : Hid _ := Nat.pow_succ 2 k
          have hp : 2 ^ k * 2 < 18446744073709551616 := by rw [← Nat.pow_succ]; exact pow_lt64 _ (by omega)
          generalize 2 ^ k = y at *
          have hwr : IntKind.u64.wrap ((y : Int) * 2) = ((y * 2 : Nat) : Int) := wrap_u64_nat _ hp
          go_wp2
          go_round
          case rel => exact ⟨k + 1, by omega, by go_num, by rw [HS.out]; go_num⟩
          case measure => simp [intOf]; omega
        · obtain rfl : k = n % 64 := by omega
          generalize 2 ^ (n % 64) = y at *
          have hwr : IntKind.u64.wrap ((s.a : Int) + (y : Int)) = ((s.a + y : Nat) : Int) := wrap_u64_nat _ hsm
          go_wp2
          refine bodyPost_ret (v := .agg #[.int .u64 (s.a + y : Nat), .int .u64 s.b, .int .u64 s.c, .int .u64 s.d]) (by simp [results, Try.results68, go_sem, b0, b1, b2, b3]) rfl ⟨by rw [EA.out], ?_⟩
          have hB1 := below_of hb0 hb1
          refine Below.setCell (Below.setCell (Below.setCell (Below.setCell (Below.setCell hB1 ?_ _) ?_ _) ?_ _) ?_ _) ?_ _ <;> (simp only; omega)
    · have hw : s.w (n / 64) = s.b := by rw [hq]; rfl
      rw [hw] at HO hl
      have EA : Hid _ := St.add1 s n hq
      rw [← HO] at EA
      have e0 : (((n : Int) / 64) == 0) = false := by rw [beq_eq_false_iff_ne]; omega
      have e1 : (((n : Int) / 64) == 1) = true := by rw [beq_iff_eq]; omega
      have e2 : (((n : Int) / 64) == 2) = false := by rw [beq_eq_false_iff_ne]; omega
      have e3 : (((n : Int) / 64) == 3) = false := by rw [beq_eq_false_iff_ne]; omega
      have hsm : s.b + 2 ^ (n % 64) < 18446744073709551616 := by rw [HO]; exact or_lt64 hl (pow_lt64 _ (Nat.mod_lt _ (by omega)))
      clear HO
      go_enter Try.func68, Try.ntmps68
      go_wp2_with (go_at_call 67; refine (HH.out _).mono ?_)
      rintro e w1 ⟨rfl, hb1⟩
      have hA := hb1
      have a0 : w1.cell? ⟨w.heap.size, 0, none⟩ = some (.int .u64 s.a) := (hA.cell (p := ⟨w.heap.size, 0, none⟩) (by simp <;> omega)).trans (by go_simp)
      have a1 : w1.cell? ⟨w.heap.size, 1, none⟩ = some (.int .u64 s.b) := (hA.cell (p := ⟨w.heap.size, 1, none⟩) (by simp <;> omega)).trans (by go_simp)
      have a2 : w1.cell? ⟨w.heap.size, 2, none⟩ = some (.int .u64 s.c) := (hA.cell (p := ⟨w.heap.size, 2, none⟩) (by simp <;> omega)).trans (by go_simp)
      have a3 : w1.cell? ⟨w.heap.size, 3, none⟩ = some (.int .u64 s.d) := (hA.cell (p := ⟨w.heap.size, 3, none⟩) (by simp <;> omega)).trans (by go_simp)
      have b0 : w1.cell? ⟨w.heap.size + 1, 0, none⟩ = some (.int .u64 0) := (hA.cell (p := ⟨w.heap.size + 1, 0, none⟩) (by simp <;> omega)).trans (by go_simp)
      have b1 : w1.cell? ⟨w.heap.size + 1, 1, none⟩ = some (.int .u64 0) := (hA.cell (p := ⟨w.heap.size + 1, 1, none⟩) (by simp <;> omega)).trans (by go_simp)
      have b2 : w1.cell? ⟨w.heap.size + 1, 2, none⟩ = some (.int .u64 0) := (hA.cell (p := ⟨w.heap.size + 1, 2, none⟩) (by simp <;> omega)).trans (by go_simp)
      have b3 : w1.cell? ⟨w.heap.size + 1, 3, none⟩ = some (.int .u64 0) := (hA.cell (p := ⟨w.heap.size + 1, 3, none⟩) (by simp <;> omega)).trans (by go_simp)
      have f0 : ∀ o, w1.frozen? ⟨w.heap.size, o, none⟩ = false := fun o => (hA.frozen (p := ⟨w.heap.size, o, none⟩) (by simp <;> omega)).trans (by go_simp)
      have f1 : ∀ o, w1.frozen? ⟨w.heap.size + 1, o, none⟩ = false := fun o => (hA.frozen (p := ⟨w.heap.size + 1, o, none⟩) (by simp <;> omega)).trans (by go_simp)
      go_wp2
      go_loop [5, 6] (fun v i => ∃ k : Nat, k ≤ n % 64 ∧ i = .int .i64 k ∧ v = .int .u64 (2 ^ k : Nat)) (fun _ i => n % 64 - (intOf i).toNat)
      case atStart => exact ⟨0, Nat.zero_le _, rfl, by simp⟩
      case round =>
        obtain ⟨k, hk, rfl, rfl⟩ := hrel
        by_cases hlt : k < n % 64
        · have HS : Hid _ := Nat.pow_succ 2 k
          have hp : 2 ^ k * 2 < 18446744073709551616 := by rw [← Nat.pow_succ]; exact pow_lt64 _ (by omega)
          generalize 2 ^ k = y at *
          have hwr : IntKind.u64.wrap ((y : Int) * 2) = ((y * 2 : Nat) : Int) := wrap_u64_nat _ hp
          go_wp2
          go_round
          case rel => exact ⟨k + 1, by omega, by go_num, by rw [HS.out]; go_num⟩
          case measure => simp [intOf]; omega
        · obtain rfl : k = n % 64 := by omega
          generalize 2 ^ (n % 64) = y at *
          have hwr : IntKind.u64.wrap ((s.b : Int) + (y : Int)) = ((s.b + y : Nat) : Int) := wrap_u64_nat _ hsm
          go_wp2
          refine bodyPost_ret (v := .agg #[.int .u64 s.a, .int .u64 (s.b + y : Nat), .int .u64 s.c, .int .u64 s.d]) (by simp [results, Try.results68, go_sem, b0, b1, b2, b3]) rfl ⟨by rw [EA.out], ?_⟩
          have hB1 := below_of hb0 hb1
          refine Below.setCell (Below.setCell (Below.setCell (Below.setCell (Below.setCell hB1 ?_ _) ?_ _) ?_ _) ?_ _) ?_ _ <;> (simp only; omega)
    · have hw : s.w (n / 64) = s.c := by rw [hq]; rfl
      rw [hw] at HO hl
      have EA : Hid _ := St.add2 s n hq
      rw [← HO] at EA
      have e0 : (((n : Int) / 64) == 0) = false := by rw [beq_eq_false_iff_ne]; omega
      have e1 : (((n : Int) / 64) == 1) = false := by rw [beq_eq_false_iff_ne]; omega
      have e2 : (((n : Int) / 64) == 2) = true := by rw [beq_iff_eq]; omega
      have e3 : (((n : Int) / 64) == 3) = false := by rw [beq_eq_false_iff_ne]; omega
      have hsm : s.c + 2 ^ (n % 64) < 18446744073709551616 := by rw [HO]; exact or_lt64 hl (pow_lt64 _ (Nat.mod_lt _ (by omega)))
      clear HO
      go_enter Try.func68, Try.ntmps68
      go_wp2_with (go_at_call 67; refine (HH.out _).mono ?_)
      rintro e w1 ⟨rfl, hb1⟩
      have hA := hb1
      have a0 : w1.cell? ⟨w.heap.size, 0, none⟩ = some (.int .u64 s.a) := (hA.cell (p := ⟨w.heap.size, 0, none⟩) (by simp <;> omega)).trans (by go_simp)
      have a1 : w1.cell? ⟨w.heap.size, 1, none⟩ = some (.int .u64 s.b) := (hA.cell (p := ⟨w.heap.size, 1, none⟩) (by simp <;> omega)).trans (by go_simp)
      have a2 : w1.cell? ⟨w.heap.size, 2, none⟩ = some (.int .u64 s.c) := (hA.cell (p := ⟨w.heap.size, 2, none⟩) (by simp <;> omega)).trans (by go_simp)
      have a3 : w1.cell? ⟨w.heap.size, 3, none⟩ = some (.int .u64 s.d) := (hA.cell (p := ⟨w.heap.size, 3, none⟩) (by simp <;> omega)).trans (by go_simp)
      have b0 : w1.cell? ⟨w.heap.size + 1, 0, none⟩ = some (.int .u64 0) := (hA.cell (p := ⟨w.heap.size + 1, 0, none⟩) (by simp <;> omega)).trans (by go_simp)
      have b1 : w1.cell? ⟨w.heap.size + 1, 1, none⟩ = some (.int .u64 0) := (hA.cell (p := ⟨w.heap.size + 1, 1, none⟩) (by simp <;> omega)).trans (by go_simp)
      have b2 : w1.cell? ⟨w.heap.size + 1, 2, none⟩ = some (.int .u64 0) := (hA.cell (p := ⟨w.heap.size + 1, 2, none⟩) (by simp <;> omega)).trans (by go_simp)
      have b3 : w1.cell? ⟨w.heap.size + 1, 3, none⟩ = some (.int .u64 0) := (hA.cell (p := ⟨w.heap.size + 1, 3, none⟩) (by simp <;> omega)).trans (by go_simp)
      have f0 : ∀ o, w1.frozen? ⟨w.heap.size, o, none⟩ = false := fun o => (hA.frozen (p := ⟨w.heap.size, o, none⟩) (by simp <;> omega)).trans (by go_simp)
      have f1 : ∀ o, w1.frozen? ⟨w.heap.size + 1, o, none⟩ = false := fun o => (hA.frozen (p := ⟨w.heap.size + 1, o, none⟩) (by simp <;> omega)).trans (by go_simp)
      go_wp2
      go_loop [5, 6] (fun v i => ∃ k : Nat, k ≤ n % 64 ∧ i = .int .i64 k ∧ v = .int .u64 (2 ^ k : Nat)) (fun _ i => n % 64 - (intOf i).toNat)
      case atStart => exact ⟨0, Nat.zero_le _, rfl, by simp⟩
      case round =>
        obtain ⟨k, hk, rfl, rfl⟩ := hrel
        by_cases hlt : k < n % 64
        · have HS : Hid _ := Nat.pow_succ 2 k
          have hp : 2 ^ k * 2 < 18446744073709551616 := by rw [← Nat.pow_succ]; exact pow_lt64 _ (by omega)
          generalize 2 ^ k = y at *
          have hwr : IntKind.u64.wrap ((y : Int) * 2) = ((y * 2 : Nat) : Int) := wrap_u64_nat _ hp
          go_wp2
          go_round
          case rel => exact ⟨k + 1, by omega, by go_num, by rw [HS.out]; go_num⟩
          case measure => simp [intOf]; omega
        · obtain rfl : k = n % 64 := by omega
          generalize 2 ^ (n % 64) = y at *
          have hwr : IntKind.u64.wrap ((s.c : Int) + (y : Int)) = ((s.c + y : Nat) : Int) := wrap_u64_nat _ hsm
          go_wp2
          refine bodyPost_ret (v := .agg #[.int .u64 s.a, .int .u64 s.b, .int .u64 (s.c + y : Nat), .int .u64 s.d]) (by simp [results, Try.results68, go_sem, b0, b1, b2, b3]) rfl ⟨by rw [EA.out], ?_⟩
          have hB1 := below_of hb0 hb1
          refine Below.setCell (Below.setCell (Below.setCell (Below.setCell (Below.setCell hB1 ?_ _) ?_ _) ?_ _) ?_ _) ?_ _ <;> (simp only; omega)
    · have hw : s.w (n / 64) = s.d := by rw [hq]; rfl
      rw [hw] at HO hl
      have EA : Hid _ := St.add3 s n hq
      rw [← HO] at EA
      have e0 : (((n : Int) / 64) == 0) = false := by rw [beq_eq_false_iff_ne]; omega
      have e1 : (((n : Int) / 64) == 1) = false := by rw [beq_eq_false_iff_ne]; omega
      have e2 : (((n : Int) / 64) == 2) = false := by rw [beq_eq_false_iff_ne]; omega
      have e3 : (((n : Int) / 64) == 3) = true := by rw [beq_iff_eq]; omega
      have hsm : s.d + 2 ^ (n % 64) < 18446744073709551616 := by rw [HO]; exact or_lt64 hl (pow_lt64 _ (Nat.mod_lt _ (by omega)))
      clear HO
      go_enter Try.func68, Try.ntmps68
      go_wp2_with (go_at_call 67; refine (HH.out _).mono ?_)
      rintro e w1 ⟨rfl, hb1⟩
      have hA := hb1
      have a0 : w1.cell? ⟨w.heap.size, 0, none⟩ = some (.int .u64 s.a) := (hA.cell (p := ⟨w.heap.size, 0, none⟩) (by simp <;> omega)).trans (by go_simp)
      have a1 : w1.cell? ⟨w.heap.size, 1, none⟩ = some (.int .u64 s.b) := (hA.cell (p := ⟨w.heap.size, 1, none⟩) (by simp <;> omega)).trans (by go_simp)
      have a2 : w1.cell? ⟨w.heap.size, 2, none⟩ = some (.int .u64 s.c) := (hA.cell (p := ⟨w.heap.size, 2, none⟩) (by simp <;> omega)).trans (by go_simp)
      have a3 : w1.cell? ⟨w.heap.size, 3, none⟩ = some (.int .u64 s.d) := (hA.cell (p := ⟨w.heap.size, 3, none⟩) (by simp <;> omega)).trans (by go_simp)
      have b0 : w1.cell? ⟨w.heap.size + 1, 0, none⟩ = some (.int .u64 0) := (hA.cell (p := ⟨w.heap.size + 1, 0, none⟩) (by simp <;> omega)).trans (by go_simp)
      have b1 : w1.cell? ⟨w.heap.size + 1, 1, none⟩ = some (.int .u64 0) := (hA.cell (p := ⟨w.heap.size + 1, 1, none⟩) (by simp <;> omega)).trans (by go_simp)
      have b2 : w1.cell? ⟨w.heap.size + 1, 2, none⟩ = some (.int .u64 0) := (hA.cell (p := ⟨w.heap.size + 1, 2, none⟩) (by simp <;> omega)).trans (by go_simp)
      have b3 : w1.cell? ⟨w.heap.size + 1, 3, none⟩ = some (.int .u64 0) := (hA.cell (p := ⟨w.heap.size + 1, 3, none⟩) (by simp <;> omega)).trans (by go_simp)
      have f0 : ∀ o, w1.frozen? ⟨w.heap.size, o, none⟩ = false := fun o => (hA.frozen (p := ⟨w.heap.size, o, none⟩) (by simp <;> omega)).trans (by go_simp)
      have f1 : ∀ o, w1.frozen? ⟨w.heap.size + 1, o, none⟩ = false := fun o => (hA.frozen (p := ⟨w.heap.size + 1, o, none⟩) (by simp <;> omega)).trans (by go_simp)
      go_wp2
      go_loop [5, 6] (fun v i => ∃ k : Nat, k ≤ n % 64 ∧ i = .int .i64 k ∧ v = .int .u64 (2 ^ k : Nat)) (fun _ i => n % 64 - (intOf i).toNat)
      case atStart => exact ⟨0, Nat.zero_le _, rfl, by simp⟩
      case round =>
        obtain ⟨k, hk, rfl, rfl⟩ := hrel
        by_cases hlt : k < n % 64
        · have HS : Hid _ := Nat.pow_succ 2 k
          have hp : 2 ^ k * 2 < 18446744073709551616 := by rw [← Nat.pow_succ]; exact pow_lt64 _ (by omega)
          generalize 2 ^ k = y at *
          have hwr : IntKind.u64.wrap ((y : Int) * 2) = ((y * 2 : Nat) : Int) := wrap_u64_nat _ hp
          go_wp2
          go_round
          case rel => exact ⟨k + 1, by omega, by go_num, by rw [HS.out]; go_num⟩
          case measure => simp [intOf]; omega
        · obtain rfl : k = n % 64 := by omega
          generalize 2 ^ (n % 64) = y at *
          have hwr : IntKind.u64.wrap ((s.d : Int) + (y : Int)) = ((s.d + y : Nat) : Int) := wrap_u64_nat _ hsm
          go_wp2
          refine bodyPost_ret (v := .agg #[.int .u64 s.a, .int .u64 s.b, .int .u64 s.c, .int .u64 (s.d + y : Nat)]) (by simp [results, Try.results68, go_sem, b0, b1, b2, b3]) rfl ⟨by rw [EA.out], ?_⟩
          have hB1 := below_of hb0 hb1
          refine Below.setCell (Below.setCell (Below.setCell (Below.setCell (Below.setCell hB1 ?_ _) ?_ _) ?_ _) ?_ _) ?_ _ <;> (simp only; omega)

end Go.Proofs.Ytopbibhpekjaeaa
