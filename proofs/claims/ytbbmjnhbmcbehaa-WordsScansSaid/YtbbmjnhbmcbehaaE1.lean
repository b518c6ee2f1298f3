/- The document's own letter, closed, number, over, Said and word. -/
import Derived.Test.YtbbmjnhbmcbehaaM1
import Derived.Test.YtbbmjnhbmcbehaaQ1
import Derived.Test.YtbbmjnhbmcbehaaN8
import Derived.Test.YtbbmjnhbmcbehaaP1
import Derived.Test.YtbbmjnhbmcbehaaP2
import Derived.Test.YtbbmjnhbmcbehaaN3
import Derived.Test.YtbbmjnhbmcbehaaY1
import Derived.Test.YtbbmjnhbmcbehaaK1
import Derived.Test.YtbbmjnhbmcbehaaN11
import Derived.Test.YtbbmjnhbmcbehaaY4
import Derived.Test.YtbbmjnhbmcbehaaF1
namespace Go.Proofs.Ytbbmjnhbmcbehaa
open Go.RowKit

/-- What stands behind the backslash of a byte; 0: none. -/
def letq (n : Nat) : Nat := if n = 34 ∨ n = 92 then n else if n = 10 then 110 else if n = 9 then 116 else if n = 13 then 114 else 0
set_option maxRecDepth 100000 in
set_option maxHeartbeats 1000000 in
theorem letter_any (n : Nat) (hn : n < 256) (w : World) : Calls Try.prog 42 #[.int .u8 n] w fun e w' => e = .returned (.int .u8 (letq n : Nat)) ∧ w' = w := by
  unfold letq
  by_cases h1 : n = 34
  · subst h1; go_enter Try.func42, Try.ntmps42; go_wp2; go_ret; exact ⟨rfl, rfl⟩
  by_cases h2 : n = 92
  · subst h2; go_enter Try.func42, Try.ntmps42; go_wp2; go_ret; exact ⟨rfl, rfl⟩
  by_cases h3 : n = 10
  · subst h3; go_enter Try.func42, Try.ntmps42; go_wp2; go_ret; exact ⟨rfl, rfl⟩
  by_cases h4 : n = 9
  · subst h4; go_enter Try.func42, Try.ntmps42; go_wp2; go_ret; exact ⟨rfl, rfl⟩
  by_cases h5 : n = 13
  · subst h5; go_enter Try.func42, Try.ntmps42; go_wp2; go_ret; exact ⟨rfl, rfl⟩
  rw [if_neg (by omega), if_neg h3, if_neg h4, if_neg h5]
  have h1' : ¬ (n : Int) = 34 := by omega
  have h2' : ¬ (n : Int) = 92 := by omega
  have h3' : ¬ (n : Int) = 10 := by omega
  have h4' : ¬ (n : Int) = 9 := by omega
  have h5' : ¬ (n : Int) = 13 := by omega
  go_enter Try.func42, Try.ntmps42
  go_wp2
  go_ret
  exact ⟨rfl, rfl⟩
/-- The letter and the sign of a byte in quotes are of one mind. -/
theorem letq_sign : ∀ n : Fin 256, signq n.val = if letq n.val ≠ 0 then [92, UInt8.ofNat (letq n.val)] else if 32 ≤ n.val ∧ n.val ≤ 126 then [UInt8.ofNat n.val] else [92, 120, hexd (n.val / 16), hexd (n.val % 16)] := by decide +kernel
set_option maxRecDepth 100000 in
set_option maxHeartbeats 1000000 in
theorem rclosed_any (x : ByteArray) (i : Nat) (w : World) (hx : x.size ≤ 65538) (hi : i < x.size) : Calls Try.prog 62 #[.string x, .int .i64 i] w fun e w' => e = .returned (.int .i64 ((clo (x.data.toList.drop (i + 1)) (i + 1) : Nat) : Int)) ∧ w' = w := by
  obtain ⟨R, hR⟩ : ∃ R, clo (x.data.toList.drop (i + 1)) (i + 1) = R := ⟨_, rfl⟩
  rw [hR]
  have hxi : (x.size : Int) ≤ 65538 := by omega
  have hi' : (i : Int) < x.size := by omega
  go_enter Try.func62, Try.ntmps62
  go_wp2
  go_loop [5] (fun v => ∃ k : Nat, k ≤ x.size + 1 ∧ v = .int .i64 k ∧ clo (x.data.toList.drop k) k = R) (fun v => x.size + 1 - (intOf v).toNat)
  case atStart => exact ⟨i + 1, by omega, by go_num, hR⟩
  case round =>
    clear hR hi hi'
    obtain ⟨k, hk, rfl, hq⟩ := hrel
    have HQ : Hid _ := hq
    clear hq
    by_cases hlt : k < x.size
    · have hlt' : (k : Int) < x.size := by omega
      have b0 := bt_eq x k hlt
      rw [drop_at x k hlt] at HQ
      by_cases h93 : bt x k = 93
      · have h93' : (bt x k : Int) = 93 := by omega
        rw [clo_end _ _ _ (by rw [b0]; exact h93)] at HQ
        go_wp2
        go_ret
        exact ⟨ret_int (by rw [← HQ.out]; go_num), rfl⟩
      have h93' : ¬ (bt x k : Int) = 93 := by omega
      by_cases h92 : bt x k = 92
      · have h92' : (bt x k : Int) = 92 := by omega
        rw [clo_esc _ _ _ (by rw [b0]; exact h92), List.drop_drop] at HQ
        go_wp2
        go_round
        case rel => exact ⟨k + 2, by omega, by go_num, HQ.out⟩
        case measure => simp [intOf]; omega
      have h92' : ¬ (bt x k : Int) = 92 := by omega
      rw [clo_on _ _ _ (by rw [b0]; exact h93) (by rw [b0]; exact h92)] at HQ
      go_wp2
      go_round
      case rel => exact ⟨k + 1, by omega, by go_num, HQ.out⟩
      case measure => simp [intOf]; omega
    · have hlt' : ¬ (k : Int) < x.size := by omega
      rw [drop_end x k (by omega)] at HQ
      go_wp2
      go_ret
      exact ⟨ret_int (by rw [← HQ.out]; rfl), rfl⟩
theorem cls_three (n : Nat) : decide (cls n = 3) = digB n := by
  unfold cls
  have h : digB n = true → great n = false ∧ small n = false := by
    unfold digB great small; simp; omega
  cases hd : digB n
  · cases great n <;> cases small n <;> simp
  · rw [(h hd).1, (h hd).2]; simp
theorem num_facts (x : ByteArray) (i S : Nat) (hi : i < x.size) (hS : lspan digB (x.data.toList.drop i) = S) :
    ∃ N : Nat → Nat, N 0 = 0 ∧ N S = numv ((x.data.toList.drop i).take S) ∧ (∀ j, j < S → 48 ≤ bt x (i + j) ∧ bt x (i + j) ≤ 57 ∧ i + j < x.size ∧ N (j + 1) = N j * 10 + (bt x (i + j) - 48)) ∧ (∀ j, j ≤ S → j ≤ 6 → N j ≤ 999999) ∧ (i + S < x.size → cls (bt x (i + S)) ≠ 3) ∧ i + S ≤ x.size := by
  have hle := lspan_le digB (x.data.toList.drop i)
  rw [hS, List.length_drop, list_len] at hle
  have hat : ∀ j, j < S → digB (bt x (i + j)) = true := by
    intro j hj
    have := lspan_at digB (x.data.toList.drop i) j (by omega)
    rw [List.getD_eq_getElem?_getD, List.getElem?_drop, ← List.getD_eq_getElem?_getD, ← bt_list] at this
    exact this
  have hd : ∀ j, j < S → 48 ≤ bt x (i + j) ∧ bt x (i + j) ≤ 57 := fun j hj => by
    have := hat j hj; unfold digB at this; simpa using this
  have hnx : ∀ j, j < S → (x.data.toList.drop i).take (j + 1) = (x.data.toList.drop i).take j ++ [x.data.toList.getD (i + j) 0] := by
    intro j hj
    have hl : j < (x.data.toList.drop i).length := by rw [List.length_drop, list_len]; omega
    rw [List.take_succ_eq_append_getElem hl]
    congr 2
    rw [List.getD_eq_getElem?_getD, ← List.getElem?_drop, List.getElem?_eq_getElem hl]; rfl
  refine ⟨fun j => numv ((x.data.toList.drop i).take j), rfl, rfl, ?_, ?_, ?_, by omega⟩
  · intro j hj
    refine ⟨(hd j hj).1, (hd j hj).2, by omega, ?_⟩
    simp only
    rw [hnx j hj, numv_snoc, ← bt_list]
  · intro j hj h6
    refine numv_le _ ?_ (by rw [List.length_take]; omega)
    clear h6
    induction j with
    | zero => simp
    | succ j ih =>
      rw [hnx j (by omega)]
      intro c hc
      rcases List.mem_append.1 hc with h | h
      · exact ih (by omega) c h
      · rw [List.mem_singleton.1 h, ← bt_list]; exact (hd j (by omega)).2
  · intro hlt
    have hst := lspan_drop digB (x.data.toList.drop i)
    rw [hS, List.drop_drop, drop_at x _ hlt] at hst
    have := hst _ _ rfl
    rw [bt_eq x _ hlt, ← cls_three] at this
    simpa using this
def rnumV (x : ByteArray) (i : Nat) : Nat × Nat × Nat := if (rdNum (x.data.toList.drop i)).code = 0 then ((rdNum (x.data.toList.drop i)).n, i + (rdNum (x.data.toList.drop i)).len, 0) else (0, 0, 21)
def tri (p : Nat × Nat × Nat) : Ending := .returned (.tuple #[.int .i64 (p.1 : Int), .int .i64 (p.2.1 : Int), .int .i64 (p.2.2 : Int)])
theorem tri_eq {a b c : Nat} {p : Nat × Nat × Nat} (h : p = (a, b, c)) : Ending.returned (.tuple #[.int .i64 (a : Int), .int .i64 (b : Int), .int .i64 (c : Int)]) = tri p := by subst h; rfl
theorem rnumV_eq (x : ByteArray) (i S : Nat) (hS : lspan digB (x.data.toList.drop i) = S) : rnumV x i = if 6 < S ∨ (1 < S ∧ bt x i = 48) then (0, 0, 21) else (numv ((x.data.toList.drop i).take S), i + S, 0) := by
  have e : ((x.data.toList.drop i).getD 0 0).toNat = bt x i := by
    rw [List.getD_eq_getElem?_getD, List.getElem?_drop, ← List.getD_eq_getElem?_getD, ← bt_list]; rfl
  unfold rnumV rdNum
  rw [hS, e]
  by_cases h : 6 < S ∨ (1 < S ∧ bt x i = 48)
  · rw [if_pos h, if_pos h]; rfl
  · rw [if_neg h, if_neg h]; rfl
set_option maxRecDepth 100000 in
set_option maxHeartbeats 1000000 in
theorem rnumber_any (x : ByteArray) (i : Nat) (w : World) (hx : x.size ≤ 65538) (hi : i < x.size) : Calls Try.prog 61 #[.string x, .int .i64 i] w fun e w' => e = tri (rnumV x i) ∧ w' = w := by
  obtain ⟨S, hS⟩ : ∃ S, lspan digB (x.data.toList.drop i) = S := ⟨_, rfl⟩
  obtain ⟨N, hN0, hNS, hNj, hN6, hcl, hiS⟩ := num_facts x i S hi hS
  have hV := rnumV_eq x i S hS
  rw [← hNS] at hV
  clear hS hNS
  generalize rnumV x i = V at *
  have HV : Hid _ := hV
  have HJ : Hid _ := hNj
  have H6 : Hid _ := hN6
  have HCL : Hid _ := hcl
  have H0 : Hid _ := hN0
  clear hV hNj hN6 hcl hN0
  have hxi : (x.size : Int) ≤ 65538 := by omega
  have hi' : (i : Int) < x.size := by omega
  have bi := bt_eq x i hi
  have HC : Hid _ := fun n w => cls_any n w
  go_enter Try.func61, Try.ntmps61
  go_wp2
  go_loop [7, 8] (fun v u => ∃ j : Nat, j ≤ S ∧ j ≤ 6 ∧ v = .int .i64 (i + j : Nat) ∧ u = .int .i64 (N j : Nat)) (fun v u => x.size - (intOf v).toNat)
  case atStart => exact ⟨0, by omega, by omega, rfl, by rw [H0.out]; rfl⟩
  case round =>
    obtain ⟨j, hj, hj6, rfl, rfl⟩ := hrel
    by_cases hjS : j < S
    · obtain ⟨c1, c2, c3, c4⟩ := HJ.out j hjS
      have hm6 := H6.out j hj hj6
      have hc3 : cls (bt x (i + j)) = 3 := by
        have := cls_three (bt x (i + j))
        rw [show digB (bt x (i + j)) = true by unfold digB; simp; omega] at this
        simpa using this
      have hk0 : Hid (i + j + 1 = i + (j + 1)) := Nat.add_assoc _ _ _
      obtain ⟨k, hk⟩ : ∃ k, i + j = k := ⟨_, rfl⟩
      obtain ⟨m, hm⟩ : ∃ m, N j = m := ⟨_, rfl⟩
      rw [hk] at c1 c2 c3 c4 hc3 hk0 ⊢
      rw [hm] at c4 hm6 ⊢
      have bk := bt_eq x k c3
      have HK : Hid (cls (bt x k) = 3) := hc3
      have HK4 : Hid (N (j + 1) = m * 10 + (bt x k - 48)) := c4
      have HKi : Hid (i + j = k) := hk
      have c1' : (48 : Int) ≤ bt x k := by omega
      have c2' : (bt x k : Int) ≤ 57 := by omega
      have c3' : (k : Int) < x.size := by omega
      have hm6' : (m : Int) ≤ 999999 := by omega
      have HC3 : Hid _ := fun w => cls_any (bt x k) w
      rw [HK.out] at HC3
      by_cases h7 : 6 < k + 1 - i
      · have h7' : (6 : Int) < k + 1 - i := by omega
        have H7 : Hid (6 < S) := by show 6 < S; omega
        clear hc3 c4 hk hm h7
        go_wp2_with (go_at_call 45; refine (HC3.out _).mono ?_; rintro e w' ⟨rfl, rfl⟩)
        go_ret3
        exact ⟨tri_eq (a := 0) (b := 0) (c := 21) (by rw [HV.out, if_pos (Or.inl H7.out)]), rfl⟩
      · have h7' : (k : Int) + 1 - i ≤ 6 := by omega
        clear hc3 c4 hk hm
        go_wp2_with (go_at_call 45; refine (HC3.out _).mono ?_; rintro e w' ⟨rfl, rfl⟩)
        go_round
        case rel => exact ⟨j + 1, by omega, by have := HKi.out; omega, by rw [← hk0.out]; go_num, by rw [HK4.out]; go_num⟩
        case measure => simp [intOf]; omega
    · have hjS' : j = S := by omega
      subst hjS'
      have HV' := HV
      obtain ⟨m, hm⟩ : ∃ m, N j = m := ⟨_, rfl⟩
      rw [hm] at HV' ⊢
      obtain ⟨k, hk⟩ : ∃ k, i + j = k := ⟨_, rfl⟩
      have HKi : Hid (i + j = k) := hk
      have hcl := HCL.out
      rw [hk] at hcl hiS HV' ⊢
      clear hk hm HCL
      have HV6 : Hid (V = if 1 < j ∧ bt x i = 48 then (0, 0, 21) else (m, k, 0)) := by
        show _ = _
        rw [HV'.out]
        by_cases h : 1 < j ∧ bt x i = 48
        · rw [if_pos (Or.inr h), if_pos h]
        · rw [if_neg (by omega), if_neg h]
      clear HV' HV HJ H6 H0 hjS hj
      by_cases hlt : k < x.size
      · have c3' : (k : Int) < x.size := by omega
        have bk := bt_eq x k hlt
        have hne := hcl hlt
        have HC3 : Hid _ := fun w => cls_any (bt x k) w
        generalize cls (bt x k) = q at *
        have hne' : ¬ (q : Int) = 3 := by omega
        clear hcl hne
        by_cases h48 : bt x i = 48
        · have h48' : (bt x i : Int) = 48 := by omega
          by_cases h1 : 1 < j
          · have h1' : (1 : Int) < k - i := by have := HKi.out; omega
            go_wp2_with (go_at_call 45; refine (HC3.out _).mono ?_; rintro e w' ⟨rfl, rfl⟩)
            go_ret3
            exact ⟨tri_eq (a := 0) (b := 0) (c := 21) (by rw [HV6.out, if_pos ⟨h1, h48⟩]), rfl⟩
          · have h1' : ¬ (1 : Int) < k - i := by have := HKi.out; omega
            go_wp2_with (go_at_call 45; refine (HC3.out _).mono ?_; rintro e w' ⟨rfl, rfl⟩)
            go_ret3
            exact ⟨tri_eq (a := m) (b := k) (c := 0) (by rw [HV6.out, if_neg (fun h => h1 h.1)]), rfl⟩
        · have h48' : ¬ (bt x i : Int) = 48 := by omega
          go_wp2_with (go_at_call 45; refine (HC3.out _).mono ?_; rintro e w' ⟨rfl, rfl⟩)
          go_ret3
          exact ⟨tri_eq (a := m) (b := k) (c := 0) (by rw [HV6.out, if_neg (fun h => h48 h.2)]), rfl⟩
      · have c3' : ¬ (k : Int) < x.size := by omega
        clear hcl
        by_cases h48 : bt x i = 48
        · have h48' : (bt x i : Int) = 48 := by omega
          by_cases h1 : 1 < j
          · have h1' : (1 : Int) < k - i := by have := HKi.out; omega
            go_wp2
            go_ret3
            exact ⟨tri_eq (a := 0) (b := 0) (c := 21) (by rw [HV6.out, if_pos ⟨h1, h48⟩]), rfl⟩
          · have h1' : ¬ (1 : Int) < k - i := by have := HKi.out; omega
            go_wp2
            go_ret3
            exact ⟨tri_eq (a := m) (b := k) (c := 0) (by rw [HV6.out, if_neg (fun h => h1 h.1)]), rfl⟩
        · have h48' : ¬ (bt x i : Int) = 48 := by omega
          go_wp2
          go_ret3
          exact ⟨tri_eq (a := m) (b := k) (c := 0) (by rw [HV6.out, if_neg (fun h => h48 h.2)]), rfl⟩
/-- The place behind the blanks and remarks. -/
def ov (l : List UInt8) (r : Bool) (p : Nat) : Nat := (skp l r p 0 0).2.1
theorem ov_any (l : List UInt8) (r : Bool) (p ln bg : Nat) : (skp l r p ln bg).2.1 = ov l r p := by
  have := (skp_any l r p ln bg p 0 0).2
  unfold ov; omega
theorem ov_nil (r : Bool) (p : Nat) : ov [] r p = p := rfl
theorem ov_cons (c : UInt8) (l : List UInt8) (r : Bool) (p : Nat) : ov (c :: l) r p = if c.toNat = 10 then ov l false (p + 1) else if r then ov l true (p + 1) else if c.toNat = 32 ∨ c.toNat = 9 ∨ c.toNat = 13 then ov l false (p + 1) else if c.toNat = 35 then ov l true (p + 1) else p := by
  have h : ov (c :: l) r p = (skp (c :: l) r p 0 0).2.1 := rfl
  rw [h]
  simp only [skp]
  repeat' split
  all_goals first | rw [ov_any] | rfl
theorem ov_at (x : ByteArray) (k : Nat) (r : Bool) (h : k < x.size) : ov (x.data.toList.drop k) r k = if bt x k = 10 then ov (x.data.toList.drop (k + 1)) false (k + 1) else if r then ov (x.data.toList.drop (k + 1)) true (k + 1) else if bt x k = 32 ∨ bt x k = 9 ∨ bt x k = 13 then ov (x.data.toList.drop (k + 1)) false (k + 1) else if bt x k = 35 then ov (x.data.toList.drop (k + 1)) true (k + 1) else k := by
  rw [drop_at x k h, ov_cons, bt_eq x k h]
theorem ov_end (x : ByteArray) (k : Nat) (r : Bool) (h : x.size ≤ k) : ov (x.data.toList.drop k) r k = k := by
  rw [drop_end x k h]; rfl
set_option maxRecDepth 100000 in
set_option maxHeartbeats 2000000 in
theorem rover_any (x : ByteArray) (i : Nat) (w : World) (hx : x.size ≤ 65538) (hi : i ≤ x.size) : Calls Try.prog 32 #[.string x, .int .i64 i] w fun e w' => e = .returned (.int .i64 ((ov (x.data.toList.drop i) false i : Nat) : Int)) ∧ w' = w := by
  obtain ⟨R, hR⟩ : ∃ R, ov (x.data.toList.drop i) false i = R := ⟨_, rfl⟩
  rw [hR]
  have hxi : (x.size : Int) ≤ 65538 := by omega
  go_enter Try.func32, Try.ntmps32
  go_wp2
  go_loop [1] (fun v => ∃ k : Nat, k ≤ x.size ∧ v = .int .i64 k ∧ ov (x.data.toList.drop k) false k = R) (fun v => x.size - (intOf v).toNat)
  case atStart => exact ⟨i, hi, rfl, hR⟩
  case round =>
    clear hR hi
    obtain ⟨k, hk, rfl, hq⟩ := hrel
    have HQ : Hid _ := hq
    clear hq
    by_cases hlt : k < x.size
    · have hlt' : (k : Int) < x.size := by omega
      have b0 := bt_eq x k hlt
      rw [ov_at x k false hlt] at HQ
      by_cases h35 : bt x k = 35
      · have h35' : (bt x k : Int) = 35 := by omega
        rw [if_neg (by omega), if_neg (by simp), if_neg (by omega), if_pos h35] at HQ
        go_wp2
        have HQ2 : Hid (ov (x.data.toList.drop k) true k = R) := by
          show _ = _
          rw [ov_at x k true hlt, if_neg (by omega), if_pos rfl]; exact HQ.out
        clear HQ
        go_loop [1] (fun v => ∃ k' : Nat, k ≤ k' ∧ k' ≤ x.size ∧ v = .int .i64 k' ∧ ov (x.data.toList.drop k') true k' = R) (fun v => x.size - (intOf v).toNat)
        case atStart => exact ⟨k, Nat.le_refl _, by omega, rfl, HQ2.out⟩
        case round =>
          clear HQ2
          obtain ⟨n, hkn, hn, rfl, hq⟩ := hrel
          have HQ : Hid _ := hq
          clear hq
          by_cases hl2 : n < x.size
          · have hl2' : (n : Int) < x.size := by omega
            have b2 := bt_eq x n hl2
            rw [ov_at x n true hl2] at HQ
            by_cases h10 : bt x n = 10
            · have h10' : (bt x n : Int) = 10 := by omega
              have hne : k < n := by
                rcases Nat.lt_or_ge k n with h | h
                · exact h
                · have : n = k := by omega
                  subst this; omega
              rw [if_pos h10] at HQ
              have HQ3 : Hid (ov (x.data.toList.drop n) false n = R) := by
                show _ = _
                rw [ov_at x n false hl2, if_pos h10]; exact HQ.out
              clear HQ
              go_wp2
              go_round
              case rel => exact ⟨n, by omega, rfl, HQ3.out⟩
              case measure => simp [intOf]; omega
            · have h10' : ¬ (bt x n : Int) = 10 := by omega
              rw [if_neg h10, if_pos rfl] at HQ
              go_wp2
              go_round
              case rel => exact ⟨n + 1, by omega, by omega, by go_num, HQ.out⟩
              case measure => simp [intOf]; omega
          · have hl2' : ¬ (n : Int) < x.size := by omega
            rw [ov_end x n _ (by omega)] at HQ
            have HQ3 : Hid (ov (x.data.toList.drop n) false n = R) := by
              show _ = _
              rw [ov_end x n _ (by omega)]; exact HQ.out
            clear HQ
            go_wp2
            go_round
            case rel => exact ⟨n, by omega, rfl, HQ3.out⟩
            case measure => simp [intOf]; omega
      have h35' : ¬ (bt x k : Int) = 35 := by omega
      by_cases hb : bt x k = 32 ∨ bt x k = 9 ∨ bt x k = 10 ∨ bt x k = 13
      · have HQ' : Hid (ov (x.data.toList.drop (k + 1)) false (k + 1) = R) := by
          show _ = _
          have := HQ.out
          by_cases h10 : bt x k = 10
          · rw [if_pos h10] at this; exact this
          · rw [if_neg h10, if_neg (by simp), if_pos (by omega)] at this; exact this
        clear HQ
        have hb' : (bt x k : Int) = 32 ∨ (bt x k : Int) = 9 ∨ (bt x k : Int) = 10 ∨ (bt x k : Int) = 13 := by omega
        clear hb
        rcases hb' with hb' | hb' | hb' | hb'
        · go_wp2
          go_round
          case rel => exact ⟨k + 1, by omega, by go_num, HQ'.out⟩
          case measure => simp [intOf]; omega
        · go_wp2
          go_round
          case rel => exact ⟨k + 1, by omega, by go_num, HQ'.out⟩
          case measure => simp [intOf]; omega
        · go_wp2
          go_round
          case rel => exact ⟨k + 1, by omega, by go_num, HQ'.out⟩
          case measure => simp [intOf]; omega
        · go_wp2
          go_round
          case rel => exact ⟨k + 1, by omega, by go_num, HQ'.out⟩
          case measure => simp [intOf]; omega
      · rw [if_neg (by omega), if_neg (by simp), if_neg (by omega), if_neg h35] at HQ
        have n1 : ¬ (bt x k : Int) = 32 := by omega
        have n2 : ¬ (bt x k : Int) = 9 := by omega
        have n3 : ¬ (bt x k : Int) = 10 := by omega
        have n4 : ¬ (bt x k : Int) = 13 := by omega
        clear hb
        go_wp2
        · go_ret
          exact ⟨ret_int (by rw [← HQ.out]), rfl⟩
        · rename_i h
          exfalso
          simp [n1, n2, n3, n4] at h
    · have hlt' : ¬ (k : Int) < x.size := by omega
      rw [ov_end x k _ (by omega)] at HQ
      go_wp2
      go_ret
      exact ⟨ret_int (by rw [← HQ.out]), rfl⟩
/-- The last byte below k whose letter is c. -/
def lf (c : Nat) : Nat → Nat × Nat
  | 0 => (0, 0)
  | k + 1 => if letq k = c ∧ letq k ≠ 0 then (2, k) else lf c k
theorem lf_all : ∀ c : Fin 256, lf c.val 256 = if 0 ≤ shortq c.val then (2, saidq (shortq c.val).toNat) else (0, 0) := by decide +kernel
theorem short_x' : ∀ c : Fin 256, 0 ≤ shortq c.val → c.val ≠ 120 := by decide +kernel
theorem said_lt : ∀ c : Fin 256, 0 ≤ shortq c.val → saidq (shortq c.val).toNat < 256 := by decide +kernel
theorem lf_lt (c : Nat) : ∀ k, k ≤ 256 → (lf c k).2 < 256 ∧ (lf c k).1 ≤ 2
  | 0, _ => by simp [lf]
  | k + 1, h => by
    have := lf_lt c k (by omega)
    simp only [lf]; split
    · simp only; omega
    · exact this
theorem letq_lt (n : Nat) (h : n < 256) : letq n < 256 := by unfold letq; repeat' split
                                                             all_goals omega
/-- The escape at a place. -/
theorem rdq_here (x : ByteArray) (k : Nat) (hk : k < x.size) (h92 : bt x k = 92) : rdq (x.extract k x.size) =
    if x.size ≤ k + 1 then (0, 0) else if 0 ≤ shortq (bt x (k + 1)) then (saidq (shortq (bt x (k + 1))).toNat, 2)
    else if x.size ≤ k + 3 ∨ bt x (k + 1) ≠ 120 then (0, 0)
    else if 16 ≤ rdig (bt x (k + 2)) ∨ 16 ≤ rdig (bt x (k + 3)) then (0, 0) else (rdig (bt x (k + 2)) * 16 + rdig (bt x (k + 3)), 4) := by
  unfold rdq
  rw [extract_size]
  by_cases h1 : x.size ≤ k + 1
  · rw [if_pos (Or.inl (by omega)), if_pos h1]
  · rw [if_neg h1, bt_ext x k 0 (by omega), bt_ext x k 1 (by omega), Nat.add_zero, h92, if_neg (by omega)]
    by_cases h2 : 0 ≤ shortq (bt x (k + 1))
    · rw [if_pos h2, if_pos h2]
    · rw [if_neg h2, if_neg h2]
      by_cases h3 : x.size ≤ k + 3
      · rw [if_pos (Or.inl (by omega)), if_pos (Or.inl h3)]
      · rw [bt_ext x k 2 (by omega), bt_ext x k 3 (by omega)]
        by_cases h4 : bt x (k + 1) = 120
        · rw [if_neg (show ¬(x.size - k < 4 ∨ bt x (k + 1) ≠ 120) by omega), if_neg (show ¬(x.size ≤ k + 3 ∨ bt x (k + 1) ≠ 120) by omega)]
          obtain ⟨p1, p2, p3⟩ := rdig_dig (bt x (k + 2))
          obtain ⟨q1, q2, q3⟩ := rdig_dig (bt x (k + 3))
          by_cases h5 : dig (bt x (k + 2)) < 0 ∨ dig (bt x (k + 3)) < 0
          · rw [if_pos h5, if_pos (by omega)]
          · rw [if_neg h5, if_neg (by omega), p2 (by omega), q2 (by omega)]
        · rw [if_pos (Or.inr h4), if_pos (Or.inr h4)]
/-- What is told of a text in quotes that begins at place i. -/
def sd (i : Nat) (q : Quo) : Quo := if q.code = 0 then ⟨q.bytes, i + q.fin, 0, 0⟩ else ⟨[], 0, i + q.fat, q.code⟩
theorem belDrew' {B : Nat} {w wr : World} (h : Below B w wr) (n : Nat) : Below B w (wr.drewN n) := ⟨h.os, h.tape, h.output, h.size, h.block⟩
set_option maxRecDepth 100000 in
set_option maxHeartbeats 8000000 in
theorem said_any (x : ByteArray) (i : Nat) (w : World) (hx : x.size ≤ 65538) (hi : i < x.size) :
    Calls Try.prog 36 #[.string x, .int .i64 i] w fun e w' => ∃ v, e = .returned (quoV v (sd i (quoted (x.data.toList.drop i)))) ∧ w'.ownsRow w.heap.size 5 1 v (sd i (quoted (x.data.toList.drop i))).bytes.length (bytesV (sd i (quoted (x.data.toList.drop i))).bytes) ∧ Below w.heap.size w w' := by
  obtain ⟨i0, hinf, hz0, hz1, hz2⟩ := info_parts info5
  have B0 := Blk.new w 26 #[.int .i64 0, .int .i64 0]
  have hB0 : Below w.heap.size w (w.alloc (.cells #[.int .i64 0, .int .i64 0] 26)) := (Below.refl _ _).alloc (Nat.le_refl _) _
  have hq0 : sd i (quo (x.size - i) (x.data.toList.drop (i + 1)) (i + 1 - i) []) = sd i (quoted (x.data.toList.drop i)) := by
    unfold quoted; rw [List.drop_drop, List.length_drop, list_len, show i + 1 - i = 1 by omega]
  obtain ⟨Q, hQ⟩ : ∃ Q, sd i (quoted (x.data.toList.drop i)) = Q := ⟨_, rfl⟩
  rw [hQ] at hq0 ⊢
  clear hQ
  have HQ0 : Hid _ := hq0
  clear hq0
  have hxi : (x.size : Int) ≤ 65538 := by omega
  go_enter Try.func36, Try.ntmps36
  go_wp2
  go_loopw [7, 8] (fun v iv wr => ∃ (p f : Nat) (acc : List Nat), p ≤ x.size ∧ i < p ∧ acc.length ≤ p ∧ x.size ≤ p + f ∧ iv = .int .i64 p ∧ sd i (quo f (x.data.toList.drop p) (p - i) acc) = Q ∧ wr.ownsRow (w.heap.size + 1) 5 1 v acc.length (bytesV acc) ∧ Blk wr w.heap.size 26 #[.int .i64 0, .int .i64 0] ∧ Below w.heap.size w wr) (fun _ iv _ => x.size + 1 - (intOf iv).toNat)
  case atStart => exact ⟨i + 1, x.size - i, [], by omega, by omega, by simp, by omega, by go_num, HQ0.out, World.ownsRow_nil _ _ _ _, B0, hB0⟩
  case round =>
    obtain ⟨p, f, acc, hp, hip, hac, hf, rfl, hqq, hrow, hbx, hB⟩ := hrel
    clear B0 hB0 HQ0
    have HQ : Hid _ := hqq
    clear hqq
    have e0 := hbx.cell 0 (v := .int .i64 0) rfl
    have e1 := hbx.cell 1 (v := .int .i64 0) rfl
    have g0 := hbx.frozen 0
    have g1 := hbx.frozen 1
    have hl := hbx.lt
    have hbase : w.heap.size + 1 ≤ wr.heap.size := hl
    by_cases hlt : p < x.size
    · have hlt' : (p : Int) < x.size := by omega
      have b0 := bt_eq x p hlt
      have hc := bt_lt x p
      have HD : Hid _ := drop_at x p hlt
      obtain ⟨f, rfl⟩ : ∃ f', f = f' + 1 := ⟨f - 1, by omega⟩
      rw [HD.out] at HQ
      simp only [quo, b0] at HQ
      by_cases h34 : bt x p = 34
      · rw [if_pos h34] at HQ
        rw [h34] at b0
        have HE : Hid (Q = ⟨acc, p + 1, 0, 0⟩) := by
          show _ = _
          rw [← HQ.out]; simp [sd]; omega
        clear HQ
        go_wp2
        refine bodyPost_ret (v := .tuple #[u7, .int .i64 ((p + 1 : Nat) : Int), .agg #[.int .i64 ((0 : Nat) : Int), .int .i64 ((0 : Nat) : Int)]]) (by simp [results, Try.results36, go_sem, e0, e1]) rfl ⟨_, quoV_eq HE.out _, ?_, put2 hB⟩
        rw [HE.out]; exact row_mono (row_put (row_put hrow (by omega) _) (by omega) _) (by omega)
      rw [if_neg h34] at HQ
      have h34b : ((bt x p : Int) == 34) = false := by simp; omega
      by_cases h92 : bt x p = 92
      · rw [if_pos h92] at HQ
        rw [h92] at b0
        rw [← HD.out, rdql_at, rdq_here x p hlt h92] at HQ
        clear HD
        by_cases hk1 : x.size ≤ p + 1
        · rw [if_pos hk1, if_pos rfl] at HQ
          have hk1' : ¬ ((p : Int) + 1 < x.size) := by omega
          have hk3' : ¬ ((p : Int) + 3 < x.size) := by omega
          have HE : Hid (Q = ⟨[], 0, p, 12⟩) := by
            show _ = _
            rw [← HQ.out]; simp [sd]; omega
          clear HQ
          go_wp2
          go_loop [10, 11, 12] (fun n b k => n = .int .i64 0 ∧ b = .int .u8 0 ∧ k = .int .i64 0) (fun _ _ _ => 0)
          case atStart => exact ⟨rfl, rfl, rfl⟩
          case round =>
            obtain ⟨rfl, rfl, rfl⟩ := hrel
            go_wp2
            exact bodyPost_ret (v := .tuple #[.slice none 0 0, .int .i64 ((0 : Nat) : Int), .agg #[.int .i64 (p : Int), .int .i64 ((12 : Nat) : Int)]]) (by simp [results, Try.results36, go_sem, e0, e1]) rfl ⟨_, quoV_eq HE.out _, by rw [HE.out]; exact World.ownsRow_nil _ _ _ _, put2 hB⟩
        rw [if_neg hk1] at HQ
        have hk1' : (p : Int) + 1 < x.size := by omega
        have hkn : p + 1 < x.size := by omega
        have b1 := bt_eq x (p + 1) hkn
        have hc1 := bt_lt x (p + 1)
        have HA : Hid _ := lf_all ⟨bt x (p + 1), hc1⟩
        have HX : Hid _ := short_x' ⟨bt x (p + 1), hc1⟩
        have HS : Hid _ := said_lt ⟨bt x (p + 1), hc1⟩
        simp only at HA HX HS
        have HD3 : Hid _ := fun (h : p + 3 < x.size) => And.intro (bt_eq x (p + 2) (by omega)) (bt_eq x (p + 3) h)
        have HD2 : Hid _ := fun (_ : Unit) => And.intro (bt_lt x (p + 2)) (bt_lt x (p + 3))
        generalize bt x (p + 1) = c at *
        clear hk1 h34 h34b hc h92
        go_wp2
        clear e0 e1 g0 g1 hl hbase
        go_loopw [10, 11, 12] (fun n b k wi => ∃ j : Nat, j ≤ 256 ∧ n = .int .i64 ((lf c j).1 : Nat) ∧ b = .int .u8 ((lf c j).2 : Nat) ∧ k = .int .i64 j ∧ wi.ownsRow (w.heap.size + 1) 5 1 u7 acc.length (bytesV acc) ∧ Blk wi w.heap.size 26 #[.int .i64 0, .int .i64 0] ∧ Below w.heap.size w wi) (fun _ _ k _ => 256 - (intOf k).toNat)
        case atStart => exact ⟨0, by omega, rfl, rfl, rfl, hrow, hbx, hB⟩
        case round =>
          clear hrow hbx hB
          obtain ⟨j, hj, rfl, rfl, rfl, hrow, hbx, hB⟩ := hrel
          by_cases hj2 : j < 256
          · have hj2' : (j : Int) < 256 := by omega
            have HL : Hid _ := fun w => letter_any j hj2 w
            have HF : Hid (lf c (j + 1) = if letq j = c ∧ letq j ≠ 0 then (2, j) else lf c j) := rfl
            have hl256 := letq_lt j hj2
            clear HA HX HS HD3 HD2 HQ
            generalize letq j = l at *
            generalize lf c j = o at *
            obtain ⟨n1, m1⟩ := o
            simp only at HF ⊢
            have z1 : (0 : Int) ≤ (p : Int) + 1 := by omega
            by_cases hlc : l = c
            · by_cases h0 : l = 0
              · have q1 : ((l : Int) == ((c : Nat) : Int)) = true := by rw [hlc]; simp
                have q2 : ((l : Int) != 0) = false := by simp; omega
                go_wp2
                go_quiet (first | (go_at_call 42; exact Calls.quiet_of_same (HL.out _)))
                go_wp2
                exact ⟨⟨j + 1, by omega, by rw [HF.out, if_neg (fun h => h.2 h0)], by rw [HF.out, if_neg (fun h => h.2 h0)], by go_num, hrow, hbx, belDrew' hB _⟩, by simp [intOf]; omega⟩
              · have q1 : ((l : Int) == ((c : Nat) : Int)) = true := by rw [hlc]; simp
                have q2 : ((l : Int) != 0) = true := by simp; omega
                go_wp2
                go_quiet (first | (go_at_call 42; exact Calls.quiet_of_same (HL.out _)))
                go_wp2
                exact ⟨⟨j + 1, by omega, by rw [HF.out, if_pos ⟨hlc, h0⟩]; rfl, by rw [HF.out, if_pos ⟨hlc, h0⟩], by go_num, hrow, hbx, belDrew' hB _⟩, by simp [intOf]; omega⟩
            · have q1 : ((l : Int) == ((c : Nat) : Int)) = false := by simp; omega
              go_wp2
              go_quiet (first | (go_at_call 42; exact Calls.quiet_of_same (HL.out _)))
              go_wp2
              exact ⟨⟨j + 1, by omega, by rw [HF.out, if_neg (fun h => hlc h.1)], by rw [HF.out, if_neg (fun h => hlc h.1)], by go_num, hrow, hbx, belDrew' hB _⟩, by simp [intOf]; omega⟩
          · obtain rfl : j = 256 := by omega
            clear hj hj2
            rw [HA.out]
            clear HA
            by_cases hs : 0 ≤ shortq c
            · have hs120 := HX.out hs
              have hs256 := HS.out hs
              rw [if_pos hs, if_neg (by simp)] at HQ
              rw [if_pos hs]
              clear HX HS HD3 HD2
              generalize saidq (shortq c).toNat = b at *
              simp only at HQ ⊢
              clear hs
              have HE : Hid (sd i (quo f (x.data.toList.drop (p + 2)) (p + 2 - i) (acc ++ [b])) = Q) := by
                show _ = _
                rw [← HQ.out, List.drop_drop, show p + 2 - i = p - i + 2 by omega]
              clear HQ
              have hs120' : ((c : Int) == 120) = false := by simp; omega
              by_cases hp3 : p + 3 < x.size
              · have hp3' : (p : Int) + 3 < x.size := by omega
                have hbase : w.heap.size + 1 ≤ wr.heap.size := hbx.lt
                go_wp2_with (at_builtin; refine wpList_append_own _ rfl _ _ 30 rfl (w.heap.size + 1) 5 i0 (.int .u8 0) 1 1 Try.underlying30 hinf hz0 hz1 hz2 rfl (by decide) _ _ _ rfl (hrow.alloc _) ⟨wr.heap.size, 0, none⟩ 1 1 [.int .u8 ((b : Nat) : Int)] rfl rfl ?ca1 ?ca2 ?ca3 ?ca4 ?ca5 ?_)
                try case ca1 => exact cell_one_new _ _ _
                case ca2 => first | rfl | (intro u hu; simp at hu; subst hu; rfl)
                case ca3 => unfold maxLen; omega
                case ca4 => omega
                case ca5 => first | omega | (simp; omega)
                intro v' w2 hown' hgrow _
                have hbx2 := (hbx.alloc (.cells #[.int .u8 ((b : Nat) : Int)] 5)).kept hgrow (hbx.not_row (by decide) hrow)
                have hB2 := (hB.alloc hB.size (.cells #[.int .u8 ((b : Nat) : Int)] 5)).grown hgrow (by have := hB.size; simp; omega) (fun j hj => by have := (hrow.lt j hj).1; omega)
                obtain ⟨g', cap', rfl⟩ := ownsRow_succ hown'
                go_wp2
                exact ⟨⟨p + 2, f, acc ++ [b], by omega, by omega, by simp; omega, by omega, by go_num, HE.out, by rw [bytesV_snoc, List.length_append]; exact hown', hbx2, hB2⟩, by simp [intOf]; omega⟩
              · have hp3' : ¬ (p : Int) + 3 < x.size := by omega
                have hbase : w.heap.size + 1 ≤ wr.heap.size := hbx.lt
                go_wp2_with (at_builtin; refine wpList_append_own _ rfl _ _ 30 rfl (w.heap.size + 1) 5 i0 (.int .u8 0) 1 1 Try.underlying30 hinf hz0 hz1 hz2 rfl (by decide) _ _ _ rfl (hrow.alloc _) ⟨wr.heap.size, 0, none⟩ 1 1 [.int .u8 ((b : Nat) : Int)] rfl rfl ?cb1 ?cb2 ?cb3 ?cb4 ?cb5 ?_)
                try case cb1 => exact cell_one_new _ _ _
                case cb2 => first | rfl | (intro u hu; simp at hu; subst hu; rfl)
                case cb3 => unfold maxLen; omega
                case cb4 => omega
                case cb5 => first | omega | (simp; omega)
                intro v' w2 hown' hgrow _
                have hbx2 := (hbx.alloc (.cells #[.int .u8 ((b : Nat) : Int)] 5)).kept hgrow (hbx.not_row (by decide) hrow)
                have hB2 := (hB.alloc hB.size (.cells #[.int .u8 ((b : Nat) : Int)] 5)).grown hgrow (by have := hB.size; simp; omega) (fun j hj => by have := (hrow.lt j hj).1; omega)
                obtain ⟨g', cap', rfl⟩ := ownsRow_succ hown'
                go_wp2
                exact ⟨⟨p + 2, f, acc ++ [b], by omega, by omega, by simp; omega, by omega, by go_num, HE.out, by rw [bytesV_snoc, List.length_append]; exact hown', hbx2, hB2⟩, by simp [intOf]; omega⟩
            · rw [if_neg hs] at HQ
              rw [if_neg hs]
              clear HX HS hs
              simp only
              by_cases hp3 : p + 3 < x.size
              · have hp3' : (p : Int) + 3 < x.size := by omega
                by_cases hx120 : c = 120
                · obtain ⟨b2, b3⟩ := HD3.out hp3
                  obtain ⟨l2, l3⟩ := HD2.out ()
                  have z1 : (0 : Int) ≤ (p : Int) + 2 := by omega
                  have z2 : (p : Int) + 2 < x.size := by omega
                  have z3 : (0 : Int) ≤ (p : Int) + 3 := by omega
                  rw [if_neg (show ¬ (x.size ≤ p + 3 ∨ c ≠ 120) by omega)] at HQ
                  subst hx120
                  generalize bt x (p + 2) = c2 at *
                  generalize bt x (p + 3) = c3 at *
                  have HG2 : Hid _ := fun w => rdigit_any c2 w l2
                  have HG3 : Hid _ := fun w => rdigit_any c3 w l3
                  have d2 := (rdig_dig c2).2.2
                  have d3 := (rdig_dig c3).2.2
                  generalize rdig c2 = r2 at *
                  generalize rdig c3 = r3 at *
                  clear HD3 HD2
                  by_cases hr : 16 ≤ r2 ∨ 16 ≤ r3
                  · rw [if_pos hr, if_pos rfl] at HQ
                    have HE : Hid (Q = ⟨[], 0, p, 12⟩) := by
                      show _ = _
                      rw [← HQ.out]; simp [sd]; omega
                    clear HQ
                    by_cases h7 : r2 < 16
                    · have h8 : decide ((r3 : Int) < 16) = false := by simp; omega
                      have h9 : decide (r3 < 16) = false := by simp; omega
                      have h7' : (r2 : Int) < 16 := by omega
                      go_wp2
                      go_quiet (first | (go_at_call_of 66 c2; exact Calls.quiet_of_same (HG2.out _)) | (go_at_call_of 66 c3; exact Calls.quiet_of_same (HG3.out _)))
                      replace hrow : (wr.drewN nq).ownsRow _ _ _ _ _ _ := hrow
                      replace hbx : Blk (wr.drewN nq) _ _ _ := hbx
                      replace hB := belDrew' hB nq
                      have e0 := hbx.cell 0 (v := .int .i64 0) rfl
                      have e1 := hbx.cell 1 (v := .int .i64 0) rfl
                      have g0 := hbx.frozen 0
                      have g1 := hbx.frozen 1
                      have hl := hbx.lt
                      have hbase : w.heap.size + 1 ≤ (wr.drewN nq).heap.size := hl
                      go_wp2
                      exact bodyPost_ret (v := .tuple #[.slice none 0 0, .int .i64 ((0 : Nat) : Int), .agg #[.int .i64 (p : Int), .int .i64 ((12 : Nat) : Int)]]) (by simp [results, Try.results36, go_sem, e0, e1]) rfl ⟨_, quoV_eq HE.out _, by rw [HE.out]; exact World.ownsRow_nil _ _ _ _, put2 hB⟩
                    · have h8 : decide ((r2 : Int) < 16) = false := by simp; omega
                      have h9 : decide (r2 < 16) = false := by simp; omega
                      go_wp2
                      go_quiet (first | (go_at_call_of 66 c2; exact Calls.quiet_of_same (HG2.out _)) | (go_at_call_of 66 c3; exact Calls.quiet_of_same (HG3.out _)))
                      replace hrow : (wr.drewN nq).ownsRow _ _ _ _ _ _ := hrow
                      replace hbx : Blk (wr.drewN nq) _ _ _ := hbx
                      replace hB := belDrew' hB nq
                      have e0 := hbx.cell 0 (v := .int .i64 0) rfl
                      have e1 := hbx.cell 1 (v := .int .i64 0) rfl
                      have g0 := hbx.frozen 0
                      have g1 := hbx.frozen 1
                      have hl := hbx.lt
                      have hbase : w.heap.size + 1 ≤ (wr.drewN nq).heap.size := hl
                      go_wp2
                      exact bodyPost_ret (v := .tuple #[.slice none 0 0, .int .i64 ((0 : Nat) : Int), .agg #[.int .i64 (p : Int), .int .i64 ((12 : Nat) : Int)]]) (by simp [results, Try.results36, go_sem, e0, e1]) rfl ⟨_, quoV_eq HE.out _, by rw [HE.out]; exact World.ownsRow_nil _ _ _ _, put2 hB⟩
                  · rw [if_neg hr, if_neg (by simp)] at HQ
                    simp only at HQ
                    have h7 : (r2 : Int) < 16 := by omega
                    have h8 : (r3 : Int) < 16 := by omega
                    obtain ⟨b, hb⟩ : ∃ b, r2 * 16 + r3 = b := ⟨_, rfl⟩
                    have hbI : 16 * (r2 : Int) + r3 = b := by omega
                    have hb256 : b < 256 := by omega
                    rw [hb] at HQ
                    clear hb
                    have HE : Hid (sd i (quo f (x.data.toList.drop (p + 4)) (p + 4 - i) (acc ++ [b])) = Q) := by
                      show _ = _
                      rw [← HQ.out, List.drop_drop, show p + 4 - i = p - i + 4 by omega]
                    clear HQ hr
                    go_wp2
                    go_quiet (first | (go_at_call_of 66 c2; exact Calls.quiet_of_same (HG2.out _)) | (go_at_call_of 66 c3; exact Calls.quiet_of_same (HG3.out _)))
                    replace hrow : (wr.drewN nq).ownsRow _ _ _ _ _ _ := hrow
                    replace hbx : Blk (wr.drewN nq) _ _ _ := hbx
                    replace hB := belDrew' hB nq
                    have hbase : w.heap.size + 1 ≤ (wr.drewN nq).heap.size := hbx.lt
                    have hbase2 : w.heap.size + 1 ≤ wr.heap.size := hbase
                    go_wp2_with (at_builtin; refine wpList_append_own _ rfl _ _ 30 rfl (w.heap.size + 1) 5 i0 (.int .u8 0) 1 1 Try.underlying30 hinf hz0 hz1 hz2 rfl (by decide) _ _ _ rfl (hrow.alloc _) ⟨(wr.drewN nq).heap.size, 0, none⟩ 1 1 [.int .u8 ((b : Nat) : Int)] rfl rfl ?cc1 ?cc2 ?cc3 ?cc4 ?cc5 ?_)
                    try case cc1 => exact cell_one_new _ _ _
                    case cc2 => first | rfl | (intro u hu; simp at hu; subst hu; rfl)
                    case cc3 => unfold maxLen; omega
                    case cc4 => omega
                    case cc5 => first | omega | (simp; omega)
                    intro v' w2 hown' hgrow _
                    have hbx2 := (hbx.alloc (.cells #[.int .u8 ((b : Nat) : Int)] 5)).kept hgrow (hbx.not_row (by decide) hrow)
                    have hB2 := (hB.alloc hB.size (.cells #[.int .u8 ((b : Nat) : Int)] 5)).grown hgrow (by have := hB.size; simp; omega) (fun j hj => by have := (hrow.lt j hj).1; omega)
                    obtain ⟨g', cap', rfl⟩ := ownsRow_succ hown'
                    go_wp2
                    exact ⟨⟨p + 4, f, acc ++ [b], by omega, by omega, by simp; omega, by omega, by go_num, HE.out, by rw [bytesV_snoc, List.length_append]; exact hown', hbx2, hB2⟩, by simp [intOf]; omega⟩
                · have hx120' : ((c : Int) == 120) = false := by simp; omega
                  rw [if_pos (Or.inr hx120), if_pos rfl] at HQ
                  have HE : Hid (Q = ⟨[], 0, p, 12⟩) := by
                    show _ = _
                    rw [← HQ.out]; simp [sd]; omega
                  clear HQ HD3 HD2
                  have e0 := hbx.cell 0 (v := .int .i64 0) rfl
                  have e1 := hbx.cell 1 (v := .int .i64 0) rfl
                  have g0 := hbx.frozen 0
                  have g1 := hbx.frozen 1
                  have hl := hbx.lt
                  have hbase : w.heap.size + 1 ≤ wr.heap.size := hl
                  go_wp2
                  exact bodyPost_ret (v := .tuple #[.slice none 0 0, .int .i64 ((0 : Nat) : Int), .agg #[.int .i64 (p : Int), .int .i64 ((12 : Nat) : Int)]]) (by simp [results, Try.results36, go_sem, e0, e1]) rfl ⟨_, quoV_eq HE.out _, by rw [HE.out]; exact World.ownsRow_nil _ _ _ _, put2 hB⟩
              · have hp3' : ¬ (p : Int) + 3 < x.size := by omega
                rw [if_pos (Or.inl (by omega)), if_pos rfl] at HQ
                have HE : Hid (Q = ⟨[], 0, p, 12⟩) := by
                  show _ = _
                  rw [← HQ.out]; simp [sd]; omega
                clear HQ HD3 HD2
                have e0 := hbx.cell 0 (v := .int .i64 0) rfl
                have e1 := hbx.cell 1 (v := .int .i64 0) rfl
                have g0 := hbx.frozen 0
                have g1 := hbx.frozen 1
                have hl := hbx.lt
                have hbase : w.heap.size + 1 ≤ wr.heap.size := hl
                go_wp2
                exact bodyPost_ret (v := .tuple #[.slice none 0 0, .int .i64 ((0 : Nat) : Int), .agg #[.int .i64 (p : Int), .int .i64 ((12 : Nat) : Int)]]) (by simp [results, Try.results36, go_sem, e0, e1]) rfl ⟨_, quoV_eq HE.out _, by rw [HE.out]; exact World.ownsRow_nil _ _ _ _, put2 hB⟩
      · rw [if_neg h92] at HQ
        have h92b : ((bt x p : Int) == 92) = false := by simp; omega
        clear HD
        generalize bt x p = c at *
        cases hpq : plainq c with
        | false =>
          rw [hpq, if_neg (by simp)] at HQ
          have HE : Hid (Q = ⟨[], 0, p, 11⟩) := by
            show _ = _
            rw [← HQ.out]; simp [sd]; omega
          clear HQ
          have hr : c < 32 ∨ 126 < c := by
            unfold plainq at hpq; simp at hpq; omega
          clear hpq
          by_cases hr1 : c < 32
          · have hr1' : (c : Int) < 32 := by omega
            go_wp2
            exact bodyPost_ret (v := .tuple #[.slice none 0 0, .int .i64 ((0 : Nat) : Int), .agg #[.int .i64 (p : Int), .int .i64 ((11 : Nat) : Int)]]) (by simp [results, Try.results36, go_sem, e0, e1]) rfl ⟨_, quoV_eq HE.out _, by rw [HE.out]; exact World.ownsRow_nil _ _ _ _, put2 hB⟩
          · have hr1' : ¬ (c : Int) < 32 := by omega
            have hr2' : (126 : Int) < c := by omega
            go_wp2
            exact bodyPost_ret (v := .tuple #[.slice none 0 0, .int .i64 ((0 : Nat) : Int), .agg #[.int .i64 (p : Int), .int .i64 ((11 : Nat) : Int)]]) (by simp [results, Try.results36, go_sem, e0, e1]) rfl ⟨_, quoV_eq HE.out _, by rw [HE.out]; exact World.ownsRow_nil _ _ _ _, put2 hB⟩
        | true =>
          rw [hpq, if_pos rfl] at HQ
          have HE : Hid (sd i (quo f (x.data.toList.drop (p + 1)) (p + 1 - i) (acc ++ [c])) = Q) := by
            show _ = _
            rw [← HQ.out, show p + 1 - i = p - i + 1 by omega]
          clear HQ
          have hr1' : ¬ (c : Int) < 32 := by unfold plainq at hpq; simp at hpq; omega
          have hr2' : ¬ (126 : Int) < c := by unfold plainq at hpq; simp at hpq; omega
          clear hpq
          go_wp2_with (at_builtin; refine wpList_append_own _ rfl _ _ 30 rfl (w.heap.size + 1) 5 i0 (.int .u8 0) 1 1 Try.underlying30 hinf hz0 hz1 hz2 rfl (by decide) _ _ _ rfl (hrow.alloc _) ⟨wr.heap.size, 0, none⟩ 1 1 [.int .u8 ((c : Nat) : Int)] rfl rfl ?cd1 ?cd2 ?cd3 ?cd4 ?cd5 ?_)
          try case cd1 => exact cell_one_new _ _ _
          case cd2 => first | rfl | (intro u hu; simp at hu; subst hu; rfl)
          case cd3 => unfold maxLen; omega
          case cd4 => omega
          case cd5 => first | omega | (simp; omega)
          intro v' w2 hown' hgrow _
          have hbx2 := (hbx.alloc (.cells #[.int .u8 ((c : Nat) : Int)] 5)).kept hgrow (hbx.not_row (by decide) hrow)
          have hB2 := (hB.alloc hB.size (.cells #[.int .u8 ((c : Nat) : Int)] 5)).grown hgrow (by have := hB.size; simp; omega) (fun j hj => by have := (hrow.lt j hj).1; omega)
          obtain ⟨g', cap', rfl⟩ := ownsRow_succ hown'
          go_wp2
          exact ⟨⟨p + 1, f, acc ++ [c], by omega, by omega, by simp; omega, by omega, by go_num, HE.out, by rw [bytesV_snoc, List.length_append]; exact hown', hbx2, hB2⟩, by simp [intOf]; omega⟩
    · rw [quo_end _ _ _ _ (drop_end x p (by omega))] at HQ
      have hlt' : ¬ (p : Int) < x.size := by omega
      have HE : Hid (Q = ⟨[], 0, i, 13⟩) := by
        show _ = _
        rw [← HQ.out]; rfl
      go_wp2
      exact bodyPost_ret (v := .tuple #[.slice none 0 0, .int .i64 ((0 : Nat) : Int), .agg #[.int .i64 (i : Int), .int .i64 ((13 : Nat) : Int)]]) (by simp [results, Try.results36, go_sem, e0, e1]) rfl ⟨_, quoV_eq HE.out _, by rw [HE.out]; exact World.ownsRow_nil _ _ _ _, put2 hB⟩
theorem rdw_drop (x : ByteArray) (i : Nat) (h : i < x.size) : rdw (x.data.toList.drop i) = (if great (bt x i) then rdLet (x.data.toList.drop i) 1 else if small (bt x i) then rdLet (x.data.toList.drop i) 2 else if digB (bt x i) then rdNum (x.data.toList.drop i) else if bt x i = 34 then rdText (x.data.toList.drop i) else if bt x i = 91 then rdSet (x.data.toList.drop i) else if signB (bt x i) then .plain 6 1 else .fault 0 11) := by
  rw [← bt_eq x i h]
  conv => lhs; rw [drop_at x i h, rdw_cons]
  rw [← drop_at x i h]
/-- What the document's word owes. -/
def Said1 (w : World) (i : Nat) (q : RW) (e : Ending) (w' : World) : Prop :=
  ∃ (kd nn en : Nat) (st : St) (va : Option Addr) (vn vc : Nat), e = .returned (.tuple #[wv kd ⟨#[]⟩ (.slice va vn vc) st nn 0 0 0, .int .i64 (en : Int), fv (if q.code = 0 then 0 else i + q.fat) q.code]) ∧ (q.code = 0 → kd = q.kind ∧ st = q.set ∧ nn = q.n ∧ en = i + q.len ∧ w'.ownsRow w.heap.size 5 1 (.slice va vn vc) q.bytes.length (bytesV q.bytes)) ∧ Below w.heap.size w w'
theorem said1_ok {w w' : World} {i : Nat} {q : RW} (kd nn en : Nat) (st : St) (va : Option Addr) (vn vc : Nat) (h0 : q.code = 0) (h1 : kd = q.kind) (h2 : st = q.set) (h3 : nn = q.n) (h4 : en = i + q.len) (hr : w'.ownsRow w.heap.size 5 1 (.slice va vn vc) q.bytes.length (bytesV q.bytes)) (hb : Below w.heap.size w w') : Said1 w i q (.returned (.tuple #[wv kd ⟨#[]⟩ (.slice va vn vc) st nn 0 0 0, .int .i64 (en : Int), fv 0 0])) w' :=
  ⟨kd, nn, en, st, va, vn, vc, by rw [if_pos h0, h0], fun _ => ⟨h1, h2, h3, h4, hr⟩, hb⟩
theorem said1_no {w w' : World} {i : Nat} {q : RW} (kd nn en : Nat) (st : St) (va : Option Addr) (vn vc : Nat) (fa fc : Nat) (h0 : fc ≠ 0) (h1 : q.code = fc) (h2 : fa = i + q.fat) (hb : Below w.heap.size w w') : Said1 w i q (.returned (.tuple #[wv kd ⟨#[]⟩ (.slice va vn vc) st nn 0 0 0, .int .i64 (en : Int), fv fa fc])) w' :=
  ⟨kd, nn, en, st, va, vn, vc, by rw [if_neg (by omega), h1, h2], fun h => absurd (h1.symm.trans h) h0, hb⟩
theorem bel3 (w : World) (o1 o2 o3 : Obj) : Below w.heap.size w (((w.alloc o1).alloc o2).alloc o3) := (((Below.refl _ _).alloc (Nat.le_refl _) _).alloc (by simp) _).alloc (by simp; omega) _
set_option maxRecDepth 100000 in
set_option maxHeartbeats 4000000 in
theorem rword_let (x : ByteArray) (i : Nat) (w : World) (hx : x.size ≤ 65536) (hi : i < x.size) (k : Nat) (hk : k = 1 ∨ k = 2) (hc : cls (bt x i) = k) : Calls Try.prog 33 #[.string x, .int .i64 i] w (Said1 w i (rdLet (x.data.toList.drop i) k)) := by
  have b0 := bt_eq x i hi
  have hi' : (i : Int) < x.size := by omega
  have HC : Hid _ := fun w => cls_any (bt x i) w
  have HF : Hid _ := fun w => far_any x i w (by omega) (by omega)
  rw [hc] at HC
  clear hc
  have hle := lspan_le alnum (x.data.toList.drop i)
  rw [List.length_drop, list_len] at hle
  have HR : Hid (rdLet (x.data.toList.drop i) k = _) := rdLet.eq_1 _ _
  generalize rdLet (x.data.toList.drop i) k = R at *
  generalize lspan alnum (x.data.toList.drop i) = S at *
  obtain ⟨F, hF⟩ : ∃ F, i + S = F := ⟨_, rfl⟩
  rw [hF] at HF
  have HFe : Hid _ := hF
  clear hF
  have hFx : F ≤ x.size := by have := HFe.out; omega
  by_cases h : 32 < S
  · have h' : (32 : Int) < F - i := by have := HFe.out; omega
    rw [if_pos h] at HR
    clear hle h
    rcases hk with rfl | rfl
    · go_enter Try.func33, Try.ntmps33
      go_wp2_with (first | (go_at_call 45; refine (HC.out _).mono ?_; rintro e w' ⟨rfl, rfl⟩) | (go_at_call 46; refine (HF.out _).mono ?_; rintro e w' ⟨rfl, rfl⟩))
      exact bodyPost_ret (v := .tuple #[wv 0 ⟨#[]⟩ (.slice none 0 0) St.zero 0 0 0 0, .int .i64 ((0 : Nat) : Int), fv i 20]) (by simp [results, Try.results33, go_sem, wv, fv, St.zero]) rfl (said1_no 0 0 0 St.zero none 0 0 i 20 (by decide) (by rw [HR.out]; try rfl) (by rw [HR.out]; try rfl) (bel3 _ _ _ _))
    · go_enter Try.func33, Try.ntmps33
      go_wp2_with (first | (go_at_call 45; refine (HC.out _).mono ?_; rintro e w' ⟨rfl, rfl⟩) | (go_at_call 46; refine (HF.out _).mono ?_; rintro e w' ⟨rfl, rfl⟩))
      exact bodyPost_ret (v := .tuple #[wv 0 ⟨#[]⟩ (.slice none 0 0) St.zero 0 0 0 0, .int .i64 ((0 : Nat) : Int), fv i 20]) (by simp [results, Try.results33, go_sem, wv, fv, St.zero]) rfl (said1_no 0 0 0 St.zero none 0 0 i 20 (by decide) (by rw [HR.out]; try rfl) (by rw [HR.out]; try rfl) (bel3 _ _ _ _))
  · have h' : ¬ (32 : Int) < F - i := by have := HFe.out; omega
    rw [if_neg h] at HR
    clear hle h
    rcases hk with rfl | rfl
    · go_enter Try.func33, Try.ntmps33
      go_wp2_with (first | (go_at_call 45; refine (HC.out _).mono ?_; rintro e w' ⟨rfl, rfl⟩) | (go_at_call 46; refine (HF.out _).mono ?_; rintro e w' ⟨rfl, rfl⟩))
      exact bodyPost_ret (v := .tuple #[wv 1 ⟨#[]⟩ (.slice none 0 0) St.zero 0 0 0 0, .int .i64 ((F : Nat) : Int), fv 0 0]) (by simp [results, Try.results33, go_sem, wv, fv, St.zero]) rfl (said1_ok 1 0 F St.zero none 0 0 (by rw [HR.out]; try rfl) (by rw [HR.out]; try rfl) (by rw [HR.out]; try rfl) (by rw [HR.out]; try rfl) (by rw [HR.out]; exact HFe.out.symm) (by rw [HR.out]; exact World.ownsRow_nil _ _ _ _) (bel3 _ _ _ _))
    · go_enter Try.func33, Try.ntmps33
      go_wp2_with (first | (go_at_call 45; refine (HC.out _).mono ?_; rintro e w' ⟨rfl, rfl⟩) | (go_at_call 46; refine (HF.out _).mono ?_; rintro e w' ⟨rfl, rfl⟩))
      exact bodyPost_ret (v := .tuple #[wv 2 ⟨#[]⟩ (.slice none 0 0) St.zero 0 0 0 0, .int .i64 ((F : Nat) : Int), fv 0 0]) (by simp [results, Try.results33, go_sem, wv, fv, St.zero]) rfl (said1_ok 2 0 F St.zero none 0 0 (by rw [HR.out]; try rfl) (by rw [HR.out]; try rfl) (by rw [HR.out]; try rfl) (by rw [HR.out]; try rfl) (by rw [HR.out]; exact HFe.out.symm) (by rw [HR.out]; exact World.ownsRow_nil _ _ _ _) (bel3 _ _ _ _))
set_option maxRecDepth 100000 in
set_option maxHeartbeats 4000000 in
theorem rword_num (x : ByteArray) (i : Nat) (w : World) (hx : x.size ≤ 65536) (hi : i < x.size) (hc : cls (bt x i) = 3) : Calls Try.prog 33 #[.string x, .int .i64 i] w (Said1 w i (rdNum (x.data.toList.drop i))) := by
  have b0 := bt_eq x i hi
  have hi' : (i : Int) < x.size := by omega
  have HC : Hid _ := fun w => cls_any (bt x i) w
  rw [hc] at HC
  clear hc
  have HN : Hid _ := fun w => rnumber_any x i w (by omega) hi
  have HV : Hid (rnumV x i = _) := rnumV.eq_1 x i
  rw [HV.out] at HN
  clear HV
  have HR : Hid (rdNum (x.data.toList.drop i) = _) := rdNum.eq_1 _
  rw [HR.out] at HN ⊢
  clear HR
  by_cases h : 6 < lspan digB (x.data.toList.drop i) ∨ (1 < lspan digB (x.data.toList.drop i) ∧ ((x.data.toList.drop i).getD 0 0).toNat = 48)
  · rw [if_pos h] at HN ⊢
    rw [if_neg (by simp [RW.fault])] at HN
    simp only [tri] at HN
    have HR : Hid (RW.fault 0 21 = RW.fault 0 21) := rfl
    generalize hRR : RW.fault 0 21 = R at HR ⊢
    replace HR : Hid (R = RW.fault 0 21) := hRR.symm
    clear hRR h
    go_enter Try.func33, Try.ntmps33
    go_wp2_with (first | (go_at_call 45; refine (HC.out _).mono ?_; rintro e w' ⟨rfl, rfl⟩) | (go_at_call 61; refine (HN.out _).mono ?_; rintro e w' ⟨rfl, rfl⟩))
    exact bodyPost_ret (v := .tuple #[wv 0 ⟨#[]⟩ (.slice none 0 0) St.zero 0 0 0 0, .int .i64 ((0 : Nat) : Int), fv i 21]) (by simp [results, Try.results33, go_sem, wv, fv, St.zero]) rfl (said1_no 0 0 0 St.zero none 0 0 i 21 (by decide) (by rw [HR.out]; try rfl) (by rw [HR.out]; try rfl) (bel3 _ _ _ _))
  · rw [if_neg h] at HN ⊢
    rw [if_pos rfl] at HN
    simp only [tri] at HN
    obtain ⟨n, hn⟩ : ∃ n, numv ((x.data.toList.drop i).take (lspan digB (x.data.toList.drop i))) = n := ⟨_, rfl⟩
    obtain ⟨F, hF⟩ : ∃ F, i + lspan digB (x.data.toList.drop i) = F := ⟨_, rfl⟩
    rw [hn] at HN ⊢
    rw [hF] at HN
    obtain ⟨R, hR⟩ : ∃ R : RW, R = ⟨3, lspan digB (x.data.toList.drop i), [], St.zero, n, 0, 0⟩ := ⟨_, rfl⟩
    rw [← hR]
    have HR : Hid _ := hR
    have HFe : Hid _ := hF
    clear h hn hF hR
    go_enter Try.func33, Try.ntmps33
    go_wp2_with (first | (go_at_call 45; refine (HC.out _).mono ?_; rintro e w' ⟨rfl, rfl⟩) | (go_at_call 61; refine (HN.out _).mono ?_; rintro e w' ⟨rfl, rfl⟩))
    exact bodyPost_ret (v := .tuple #[wv 3 ⟨#[]⟩ (.slice none 0 0) St.zero n 0 0 0, .int .i64 ((F : Nat) : Int), fv 0 0]) (by simp [results, Try.results33, go_sem, wv, fv, St.zero]) rfl (said1_ok 3 n F St.zero none 0 0 (by rw [HR.out]; try rfl) (by rw [HR.out]; try rfl) (by rw [HR.out]; try rfl) (by rw [HR.out]; try rfl) (by rw [HR.out]; exact HFe.out.symm) (by rw [HR.out]; exact World.ownsRow_nil _ _ _ _) (bel3 _ _ _ _))
def sgl (k : Nat) : Nat := [61, 124, 46, 59, 62, 63, 42, 43, 123, 125, 40, 41, 95, 47, 44, 45].getD k 0
theorem sgl_at : ∀ k : Fin 16, (⟨#[61, 124, 46, 59, 62, 63, 42, 43, 123, 125, 40, 41, 95, 47, 44, 45]⟩ : ByteArray)[k.val].toNat = sgl k.val := by decide +kernel
theorem sgl_iff : ∀ c : Fin 256, signB c.val = decide (∃ k : Fin 16, sgl k.val = c.val) := by decide +kernel
set_option maxRecDepth 100000 in
set_option maxHeartbeats 4000000 in
theorem rword_sign (x : ByteArray) (i : Nat) (w : World) (hx : x.size ≤ 65536) (hi : i < x.size) (hc : cls (bt x i) = 0) (h34 : bt x i ≠ 34) (h91 : bt x i ≠ 91) : Calls Try.prog 33 #[.string x, .int .i64 i] w (Said1 w i (if signB (bt x i) then .plain 6 1 else .fault 0 11)) := by
  have b0 := bt_eq x i hi
  have hi' : (i : Int) < x.size := by omega
  have HC : Hid _ := fun w => cls_any (bt x i) w
  rw [hc] at HC
  clear hc
  have hc256 := bt_lt x i
  have HS : Hid _ := sgl_iff ⟨bt x i, hc256⟩
  simp only at HS
  generalize bt x i = c at *
  have h34' : ¬ (c : Int) = 34 := by omega
  have h91' : ¬ (c : Int) = 91 := by omega
  clear h34 h91
  obtain ⟨R, hR⟩ : ∃ R, (if signB c then RW.plain 6 1 else RW.fault 0 11) = R := ⟨_, rfl⟩
  rw [hR]
  have HR0 : Hid _ := hR
  clear hR
  go_enter Try.func33, Try.ntmps33
  go_wp2_with (first | (go_at_call 45; refine (HC.out _).mono ?_; rintro e w' ⟨rfl, rfl⟩))
  go_loop [21] (fun v => ∃ k : Nat, k ≤ 16 ∧ v = .int .i64 k ∧ ∀ j, j < k → sgl j ≠ c) (fun v => 16 - (intOf v).toNat)
  case atStart => exact ⟨0, by omega, rfl, fun j hj => by omega⟩
  case round =>
    obtain ⟨k, hk, rfl, hall⟩ := hrel
    have HALL : Hid _ := hall
    clear hall
    by_cases hlt : k < 16
    · have hlt' : (k : Int) < 16 := by omega
      have hv := sgl_at ⟨k, hlt⟩
      simp only at hv
      have HK : Hid (sgl k = sgl k) := rfl
      obtain ⟨v, hve⟩ : ∃ v, sgl k = v := ⟨_, rfl⟩
      rw [hve] at hv
      have HVE : Hid _ := hve
      clear hve HK
      by_cases hvc : v = c
      · subst hvc
        have HB : Hid (signB v = true) := by
          show _ = _
          rw [HS.out]; exact decide_eq_true ⟨⟨k, hlt⟩, HVE.out⟩
        have HR : Hid (R = RW.plain 6 1) := HR0.out.symm.trans (if_pos HB.out)
        clear HS HALL HVE HB HR0
        go_wp2
        exact bodyPost_ret (v := .tuple #[wv 6 ⟨#[]⟩ (.slice none 0 0) St.zero 0 0 0 0, .int .i64 (((i + 1) : Nat) : Int), fv 0 0]) (by simp [results, Try.results33, go_sem, wv, fv, St.zero]) rfl (said1_ok 6 0 (i + 1) St.zero none 0 0 (by rw [HR.out]; try rfl) (by rw [HR.out]; try rfl) (by rw [HR.out]; try rfl) (by rw [HR.out]; try rfl) (by rw [HR.out]; try rfl) (by rw [HR.out]; exact World.ownsRow_nil _ _ _ _) (bel3 _ _ _ _))
      · have hvc' : ((v : Int) == (c : Int)) = false := by simp; omega
        go_wp2
        go_round
        case rel => exact ⟨k + 1, by omega, by go_num, fun j hj => by
          rcases Nat.lt_or_ge j k with h | h
          · exact HALL.out j h
          · have : j = k := by omega
            rw [this, HVE.out]; exact hvc⟩
        case measure => simp [intOf]; omega
    · have hlt' : ¬ (k : Int) < 16 := by omega
      have HB : Hid (signB c = false) := by
        show _ = _
        rw [HS.out]; exact decide_eq_false (fun ⟨j, hj⟩ => HALL.out j.val (by omega) hj)
      have HR : Hid (R = RW.fault 0 11) := HR0.out.symm.trans (if_neg (by rw [HB.out]; simp))
      clear HS HALL HB HR0
      go_wp2
      exact bodyPost_ret (v := .tuple #[wv 0 ⟨#[]⟩ (.slice none 0 0) St.zero 0 0 0 0, .int .i64 ((0 : Nat) : Int), fv i 11]) (by simp [results, Try.results33, go_sem, wv, fv, St.zero]) rfl (said1_no 0 0 0 St.zero none 0 0 i 11 (by decide) (by rw [HR.out]; try rfl) (by rw [HR.out]; try rfl) (bel3 _ _ _ _))
theorem clo_shift : ∀ (n : Nat) (l : List UInt8) (k d : Nat), l.length ≤ n → clo l (k + d) = if clo l k = 0 then 0 else clo l k + d
  | 0, l, k, d, h => by
    obtain rfl := List.eq_nil_of_length_eq_zero (Nat.le_zero.1 h)
    simp [clo]
  | n + 1, [], k, d, h => by simp [clo]
  | n + 1, c :: l, k, d, h => by
    by_cases h93 : c.toNat = 93
    · rw [clo_end _ _ _ h93, clo_end _ _ _ h93, if_neg (by omega)]; omega
    · by_cases h92 : c.toNat = 92
      · rw [clo_esc _ _ _ h92, clo_esc _ _ _ h92, show k + d + 2 = k + 2 + d by omega]
        exact clo_shift n _ _ _ (by simp only [List.length_cons, List.length_drop] at *; omega)
      · rw [clo_on _ _ _ h93 h92, clo_on _ _ _ h93 h92, show k + d + 1 = k + 1 + d by omega]
        exact clo_shift n _ _ _ (by simp only [List.length_cons] at *; omega)
abbrev wb3 (w : World) : World := (wb w).alloc (.cells wz 35)
theorem wb3_word (w : World) : Blk (wb3 w) w.heap.size 35 wz := (wb_word w).alloc _
theorem wb3_fault (w : World) : Blk (wb3 w) (w.heap.size + 1) 26 #[.int .i64 0, .int .i64 0] := (wb_fault w).alloc _
theorem wb3_own (w : World) : Blk (wb3 w) (w.heap.size + 1 + 1) 35 wz := by
  have := Blk.new (wb w) 35 wz
  rw [wb_size] at this; exact this
theorem wb3_below (w : World) : Below w.heap.size w (wb3 w) := (wb_below w).alloc (by simp; omega) _
theorem wb3_size (w : World) : (wb3 w).heap.size = w.heap.size + 3 := by simp
theorem cls_34 : cls 34 = 0 := by decide
theorem cls_91 : cls 91 = 0 := by decide
theorem Blk.set02 {W : World} {b : Nat} {t : TypeId} {x0 x1 x2 x3 x4 x5 x6 x7 x8 x9 x10 : Value} (h : Blk W b t #[x0, x1, x2, x3, x4, x5, x6, x7, x8, x9, x10]) (u v : Value) : Blk ((W.setCell ⟨b, 0, none⟩ u).setCell ⟨b, 2, none⟩ v) b t #[u, x1, v, x3, x4, x5, x6, x7, x8, x9, x10] := by
  have h0 := h.set 0 u
  simp only [List.setIfInBounds_toArray, List.set_cons_zero] at h0
  have h1 := h0.set 2 v
  simp only [List.setIfInBounds_toArray, List.set_cons_zero, List.set_cons_succ] at h1
  exact h1
theorem Blk.put02 {W : World} {b c : Nat} {t : TypeId} {cs : Array Value} (h : Blk W c t cs) (hne : c ≠ b) (u v : Value) : Blk ((W.setCell ⟨b, 0, none⟩ u).setCell ⟨b, 2, none⟩ v) c t cs := (h.put b 0 u hne).put b 2 v hne
/-- What stands ahead of the last line of word. -/
structure Rw (w : World) (B : Nat) (p c : Nat) (k : Nat) (v : Value) (s : St) (W : World) : Prop where
  wd : Blk W w.heap.size 35 wz
  ft : Blk W (w.heap.size + 1) 26 #[.int .i64 0, .int .i64 0]
  own : Blk W (w.heap.size + 1 + 1) 35 #[.int .i64 (k : Int), .string ⟨#[]⟩, v, .int .u64 (s.a : Int), .int .u64 (s.b : Int), .int .u64 (s.c : Int), .int .u64 (s.d : Int), .int .i64 0, .int .i64 0, .int .i64 0, .int .i64 0]
  fb : Blk W B 26 #[.int .i64 (p : Int), .int .i64 (c : Int)]
  hB : w.heap.size + 1 + 1 < B
  bel : Below w.heap.size w W
set_option maxRecDepth 100000 in
set_option maxHeartbeats 4000000 in
theorem rword_text (x : ByteArray) (i : Nat) (w : World) (hx : x.size ≤ 65536) (hi : i < x.size) (h34 : bt x i = 34) : Calls Try.prog 33 #[.string x, .int .i64 i] w (Said1 w i (rdText (x.data.toList.drop i))) := by
  have b0 := bt_eq x i hi
  rw [h34] at b0
  have hi' : (i : Int) < x.size := by omega
  have HC : Hid _ := fun w => cls_any 34 w
  rw [cls_34] at HC
  clear h34
  have HQ : Hid _ := fun w => said_any x i w (by omega) hi
  have HR : Hid (rdText (x.data.toList.drop i) = _) := rdText.eq_1 _
  generalize rdText (x.data.toList.drop i) = R at *
  generalize quoted (x.data.toList.drop i) = q at *
  obtain ⟨en, bs, fa, code, hsd, hRR⟩ : ∃ (en : Nat) (bs : List Nat) (fa code : Nat), sd i q = ⟨bs, en, fa, code⟩ ∧ (code = 0 → R = ⟨4, en - i, bs, St.zero, 0, 0, 0⟩ ∧ i ≤ en ∧ fa = 0) ∧ (code ≠ 0 → R.code = code ∧ fa = i + R.fat) := by
    obtain ⟨bs, fin, fat, code⟩ := q
    by_cases h3 : code = 0
    · subst h3
      exact ⟨i + fin, bs, 0, 0, by simp [sd], fun _ => ⟨by rw [HR.out]; simp, by omega, rfl⟩, fun h => absurd rfl h⟩
    · exact ⟨0, [], i + fat, code, by simp [sd, h3], fun h => absurd h h3, fun _ => by rw [HR.out]; simp [h3, RW.fault]⟩
  rw [hsd] at HQ
  simp only [quoV, fv] at HQ
  have HRR : Hid _ := hRR
  clear hRR hsd HR
  go_enter Try.func33, Try.ntmps33
  go_wp2_with (first | (go_at_call 45; refine (HC.out _).mono ?_; rintro e w' ⟨rfl, rfl⟩) | (go_at_call 36; refine (HQ.out _).mono ?_))
  rintro e w1 ⟨v, rfl, hrow, hb1⟩
  have hW := (wb3_word w).after hb1
  have hF := (wb3_fault w).after hb1
  have hO := (wb3_own w).after hb1
  have hB := below_of (wb3_below w) hb1
  rw [wb3_size] at hrow
  obtain ⟨va, vc, rfl⟩ := row_slice hrow
  clear hb1 HQ HC
  have l1 := hW.lt
  have l2 := hF.lt
  have l3 := hO.lt
  obtain ⟨d0, d1, d2, d3, d4, d5, d6, d7, d8, d9, d10⟩ := hO.word
  have z3 := hO.frozen
  go_wp2
  clear d0 d1 d2 d3 d4 d5 d6 d7 d8 d9 d10 z3
  have T : Rw w w1.heap.size fa code 4 (.slice va bs.length vc) St.zero (((w1.setCell ⟨w.heap.size + 1 + 1, 0, none⟩ (.int .i64 4)).setCell ⟨w.heap.size + 1 + 1, 2, none⟩ (.slice va bs.length vc)).alloc (.cells #[.int .i64 (fa : Int), .int .i64 (code : Int)] 26)) :=
    ⟨(hW.put02 (by omega) _ _).alloc _, (hF.put02 (by omega) _ _).alloc _, (hO.set02 _ _).alloc _, by have := Blk.new ((w1.setCell ⟨w.heap.size + 1 + 1, 0, none⟩ (.int .i64 4)).setCell ⟨w.heap.size + 1 + 1, 2, none⟩ (.slice va bs.length vc)) 26 #[.int .i64 (fa : Int), .int .i64 (code : Int)]; simpa using this, l3, ((hB.setCell (p := ⟨w.heap.size + 1 + 1, 0, none⟩) (show w.heap.size ≤ w.heap.size + 1 + 1 by omega) _).setCell (p := ⟨w.heap.size + 1 + 1, 2, none⟩) (show w.heap.size ≤ w.heap.size + 1 + 1 by omega) _).alloc (by have := hB.size; simp; omega) _⟩
  have hr2 := (row_put (i := 2) (row_put (i := 0) hrow (show w.heap.size + 1 + 1 < w.heap.size + 3 by omega) (.int .i64 4)) (show w.heap.size + 1 + 1 < w.heap.size + 3 by omega) (.slice va bs.length vc)).alloc (.cells #[.int .i64 (fa : Int), .int .i64 (code : Int)] 26)
  clear hW hF hO hB hrow l1 l2 l3
  obtain ⟨W2, hW2⟩ : ∃ W2, ((w1.setCell ⟨w.heap.size + 1 + 1, 0, none⟩ (.int .i64 4)).setCell ⟨w.heap.size + 1 + 1, 2, none⟩ (.slice va bs.length vc)).alloc (.cells #[.int .i64 (fa : Int), .int .i64 (code : Int)] 26) = W2 := ⟨_, rfl⟩
  rw [hW2] at T hr2 ⊢
  clear hW2
  have l1 := T.wd.lt
  have l2 := T.ft.lt
  have l3 := T.own.lt
  have l4 := T.fb.lt
  have hBb := T.hB
  obtain ⟨e0, e1, e2, e3, e4, e5, e6, e7, e8, e9, e10⟩ := T.wd.word
  obtain ⟨d0, d1, d2, d3, d4, d5, d6, d7, d8, d9, d10⟩ := T.own.word
  obtain ⟨f0, f1⟩ := T.ft.pair
  obtain ⟨g0, g1⟩ := T.fb.pair
  have z1 := T.wd.frozen
  have z2 := T.ft.frozen
  go_region
  all_goals go_wp2
  have hb13 := both13 T.wd T.ft (by omega) (.int .i64 4) (.string ⟨#[]⟩) (.slice va bs.length vc) (.int .u64 (St.zero.a : Int)) (.int .u64 (St.zero.b : Int)) (.int .u64 (St.zero.c : Int)) (.int .u64 (St.zero.d : Int)) (.int .i64 0) (.int .i64 0) (.int .i64 0) (.int .i64 0) (.int .i64 (fa : Int)) (.int .i64 (code : Int))
  have hbl := (below2 (below11 T.bel (Nat.le_refl _) (.int .i64 4) (.string ⟨#[]⟩) (.slice va bs.length vc) (.int .u64 (St.zero.a : Int)) (.int .u64 (St.zero.b : Int)) (.int .u64 (St.zero.c : Int)) (.int .u64 (St.zero.d : Int)) (.int .i64 0) (.int .i64 0) (.int .i64 0) (.int .i64 0)) (Nat.le_succ _) (.int .i64 (fa : Int)) (.int .i64 (code : Int))).drew
  have hq4 := row2 (row11 hr2 (show w.heap.size < w.heap.size + 3 by omega) (.int .i64 4) (.string ⟨#[]⟩) (.slice va bs.length vc) (.int .u64 (St.zero.a : Int)) (.int .u64 (St.zero.b : Int)) (.int .u64 (St.zero.c : Int)) (.int .u64 (St.zero.d : Int)) (.int .i64 0) (.int .i64 0) (.int .i64 0) (.int .i64 0)) (show w.heap.size + 1 < w.heap.size + 3 by omega) (.int .i64 (fa : Int)) (.int .i64 (code : Int))
  refine gen (fun W => (Blk W w.heap.size 35 _ ∧ Blk W (w.heap.size + 1) 26 _) ∧ Below w.heap.size w W ∧ W.ownsRow (w.heap.size + 3) 5 1 _ _ _) ⟨⟨hb13.1.drew, hb13.2.drew⟩, hbl, hq4.drew⟩ ?_
  rintro W ⟨⟨hb, hf⟩, hB', hrow⟩
  clear e0 e1 e2 e3 e4 e5 e6 e7 e8 e9 e10 f0 f1
  obtain ⟨e0, e1, e2, e3, e4, e5, e6, e7, e8, e9, e10⟩ := hb.word
  obtain ⟨f0, f1⟩ := hf.pair
  refine bodyPost_ret (v := .tuple #[wv 4 ⟨#[]⟩ (.slice va bs.length vc) St.zero 0 0 0 0, .int .i64 (en : Int), fv fa code]) (by simp [results, Try.results33, go_sem, wv, fv, e0, e1, e2, e3, e4, e5, e6, e7, e8, e9, e10, f0, f1]) rfl ?_
  refine ⟨4, 0, en, St.zero, va, bs.length, vc, ?_, ?_, hB'⟩
  · by_cases h : code = 0
    · obtain ⟨h1, _, h3⟩ := HRR.out.1 h
      rw [h1, h3, h]; rfl
    · obtain ⟨h1, h2⟩ := HRR.out.2 h
      rw [if_neg (by rw [h1]; exact h), h1, h2]
  · intro h0
    have h : code = 0 := Classical.byContradiction fun h => by
      have := (HRR.out.2 h).1; omega
    obtain ⟨h1, h2, _⟩ := HRR.out.1 h
    rw [h1]
    exact ⟨rfl, rfl, rfl, by simp only; omega, row_mono hrow (by omega)⟩
theorem prs_zero (x : ByteArray) : (prs x).2.2 = 0 → (prs x).2.1 = 0 := by
  have key : ∀ tr r, (prsB x tr r).2.2 = 0 → (prsB x tr r).2.1 = 0 := by
    intro tr r
    unfold prsB
    split
    · rename_i h; exact fun h' => absurd h' h
    · split
      · intro h; simp at h
      · intro _; rfl
  unfold prs
  split
  · intro _; rfl
  · split
    · intro _; rfl
    · split
      · exact key _ _
      · exact key _ _
theorem Blk.set5 {W : World} {b : Nat} {t : TypeId} {x0 x1 x2 x3 x4 x5 x6 x7 x8 x9 x10 : Value} (h : Blk W b t #[x0, x1, x2, x3, x4, x5, x6, x7, x8, x9, x10]) (u v3 v4 v5 v6 : Value) : Blk (((((W.setCell ⟨b, 0, none⟩ u).setCell ⟨b, 3, none⟩ v3).setCell ⟨b, 4, none⟩ v4).setCell ⟨b, 5, none⟩ v5).setCell ⟨b, 6, none⟩ v6) b t #[u, x1, x2, v3, v4, v5, v6, x7, x8, x9, x10] := by
  have h0 := h.set 0 u
  simp only [List.setIfInBounds_toArray, List.set_cons_zero] at h0
  have h1 := h0.set 3 v3
  simp only [List.setIfInBounds_toArray, List.set_cons_zero, List.set_cons_succ] at h1
  have h2 := h1.set 4 v4
  simp only [List.setIfInBounds_toArray, List.set_cons_zero, List.set_cons_succ] at h2
  have h3 := h2.set 5 v5
  simp only [List.setIfInBounds_toArray, List.set_cons_zero, List.set_cons_succ] at h3
  have h4 := h3.set 6 v6
  simp only [List.setIfInBounds_toArray, List.set_cons_zero, List.set_cons_succ] at h4
  exact h4
theorem Blk.put5 {W : World} {b c : Nat} {t : TypeId} {cs : Array Value} (h : Blk W c t cs) (hne : c ≠ b) (u v3 v4 v5 v6 : Value) : Blk (((((W.setCell ⟨b, 0, none⟩ u).setCell ⟨b, 3, none⟩ v3).setCell ⟨b, 4, none⟩ v4).setCell ⟨b, 5, none⟩ v5).setCell ⟨b, 6, none⟩ v6) c t cs := ((((h.put b 0 u hne).put b 3 v3 hne).put b 4 v4 hne).put b 5 v5 hne).put b 6 v6 hne
theorem below5 {B : Nat} {w W : World} {b : Nat} (h : Below B w W) (hb : B ≤ b) (u v3 v4 v5 v6 : Value) : Below B w (((((W.setCell ⟨b, 0, none⟩ u).setCell ⟨b, 3, none⟩ v3).setCell ⟨b, 4, none⟩ v4).setCell ⟨b, 5, none⟩ v5).setCell ⟨b, 6, none⟩ v6) :=
  ((((h.setCell (p := ⟨b, 0, none⟩) hb u).setCell (p := ⟨b, 3, none⟩) hb v3).setCell (p := ⟨b, 4, none⟩) hb v4).setCell (p := ⟨b, 5, none⟩) hb v5).setCell (p := ⟨b, 6, none⟩) hb v6
set_option maxRecDepth 100000 in
set_option maxHeartbeats 4000000 in
theorem rword_set (x : ByteArray) (i : Nat) (w : World) (hx : x.size ≤ 65536) (hi : i < x.size) (h91 : bt x i = 91) : Calls Try.prog 33 #[.string x, .int .i64 i] w (Said1 w i (rdSet (x.data.toList.drop i))) := by
  have b0 := bt_eq x i hi
  rw [h91] at b0
  have hi' : (i : Int) < x.size := by omega
  have HC : Hid _ := fun w => cls_any 91 w
  rw [cls_91] at HC
  clear h91
  have HL : Hid _ := fun w => rclosed_any x i w (by omega) hi
  have HR0 : Hid (rdSet (x.data.toList.drop i) = _) := rdSet.eq_1 _
  generalize rdSet (x.data.toList.drop i) = R at *
  have hsh := clo_shift _ (x.data.toList.drop (i + 1)) 1 i (Nat.le_refl _)
  rw [Nat.add_comm 1 i] at hsh
  rw [List.drop_drop] at HR0
  have hcl := clo_le (x.data.toList.drop (i + 1)) 1
  rw [List.length_drop, list_len] at hcl
  generalize clo (x.data.toList.drop (i + 1)) (i + 1) = C at *
  generalize clo (x.data.toList.drop (i + 1)) 1 = D at *
  by_cases hD : D = 0
  · rw [if_pos hD] at HR0 hsh
    subst hsh
    have HR : Hid _ := HR0
    clear hcl HR0 hD
    go_enter Try.func33, Try.ntmps33
    go_wp2_with (first | (go_at_call 45; refine (HC.out _).mono ?_; rintro e w' ⟨rfl, rfl⟩) | (go_at_call 62; refine (HL.out _).mono ?_; rintro e w' ⟨rfl, rfl⟩))
    exact bodyPost_ret (v := .tuple #[wv 0 ⟨#[]⟩ (.slice none 0 0) St.zero 0 0 0 0, .int .i64 ((0 : Nat) : Int), fv i 13]) (by simp [results, Try.results33, go_sem, wv, fv, St.zero]) rfl (said1_no 0 0 0 St.zero none 0 0 i 13 (by decide) (by rw [HR.out]; try rfl) (by rw [HR.out]; try rfl) (bel3 _ _ _ _))
  rw [if_neg hD] at HR0 hsh
  have hC0 : ¬ C = 0 := by omega
  have hC0' : ((C : Int) == 0) = false := by simp; omega
  have hCx : C ≤ x.size := by omega
  have hCx' : (C : Int) ≤ x.size := by omega
  have hiC : (i : Int) ≤ C := by omega
  have hpe : (⟨((x.data.toList.drop i).take D).toArray⟩ : ByteArray) = x.extract i C := by
    rw [ba_list (x.extract i C), extract_list]; congr 2; congr 1; omega
  rw [hpe] at HR0
  have HP : Hid _ := fun w => rparse_any (x.extract i C) w
  have hz0 := prs_zero (x.extract i C)
  have hpf : (prs (x.extract i C)).2.1 ≤ x.size := Nat.le_trans (prs_fat _) (by simp; omega)
  generalize prs (x.extract i C) = pr at *
  obtain ⟨st, fa0, code⟩ := pr
  simp only [prsV] at HP HR0 hz0 hpf
  have HD : Hid (i + D = C) := by show _ = _; omega
  clear hpe hsh hcl hD hC0
  by_cases hcd : code = 0
  · subst hcd
    obtain rfl := hz0 rfl
    rw [if_pos rfl] at HR0
    clear hz0 hpf
    go_enter Try.func33, Try.ntmps33
    go_wp2_with (first | (go_at_call 45; refine (HC.out _).mono ?_; rintro e w' ⟨rfl, rfl⟩) | (go_at_call 62; refine (HL.out _).mono ?_; rintro e w' ⟨rfl, rfl⟩) | (go_at_call 63; refine (HP.out _).mono ?_))
    rintro e w1 ⟨rfl, hb1⟩
    have hW := (wb3_word w).after hb1
    have hF := (wb3_fault w).after hb1
    have hO := (wb3_own w).after hb1
    have hB := below_of (wb3_below w) hb1
    clear hb1 HP HC
    have l1 := hW.lt
    have l2 := hF.lt
    have l3 := hO.lt
    obtain ⟨d0, d1, d2, d3, d4, d5, d6, d7, d8, d9, d10⟩ := hO.word
    have z3 := hO.frozen
    go_wp2
    go_region
    all_goals go_wp2
    clear d0 d1 d2 d3 d4 d5 d6 d7 d8 d9 d10 z3
    have T : Rw w (w1.heap.size + 1) 0 0 5 (.slice none 0 0) st ((((((((w1.setCell ⟨w.heap.size + 1 + 1, 0, none⟩ (.int .i64 5)).setCell ⟨w.heap.size + 1 + 1, 3, none⟩ (.int .u64 (st.a : Int))).setCell ⟨w.heap.size + 1 + 1, 4, none⟩ (.int .u64 (st.b : Int))).setCell ⟨w.heap.size + 1 + 1, 5, none⟩ (.int .u64 (st.c : Int))).setCell ⟨w.heap.size + 1 + 1, 6, none⟩ (.int .u64 (st.d : Int))).alloc (.cells #[.int .u64 (st.a : Int), .int .u64 (st.b : Int), .int .u64 (st.c : Int), .int .u64 (st.d : Int)] 33)).alloc (.cells #[.int .i64 0, .int .i64 0] 26)).drew) :=
      ⟨(((hW.put5 (by omega) _ _ _ _ _).alloc _).alloc _).drew, (((hF.put5 (by omega) _ _ _ _ _).alloc _).alloc _).drew, (((hO.set5 _ _ _ _ _).alloc _).alloc _).drew, by have := (Blk.new ((((((w1.setCell ⟨w.heap.size + 1 + 1, 0, none⟩ (.int .i64 5)).setCell ⟨w.heap.size + 1 + 1, 3, none⟩ (.int .u64 (st.a : Int))).setCell ⟨w.heap.size + 1 + 1, 4, none⟩ (.int .u64 (st.b : Int))).setCell ⟨w.heap.size + 1 + 1, 5, none⟩ (.int .u64 (st.c : Int))).setCell ⟨w.heap.size + 1 + 1, 6, none⟩ (.int .u64 (st.d : Int))).alloc (.cells #[.int .u64 (st.a : Int), .int .u64 (st.b : Int), .int .u64 (st.c : Int), .int .u64 (st.d : Int)] 33)) 26 #[.int .i64 0, .int .i64 0]).drew; simpa using this, Nat.lt_succ_of_lt l3, ((((below5 hB (show w.heap.size ≤ w.heap.size + 1 + 1 by omega) _ _ _ _ _).alloc (by have := hB.size; simp; omega) _).alloc (by have := hB.size; simp; omega) _)).drew⟩
    clear hW hF hO hB l1 l2 l3
    obtain ⟨W2, hW2⟩ : ∃ W2, (((((((w1.setCell ⟨w.heap.size + 1 + 1, 0, none⟩ (.int .i64 5)).setCell ⟨w.heap.size + 1 + 1, 3, none⟩ (.int .u64 (st.a : Int))).setCell ⟨w.heap.size + 1 + 1, 4, none⟩ (.int .u64 (st.b : Int))).setCell ⟨w.heap.size + 1 + 1, 5, none⟩ (.int .u64 (st.c : Int))).setCell ⟨w.heap.size + 1 + 1, 6, none⟩ (.int .u64 (st.d : Int))).alloc (.cells #[.int .u64 (st.a : Int), .int .u64 (st.b : Int), .int .u64 (st.c : Int), .int .u64 (st.d : Int)] 33)).alloc (.cells #[.int .i64 0, .int .i64 0] 26)).drew = W2 := ⟨_, rfl⟩
    rw [hW2] at T ⊢
    clear hW2
    have l1 := T.wd.lt
    have l2 := T.ft.lt
    have l3 := T.own.lt
    have l4 := T.fb.lt
    have hBb := T.hB
    obtain ⟨e0, e1, e2, e3, e4, e5, e6, e7, e8, e9, e10⟩ := T.wd.word
    obtain ⟨d0, d1, d2, d3, d4, d5, d6, d7, d8, d9, d10⟩ := T.own.word
    obtain ⟨f0, f1⟩ := T.ft.pair
    obtain ⟨g0, g1⟩ := T.fb.pair
    have z1 := T.wd.frozen
    have z2 := T.ft.frozen
    go_region
    all_goals go_wp2
    have hb13 := both13 T.wd T.ft (by omega) (.int .i64 5) (.string ⟨#[]⟩) (.slice none 0 0) (.int .u64 (st.a : Int)) (.int .u64 (st.b : Int)) (.int .u64 (st.c : Int)) (.int .u64 (st.d : Int)) (.int .i64 0) (.int .i64 0) (.int .i64 0) (.int .i64 0) (.int .i64 0) (.int .i64 0)
    have hbl := (below2 (below11 T.bel (Nat.le_refl _) (.int .i64 5) (.string ⟨#[]⟩) (.slice none 0 0) (.int .u64 (st.a : Int)) (.int .u64 (st.b : Int)) (.int .u64 (st.c : Int)) (.int .u64 (st.d : Int)) (.int .i64 0) (.int .i64 0) (.int .i64 0) (.int .i64 0)) (Nat.le_succ _) (.int .i64 0) (.int .i64 0)).drew
    refine gen (fun W => (Blk W w.heap.size 35 _ ∧ Blk W (w.heap.size + 1) 26 _) ∧ Below w.heap.size w W) ⟨⟨hb13.1.drew, hb13.2.drew⟩, hbl⟩ ?_
    rintro W ⟨⟨hb, hf⟩, hB'⟩
    clear e0 e1 e2 e3 e4 e5 e6 e7 e8 e9 e10 f0 f1
    obtain ⟨e0, e1, e2, e3, e4, e5, e6, e7, e8, e9, e10⟩ := hb.word
    obtain ⟨f0, f1⟩ := hf.pair
    refine bodyPost_ret (v := .tuple #[wv 5 ⟨#[]⟩ (.slice none 0 0) st 0 0 0 0, .int .i64 (C : Int), fv 0 0]) (by simp [results, Try.results33, go_sem, wv, fv, e0, e1, e2, e3, e4, e5, e6, e7, e8, e9, e10, f0, f1]) rfl ?_
    refine ⟨5, 0, C, st, none, 0, 0, ?_, ?_, hB'⟩
    · rw [HR0.out]; rfl
    · intro _
      rw [HR0.out]
      exact ⟨rfl, rfl, rfl, HD.out.symm, World.ownsRow_nil _ _ _ _⟩
  · have hcd' : ((code : Int) != 0) = true := by simp; omega
    have hfai : (fa0 : Int) + i ≤ 1000000 := by omega
    rw [if_neg hcd] at HR0
    clear hz0 hpf
    go_enter Try.func33, Try.ntmps33
    go_wp2_with (first | (go_at_call 45; refine (HC.out _).mono ?_; rintro e w' ⟨rfl, rfl⟩) | (go_at_call 62; refine (HL.out _).mono ?_; rintro e w' ⟨rfl, rfl⟩) | (go_at_call 63; refine (HP.out _).mono ?_))
    rintro e w1 ⟨rfl, hb1⟩
    have hW := (wb3_word w).after hb1
    have hF := (wb3_fault w).after hb1
    have hO := (wb3_own w).after hb1
    have hB := below_of (wb3_below w) hb1
    clear hb1 HP HC
    have l1 := hW.lt
    have l2 := hF.lt
    have l3 := hO.lt
    obtain ⟨d0, d1, d2, d3, d4, d5, d6, d7, d8, d9, d10⟩ := hO.word
    have z3 := hO.frozen
    go_wp2
    go_region
    all_goals go_wp2
    clear d0 d1 d2 d3 d4 d5 d6 d7 d8 d9 d10 z3
    have T : Rw w (w1.heap.size + 1) (fa0 + i) code 5 (.slice none 0 0) st ((((((((w1.setCell ⟨w.heap.size + 1 + 1, 0, none⟩ (.int .i64 5)).setCell ⟨w.heap.size + 1 + 1, 3, none⟩ (.int .u64 (st.a : Int))).setCell ⟨w.heap.size + 1 + 1, 4, none⟩ (.int .u64 (st.b : Int))).setCell ⟨w.heap.size + 1 + 1, 5, none⟩ (.int .u64 (st.c : Int))).setCell ⟨w.heap.size + 1 + 1, 6, none⟩ (.int .u64 (st.d : Int))).alloc (.cells #[.int .u64 (st.a : Int), .int .u64 (st.b : Int), .int .u64 (st.c : Int), .int .u64 (st.d : Int)] 33)).alloc (.cells #[.int .i64 ((fa0 : Int) + (i : Int)), .int .i64 (code : Int)] 26)).drew) :=
      ⟨(((hW.put5 (by omega) _ _ _ _ _).alloc _).alloc _).drew, (((hF.put5 (by omega) _ _ _ _ _).alloc _).alloc _).drew, (((hO.set5 _ _ _ _ _).alloc _).alloc _).drew, by have := (Blk.new ((((((w1.setCell ⟨w.heap.size + 1 + 1, 0, none⟩ (.int .i64 5)).setCell ⟨w.heap.size + 1 + 1, 3, none⟩ (.int .u64 (st.a : Int))).setCell ⟨w.heap.size + 1 + 1, 4, none⟩ (.int .u64 (st.b : Int))).setCell ⟨w.heap.size + 1 + 1, 5, none⟩ (.int .u64 (st.c : Int))).setCell ⟨w.heap.size + 1 + 1, 6, none⟩ (.int .u64 (st.d : Int))).alloc (.cells #[.int .u64 (st.a : Int), .int .u64 (st.b : Int), .int .u64 (st.c : Int), .int .u64 (st.d : Int)] 33)) 26 #[.int .i64 ((fa0 : Int) + (i : Int)), .int .i64 (code : Int)]).drew; simpa using this, Nat.lt_succ_of_lt l3, ((((below5 hB (show w.heap.size ≤ w.heap.size + 1 + 1 by omega) _ _ _ _ _).alloc (by have := hB.size; simp; omega) _).alloc (by have := hB.size; simp; omega) _)).drew⟩
    clear hW hF hO hB l1 l2 l3
    obtain ⟨W2, hW2⟩ : ∃ W2, (((((((w1.setCell ⟨w.heap.size + 1 + 1, 0, none⟩ (.int .i64 5)).setCell ⟨w.heap.size + 1 + 1, 3, none⟩ (.int .u64 (st.a : Int))).setCell ⟨w.heap.size + 1 + 1, 4, none⟩ (.int .u64 (st.b : Int))).setCell ⟨w.heap.size + 1 + 1, 5, none⟩ (.int .u64 (st.c : Int))).setCell ⟨w.heap.size + 1 + 1, 6, none⟩ (.int .u64 (st.d : Int))).alloc (.cells #[.int .u64 (st.a : Int), .int .u64 (st.b : Int), .int .u64 (st.c : Int), .int .u64 (st.d : Int)] 33)).alloc (.cells #[.int .i64 ((fa0 : Int) + (i : Int)), .int .i64 (code : Int)] 26)).drew = W2 := ⟨_, rfl⟩
    rw [hW2] at T ⊢
    clear hW2
    have l1 := T.wd.lt
    have l2 := T.ft.lt
    have l3 := T.own.lt
    have l4 := T.fb.lt
    have hBb := T.hB
    obtain ⟨e0, e1, e2, e3, e4, e5, e6, e7, e8, e9, e10⟩ := T.wd.word
    obtain ⟨d0, d1, d2, d3, d4, d5, d6, d7, d8, d9, d10⟩ := T.own.word
    obtain ⟨f0, f1⟩ := T.ft.pair
    obtain ⟨g0, g1⟩ := T.fb.pair
    have z1 := T.wd.frozen
    have z2 := T.ft.frozen
    go_region
    all_goals go_wp2
    have hb13 := both13 T.wd T.ft (by omega) (.int .i64 5) (.string ⟨#[]⟩) (.slice none 0 0) (.int .u64 (st.a : Int)) (.int .u64 (st.b : Int)) (.int .u64 (st.c : Int)) (.int .u64 (st.d : Int)) (.int .i64 0) (.int .i64 0) (.int .i64 0) (.int .i64 0) (.int .i64 ((fa0 : Int) + (i : Int))) (.int .i64 (code : Int))
    have hbl := (below2 (below11 T.bel (Nat.le_refl _) (.int .i64 5) (.string ⟨#[]⟩) (.slice none 0 0) (.int .u64 (st.a : Int)) (.int .u64 (st.b : Int)) (.int .u64 (st.c : Int)) (.int .u64 (st.d : Int)) (.int .i64 0) (.int .i64 0) (.int .i64 0) (.int .i64 0)) (Nat.le_succ _) (.int .i64 ((fa0 : Int) + (i : Int))) (.int .i64 (code : Int))).drew
    refine gen (fun W => (Blk W w.heap.size 35 _ ∧ Blk W (w.heap.size + 1) 26 _) ∧ Below w.heap.size w W) ⟨⟨hb13.1.drew, hb13.2.drew⟩, hbl⟩ ?_
    rintro W ⟨⟨hb, hf⟩, hB'⟩
    clear e0 e1 e2 e3 e4 e5 e6 e7 e8 e9 e10 f0 f1
    obtain ⟨e0, e1, e2, e3, e4, e5, e6, e7, e8, e9, e10⟩ := hb.word
    obtain ⟨f0, f1⟩ := hf.pair
    refine bodyPost_ret (v := .tuple #[wv 5 ⟨#[]⟩ (.slice none 0 0) st 0 0 0 0, .int .i64 (C : Int), fv (fa0 + i) code]) (by simp [results, Try.results33, go_sem, wv, fv, e0, e1, e2, e3, e4, e5, e6, e7, e8, e9, e10, f0, f1]) rfl ?_
    refine ⟨5, 0, C, st, none, 0, 0, ?_, ?_, hB'⟩
    · rw [HR0.out]
      rw [if_neg (show ¬ (RW.fault fa0 code).code = 0 from hcd), Nat.add_comm fa0 i]; rfl
    · intro h0
      rw [HR0.out] at h0
      exact absurd h0 hcd
theorem rword_any (x : ByteArray) (i : Nat) (w : World) (hx : x.size ≤ 65536) (hi : i < x.size) : Calls Try.prog 33 #[.string x, .int .i64 i] w (Said1 w i (rdw (x.data.toList.drop i))) := by
  rw [rdw_drop x i hi]
  have h1 := cls_one (bt x i)
  have h2 := cls_two (bt x i)
  have h3 := cls_three (bt x i)
  by_cases hg : great (bt x i) = true
  · rw [if_pos hg]
    exact rword_let x i w hx hi 1 (.inl rfl) (of_decide_eq_true (h1.trans hg))
  rw [if_neg hg]
  by_cases hs : small (bt x i) = true
  · rw [if_pos hs]
    exact rword_let x i w hx hi 2 (.inr rfl) (of_decide_eq_true (h2.trans hs))
  rw [if_neg hs]
  by_cases hd : digB (bt x i) = true
  · rw [if_pos hd]
    exact rword_num x i w hx hi (of_decide_eq_true (h3.trans hd))
  rw [if_neg hd]
  have h0 : cls (bt x i) = 0 := by unfold cls; rw [if_neg hg, if_neg hs, if_neg hd]
  by_cases h34 : bt x i = 34
  · rw [if_pos h34]; exact rword_text x i w hx hi h34
  rw [if_neg h34]
  by_cases h91 : bt x i = 91
  · rw [if_pos h91]; exact rword_set x i w hx hi h91
  rw [if_neg h91]
  exact rword_sign x i w hx hi h0 h34 h91
end Go.Proofs.Ytbbmjnhbmcbehaa
