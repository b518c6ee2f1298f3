/- Place, at every text and number: the code's, and the document's own. -/
import Derived.Test.YtbbmjnhbmcbehaaN1
import Derived.Test.YtbbmjnhbmcbehaaShelf
namespace Go.Proofs.Ytbbmjnhbmcbehaa
open Go.RowKit

def lnOf (l : List UInt8) : Nat := l.count 10 + 1
def coOf (l : List UInt8) : Nat := l.foldl (fun co c => if c = 10 then 1 else co + 1) 1
theorem lnOf_snoc (l : List UInt8) (c : UInt8) : lnOf (l ++ [c]) = if c = 10 then lnOf l + 1 else lnOf l := by
  unfold lnOf; rw [List.count_append]; by_cases h : c = 10 <;> simp [h]
theorem coOf_snoc (l : List UInt8) (c : UInt8) : coOf (l ++ [c]) = if c = 10 then 1 else coOf l + 1 := by
  unfold coOf; simp
theorem coOf_le (l : List UInt8) : coOf l ≤ l.length + 1 := by
  unfold coOf
  suffices ∀ (l : List UInt8) (k : Nat), 1 ≤ k → l.foldl (fun co c => if c = 10 then 1 else co + 1) k ≤ l.length + k by exact this l 1 (Nat.le_refl _)
  intro l
  induction l with
  | nil => intro k _; simp
  | cons c l ih =>
    intro k hk
    simp only [List.foldl_cons, List.length_cons]
    split
    · have := ih 1 (Nat.le_refl _); omega
    · have := ih (k + 1) (by omega); omega
theorem lnOf_le (l : List UInt8) : lnOf l ≤ l.length + 1 := by unfold lnOf; have := List.count_le_length (a := (10 : UInt8)) (l := l); omega
theorem take_next (x : ByteArray) (k : Nat) (h : k < x.size) : x.data.toList.take (k + 1) = x.data.toList.take k ++ [x[k]] := by
  rw [List.take_succ_eq_append_getElem (by simpa using h)]; rfl
theorem u8_10 (c : UInt8) : c = 10 ↔ c.toNat = 10 := by rw [← UInt8.toNat_inj]; rfl
theorem last_co (x : ByteArray) : ∀ k : Nat, k ≤ x.size → (k : Int) - Lib.lastIdx x 10 k = coOf (x.data.toList.take k)
  | 0, _ => by simp [Lib.lastIdx, coOf]
  | k + 1, h => by
    have ih := last_co x k (by omega)
    have hk : k < x.size := by omega
    rw [take_next x k hk, coOf_snoc]
    have e : x.data[k]! = x[k] := by
      rw [getElem!_pos x.data k (by simpa using hk)]; rfl
    unfold Lib.lastIdx
    rw [e]
    by_cases h10 : x[k] = 10
    · have h' : x[k].toNat = 10 := (u8_10 _).1 h10
      rw [if_pos h10]; simp [h']; omega
    · have h' : x[k].toNat ≠ 10 := fun e => h10 ((u8_10 _).2 e)
      rw [if_neg h10]
      rw [if_neg (by omega)]
      omega
def plc (x : ByteArray) (k : Int) : Nat × Nat := if k < 0 ∨ (x.size : Int) < k then (0, 0) else (lnOf (x.data.toList.take k.toNat), coOf (x.data.toList.take k.toNat))
theorem ret_pair {a b : Nat} {p : Nat × Nat} (h : p = (a, b)) : Ending.returned (.tuple #[.int .i64 (a : Int), .int .i64 (b : Int)]) = .returned (.tuple #[.int .i64 (p.1 : Int), .int .i64 (p.2 : Int)]) := by rw [h]
theorem ret_pair' {a b c d : Int} (h : a = c) (h2 : b = d) : Ending.returned (.tuple #[.int .i64 a, .int .i64 b]) = .returned (.tuple #[.int .i64 c, .int .i64 d]) := by rw [h, h2]
set_option maxRecDepth 100000 in
set_option maxHeartbeats 1000000 in
theorem place_any (x : ByteArray) (k : Int) (w : World) (hx : x.size ≤ 65536) :
    Calls Try.prog 24 #[.string x, .int .i64 k] w fun e w' => e = .returned (.tuple #[.int .i64 ((plc x k).1 : Int), .int .i64 ((plc x k).2 : Int)]) ∧ w' = w := by
  obtain ⟨R, hR⟩ : ∃ R, plc x k = R := ⟨_, rfl⟩
  rw [hR]
  unfold plc at hR
  by_cases h0 : k < 0
  · rw [if_pos (Or.inl h0)] at hR
    go_enter Try.func24, Try.ntmps24
    go_wp2
    go_ret2
    exact ⟨ret_pair hR.symm, rfl⟩
  · by_cases h1 : (x.size : Int) < k
    · rw [if_pos (Or.inr h1)] at hR
      go_enter Try.func24, Try.ntmps24
      go_wp2
      go_ret2
      exact ⟨ret_pair hR.symm, rfl⟩
    · rw [if_neg (by omega)] at hR
      obtain ⟨m, rfl⟩ := Int.eq_ofNat_of_zero_le (show 0 ≤ k by omega)
      have hm : m ≤ x.size := by omega
      simp only [Int.toNat_natCast] at hR
      have HC : Hid _ := fun w => count_any (x.extract 0 m) 10 w
      have HL : Hid _ := fun w => lastidx_any (x.extract 0 m) 10 (by simp; omega) w
      have e1 : (x.extract 0 m).data.toList = x.data.toList.take m := by rw [extract_list]; simp
      have e2 : (x.extract 0 m).size = m := by simp; omega
      have e3 := last_co (x.extract 0 m) m (by omega)
      unfold Lib.lastIndexByte at HL
      rw [e1] at HC e3
      rw [e2] at HL
      rw [show List.take m (x.data.toList.take m) = x.data.toList.take m by rw [List.take_take, Nat.min_self]] at e3
      have e4 : Lib.countByte (x.data.toList.take m) 10 + 1 = lnOf (x.data.toList.take m) := rfl
      have l1 := lnOf_le (x.data.toList.take m)
      have l2 := coOf_le (x.data.toList.take m)
      have l3 : (x.data.toList.take m).length ≤ m := List.length_take_le _ _
      generalize lnOf (x.data.toList.take m) = a at *
      generalize coOf (x.data.toList.take m) = b at *
      generalize Lib.countByte (x.data.toList.take m) 10 = n at *
      generalize Lib.lastIdx (x.extract 0 m) 10 m = i at *
      obtain rfl : i = (m : Int) - b := by omega
      subst e4
      have mi : (m : Int) ≤ x.size := by omega
      have l1' : (n : Int) ≤ 65536 := by omega
      have l2' : (b : Int) ≤ 65537 := by omega
      clear e1 e2 e3
      go_enter Try.func24, Try.ntmps24
      go_wp2_with (first | (go_at_call 48; refine (HC.out _).mono ?_; rintro e w' ⟨rfl, rfl⟩) | (go_at_call 49; refine (HL.out _).mono ?_; rintro e w' ⟨rfl, rfl⟩))
      go_ret2
      refine ⟨(ret_pair' ?_ ?_).trans (ret_pair hR.symm), rfl⟩
      · omega
      · omega
set_option maxRecDepth 100000 in
set_option maxHeartbeats 1000000 in
theorem rplace_any (x : ByteArray) (k : Int) (w : World) (hx : x.size ≤ 65536) :
    Calls Try.prog 25 #[.string x, .int .i64 k] w fun e w' => e = .returned (.tuple #[.int .i64 ((plc x k).1 : Int), .int .i64 ((plc x k).2 : Int)]) ∧ w' = w := by
  obtain ⟨R, hR⟩ : ∃ R, plc x k = R := ⟨_, rfl⟩
  rw [hR]
  unfold plc at hR
  by_cases h0 : k < 0
  · rw [if_pos (Or.inl h0)] at hR
    go_enter Try.func25, Try.ntmps25
    go_wp2
    go_ret2
    exact ⟨ret_pair hR.symm, rfl⟩
  · by_cases h1 : (x.size : Int) < k
    · rw [if_pos (Or.inr h1)] at hR
      go_enter Try.func25, Try.ntmps25
      go_wp2
      go_ret2
      exact ⟨ret_pair hR.symm, rfl⟩
    · rw [if_neg (by omega)] at hR
      obtain ⟨m, rfl⟩ := Int.eq_ofNat_of_zero_le (show 0 ≤ k by omega)
      have hm : m ≤ x.size := by omega
      have hm' : (m : Int) ≤ x.size := by omega
      simp only [Int.toNat_natCast] at hR
      go_enter Try.func25, Try.ntmps25
      go_wp2
      go_loop [6, 7, 8] (fun l c i => ∃ j : Nat, j ≤ m ∧ i = .int .i64 j ∧ l = .int .i64 (lnOf (x.data.toList.take j)) ∧ c = .int .i64 (coOf (x.data.toList.take j))) (fun _ _ i => m - (intOf i).toNat)
      case atStart => exact ⟨0, Nat.zero_le _, rfl, rfl, rfl⟩
      case round =>
        obtain ⟨j, hj, rfl, rfl, rfl⟩ := hrel
        by_cases hlt : j < m
        · have hjx : j < x.size := by omega
          have hj' : (j : Int) < x.size := by omega
          have hjm : (j : Int) < m := by omega
          have HN : Hid _ := take_next x j hjx
          have l1 := lnOf_le (x.data.toList.take j)
          have l2 := coOf_le (x.data.toList.take j)
          have l3 : (x.data.toList.take j).length ≤ j := List.length_take_le _ _
          have HL : Hid _ := lnOf_snoc (x.data.toList.take j) x[j]
          have HC : Hid _ := coOf_snoc (x.data.toList.take j) x[j]
          rw [← HN.out] at HL HC
          clear HN
          have hu := u8_10 x[j]
          generalize lnOf (x.data.toList.take j) = a at *
          generalize coOf (x.data.toList.take j) = b at *
          have l1' : (a : Int) ≤ 65537 := by omega
          have l2' : (b : Int) ≤ 65537 := by omega
          by_cases h10 : x[j].toNat = 10
          · have h10' : x[j] = 10 := hu.2 h10
            rw [if_pos h10'] at HL HC
            clear hu h10'
            go_wp2
            go_round
            case rel => exact ⟨j + 1, by omega, by go_num, by rw [HL.out]; go_num, by rw [HC.out]; rfl⟩
            case measure => simp [intOf]; omega
          · have h10' : ¬ x[j] = 10 := fun e => h10 (hu.1 e)
            have h10b : ((x[j].toNat : Int) == 10) = false := by simp; omega
            rw [if_neg h10'] at HL HC
            clear hu h10'
            go_wp2
            go_round
            case rel => exact ⟨j + 1, by omega, by go_num, by rw [HL.out], by rw [HC.out]; go_num⟩
            case measure => simp [intOf]; omega
        · obtain rfl : j = m := by omega
          clear hlt hj
          go_wp2
          go_ret2
          exact ⟨ret_pair hR.symm, rfl⟩
end Go.Proofs.Ytbbmjnhbmcbehaa
