/- The document's own sign at a place of a text: one, at every text and place. -/
import Derived.Test.YtbbmjnhbmcbehaaY1
import Derived.Test.YtbbmjnhbmcbehaaX2
import Derived.Deep.RegionHeld3
import Derived.Deep.DrawnRows
namespace Go.Proofs.Ytbbmjnhbmcbehaa
open Go.RowKit

/-- What the sign behind a backslash says, and how long it is. -/
def rdrI (x : ByteArray) (i : Nat) : Nat × Nat :=
  if x.size < i + 2 then (0, 0) else if 0 ≤ short (bt x (i + 1)) then (saidB (short (bt x (i + 1))).toNat, 2)
  else if x.size < i + 4 ∨ bt x (i + 1) ≠ 120 then (0, 0)
  else if dig (bt x (i + 2)) < 0 ∨ dig (bt x (i + 3)) < 0 then (0, 0)
  else ((dig (bt x (i + 2))).toNat * 16 + (dig (bt x (i + 3))).toNat, 4)
def rone (x : ByteArray) (i : Nat) : Nat × Nat × Nat :=
  if x.size ≤ i then (0, 0, 14)
  else if bt x i = 92 then (if (rdrI x i).2 = 0 then (0, 0, 12) else ((rdrI x i).1, (rdrI x i).2, 0))
  else if plain (bt x i) then (bt x i, 1, 0) else (0, 0, 11)
theorem plain_spec : ∀ n : Fin 256, plain n.val = (decide (32 < n.val) && decide (n.val < 127) && decide (spec n.val = 0)) := by decide +kernel
theorem spec_short : ∀ n : Fin 256, spec n.val ≠ 0 → 0 ≤ short (spec n.val) ∧ saidB (short (spec n.val)).toNat = n.val := by decide +kernel
theorem short_spec : ∀ c : Fin 256, 0 ≤ short c.val → saidB (short c.val).toNat < 256 ∧ spec (saidB (short c.val).toNat) = c.val ∧ c.val ≠ 0 := by decide +kernel
theorem spec_iff (c n : Nat) (hc : c < 256) (hn : n < 256) : (spec n = c ∧ spec n ≠ 0) ↔ (0 ≤ short c ∧ n = saidB (short c).toNat) := by
  have h1 := spec_short ⟨n, hn⟩
  have h2 := short_spec ⟨c, hc⟩
  simp only at h1 h2
  constructor
  · rintro ⟨rfl, h⟩; obtain ⟨a, b⟩ := h1 h; exact ⟨a, b.symm⟩
  · rintro ⟨h, rfl⟩; obtain ⟨_, b, d⟩ := h2 h; exact ⟨b, by rw [b]; exact d⟩
theorem spec_lt256 : ∀ n : Fin 256, spec n.val < 256 := by decide +kernel
theorem spec_lt (k : Nat) : spec k < 256 := by
  by_cases h : k < 256
  · exact spec_lt256 ⟨k, h⟩
  · unfold spec specL
    rw [List.find?_eq_none.2 (by intro p hp; simp at hp; rcases hp with rfl | rfl | rfl | rfl | rfl | rfl | rfl | rfl | rfl <;> (simp; omega))]
    simp
theorem short_120 : short 120 < 0 := by decide +kernel
def oneV (p : Nat × Nat × Nat) : Value := .tuple #[.int .i64 (p.1 : Int), .int .i64 (p.2.1 : Int), .int .i64 (p.2.2 : Int)]
set_option maxRecDepth 100000 in
set_option maxHeartbeats 8000000 in
theorem rone_any (x : ByteArray) (i : Nat) (w : World) (hx : x.size ≤ 100000) (hi : i ≤ 100000) :
    Calls Try.prog 80 #[.string x, .int .i64 i] w fun e w' => e = .returned (oneV (rone x i)) ∧ ∃ nq, w' = w.drewN nq := by
  have H : Hid (rone x i = _) := rone.eq_1 x i
  by_cases h1 : x.size ≤ i
  · rw [if_pos h1] at H
    rw [show rone x i = _ from H]
    clear H
    go_enter Try.func80, Try.ntmps80
    go_wp2
    exact bodyPost_ret (v := oneV (0, 0, 14)) (by simp [results, Try.results80, go_sem, oneV]) rfl ⟨rfl, 0, rfl⟩
  have h1' : i < x.size := by omega
  have b0 := bt_eq x i h1'
  have l0 := bt_lt x i
  rw [if_neg h1] at H
  by_cases h2 : bt x i = 92
  · rw [if_pos h2] at H
    rw [h2] at b0
    have HI : Hid (rdrI x i = _) := rdrI.eq_1 x i
    generalize rdrI x i = R at *
    by_cases h3 : x.size < i + 2
    · rw [if_pos h3] at HI
      rw [show R = _ from HI] at H
      rw [if_pos rfl] at H
      rw [show rone x i = _ from H]
      clear H HI
      have e3 : decide ((i : Int) + 3 < (x.size : Int)) = false := by simp; omega
      have e4 : decide ((i : Int) + 1 < (x.size : Int)) = false := by simp; omega
      go_enter Try.func80, Try.ntmps80
      go_wp2
      refine wp_loop_rounds 1 ?_
      rw [rounds_succ]
      go_wp2
      exact bodyPost_ret (v := oneV (0, 0, 12)) (by simp [results, Try.results80, go_sem, oneV]) rfl ⟨rfl, 0, rfl⟩
    · rw [if_neg h3] at HI
      have q1 : i + 1 < x.size := by omega
      have b1 := bt_eq x (i + 1) q1
      have l1 := bt_lt x (i + 1)
      have hm : ∀ j, j < 256 → ((spec j = bt x (i + 1) ∧ spec j ≠ 0) ↔ (0 ≤ short (bt x (i + 1)) ∧ j = saidB (short (bt x (i + 1))).toNat)) := fun j hj => spec_iff _ j l1 hj
      have hS : 0 ≤ short (bt x (i + 1)) → saidB (short (bt x (i + 1))).toNat < 256 := fun h => (short_spec ⟨_, l1⟩ h).1
      have hxs : short 120 < 0 := short_120
      generalize bt x (i + 1) = c at *
      by_cases h4 : x.size < i + 4
      · have hyes : 0 ≤ short c → rone x i = (saidB (short c).toNat, 2, 0) := fun h => by
          rw [if_pos h] at HI; rw [show R = _ from HI] at H; exact H
        have hno : short c < 0 → rone x i = (0, 0, 12) := fun h => by
          rw [if_neg (by omega), if_pos (Or.inl h4)] at HI; rw [show R = _ from HI] at H; exact H
        clear H HI
        generalize rone x i = Q at *
        generalize saidB (short c).toNat = S at *
        generalize short c = sh at *
        have e3 : decide ((i : Int) + 3 < (x.size : Int)) = false := by simp; omega
        go_enter Try.func80, Try.ntmps80
        go_wp2
        go_loopw [10] (fun i' wr => ∃ k nq : Nat, k ≤ 256 ∧ i' = .int .i64 (k : Nat) ∧ (0 ≤ sh → k ≤ S) ∧ wr = w.drewN nq) (fun i' _ => 256 - (intOf i').toNat)
        case atStart => exact ⟨0, 0, by omega, rfl, fun _ => by omega, rfl⟩
        case round =>
          obtain ⟨k, nq1, hk, rfl, hkS, HW0⟩ := hrel
          have HW : Hid _ := HW0
          clear HW0
          by_cases hk2 : k < 256
          · have HS : Hid _ := fun w => spec_any k w hk2
            have hm' := hm k hk2
            clear hm
            have hsl := spec_lt k
            generalize spec k = v at *
            have e1 : (0 : Int) ≤ (i : Int) + 1 := by omega
            have e2 : (i : Int) + 1 < x.size := by omega
            by_cases hv : v = c
            · by_cases hv0 : v = 0
              · have g1 : ((v : Int) == ((c : Nat) : Int)) = true := by rw [hv]; simp
                have g2 : ((v : Int) != 0) = false := by simp; omega
                go_wp2
                go_quiet (first | (go_at_call 92; exact Calls.quiet_of_same (HS.out _)))
                go_wp2
                refine ⟨⟨k + 1, nq1 + nq, by omega, by go_num, fun h => ?_, by rw [HW.out, World.drewN_drewN]⟩, by simp [intOf]; omega⟩
                have := hkS h
                rcases Nat.lt_or_ge k S with hh | hh
                · omega
                · exact absurd (hm'.2 ⟨h, by omega⟩).2 (by omega)
              · obtain ⟨hs0, hkS0⟩ := hm'.1 ⟨hv, hv0⟩
                have HR : Hid _ := hyes hs0
                have hkS' : Hid _ := hkS0
                clear hm' hkS0 hyes hno
                have g1 : ((v : Int) == ((c : Nat) : Int)) = true := by rw [hv]; simp
                have g2 : ((v : Int) != 0) = true := by simp; omega
                go_wp2
                go_quiet (first | (go_at_call 92; exact Calls.quiet_of_same (HS.out _)))
                go_wp2
                exact bodyPost_ret (v := oneV (k, 2, 0)) (by simp [results, Try.results80, go_sem, oneV]) rfl ⟨by rw [HR.out, ← hkS'.out], nq1 + nq, by rw [HW.out, World.drewN_drewN]⟩
            · have g1 : ((v : Int) == ((c : Nat) : Int)) = false := by simp; omega
              go_wp2
              go_quiet (first | (go_at_call 92; exact Calls.quiet_of_same (HS.out _)))
              go_wp2
              refine ⟨⟨k + 1, nq1 + nq, by omega, by go_num, fun h => ?_, by rw [HW.out, World.drewN_drewN]⟩, by simp [intOf]; omega⟩
              have := hkS h
              rcases Nat.lt_or_ge k S with hh | hh
              · omega
              · exact absurd (hm'.2 ⟨h, by omega⟩).1 hv
          · have hno' : sh < 0 := by
              by_cases h : sh < 0
              · exact h
              · have := hkS (by omega); have := hS (by omega); omega
            have HR : Hid _ := hno hno'
            clear hyes hno
            have g1 : decide ((k : Int) < 256) = false := by simp; omega
            go_wp2
            exact bodyPost_ret (v := oneV (0, 0, 12)) (by simp [results, Try.results80, go_sem, oneV]) rfl ⟨by rw [HR.out], nq1, HW.out⟩
      · by_cases h5 : c = 120
        · subst h5
          rw [if_neg (by omega), if_neg (by omega)] at HI
          have b2 := bt_eq x (i + 2) (by omega)
          have b3 := bt_eq x (i + 3) (by omega)
          have l2 := bt_lt x (i + 2)
          have l3 := bt_lt x (i + 3)
          have d2 := rdig_dig (bt x (i + 2))
          have d3 := rdig_dig (bt x (i + 3))
          have HD2 : Hid _ := fun w => rdigit_any (bt x (i + 2)) w l2
          have HD3 : Hid _ := fun w => rdigit_any (bt x (i + 3)) w l3
          generalize dig (bt x (i + 2)) = D2 at *
          generalize dig (bt x (i + 3)) = D3 at *
          generalize rdig (bt x (i + 2)) = r2 at *
          generalize rdig (bt x (i + 3)) = r3 at *
          generalize bt x (i + 2) = c2 at *
          generalize bt x (i + 3) = c3 at *
          have e1 : (0 : Int) ≤ (i : Int) + 1 := by omega
          have e2 : (i : Int) + 1 < x.size := by omega
          have e5 : (0 : Int) ≤ (i : Int) + 2 := by omega
          have e6 : (i : Int) + 2 < x.size := by omega
          have e7 : (0 : Int) ≤ (i : Int) + 3 := by omega
          have e8 : (i : Int) + 3 < x.size := by omega
          by_cases h6 : r2 < 16 ∧ r3 < 16
          · have p2 := d2.1.1 h6.1
            have p3 := d3.1.1 h6.2
            have q2 := d2.2.1 p2
            have q3 := d3.2.1 p3
            rw [if_neg (by omega), q2, q3] at HI
            rw [show R = _ from HI, if_neg (by simp)] at H
            rw [show rone x i = _ from H]
            clear H HI
            go_enter Try.func80, Try.ntmps80
            go_wp2
            go_quiet (first | (go_at_call_of 66 c2; exact Calls.quiet_of_same (HD2.out _)) | (go_at_call_of 66 c3; exact Calls.quiet_of_same (HD3.out _)))
            go_wp2
            exact bodyPost_ret (v := oneV (r2 * 16 + r3, 4, 0)) (by simp [results, Try.results80, go_sem, oneV]; omega) rfl ⟨rfl, nq, rfl⟩
          · have hyes : 0 ≤ short 120 → rone x i = (saidB (short 120).toNat, 2, 0) := fun h => absurd h (by omega)
            have hno : short 120 < 0 → rone x i = (0, 0, 12) := fun h => by
              rw [if_pos (by have := d2.1; have := d3.1; omega)] at HI; rw [show R = _ from HI] at H; exact H
            clear H HI
            generalize rone x i = Q at *
            generalize saidB (short 120).toNat = S at *
            generalize short 120 = sh at *
            by_cases h7 : r2 < 16
            · have h8 : decide ((r3 : Int) < 16) = false := by simp; omega
              have h9 : decide (r3 < 16) = false := by simp; omega
              clear d2 d3
              go_enter Try.func80, Try.ntmps80
              go_wp2
              go_quiet (first | (go_at_call_of 66 c2; exact Calls.quiet_of_same (HD2.out _)) | (go_at_call_of 66 c3; exact Calls.quiet_of_same (HD3.out _)))
              go_wp2
              go_loopw [10] (fun i' wr => ∃ k nq : Nat, k ≤ 256 ∧ i' = .int .i64 (k : Nat) ∧ wr = w.drewN nq) (fun i' _ => 256 - (intOf i').toNat)
              case atStart => exact ⟨0, nq, by omega, rfl, rfl⟩
              case round =>
                clear h6 h7 h8 h9 b2 b3
                obtain ⟨k, nq1, hk, rfl, HW0⟩ := hrel
                have HW : Hid _ := HW0
                clear HW0
                by_cases hk2 : k < 256
                · have HS : Hid _ := fun w => spec_any k w hk2
                  have hm' := hm k hk2
                  clear hm
                  have hsl := spec_lt k
                  generalize spec k = v at *
                  have hv : v ≠ 120 := by
                    intro h
                    have := hm'.1 ⟨h, by omega⟩
                    omega
                  clear hm'
                  have g1 : ((v : Int) == (120 : Int)) = false := by simp; omega
                  go_wp2
                  go_quiet (first | (go_at_call 92; exact Calls.quiet_of_same (HS.out _)))
                  go_wp2
                  exact ⟨⟨k + 1, nq1 + nq, by omega, by go_num, by rw [HW.out, World.drewN_drewN]⟩, by simp [intOf]; omega⟩
                · have HR : Hid _ := hno hxs
                  have g1 : decide ((k : Int) < 256) = false := by simp; omega
                  clear hyes hno
                  go_wp2
                  exact bodyPost_ret (v := oneV (0, 0, 12)) (by simp [results, Try.results80, go_sem, oneV]) rfl ⟨by rw [HR.out], nq1, HW.out⟩
            · have h8 : decide ((r2 : Int) < 16) = false := by simp; omega
              have h9 : decide (r2 < 16) = false := by simp; omega
              clear d2 d3
              go_enter Try.func80, Try.ntmps80
              go_wp2
              go_quiet (first | (go_at_call_of 66 c2; exact Calls.quiet_of_same (HD2.out _)) | (go_at_call_of 66 c3; exact Calls.quiet_of_same (HD3.out _)))
              go_wp2
              go_loopw [10] (fun i' wr => ∃ k nq : Nat, k ≤ 256 ∧ i' = .int .i64 (k : Nat) ∧ wr = w.drewN nq) (fun i' _ => 256 - (intOf i').toNat)
              case atStart => exact ⟨0, nq, by omega, rfl, rfl⟩
              case round =>
                clear h6 h7 h8 h9 b2 b3
                obtain ⟨k, nq1, hk, rfl, HW0⟩ := hrel
                have HW : Hid _ := HW0
                clear HW0
                by_cases hk2 : k < 256
                · have HS : Hid _ := fun w => spec_any k w hk2
                  have hm' := hm k hk2
                  clear hm
                  have hsl := spec_lt k
                  generalize spec k = v at *
                  have hv : v ≠ 120 := by
                    intro h
                    have := hm'.1 ⟨h, by omega⟩
                    omega
                  clear hm'
                  have g1 : ((v : Int) == (120 : Int)) = false := by simp; omega
                  go_wp2
                  go_quiet (first | (go_at_call 92; exact Calls.quiet_of_same (HS.out _)))
                  go_wp2
                  exact ⟨⟨k + 1, nq1 + nq, by omega, by go_num, by rw [HW.out, World.drewN_drewN]⟩, by simp [intOf]; omega⟩
                · have HR : Hid _ := hno hxs
                  have g1 : decide ((k : Int) < 256) = false := by simp; omega
                  clear hyes hno
                  go_wp2
                  exact bodyPost_ret (v := oneV (0, 0, 12)) (by simp [results, Try.results80, go_sem, oneV]) rfl ⟨by rw [HR.out], nq1, HW.out⟩
        · have hyes : 0 ≤ short c → rone x i = (saidB (short c).toNat, 2, 0) := fun h => by
            rw [if_pos h] at HI; rw [show R = _ from HI] at H; exact H
          have hno : short c < 0 → rone x i = (0, 0, 12) := fun h => by
            rw [if_neg (by omega), if_pos (Or.inr h5)] at HI; rw [show R = _ from HI] at H; exact H
          clear H HI
          generalize rone x i = Q at *
          generalize saidB (short c).toNat = S at *
          generalize short c = sh at *
          have e9 : ((c : Int) == 120) = false := by simp; omega
          have f1 : (0 : Int) ≤ (i : Int) + 1 := by omega
          have f2 : (i : Int) + 1 < x.size := by omega
          go_enter Try.func80, Try.ntmps80
          go_wp2
          go_loopw [10] (fun i' wr => ∃ k nq : Nat, k ≤ 256 ∧ i' = .int .i64 (k : Nat) ∧ (0 ≤ sh → k ≤ S) ∧ wr = w.drewN nq) (fun i' _ => 256 - (intOf i').toNat)
          case atStart => exact ⟨0, 0, by omega, rfl, fun _ => by omega, rfl⟩
          case round =>
            obtain ⟨k, nq1, hk, rfl, hkS, HW0⟩ := hrel
            have HW : Hid _ := HW0
            clear HW0
            by_cases hk2 : k < 256
            · have HS : Hid _ := fun w => spec_any k w hk2
              have hm' := hm k hk2
              clear hm
              have hsl := spec_lt k
              generalize spec k = v at *
              have e1 : (0 : Int) ≤ (i : Int) + 1 := by omega
              have e2 : (i : Int) + 1 < x.size := by omega
              by_cases hv : v = c
              · by_cases hv0 : v = 0
                · have g1 : ((v : Int) == ((c : Nat) : Int)) = true := by rw [hv]; simp
                  have g2 : ((v : Int) != 0) = false := by simp; omega
                  go_wp2
                  go_quiet (first | (go_at_call 92; exact Calls.quiet_of_same (HS.out _)))
                  go_wp2
                  refine ⟨⟨k + 1, nq1 + nq, by omega, by go_num, fun h => ?_, by rw [HW.out, World.drewN_drewN]⟩, by simp [intOf]; omega⟩
                  have := hkS h
                  rcases Nat.lt_or_ge k S with hh | hh
                  · omega
                  · exact absurd (hm'.2 ⟨h, by omega⟩).2 (by omega)
                · obtain ⟨hs0, hkS0⟩ := hm'.1 ⟨hv, hv0⟩
                  have HR : Hid _ := hyes hs0
                  have hkS' : Hid _ := hkS0
                  clear hm' hkS0 hyes hno
                  have g1 : ((v : Int) == ((c : Nat) : Int)) = true := by rw [hv]; simp
                  have g2 : ((v : Int) != 0) = true := by simp; omega
                  go_wp2
                  go_quiet (first | (go_at_call 92; exact Calls.quiet_of_same (HS.out _)))
                  go_wp2
                  exact bodyPost_ret (v := oneV (k, 2, 0)) (by simp [results, Try.results80, go_sem, oneV]) rfl ⟨by rw [HR.out, ← hkS'.out], nq1 + nq, by rw [HW.out, World.drewN_drewN]⟩
              · have g1 : ((v : Int) == ((c : Nat) : Int)) = false := by simp; omega
                go_wp2
                go_quiet (first | (go_at_call 92; exact Calls.quiet_of_same (HS.out _)))
                go_wp2
                refine ⟨⟨k + 1, nq1 + nq, by omega, by go_num, fun h => ?_, by rw [HW.out, World.drewN_drewN]⟩, by simp [intOf]; omega⟩
                have := hkS h
                rcases Nat.lt_or_ge k S with hh | hh
                · omega
                · exact absurd (hm'.2 ⟨h, by omega⟩).1 hv
            · have hno' : sh < 0 := by
                by_cases h : sh < 0
                · exact h
                · have := hkS (by omega); have := hS (by omega); omega
              have HR : Hid _ := hno hno'
              clear hyes hno
              have g1 : decide ((k : Int) < 256) = false := by simp; omega
              go_wp2
              exact bodyPost_ret (v := oneV (0, 0, 12)) (by simp [results, Try.results80, go_sem, oneV]) rfl ⟨by rw [HR.out], nq1, HW.out⟩
  · rw [if_neg h2] at H
    have h2' : ((bt x i : Int) != 92) = true := by simp; omega
    have HS : Hid _ := fun w => spec_any (bt x i) w l0
    have hps := plain_spec ⟨bt x i, l0⟩
    have hsl := spec_lt (bt x i)
    simp only at hps
    generalize bt x i = c at *
    by_cases h3 : c ≤ 32
    · rw [if_neg (by rw [hps]; simp; omega)] at H
      rw [show rone x i = _ from H]
      clear H hps
      go_enter Try.func80, Try.ntmps80
      go_wp2
      exact bodyPost_ret (v := oneV (0, 0, 11)) (by simp [results, Try.results80, go_sem, oneV]) rfl ⟨rfl, 0, rfl⟩
    · by_cases h4 : 127 ≤ c
      · rw [if_neg (by rw [hps]; simp; omega)] at H
        rw [show rone x i = _ from H]
        clear H hps
        go_enter Try.func80, Try.ntmps80
        go_wp2
        exact bodyPost_ret (v := oneV (0, 0, 11)) (by simp [results, Try.results80, go_sem, oneV]) rfl ⟨rfl, 0, rfl⟩
      · by_cases h5 : spec c = 0
        · rw [if_pos (by rw [hps]; simp [h5]; omega)] at H
          rw [show rone x i = _ from H]
          clear H hps
          rw [h5] at HS
          go_enter Try.func80, Try.ntmps80
          go_wp2_with (go_at_call 92; refine (HS.out _).mono ?_; rintro e w1 ⟨rfl, rfl⟩)
          exact bodyPost_ret (v := oneV (c, 1, 0)) (by simp [results, Try.results80, go_sem, oneV]) rfl ⟨rfl, 0, rfl⟩
        · rw [if_neg (by rw [hps]; simp [h5])] at H
          rw [show rone x i = _ from H]
          clear H hps
          have h5' : ((spec c : Int) != 0) = true := by simp; omega
          generalize spec c = v at *
          go_enter Try.func80, Try.ntmps80
          go_wp2_with (go_at_call 92; refine (HS.out _).mono ?_; rintro e w1 ⟨rfl, rfl⟩)
          exact bodyPost_ret (v := oneV (0, 0, 11)) (by simp [results, Try.results80, go_sem, oneV]) rfl ⟨rfl, 0, rfl⟩
end Go.Proofs.Ytbbmjnhbmcbehaa
