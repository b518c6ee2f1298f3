/- The document's own reading of a set's text: its Parse, at every text. -/
import Derived.Test.YtbbmjnhbmcbehaaY3
import Derived.Test.YtbbmjnhbmcbehaaR4
namespace Go.Proofs.Ytbbmjnhbmcbehaa
open Go.RowKit

theorem op3_not (s t : St) (hs : s.ok) : opTo (fun x _ => !x) s t 256 = s.not :=
  St.ext' (opTo_ok _ _ _ _) s.not_ok (fun n hn => by rw [opTo_has _ _ _ n hn 256 (Nat.le_refl _), St.has_not s hs]; simp [hn])
/-- The boxes of the results, of the empty set and of the set that grows stand, and what was there. -/
def Ip (w : World) (s : St) (W : World) : Prop := Ini w W ∧ SBox St.zero (w.heap.size + 1 + 1) W ∧ SBox s (w.heap.size + 1 + 1 + 1) W
theorem Ip.nx {w W W' : World} {s : St} (h : Ip w s W) (hb : Below W.heap.size W W') : Ip w s W' := ⟨h.1.nx hb, h.2.1.below hb, h.2.2.below hb⟩
theorem Ip.drewN {w W : World} {s : St} (h : Ip w s W) (n : Nat) : Ip w s (W.drewN n) := h.nx (Below.of_drewN W n)
theorem Ip.start (w : World) : Ip w St.zero ((((w.alloc (.cells #[.int .u64 0, .int .u64 0, .int .u64 0, .int .u64 0] 33)).alloc (.cells #[.int .i64 0, .int .i64 0] 26)).alloc (.cells #[.int .u64 0, .int .u64 0, .int .u64 0, .int .u64 0] 33)).alloc (.cells #[.int .u64 0, .int .u64 0, .int .u64 0, .int .u64 0] 33)) := by
  refine ⟨((Ini.start w).alloc _).alloc _, ?_, ?_⟩
  · have := (SBox.new St.zero ((w.alloc (.cells #[.int .u64 0, .int .u64 0, .int .u64 0, .int .u64 0] 33)).alloc (.cells #[.int .i64 0, .int .i64 0] 26))).alloc (.cells #[.int .u64 0, .int .u64 0, .int .u64 0, .int .u64 0] 33)
    simp only [World.size_alloc] at this
    exact this
  · have := SBox.new St.zero (((w.alloc (.cells #[.int .u64 0, .int .u64 0, .int .u64 0, .int .u64 0] 33)).alloc (.cells #[.int .i64 0, .int .i64 0] 26)).alloc (.cells #[.int .u64 0, .int .u64 0, .int .u64 0, .int .u64 0] 33))
    simp only [World.size_alloc] at this
    exact this
theorem Ip.put {w W : World} {s : St} (r : St) (h : Ip w s W) : Ip w r ((((W.setCell ⟨w.heap.size + 1 + 1 + 1, 0, none⟩ (.int .u64 r.a)).setCell ⟨w.heap.size + 1 + 1 + 1, 1, none⟩ (.int .u64 r.b)).setCell ⟨w.heap.size + 1 + 1 + 1, 2, none⟩ (.int .u64 r.c)).setCell ⟨w.heap.size + 1 + 1 + 1, 3, none⟩ (.int .u64 r.d)) :=
  ⟨(((h.1.set _ (by omega)).set _ (by omega)).set _ (by omega)).set _ (by omega), h.2.1.other4 _ _ _ _ (by omega), h.2.2.store r⟩
theorem rng_one_ok (n k : Nat) : (rng n k).ok := rng_ok n k
set_option maxRecDepth 100000 in
set_option maxHeartbeats 16000000 in
theorem rparse_any (x : ByteArray) (w : World) :
    Calls Try.prog 63 #[.string x] w fun e w' => e = .returned (prsV (prs x)) ∧ Below w.heap.size w w' := by
  have I0 := Ip.start w
  obtain ⟨R, hR⟩ : ∃ R, prs x = R := ⟨_, rfl⟩
  rw [hR]
  unfold prs at hR
  by_cases h1 : 65536 < x.size
  · rw [if_pos h1] at hR
    subst hR
    go_enter Try.func63, Try.ntmps63
    go_wp2
    refine bodyPost_ret (v := prsV (St.zero, 0, 2)) (by simp [results, Try.results63, go_sem, prsV, St.zero]) rfl ⟨rfl, ?_⟩
    exact below_two (below_two (Below.refl _ _) _ _) _ _
  · rw [if_neg h1] at hR
    by_cases h2 : 0 < x.size ∧ bt x 0 = 91
    · rw [if_neg (by simpa using h2)] at hR
      obtain ⟨h2a, h2b⟩ := h2
      have t0 := bt_eq x 0 h2a
      rw [h2b] at t0
      have hz0 : ((x.size : Int) == 0) = false := by rw [beq_eq_false_iff_ne]; omega
      have hz1 : ¬ x = ByteArray.empty := by rintro rfl; simp at h2a
      by_cases h3 : 1 < x.size ∧ bt x 1 = 94
      · rw [if_pos h3] at hR
        obtain ⟨h3a, h3b⟩ := h3
        have t1 := bt_eq x 1 h3a
        rw [h3b] at t1
        go_enter Try.func63, Try.ntmps63
        go_wp2
        go_loopw [6] (fun at' wr => ∃ (k m : Nat) (t : St), k ≤ x.size ∧ at' = .int .i64 (k : Nat) ∧ t.ok ∧ x.size < k + m ∧ prsB x true (items x m k t) = R ∧ Ip w t wr) (fun at' _ => x.size - (intOf at').toNat)
        case atStart => exact ⟨2, x.size + 1, St.zero, by omega, rfl, St.zero_ok, by omega, hR, I0⟩
        case round =>
          clear I0 hR
          obtain ⟨k, m, t, hk, rfl, hok, hm, hR, I⟩ := hrel
          obtain ⟨m, rfl⟩ : ∃ m', m = m' + 1 := ⟨m - 1, by omega⟩
          rw [items] at hR
          obtain ⟨a0, a1, a2, a3, b0, b1, f0, f1, y0, y1⟩ := I.1.facts
          obtain ⟨g0, g1, g2, g3⟩ := I.2.1.cells
          simp only [St.zero] at g0 g1 g2 g3
          obtain ⟨c0, c1, c2, c3⟩ := I.2.2.cells
          have fz := I.2.2.frozen
          have y2 := I.2.1.lt
          have y3 := I.2.2.lt
          by_cases h5 : x.size ≤ k
          · rw [if_pos h5] at hR
            simp only [prsB] at hR
            rw [if_pos (by simp)] at hR
            subst hR
            have ek : Hid (k = x.size) := by show _ = _; omega
            have H1 : Hid _ := fun w => rone_any x k w (by omega) (by omega)
            rw [show rone x k = (0, 0, 14) from by unfold rone; rw [if_pos h5]] at H1
            simp only [oneV] at H1
            go_wp2_with (go_at_call 80; refine (H1.out _).mono ?_)
            rintro e w1 ⟨rfl, nq, HW1⟩
            have J : Ip w t w1 := by rw [HW1]; exact I.drewN nq
            clear HW1 H1 I
            clear a0 a1 a2 a3 b0 b1 f0 f1 y0 y1 g0 g1 g2 g3 c0 c1 c2 c3 fz y2 y3
            obtain ⟨a0, a1, a2, a3, b0, b1, f0, f1, y0, y1⟩ := J.1.facts
            obtain ⟨g0, g1, g2, g3⟩ := J.2.1.cells
            simp only [St.zero] at g0 g1 g2 g3
            obtain ⟨c0, c1, c2, c3⟩ := J.2.2.cells
            have fz := J.2.2.frozen
            have y2 := J.2.1.lt
            have y3 := J.2.2.lt
            go_wp2
            refine bodyPost_ret (v := prsV (St.zero, k, 14)) (by simp [results, Try.results63, go_sem, prsV, St.zero, a0, a1, a2, a3, b0, b1]) rfl ⟨by rw [ek.out], below6 J.1.2.2 _ _ _ _ _ _⟩
          · rw [if_neg h5] at hR
            have h5' : k < x.size := by omega
            have b9 := bt_eq x k h5'
            by_cases h6 : bt x k = 93
            · rw [if_pos h6] at hR
              rw [h6] at b9
              simp only [prsB] at hR
              rw [if_neg (by simp)] at hR
              by_cases h7 : k + 1 < x.size
              · rw [if_pos h7] at hR
                subst hR
                go_wp2
                exact bodyPost_ret (v := prsV (St.zero, k + 1, 15)) (by simp [results, Try.results63, go_sem, prsV, St.zero, a0, a1, a2, a3, b0, b1]) rfl ⟨rfl, below6 I.1.2.2 _ _ _ _ _ _⟩
              · rw [if_neg h7] at hR
                simp only [if_true] at hR
                subst hR
                have HO : Hid _ := fun w => op3_any t t w hok hok
                rw [op3_not t t hok] at HO
                obtain ⟨r, hr⟩ : ∃ r, t.not = r := ⟨_, rfl⟩
                rw [hr] at HO
                have HR9 : Hid _ := hr
                clear hr
                go_wp2_with (go_at_call 82; refine (HO.out _).mono ?_)
                rintro e w3 ⟨rfl, hb3⟩
                have J3 := I.nx hb3
                clear a0 a1 a2 a3 b0 b1 f0 f1 y0 y1 g0 g1 g2 g3 c0 c1 c2 c3 fz y2 y3
                obtain ⟨a0, a1, a2, a3, b0, b1, f0, f1, y0, y1⟩ := J3.1.facts
                obtain ⟨g0, g1, g2, g3⟩ := J3.2.1.cells
                simp only [St.zero] at g0 g1 g2 g3
                obtain ⟨c0, c1, c2, c3⟩ := J3.2.2.cells
                have fz := J3.2.2.frozen
                have y2 := J3.2.1.lt
                have y3 := J3.2.2.lt
                go_wp2
                exact bodyPost_ret (v := prsV (r, 0, 0)) (by simp [results, Try.results63, go_sem, prsV, a0, a1, a2, a3, b0, b1]) rfl ⟨by rw [HR9.out], below6 (J3.put r).1.2.2 _ _ _ _ _ _⟩
            · rw [if_neg h6] at hR
              have h6' : ((bt x k : Int) != 93) = true := by simp; omega
              rw [itm_rone x k hk] at hR
              have H1 : Hid _ := fun w => rone_any x k w (by omega) (by omega)
              have hp := rone_ok x k hk
              have H2 : ∀ j : Nat, j ≤ 100000 → ∀ w, Calls Try.prog 80 #[.string x, .int .i64 j] w fun e w' => e = .returned (oneV (rone x j)) ∧ ∃ nq, w' = w.drewN nq := fun j hj w => rone_any x j w (by omega) hj
              have hp2 := fun h' => rone_ok x (k + (rone x k).2.1 + 1) h'
              generalize rone x k = p at *
              obtain ⟨b, n, c⟩ := p
              simp only [oneV, itmR] at H1 hR hp hp2 H2
              by_cases h7 : c = 0
              · subst h7
                obtain ⟨hb, hn1, hn2⟩ := hp rfl
                clear hp
                have hq0 : ((0 : Nat) ≠ 0) ↔ False := by simp
                simp only [hq0, if_false] at hR
                by_cases h8 : x.size ≤ k + n ∨ bt x (k + n) ≠ 45
                · rw [if_pos h8] at hR
                  simp only [hq0, if_false] at hR
                  clear H2 hp2
                  by_cases h9 : x.size ≤ k + n
                  · have e9 : decide ((k : Int) + (n : Int) < (x.size : Int)) = false := by simp; omega
                    have e9' : decide (k + n < x.size) = false := by simp; omega
                    clear h8
                    have hq : prsB x true (items x m (k + n) (t.or (rng b 1))) = R := hR
                    clear hR
                    go_wp2_with (go_at_call 80; refine (H1.out _).mono ?_)
                    rintro e w1 ⟨rfl, nq, HW1⟩
                    have J : Ip w t w1 := by rw [HW1]; exact I.drewN nq
                    clear HW1 H1 I
                    clear a0 a1 a2 a3 b0 b1 f0 f1 y0 y1 g0 g1 g2 g3 c0 c1 c2 c3 fz y2 y3
                    go_wp2
                    go_loopw [16] (fun i' wr' => ∃ (j : Nat) (r : St), j ≤ 1 ∧ i' = .int .i64 (b + j : Nat) ∧ r = t.or (rng b j) ∧ Ip w r wr') (fun i' _ => b + 1 - (intOf i').toNat)
                    case atStart => exact ⟨0, t, by omega, rfl, (or_zero t hok).symm, J⟩
                    case round =>
                      obtain ⟨j, r, hj, rfl, hr, J⟩ := hrel
                      try clear b8
                      have hrok : r.ok := by rw [hr]; exact St.or_ok hok (rng_ok _ _)
                      by_cases hj2 : j < 1
                      · have HT : Hid (r.add (b + j) = t.or (rng b (j + 1))) := by show _ = _; rw [hr, or_add t _ hok (rng_ok _ _) _ (by omega)]; rfl
                        have HV : Hid (b + j + 1 = b + (j + 1)) := by show _ = _; omega
                        have hv1 : b + j ≤ b := by omega
                        have hv2 : b + j < 256 := by omega
                        clear hr
                        have HW : Hid _ := fun w => rwith_any r (b + j) w hrok hv2
                        generalize r.add (b + j) = r' at *
                        generalize b + j = v at *
                        obtain ⟨c0, c1, c2, c3⟩ := J.2.2.cells
                        go_wp2_with (go_at_call 81; refine (HW.out _).mono ?_)
                        rintro e w3 ⟨rfl, hb3⟩
                        have J3 := J.nx hb3
                        clear c0 c1 c2 c3
                        obtain ⟨c0, c1, c2, c3⟩ := J3.2.2.cells
                        have fz := J3.2.2.frozen
                        go_wp2
                        exact ⟨⟨j + 1, r', by omega, by rw [← HV.out]; go_num, HT.out, J3.put r'⟩, by have := HV.out; simp [intOf]; omega⟩
                      · have e : j = 1 := by omega
                        subst e
                        have g9 : decide (((b + 1 : Nat) : Int) ≤ (b : Int)) = false := by simp; omega
                        have hv9 : b < b + 1 := by omega
                        have HR : Hid _ := hq
                        rw [← hr] at HR
                        clear hq hr
                        generalize b + 1 = v at *
                        go_wp2
                        exact ⟨⟨(k + n), m, r, by omega, by go_num, hrok, by omega, HR.out, J⟩, by simp [intOf]; omega⟩
                  · have h9' : k + n < x.size := by omega
                    have b8 := bt_eq x (k + n) h9'
                    have e9 : ((bt x (k + n) : Int) == 45) = false := by simp; omega
                    have e8 : (0 : Int) ≤ (k : Int) + (n : Int) := by omega
                    have e7 : (k : Int) + (n : Int) < (x.size : Int) := by omega
                    clear h8
                    have hq : prsB x true (items x m (k + n) (t.or (rng b 1))) = R := hR
                    clear hR
                    go_wp2_with (go_at_call 80; refine (H1.out _).mono ?_)
                    rintro e w1 ⟨rfl, nq, HW1⟩
                    have J : Ip w t w1 := by rw [HW1]; exact I.drewN nq
                    clear HW1 H1 I
                    clear a0 a1 a2 a3 b0 b1 f0 f1 y0 y1 g0 g1 g2 g3 c0 c1 c2 c3 fz y2 y3
                    go_wp2
                    go_loopw [16] (fun i' wr' => ∃ (j : Nat) (r : St), j ≤ 1 ∧ i' = .int .i64 (b + j : Nat) ∧ r = t.or (rng b j) ∧ Ip w r wr') (fun i' _ => b + 1 - (intOf i').toNat)
                    case atStart => exact ⟨0, t, by omega, rfl, (or_zero t hok).symm, J⟩
                    case round =>
                      obtain ⟨j, r, hj, rfl, hr, J⟩ := hrel
                      try clear b8
                      have hrok : r.ok := by rw [hr]; exact St.or_ok hok (rng_ok _ _)
                      by_cases hj2 : j < 1
                      · have HT : Hid (r.add (b + j) = t.or (rng b (j + 1))) := by show _ = _; rw [hr, or_add t _ hok (rng_ok _ _) _ (by omega)]; rfl
                        have HV : Hid (b + j + 1 = b + (j + 1)) := by show _ = _; omega
                        have hv1 : b + j ≤ b := by omega
                        have hv2 : b + j < 256 := by omega
                        clear hr
                        have HW : Hid _ := fun w => rwith_any r (b + j) w hrok hv2
                        generalize r.add (b + j) = r' at *
                        generalize b + j = v at *
                        obtain ⟨c0, c1, c2, c3⟩ := J.2.2.cells
                        go_wp2_with (go_at_call 81; refine (HW.out _).mono ?_)
                        rintro e w3 ⟨rfl, hb3⟩
                        have J3 := J.nx hb3
                        clear c0 c1 c2 c3
                        obtain ⟨c0, c1, c2, c3⟩ := J3.2.2.cells
                        have fz := J3.2.2.frozen
                        go_wp2
                        exact ⟨⟨j + 1, r', by omega, by rw [← HV.out]; go_num, HT.out, J3.put r'⟩, by have := HV.out; simp [intOf]; omega⟩
                      · have e : j = 1 := by omega
                        subst e
                        have g9 : decide (((b + 1 : Nat) : Int) ≤ (b : Int)) = false := by simp; omega
                        have hv9 : b < b + 1 := by omega
                        have HR : Hid _ := hq
                        rw [← hr] at HR
                        clear hq hr
                        generalize b + 1 = v at *
                        go_wp2
                        exact ⟨⟨(k + n), m, r, by omega, by go_num, hrok, by omega, HR.out, J⟩, by simp [intOf]; omega⟩
                · rw [if_neg h8] at hR
                  have h9 : k + n < x.size := by omega
                  have h10 : bt x (k + n) = 45 := by omega
                  have b8 := bt_eq x (k + n) h9
                  rw [h10] at b8
                  have e8 : (0 : Int) ≤ (k : Int) + (n : Int) := by omega
                  have e7 : (k : Int) + (n : Int) < (x.size : Int) := by omega
                  have HB := H2 (k + n + 1) (by omega)
                  have hp3 := hp2 (by omega)
                  clear H2 hp2
                  generalize rone x (k + n + 1) = q at *
                  obtain ⟨b2, n2, c2'⟩ := q
                  simp only at HB hR hp3
                  have H2 : Hid _ := HB
                  clear HB
                  by_cases h11 : c2' = 0
                  · subst h11
                    obtain ⟨hb2, hn3, hn4⟩ := hp3 rfl
                    clear hp3
                    simp only [hq0, if_false] at hR
                    by_cases h12 : b2 < b
                    · rw [if_pos h12] at hR
                      simp only [prsB] at hR
                      rw [if_pos (by simp), if_pos (by simp)] at hR
                      subst hR
                      have e12 : decide ((b2 : Int) < (b : Int)) = true := by simp; omega
                      go_wp2_with (go_at_call 80; refine (H1.out _).mono ?_)
                      rintro e w1 ⟨rfl, nq, HW1⟩
                      have J1 : Ip w t w1 := by rw [HW1]; exact I.drewN nq
                      clear HW1 H1 I
                      clear a0 a1 a2 a3 b0 b1 f0 f1 y0 y1 g0 g1 g2 g3 c0 c1 c2 c3 fz y2 y3
                      go_wp2_with (go_at_call 80; refine (H2.out _).mono ?_)
                      rintro e w2 ⟨rfl, nq2, HW2⟩
                      have J : Ip w t w2 := by rw [HW2]; exact J1.drewN nq2
                      clear HW2 H2 J1
                      obtain ⟨a0, a1, a2, a3, b0, b1, f0, f1, y0, y1⟩ := J.1.facts
                      obtain ⟨g0, g1, g2, g3⟩ := J.2.1.cells
                      simp only [St.zero] at g0 g1 g2 g3
                      obtain ⟨c0, c1, c2, c3⟩ := J.2.2.cells
                      have fz := J.2.2.frozen
                      have y2 := J.2.1.lt
                      have y3 := J.2.2.lt
                      go_wp2
                      exact bodyPost_ret (v := prsV (St.zero, k, 10)) (by simp [results, Try.results63, go_sem, prsV, St.zero, a0, a1, a2, a3, b0, b1]) rfl ⟨rfl, below6 J.1.2.2 _ _ _ _ _ _⟩
                    · rw [if_neg h12] at hR
                      simp only [hq0, if_false] at hR
                      have hq : prsB x true (items x m (k + n + 1 + n2) (t.or (rng b (b2 + 1 - b)))) = R := hR
                      clear hR
                      have e12 : decide ((b2 : Int) < (b : Int)) = false := by simp; omega
                      have e13 : decide (b2 < b) = false := by simp; omega
                      go_wp2_with (go_at_call 80; refine (H1.out _).mono ?_)
                      rintro e w1 ⟨rfl, nq, HW1⟩
                      have J1 : Ip w t w1 := by rw [HW1]; exact I.drewN nq
                      clear HW1 H1 I
                      clear a0 a1 a2 a3 b0 b1 f0 f1 y0 y1 g0 g1 g2 g3 c0 c1 c2 c3 fz y2 y3
                      go_wp2_with (go_at_call 80; refine (H2.out _).mono ?_)
                      rintro e w2 ⟨rfl, nq2, HW2⟩
                      have J : Ip w t w2 := by rw [HW2]; exact J1.drewN nq2
                      clear HW2 H2 J1
                      go_wp2
                      go_loopw [16] (fun i' wr' => ∃ (j : Nat) (r : St), j ≤ (b2 + 1 - b) ∧ i' = .int .i64 (b + j : Nat) ∧ r = t.or (rng b j) ∧ Ip w r wr') (fun i' _ => b2 + 1 - (intOf i').toNat)
                      case atStart => exact ⟨0, t, by omega, rfl, (or_zero t hok).symm, J⟩
                      case round =>
                        obtain ⟨j, r, hj, rfl, hr, J⟩ := hrel
                        try clear b8
                        have hrok : r.ok := by rw [hr]; exact St.or_ok hok (rng_ok _ _)
                        by_cases hj2 : j < (b2 + 1 - b)
                        · have HT : Hid (r.add (b + j) = t.or (rng b (j + 1))) := by show _ = _; rw [hr, or_add t _ hok (rng_ok _ _) _ (by omega)]; rfl
                          have HV : Hid (b + j + 1 = b + (j + 1)) := by show _ = _; omega
                          have hv1 : b + j ≤ b2 := by omega
                          have hv2 : b + j < 256 := by omega
                          clear hr
                          have HW : Hid _ := fun w => rwith_any r (b + j) w hrok hv2
                          generalize r.add (b + j) = r' at *
                          generalize b + j = v at *
                          obtain ⟨c0, c1, c2, c3⟩ := J.2.2.cells
                          go_wp2_with (go_at_call 81; refine (HW.out _).mono ?_)
                          rintro e w3 ⟨rfl, hb3⟩
                          have J3 := J.nx hb3
                          clear c0 c1 c2 c3
                          obtain ⟨c0, c1, c2, c3⟩ := J3.2.2.cells
                          have fz := J3.2.2.frozen
                          go_wp2
                          exact ⟨⟨j + 1, r', by omega, by rw [← HV.out]; go_num, HT.out, J3.put r'⟩, by have := HV.out; simp [intOf]; omega⟩
                        · have e : j = (b2 + 1 - b) := by omega
                          subst e
                          have g9 : decide (((b + (b2 + 1 - b) : Nat) : Int) ≤ (b2 : Int)) = false := by simp; omega
                          have hv9 : b2 < b + (b2 + 1 - b) := by omega
                          have HR : Hid _ := hq
                          rw [← hr] at HR
                          clear hq hr
                          generalize b + (b2 + 1 - b) = v at *
                          go_wp2
                          exact ⟨⟨(k + n + 1 + n2), m, r, by omega, by go_num, hrok, by omega, HR.out, J⟩, by simp [intOf]; omega⟩
                  · rw [if_pos h11] at hR
                    simp only [prsB] at hR
                    rw [if_pos h11, if_pos h11] at hR
                    subst hR
                    have e11 : ((c2' : Int) != 0) = true := by simp; omega
                    go_wp2_with (go_at_call 80; refine (H1.out _).mono ?_)
                    rintro e w1 ⟨rfl, nq, HW1⟩
                    have J1 : Ip w t w1 := by rw [HW1]; exact I.drewN nq
                    clear HW1 H1 I
                    clear a0 a1 a2 a3 b0 b1 f0 f1 y0 y1 g0 g1 g2 g3 c0 c1 c2 c3 fz y2 y3
                    go_wp2_with (go_at_call 80; refine (H2.out _).mono ?_)
                    rintro e w2 ⟨rfl, nq2, HW2⟩
                    have J : Ip w t w2 := by rw [HW2]; exact J1.drewN nq2
                    clear HW2 H2 J1
                    obtain ⟨a0, a1, a2, a3, b0, b1, f0, f1, y0, y1⟩ := J.1.facts
                    obtain ⟨g0, g1, g2, g3⟩ := J.2.1.cells
                    simp only [St.zero] at g0 g1 g2 g3
                    obtain ⟨c0, c1, c2, c3⟩ := J.2.2.cells
                    have fz := J.2.2.frozen
                    have y2 := J.2.1.lt
                    have y3 := J.2.2.lt
                    go_wp2
                    exact bodyPost_ret (v := prsV (St.zero, k + n + 1, c2')) (by simp [results, Try.results63, go_sem, prsV, St.zero, a0, a1, a2, a3, b0, b1]) rfl ⟨rfl, below6 J.1.2.2 _ _ _ _ _ _⟩
              · rw [if_pos h7] at hR
                simp only [prsB] at hR
                rw [if_pos h7, if_pos h7] at hR
                subst hR
                have e7 : ((c : Int) != 0) = true := by simp; omega
                clear H2 hp2
                go_wp2_with (go_at_call 80; refine (H1.out _).mono ?_)
                rintro e w1 ⟨rfl, nq, HW1⟩
                have J : Ip w t w1 := by rw [HW1]; exact I.drewN nq
                clear HW1 H1 I
                clear a0 a1 a2 a3 b0 b1 f0 f1 y0 y1 g0 g1 g2 g3 c0 c1 c2 c3 fz y2 y3
                obtain ⟨a0, a1, a2, a3, b0, b1, f0, f1, y0, y1⟩ := J.1.facts
                obtain ⟨g0, g1, g2, g3⟩ := J.2.1.cells
                simp only [St.zero] at g0 g1 g2 g3
                obtain ⟨c0, c1, c2, c3⟩ := J.2.2.cells
                have fz := J.2.2.frozen
                have y2 := J.2.1.lt
                have y3 := J.2.2.lt
                go_wp2
                exact bodyPost_ret (v := prsV (St.zero, k, c)) (by simp [results, Try.results63, go_sem, prsV, St.zero, a0, a1, a2, a3, b0, b1]) rfl ⟨rfl, below6 J.1.2.2 _ _ _ _ _ _⟩
      · rw [if_neg h3] at hR
        by_cases h3a : 1 < x.size
        · have t1 := bt_eq x 1 h3a
          have h3b : ((bt x 1 : Int) == 94) = false := by simp; omega
          go_enter Try.func63, Try.ntmps63
          go_wp2
          go_loopw [6] (fun at' wr => ∃ (k m : Nat) (t : St), k ≤ x.size ∧ at' = .int .i64 (k : Nat) ∧ t.ok ∧ x.size < k + m ∧ prsB x false (items x m k t) = R ∧ Ip w t wr) (fun at' _ => x.size - (intOf at').toNat)
          case atStart => exact ⟨1, x.size + 1, St.zero, by omega, rfl, St.zero_ok, by omega, hR, I0⟩
          case round =>
            clear I0 hR
            obtain ⟨k, m, t, hk, rfl, hok, hm, hR, I⟩ := hrel
            obtain ⟨m, rfl⟩ : ∃ m', m = m' + 1 := ⟨m - 1, by omega⟩
            rw [items] at hR
            obtain ⟨a0, a1, a2, a3, b0, b1, f0, f1, y0, y1⟩ := I.1.facts
            obtain ⟨g0, g1, g2, g3⟩ := I.2.1.cells
            simp only [St.zero] at g0 g1 g2 g3
            obtain ⟨c0, c1, c2, c3⟩ := I.2.2.cells
            have fz := I.2.2.frozen
            have y2 := I.2.1.lt
            have y3 := I.2.2.lt
            by_cases h5 : x.size ≤ k
            · rw [if_pos h5] at hR
              simp only [prsB] at hR
              rw [if_pos (by simp)] at hR
              subst hR
              have ek : Hid (k = x.size) := by show _ = _; omega
              have H1 : Hid _ := fun w => rone_any x k w (by omega) (by omega)
              rw [show rone x k = (0, 0, 14) from by unfold rone; rw [if_pos h5]] at H1
              simp only [oneV] at H1
              go_wp2_with (go_at_call 80; refine (H1.out _).mono ?_)
              rintro e w1 ⟨rfl, nq, HW1⟩
              have J : Ip w t w1 := by rw [HW1]; exact I.drewN nq
              clear HW1 H1 I
              clear a0 a1 a2 a3 b0 b1 f0 f1 y0 y1 g0 g1 g2 g3 c0 c1 c2 c3 fz y2 y3
              obtain ⟨a0, a1, a2, a3, b0, b1, f0, f1, y0, y1⟩ := J.1.facts
              obtain ⟨g0, g1, g2, g3⟩ := J.2.1.cells
              simp only [St.zero] at g0 g1 g2 g3
              obtain ⟨c0, c1, c2, c3⟩ := J.2.2.cells
              have fz := J.2.2.frozen
              have y2 := J.2.1.lt
              have y3 := J.2.2.lt
              go_wp2
              refine bodyPost_ret (v := prsV (St.zero, k, 14)) (by simp [results, Try.results63, go_sem, prsV, St.zero, a0, a1, a2, a3, b0, b1]) rfl ⟨by rw [ek.out], below6 J.1.2.2 _ _ _ _ _ _⟩
            · rw [if_neg h5] at hR
              have h5' : k < x.size := by omega
              have b9 := bt_eq x k h5'
              by_cases h6 : bt x k = 93
              · rw [if_pos h6] at hR
                rw [h6] at b9
                simp only [prsB] at hR
                rw [if_neg (by simp)] at hR
                by_cases h7 : k + 1 < x.size
                · rw [if_pos h7] at hR
                  subst hR
                  go_wp2
                  exact bodyPost_ret (v := prsV (St.zero, k + 1, 15)) (by simp [results, Try.results63, go_sem, prsV, St.zero, a0, a1, a2, a3, b0, b1]) rfl ⟨rfl, below6 I.1.2.2 _ _ _ _ _ _⟩
                · rw [if_neg h7] at hR
                  simp only [Bool.false_eq_true, if_false] at hR
                  subst hR
                  go_wp2
                  exact bodyPost_ret (v := prsV (t, 0, 0)) (by simp [results, Try.results63, go_sem, prsV, a0, a1, a2, a3, b0, b1]) rfl ⟨rfl, below6 I.1.2.2 _ _ _ _ _ _⟩
              · rw [if_neg h6] at hR
                have h6' : ((bt x k : Int) != 93) = true := by simp; omega
                rw [itm_rone x k hk] at hR
                have H1 : Hid _ := fun w => rone_any x k w (by omega) (by omega)
                have hp := rone_ok x k hk
                have H2 : ∀ j : Nat, j ≤ 100000 → ∀ w, Calls Try.prog 80 #[.string x, .int .i64 j] w fun e w' => e = .returned (oneV (rone x j)) ∧ ∃ nq, w' = w.drewN nq := fun j hj w => rone_any x j w (by omega) hj
                have hp2 := fun h' => rone_ok x (k + (rone x k).2.1 + 1) h'
                generalize rone x k = p at *
                obtain ⟨b, n, c⟩ := p
                simp only [oneV, itmR] at H1 hR hp hp2 H2
                by_cases h7 : c = 0
                · subst h7
                  obtain ⟨hb, hn1, hn2⟩ := hp rfl
                  clear hp
                  have hq0 : ((0 : Nat) ≠ 0) ↔ False := by simp
                  simp only [hq0, if_false] at hR
                  by_cases h8 : x.size ≤ k + n ∨ bt x (k + n) ≠ 45
                  · rw [if_pos h8] at hR
                    simp only [hq0, if_false] at hR
                    clear H2 hp2
                    by_cases h9 : x.size ≤ k + n
                    · have e9 : decide ((k : Int) + (n : Int) < (x.size : Int)) = false := by simp; omega
                      have e9' : decide (k + n < x.size) = false := by simp; omega
                      clear h8
                      have hq : prsB x false (items x m (k + n) (t.or (rng b 1))) = R := hR
                      clear hR
                      go_wp2_with (go_at_call 80; refine (H1.out _).mono ?_)
                      rintro e w1 ⟨rfl, nq, HW1⟩
                      have J : Ip w t w1 := by rw [HW1]; exact I.drewN nq
                      clear HW1 H1 I
                      clear a0 a1 a2 a3 b0 b1 f0 f1 y0 y1 g0 g1 g2 g3 c0 c1 c2 c3 fz y2 y3
                      go_wp2
                      go_loopw [16] (fun i' wr' => ∃ (j : Nat) (r : St), j ≤ 1 ∧ i' = .int .i64 (b + j : Nat) ∧ r = t.or (rng b j) ∧ Ip w r wr') (fun i' _ => b + 1 - (intOf i').toNat)
                      case atStart => exact ⟨0, t, by omega, rfl, (or_zero t hok).symm, J⟩
                      case round =>
                        obtain ⟨j, r, hj, rfl, hr, J⟩ := hrel
                        try clear b8
                        have hrok : r.ok := by rw [hr]; exact St.or_ok hok (rng_ok _ _)
                        by_cases hj2 : j < 1
                        · have HT : Hid (r.add (b + j) = t.or (rng b (j + 1))) := by show _ = _; rw [hr, or_add t _ hok (rng_ok _ _) _ (by omega)]; rfl
                          have HV : Hid (b + j + 1 = b + (j + 1)) := by show _ = _; omega
                          have hv1 : b + j ≤ b := by omega
                          have hv2 : b + j < 256 := by omega
                          clear hr
                          have HW : Hid _ := fun w => rwith_any r (b + j) w hrok hv2
                          generalize r.add (b + j) = r' at *
                          generalize b + j = v at *
                          obtain ⟨c0, c1, c2, c3⟩ := J.2.2.cells
                          go_wp2_with (go_at_call 81; refine (HW.out _).mono ?_)
                          rintro e w3 ⟨rfl, hb3⟩
                          have J3 := J.nx hb3
                          clear c0 c1 c2 c3
                          obtain ⟨c0, c1, c2, c3⟩ := J3.2.2.cells
                          have fz := J3.2.2.frozen
                          go_wp2
                          exact ⟨⟨j + 1, r', by omega, by rw [← HV.out]; go_num, HT.out, J3.put r'⟩, by have := HV.out; simp [intOf]; omega⟩
                        · have e : j = 1 := by omega
                          subst e
                          have g9 : decide (((b + 1 : Nat) : Int) ≤ (b : Int)) = false := by simp; omega
                          have hv9 : b < b + 1 := by omega
                          have HR : Hid _ := hq
                          rw [← hr] at HR
                          clear hq hr
                          generalize b + 1 = v at *
                          go_wp2
                          exact ⟨⟨(k + n), m, r, by omega, by go_num, hrok, by omega, HR.out, J⟩, by simp [intOf]; omega⟩
                    · have h9' : k + n < x.size := by omega
                      have b8 := bt_eq x (k + n) h9'
                      have e9 : ((bt x (k + n) : Int) == 45) = false := by simp; omega
                      have e8 : (0 : Int) ≤ (k : Int) + (n : Int) := by omega
                      have e7 : (k : Int) + (n : Int) < (x.size : Int) := by omega
                      clear h8
                      have hq : prsB x false (items x m (k + n) (t.or (rng b 1))) = R := hR
                      clear hR
                      go_wp2_with (go_at_call 80; refine (H1.out _).mono ?_)
                      rintro e w1 ⟨rfl, nq, HW1⟩
                      have J : Ip w t w1 := by rw [HW1]; exact I.drewN nq
                      clear HW1 H1 I
                      clear a0 a1 a2 a3 b0 b1 f0 f1 y0 y1 g0 g1 g2 g3 c0 c1 c2 c3 fz y2 y3
                      go_wp2
                      go_loopw [16] (fun i' wr' => ∃ (j : Nat) (r : St), j ≤ 1 ∧ i' = .int .i64 (b + j : Nat) ∧ r = t.or (rng b j) ∧ Ip w r wr') (fun i' _ => b + 1 - (intOf i').toNat)
                      case atStart => exact ⟨0, t, by omega, rfl, (or_zero t hok).symm, J⟩
                      case round =>
                        obtain ⟨j, r, hj, rfl, hr, J⟩ := hrel
                        try clear b8
                        have hrok : r.ok := by rw [hr]; exact St.or_ok hok (rng_ok _ _)
                        by_cases hj2 : j < 1
                        · have HT : Hid (r.add (b + j) = t.or (rng b (j + 1))) := by show _ = _; rw [hr, or_add t _ hok (rng_ok _ _) _ (by omega)]; rfl
                          have HV : Hid (b + j + 1 = b + (j + 1)) := by show _ = _; omega
                          have hv1 : b + j ≤ b := by omega
                          have hv2 : b + j < 256 := by omega
                          clear hr
                          have HW : Hid _ := fun w => rwith_any r (b + j) w hrok hv2
                          generalize r.add (b + j) = r' at *
                          generalize b + j = v at *
                          obtain ⟨c0, c1, c2, c3⟩ := J.2.2.cells
                          go_wp2_with (go_at_call 81; refine (HW.out _).mono ?_)
                          rintro e w3 ⟨rfl, hb3⟩
                          have J3 := J.nx hb3
                          clear c0 c1 c2 c3
                          obtain ⟨c0, c1, c2, c3⟩ := J3.2.2.cells
                          have fz := J3.2.2.frozen
                          go_wp2
                          exact ⟨⟨j + 1, r', by omega, by rw [← HV.out]; go_num, HT.out, J3.put r'⟩, by have := HV.out; simp [intOf]; omega⟩
                        · have e : j = 1 := by omega
                          subst e
                          have g9 : decide (((b + 1 : Nat) : Int) ≤ (b : Int)) = false := by simp; omega
                          have hv9 : b < b + 1 := by omega
                          have HR : Hid _ := hq
                          rw [← hr] at HR
                          clear hq hr
                          generalize b + 1 = v at *
                          go_wp2
                          exact ⟨⟨(k + n), m, r, by omega, by go_num, hrok, by omega, HR.out, J⟩, by simp [intOf]; omega⟩
                  · rw [if_neg h8] at hR
                    have h9 : k + n < x.size := by omega
                    have h10 : bt x (k + n) = 45 := by omega
                    have b8 := bt_eq x (k + n) h9
                    rw [h10] at b8
                    have e8 : (0 : Int) ≤ (k : Int) + (n : Int) := by omega
                    have e7 : (k : Int) + (n : Int) < (x.size : Int) := by omega
                    have HB := H2 (k + n + 1) (by omega)
                    have hp3 := hp2 (by omega)
                    clear H2 hp2
                    generalize rone x (k + n + 1) = q at *
                    obtain ⟨b2, n2, c2'⟩ := q
                    simp only at HB hR hp3
                    have H2 : Hid _ := HB
                    clear HB
                    by_cases h11 : c2' = 0
                    · subst h11
                      obtain ⟨hb2, hn3, hn4⟩ := hp3 rfl
                      clear hp3
                      simp only [hq0, if_false] at hR
                      by_cases h12 : b2 < b
                      · rw [if_pos h12] at hR
                        simp only [prsB] at hR
                        rw [if_pos (by simp), if_pos (by simp)] at hR
                        subst hR
                        have e12 : decide ((b2 : Int) < (b : Int)) = true := by simp; omega
                        go_wp2_with (go_at_call 80; refine (H1.out _).mono ?_)
                        rintro e w1 ⟨rfl, nq, HW1⟩
                        have J1 : Ip w t w1 := by rw [HW1]; exact I.drewN nq
                        clear HW1 H1 I
                        clear a0 a1 a2 a3 b0 b1 f0 f1 y0 y1 g0 g1 g2 g3 c0 c1 c2 c3 fz y2 y3
                        go_wp2_with (go_at_call 80; refine (H2.out _).mono ?_)
                        rintro e w2 ⟨rfl, nq2, HW2⟩
                        have J : Ip w t w2 := by rw [HW2]; exact J1.drewN nq2
                        clear HW2 H2 J1
                        obtain ⟨a0, a1, a2, a3, b0, b1, f0, f1, y0, y1⟩ := J.1.facts
                        obtain ⟨g0, g1, g2, g3⟩ := J.2.1.cells
                        simp only [St.zero] at g0 g1 g2 g3
                        obtain ⟨c0, c1, c2, c3⟩ := J.2.2.cells
                        have fz := J.2.2.frozen
                        have y2 := J.2.1.lt
                        have y3 := J.2.2.lt
                        go_wp2
                        exact bodyPost_ret (v := prsV (St.zero, k, 10)) (by simp [results, Try.results63, go_sem, prsV, St.zero, a0, a1, a2, a3, b0, b1]) rfl ⟨rfl, below6 J.1.2.2 _ _ _ _ _ _⟩
                      · rw [if_neg h12] at hR
                        simp only [hq0, if_false] at hR
                        have hq : prsB x false (items x m (k + n + 1 + n2) (t.or (rng b (b2 + 1 - b)))) = R := hR
                        clear hR
                        have e12 : decide ((b2 : Int) < (b : Int)) = false := by simp; omega
                        have e13 : decide (b2 < b) = false := by simp; omega
                        go_wp2_with (go_at_call 80; refine (H1.out _).mono ?_)
                        rintro e w1 ⟨rfl, nq, HW1⟩
                        have J1 : Ip w t w1 := by rw [HW1]; exact I.drewN nq
                        clear HW1 H1 I
                        clear a0 a1 a2 a3 b0 b1 f0 f1 y0 y1 g0 g1 g2 g3 c0 c1 c2 c3 fz y2 y3
                        go_wp2_with (go_at_call 80; refine (H2.out _).mono ?_)
                        rintro e w2 ⟨rfl, nq2, HW2⟩
                        have J : Ip w t w2 := by rw [HW2]; exact J1.drewN nq2
                        clear HW2 H2 J1
                        go_wp2
                        go_loopw [16] (fun i' wr' => ∃ (j : Nat) (r : St), j ≤ (b2 + 1 - b) ∧ i' = .int .i64 (b + j : Nat) ∧ r = t.or (rng b j) ∧ Ip w r wr') (fun i' _ => b2 + 1 - (intOf i').toNat)
                        case atStart => exact ⟨0, t, by omega, rfl, (or_zero t hok).symm, J⟩
                        case round =>
                          obtain ⟨j, r, hj, rfl, hr, J⟩ := hrel
                          try clear b8
                          have hrok : r.ok := by rw [hr]; exact St.or_ok hok (rng_ok _ _)
                          by_cases hj2 : j < (b2 + 1 - b)
                          · have HT : Hid (r.add (b + j) = t.or (rng b (j + 1))) := by show _ = _; rw [hr, or_add t _ hok (rng_ok _ _) _ (by omega)]; rfl
                            have HV : Hid (b + j + 1 = b + (j + 1)) := by show _ = _; omega
                            have hv1 : b + j ≤ b2 := by omega
                            have hv2 : b + j < 256 := by omega
                            clear hr
                            have HW : Hid _ := fun w => rwith_any r (b + j) w hrok hv2
                            generalize r.add (b + j) = r' at *
                            generalize b + j = v at *
                            obtain ⟨c0, c1, c2, c3⟩ := J.2.2.cells
                            go_wp2_with (go_at_call 81; refine (HW.out _).mono ?_)
                            rintro e w3 ⟨rfl, hb3⟩
                            have J3 := J.nx hb3
                            clear c0 c1 c2 c3
                            obtain ⟨c0, c1, c2, c3⟩ := J3.2.2.cells
                            have fz := J3.2.2.frozen
                            go_wp2
                            exact ⟨⟨j + 1, r', by omega, by rw [← HV.out]; go_num, HT.out, J3.put r'⟩, by have := HV.out; simp [intOf]; omega⟩
                          · have e : j = (b2 + 1 - b) := by omega
                            subst e
                            have g9 : decide (((b + (b2 + 1 - b) : Nat) : Int) ≤ (b2 : Int)) = false := by simp; omega
                            have hv9 : b2 < b + (b2 + 1 - b) := by omega
                            have HR : Hid _ := hq
                            rw [← hr] at HR
                            clear hq hr
                            generalize b + (b2 + 1 - b) = v at *
                            go_wp2
                            exact ⟨⟨(k + n + 1 + n2), m, r, by omega, by go_num, hrok, by omega, HR.out, J⟩, by simp [intOf]; omega⟩
                    · rw [if_pos h11] at hR
                      simp only [prsB] at hR
                      rw [if_pos h11, if_pos h11] at hR
                      subst hR
                      have e11 : ((c2' : Int) != 0) = true := by simp; omega
                      go_wp2_with (go_at_call 80; refine (H1.out _).mono ?_)
                      rintro e w1 ⟨rfl, nq, HW1⟩
                      have J1 : Ip w t w1 := by rw [HW1]; exact I.drewN nq
                      clear HW1 H1 I
                      clear a0 a1 a2 a3 b0 b1 f0 f1 y0 y1 g0 g1 g2 g3 c0 c1 c2 c3 fz y2 y3
                      go_wp2_with (go_at_call 80; refine (H2.out _).mono ?_)
                      rintro e w2 ⟨rfl, nq2, HW2⟩
                      have J : Ip w t w2 := by rw [HW2]; exact J1.drewN nq2
                      clear HW2 H2 J1
                      obtain ⟨a0, a1, a2, a3, b0, b1, f0, f1, y0, y1⟩ := J.1.facts
                      obtain ⟨g0, g1, g2, g3⟩ := J.2.1.cells
                      simp only [St.zero] at g0 g1 g2 g3
                      obtain ⟨c0, c1, c2, c3⟩ := J.2.2.cells
                      have fz := J.2.2.frozen
                      have y2 := J.2.1.lt
                      have y3 := J.2.2.lt
                      go_wp2
                      exact bodyPost_ret (v := prsV (St.zero, k + n + 1, c2')) (by simp [results, Try.results63, go_sem, prsV, St.zero, a0, a1, a2, a3, b0, b1]) rfl ⟨rfl, below6 J.1.2.2 _ _ _ _ _ _⟩
                · rw [if_pos h7] at hR
                  simp only [prsB] at hR
                  rw [if_pos h7, if_pos h7] at hR
                  subst hR
                  have e7 : ((c : Int) != 0) = true := by simp; omega
                  clear H2 hp2
                  go_wp2_with (go_at_call 80; refine (H1.out _).mono ?_)
                  rintro e w1 ⟨rfl, nq, HW1⟩
                  have J : Ip w t w1 := by rw [HW1]; exact I.drewN nq
                  clear HW1 H1 I
                  clear a0 a1 a2 a3 b0 b1 f0 f1 y0 y1 g0 g1 g2 g3 c0 c1 c2 c3 fz y2 y3
                  obtain ⟨a0, a1, a2, a3, b0, b1, f0, f1, y0, y1⟩ := J.1.facts
                  obtain ⟨g0, g1, g2, g3⟩ := J.2.1.cells
                  simp only [St.zero] at g0 g1 g2 g3
                  obtain ⟨c0, c1, c2, c3⟩ := J.2.2.cells
                  have fz := J.2.2.frozen
                  have y2 := J.2.1.lt
                  have y3 := J.2.2.lt
                  go_wp2
                  exact bodyPost_ret (v := prsV (St.zero, k, c)) (by simp [results, Try.results63, go_sem, prsV, St.zero, a0, a1, a2, a3, b0, b1]) rfl ⟨rfl, below6 J.1.2.2 _ _ _ _ _ _⟩
        · have h3b : decide ((1 : Int) < (x.size : Int)) = false := by simp; omega
          have h3c : decide (1 < x.size) = false := by simp; omega
          have hz3 : x.size ≤ 1 := by omega
          rw [items, if_pos hz3] at hR
          simp only [prsB] at hR
          rw [if_pos (by simp)] at hR
          subst hR
          have ek : Hid (1 = x.size) := by show _ = _; omega
          have H1 : Hid (∀ w, Calls Try.prog 80 #[.string x, .int .i64 1] w fun e w' => e = .returned (.tuple #[.int .i64 0, .int .i64 0, .int .i64 14]) ∧ ∃ nq, w' = w.drewN nq) := fun w => by
            have := rone_any x 1 w (by omega) (by omega)
            rw [show rone x 1 = (0, 0, 14) from by unfold rone; rw [if_pos hz3]] at this
            exact this
          go_enter Try.func63, Try.ntmps63
          go_wp2
          refine wp_loop_rounds 1 ?_
          rw [rounds_succ]
          go_wp2_with (go_at_call 80; refine (H1.out _).mono ?_)
          intro e w1 he nq HW1
          subst he
          have J : Ip w St.zero w1 := by rw [HW1]; exact I0.drewN nq
          clear HW1 H1 I0
          obtain ⟨a0, a1, a2, a3, b0, b1, f0, f1, y0, y1⟩ := J.1.facts
          obtain ⟨g0, g1, g2, g3⟩ := J.2.1.cells
          simp only [St.zero] at g0 g1 g2 g3
          obtain ⟨c0, c1, c2, c3⟩ := J.2.2.cells
          have fz := J.2.2.frozen
          have y2 := J.2.1.lt
          have y3 := J.2.2.lt
          go_wp2
          exact bodyPost_ret (v := prsV (St.zero, 1, 14)) (by simp [results, Try.results63, go_sem, prsV, St.zero, a0, a1, a2, a3, b0, b1]) rfl ⟨by rw [← ek.out], below6 J.1.2.2 _ _ _ _ _ _⟩
    · rw [if_pos h2] at hR
      subst hR
      by_cases h3 : x.size = 0
      · have h3' : ((x.size : Int) == 0) = true := by rw [h3]; rfl
        go_enter Try.func63, Try.ntmps63
        go_wp2
        refine bodyPost_ret (v := prsV (St.zero, 0, 13)) (by simp [results, Try.results63, go_sem, prsV, St.zero]) rfl ⟨rfl, ?_⟩
        exact below_two (below_two (Below.refl _ _) _ _) _ _
      · have h3' : ((x.size : Int) == 0) = false := by rw [beq_eq_false_iff_ne]; omega
        have h4 : 0 < x.size := by omega
        have t0 := bt_eq x 0 h4
        have h5 : ((bt x 0 : Int) != 91) = true := by simp; omega
        go_enter Try.func63, Try.ntmps63
        go_wp2
        refine bodyPost_ret (v := prsV (St.zero, 0, 13)) (by simp [results, Try.results63, go_sem, prsV, St.zero]) rfl ⟨rfl, ?_⟩
        exact below_two (below_two (Below.refl _ _) _ _) _ _
end Go.Proofs.Ytbbmjnhbmcbehaa
