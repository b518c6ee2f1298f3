/- Reading a set's text: Parse, at every text. -/
import Derived.Test.YtbbmjnhbmcbehaaX4
import Derived.Test.YtbbmjnhbmcbehaaShelf
namespace Go.Proofs.Ytbbmjnhbmcbehaa
open Go.RowKit

theorem items_ok (x : ByteArray) : ∀ (m i : Nat) (s : St), s.ok → (items x m i s).1.ok ∧ ((items x m i s).2.2.2 = 0 → (items x m i s).2.1 < x.size ∧ (items x m i s).2.2.1 = 0)
  | 0, i, s, hs => ⟨St.zero_ok, fun h => by simp [items] at h⟩
  | m + 1, i, s, hs => by
    have ih := items_ok x m (itm x i).2.1 (s.or (itm x i).1) (St.or_ok hs (itm_ok x i).1)
    rw [items]
    split
    · exact ⟨St.zero_ok, fun h => by simp at h⟩
    · split
      · exact ⟨hs, fun _ => ⟨by simp only; omega, rfl⟩⟩
      · split
        · rename_i h; exact ⟨St.zero_ok, fun h' => absurd h' h⟩
        · exact ih
theorem pre_one (x : ByteArray) : Lib.hasPrefix x.data.toList [91] = decide (0 < x.size ∧ bt x 0 = 91) := by
  obtain ⟨⟨l⟩⟩ := x
  match l with
  | [] => rfl
  | a :: l =>
    have e : bt ⟨⟨a :: l⟩⟩ 0 = a.toNat := rfl
    have z : (⟨⟨a :: l⟩⟩ : ByteArray).size = l.length + 1 := rfl
    rw [e, z]
    have : (a = 91) ↔ a.toNat = 91 := by rw [← UInt8.toNat_inj]; rfl
    have q : Lib.hasPrefix (a :: l) [91] = (91 == a) := by simp [Lib.hasPrefix, List.isPrefixOf]
    show Lib.hasPrefix (a :: l) [91] = _
    rw [q, Bool.eq_iff_iff, beq_iff_eq, decide_eq_true_iff, eq_comm, this]
    omega
theorem pre_two (x : ByteArray) : Lib.hasPrefix x.data.toList [91, 94] = decide (1 < x.size ∧ bt x 0 = 91 ∧ bt x 1 = 94) := by
  obtain ⟨⟨l⟩⟩ := x
  match l with
  | [] => rfl
  | [a] =>
    have z : (⟨⟨[a]⟩⟩ : ByteArray).size = 1 := rfl
    rw [z]
    simp [Lib.hasPrefix, List.isPrefixOf]
  | a :: b :: l =>
    have e : bt ⟨⟨a :: b :: l⟩⟩ 0 = a.toNat := rfl
    have e1 : bt ⟨⟨a :: b :: l⟩⟩ 1 = b.toNat := rfl
    have z : (⟨⟨a :: b :: l⟩⟩ : ByteArray).size = l.length + 2 := rfl
    rw [e, e1, z]
    have h1 : (a = 91) ↔ a.toNat = 91 := by rw [← UInt8.toNat_inj]; rfl
    have h2 : (b = 94) ↔ b.toNat = 94 := by rw [← UInt8.toNat_inj]; rfl
    have q : Lib.hasPrefix (a :: b :: l) [91, 94] = (91 == a && 94 == b) := by simp [Lib.hasPrefix, List.isPrefixOf]
    show Lib.hasPrefix (a :: b :: l) [91, 94] = _
    rw [q, Bool.eq_iff_iff, Bool.and_eq_true, beq_iff_eq, beq_iff_eq, decide_eq_true_iff, eq_comm (a := (91 : UInt8)), h1, eq_comm (a := (94 : UInt8)), h2]
    omega
/-- What a text is read as: the set, and the fault's place and code. -/
def prsB (x : ByteArray) (tr : Bool) (r : St × Nat × Nat × Nat) : St × Nat × Nat :=
  if r.2.2.2 ≠ 0 then (St.zero, r.2.2.1, r.2.2.2) else if r.2.1 + 1 < x.size then (St.zero, r.2.1 + 1, 15) else (if tr then r.1.not else r.1, 0, 0)
def prs (x : ByteArray) : St × Nat × Nat :=
  if 65536 < x.size then (St.zero, 0, 2)
  else if ¬ (0 < x.size ∧ bt x 0 = 91) then (St.zero, 0, 13)
  else if 1 < x.size ∧ bt x 1 = 94 then prsB x true (items x (x.size + 1) 2 St.zero)
  else prsB x false (items x (x.size + 1) 1 St.zero)
def prsV (p : St × Nat × Nat) : Value := .tuple #[.agg #[.int .u64 (p.1.a : Int), .int .u64 (p.1.b : Int), .int .u64 (p.1.c : Int), .int .u64 (p.1.d : Int)], .agg #[.int .i64 (p.2.1 : Int), .int .i64 (p.2.2 : Int)]]
theorem below_two {a w : World} (h : Below a.heap.size a w) (o1 o2 : Obj) : Below a.heap.size a ((w.alloc o1).alloc o2) := (h.alloc h.size o1).alloc (Nat.le_trans h.size (by simp)) o2
set_option maxRecDepth 100000 in
set_option maxHeartbeats 4000000 in
theorem parse_any (x : ByteArray) (w : World) :
    Calls Try.prog 77 #[.string x] w fun e w' => e = .returned (prsV (prs x)) ∧ Below w.heap.size w w' := by
  have I0 := Ini.start w
  obtain ⟨R, hR⟩ : ∃ R, prs x = R := ⟨_, rfl⟩
  rw [hR]
  unfold prs at hR
  by_cases h1 : 65536 < x.size
  · rw [if_pos h1] at hR
    subst hR
    go_enter Try.func77, Try.ntmps77
    go_wp2
    refine bodyPost_ret (v := prsV (St.zero, 0, 2)) (by simp [results, Try.results77, go_sem, prsV, St.zero]) rfl ⟨rfl, ?_⟩
    exact ((Below.refl _ _).alloc (Nat.le_refl _) _).alloc (by simp <;> omega) _
  · rw [if_neg h1] at hR
    by_cases h2 : 0 < x.size ∧ bt x 0 = 91
    · rw [if_neg (by simpa using h2)] at hR
      have HP1 : Hid (∀ w, Calls Try.prog 34 #[.string x, .string ⟨#[91]⟩] w fun e w' => e = .returned (.bool true) ∧ w' = w) := fun w => by
        have := prefix_any x ⟨#[91]⟩ w
        rw [show (⟨#[91]⟩ : ByteArray).data.toList = [91] from rfl, pre_one, decide_eq_true h2] at this
        exact this
      by_cases h3 : 1 < x.size ∧ bt x 1 = 94
      · rw [if_pos h3] at hR
        have HP2 : Hid (∀ w, Calls Try.prog 34 #[.string x, .string ⟨#[91, 94]⟩] w fun e w' => e = .returned (.bool true) ∧ w' = w) := fun w => by
          have := prefix_any x ⟨#[91, 94]⟩ w
          rw [show (⟨#[91, 94]⟩ : ByteArray).data.toList = [91, 94] from rfl, pre_two, decide_eq_true (by omega)] at this
          exact this
        have HI : Hid _ := fun w => ritems_any x 2 w (by omega) (by omega)
        have hp := items_ok x (x.size + 1) 2 St.zero St.zero_ok
        generalize items x (x.size + 1) 2 St.zero = p at *
        obtain ⟨q, n, fa, fc⟩ := p
        simp only [itmV, prsB] at HI hR hp
        by_cases h4 : fc = 0
        · obtain ⟨hn, rfl⟩ := hp.2 h4
          subst h4
          have hq := hp.1
          clear hp
          rw [if_neg (by simp)] at hR
          by_cases h5 : n + 1 < x.size
          · rw [if_pos h5] at hR
            subst hR
            go_enter Try.func77, Try.ntmps77
            go_wp2_with (first | (go_at_call_of 34 (⟨#[91]⟩ : ByteArray); refine (HP1.out _).mono ?_; rintro e w1 ⟨rfl, rfl⟩) | (go_at_call_of 34 (⟨#[91, 94]⟩ : ByteArray); refine (HP2.out _).mono ?_; rintro e w1 ⟨rfl, rfl⟩) | (go_at_call 88; refine (HI.out _).mono ?_))
            rintro e w1 ⟨rfl, hb1⟩
            have I1 := I0.nx hb1
            obtain ⟨a0, a1, a2, a3, b0, b1, f0, f1, y0, y1⟩ := I1.facts
            clear HI hb1
            go_wp2
            refine bodyPost_ret (v := prsV (St.zero, n + 1, 15)) (by simp [results, Try.results77, go_sem, prsV, St.zero, y0, y1, a0, a1, a2, a3, b0, b1]) rfl ⟨rfl, ?_⟩
            exact below_two (below6 I1.2.2 _ _ _ _ _ _) _ _
          · rw [if_neg h5] at hR
            simp only [if_true] at hR
            subst hR
            have HN : Hid _ := fun w => not_any q w hq
            generalize q.not = r at *
            go_enter Try.func77, Try.ntmps77
            go_wp2_with (first | (go_at_call_of 34 (⟨#[91]⟩ : ByteArray); refine (HP1.out _).mono ?_; rintro e w1 ⟨rfl, rfl⟩) | (go_at_call_of 34 (⟨#[91, 94]⟩ : ByteArray); refine (HP2.out _).mono ?_; rintro e w1 ⟨rfl, rfl⟩) | (go_at_call 88; refine (HI.out _).mono ?_))
            rintro e w1 ⟨rfl, hb1⟩
            have I1 := I0.nx hb1
            obtain ⟨a0, a1, a2, a3, b0, b1, f0, f1, y0, y1⟩ := I1.facts
            have I2 := (I1.alloc (.cells #[.int .u64 q.a, .int .u64 q.b, .int .u64 q.c, .int .u64 q.d] 33)).alloc (.cells #[.int .i64 0, .int .i64 0] 26)
            have S1 := (SBox.new q w1).alloc (.cells #[.int .i64 0, .int .i64 0] 26)
            clear HI hb1
            go_wp2_with (go_at_call 89; refine (HN.out _).mono ?_)
            rintro e w2 ⟨rfl, hb2⟩
            have I3 := I2.nx hb2
            have S2 := S1.below hb2
            clear a0 a1 a2 a3 b0 b1 f0 f1
            obtain ⟨c0, c1, c2, c3⟩ := S2.cells
            have fz := S2.frozen
            obtain ⟨a0, a1, a2, a3, b0, b1, f0, f1, z0, z1⟩ := I3.facts
            go_wp2
            refine bodyPost_ret (v := prsV (r, 0, 0)) (by simp [results, Try.results77, go_sem, prsV, a0, a1, a2, a3, b0, b1]) rfl ⟨rfl, ?_⟩
            exact below6 ((((I3.set (B := w1.heap.size) (i := 0) _ y1).set (B := w1.heap.size) (i := 1) _ y1).set (B := w1.heap.size) (i := 2) _ y1).set (B := w1.heap.size) (i := 3) _ y1).2.2 _ _ _ _ _ _
        · rw [if_pos h4] at hR
          have h4' : ((fc : Int) != 0) = true := by simp; omega
          subst hR
          go_enter Try.func77, Try.ntmps77
          go_wp2_with (first | (go_at_call_of 34 (⟨#[91]⟩ : ByteArray); refine (HP1.out _).mono ?_; rintro e w1 ⟨rfl, rfl⟩) | (go_at_call_of 34 (⟨#[91, 94]⟩ : ByteArray); refine (HP2.out _).mono ?_; rintro e w1 ⟨rfl, rfl⟩) | (go_at_call 88; refine (HI.out _).mono ?_))
          rintro e w1 ⟨rfl, hb1⟩
          have I1 := I0.nx hb1
          obtain ⟨a0, a1, a2, a3, b0, b1, f0, f1, y0, y1⟩ := I1.facts
          clear HI hb1
          go_wp2
          go_region
          all_goals go_wp2
          refine bodyPost_ret (v := prsV (St.zero, fa, fc)) (by simp [results, Try.results77, go_sem, prsV, St.zero, y0, y1, a0, a1, a2, a3, b0, b1]) rfl ⟨rfl, ?_⟩
          exact (below_two (below6 I1.2.2 _ _ _ _ _ _) _ _).drew
      · rw [if_neg h3] at hR
        have HP2 : Hid (∀ w, Calls Try.prog 34 #[.string x, .string ⟨#[91, 94]⟩] w fun e w' => e = .returned (.bool false) ∧ w' = w) := fun w => by
          have := prefix_any x ⟨#[91, 94]⟩ w
          rw [show (⟨#[91, 94]⟩ : ByteArray).data.toList = [91, 94] from rfl, pre_two, decide_eq_false (by omega)] at this
          exact this
        have HI : Hid _ := fun w => ritems_any x 1 w (by omega) (by omega)
        have hp := items_ok x (x.size + 1) 1 St.zero St.zero_ok
        generalize items x (x.size + 1) 1 St.zero = p at *
        obtain ⟨q, n, fa, fc⟩ := p
        simp only [itmV, prsB] at HI hR hp
        by_cases h4 : fc = 0
        · obtain ⟨hn, rfl⟩ := hp.2 h4
          subst h4
          have hq := hp.1
          clear hp
          rw [if_neg (by simp)] at hR
          by_cases h5 : n + 1 < x.size
          · rw [if_pos h5] at hR
            subst hR
            go_enter Try.func77, Try.ntmps77
            go_wp2_with (first | (go_at_call_of 34 (⟨#[91]⟩ : ByteArray); refine (HP1.out _).mono ?_; rintro e w1 ⟨rfl, rfl⟩) | (go_at_call_of 34 (⟨#[91, 94]⟩ : ByteArray); refine (HP2.out _).mono ?_; rintro e w1 ⟨rfl, rfl⟩) | (go_at_call 88; refine (HI.out _).mono ?_))
            rintro e w1 ⟨rfl, hb1⟩
            have I1 := I0.nx hb1
            obtain ⟨a0, a1, a2, a3, b0, b1, f0, f1, y0, y1⟩ := I1.facts
            clear HI hb1
            go_wp2
            refine bodyPost_ret (v := prsV (St.zero, n + 1, 15)) (by simp [results, Try.results77, go_sem, prsV, St.zero, y0, y1, a0, a1, a2, a3, b0, b1]) rfl ⟨rfl, ?_⟩
            exact below_two (below6 I1.2.2 _ _ _ _ _ _) _ _
          · rw [if_neg h5] at hR
            simp only [Bool.false_eq_true, if_false] at hR
            subst hR
            go_enter Try.func77, Try.ntmps77
            go_wp2_with (first | (go_at_call_of 34 (⟨#[91]⟩ : ByteArray); refine (HP1.out _).mono ?_; rintro e w1 ⟨rfl, rfl⟩) | (go_at_call_of 34 (⟨#[91, 94]⟩ : ByteArray); refine (HP2.out _).mono ?_; rintro e w1 ⟨rfl, rfl⟩) | (go_at_call 88; refine (HI.out _).mono ?_))
            rintro e w1 ⟨rfl, hb1⟩
            have I1 := I0.nx hb1
            obtain ⟨a0, a1, a2, a3, b0, b1, f0, f1, y0, y1⟩ := I1.facts
            clear HI hb1
            go_wp2
            exact bodyPost_ret (v := prsV (q, 0, 0)) (by simp [results, Try.results77, go_sem, prsV, y0, y1, a0, a1, a2, a3, b0, b1]) rfl ⟨rfl, below_two (below6 I1.2.2 _ _ _ _ _ _) _ _⟩
        · rw [if_pos h4] at hR
          have h4' : ((fc : Int) != 0) = true := by simp; omega
          subst hR
          go_enter Try.func77, Try.ntmps77
          go_wp2_with (first | (go_at_call_of 34 (⟨#[91]⟩ : ByteArray); refine (HP1.out _).mono ?_; rintro e w1 ⟨rfl, rfl⟩) | (go_at_call_of 34 (⟨#[91, 94]⟩ : ByteArray); refine (HP2.out _).mono ?_; rintro e w1 ⟨rfl, rfl⟩) | (go_at_call 88; refine (HI.out _).mono ?_))
          rintro e w1 ⟨rfl, hb1⟩
          have I1 := I0.nx hb1
          obtain ⟨a0, a1, a2, a3, b0, b1, f0, f1, y0, y1⟩ := I1.facts
          clear HI hb1
          go_wp2
          go_region
          all_goals go_wp2
          refine bodyPost_ret (v := prsV (St.zero, fa, fc)) (by simp [results, Try.results77, go_sem, prsV, St.zero, y0, y1, a0, a1, a2, a3, b0, b1]) rfl ⟨rfl, ?_⟩
          exact (below_two (below6 I1.2.2 _ _ _ _ _ _) _ _).drew
    · rw [if_pos h2] at hR
      subst hR
      have HP1 : Hid (∀ w, Calls Try.prog 34 #[.string x, .string ⟨#[91]⟩] w fun e w' => e = .returned (.bool false) ∧ w' = w) := fun w => by
        have := prefix_any x ⟨#[91]⟩ w
        rw [show (⟨#[91]⟩ : ByteArray).data.toList = [91] from rfl, pre_one, decide_eq_false h2] at this
        exact this
      go_enter Try.func77, Try.ntmps77
      go_wp2_with (go_at_call 34; refine (HP1.out _).mono ?_; rintro e w1 ⟨rfl, rfl⟩)
      refine bodyPost_ret (v := prsV (St.zero, 0, 13)) (by simp [results, Try.results77, go_sem, prsV, St.zero]) rfl ⟨rfl, ?_⟩
      exact ((Below.refl _ _).alloc (Nat.le_refl _) _).alloc (by simp <;> omega) _
end Go.Proofs.Ytbbmjnhbmcbehaa
