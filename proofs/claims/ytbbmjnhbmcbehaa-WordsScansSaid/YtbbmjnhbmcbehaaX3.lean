/- Reading an item of a set's text: readItem, at every text and place. -/
import Derived.Test.YtbbmjnhbmcbehaaX2
import Derived.Test.YtbbmjnhbmcbehaaW4
import Derived.Test.YtbbmjnhbmcbehaaW6
namespace Go.Proofs.Ytbbmjnhbmcbehaa
open Go.RowKit

theorem rdr_len (x : ByteArray) : (rdr x).2 ≤ x.size := by
  unfold rdr
  split
  · simp
  · split
    · simp; omega
    · split
      · simp
      · split
        · simp
        · simp; omega
theorem saidB_lt (i : Nat) : saidB i < 256 := by
  unfold saidB
  match i with
  | 0 => decide
  | 1 => decide
  | 2 => decide
  | 3 => decide
  | 4 => decide
  | 5 => decide
  | 6 => decide
  | 7 => decide
  | 8 => decide
  | i + 9 => simp
theorem rdr_lt (x : ByteArray) : (rdr x).1 < 256 := by
  unfold rdr
  split
  · simp
  · split
    · exact saidB_lt _
    · split
      · simp
      · split
        · simp
        · have a := dig_hi (bt x 2)
          have b := dig_hi (bt x 3)
          simp; omega
theorem ext_size (x : ByteArray) (i : Nat) : (x.extract i x.size).size = x.size - i := by simp
theorem sgn_ok (x : ByteArray) (i : Nat) : (sgn x i).1 < 256 ∧ ((sgn x i).2.2.2 = 0 → i < (sgn x i).2.1 ∧ (sgn x i).2.1 ≤ x.size ∧ (sgn x i).2.2.1 = 0) := by
  have h1 := rdr_lt (x.extract i x.size)
  have h2 := rdr_len (x.extract i x.size)
  rw [ext_size] at h2
  have h3 := bt_lt x i
  unfold sgn
  split
  · simp
  · split
    · split
      · simp
      · simp; omega
    · split
      · simp; omega
      · simp
theorem sgn_bad (x : ByteArray) (i : Nat) : (sgn x i).2.2.2 ≠ 0 → (sgn x i).2.2.1 ≤ x.size ∧ (sgn x i).2.2.2 ≤ 14 := by
  unfold sgn
  split
  · simp
  · split
    · split
      · simp; omega
      · simp
    · split
      · simp
      · simp; omega

/-- The item at a place: its bytes, the place behind it, and the fault's place and code. -/
def itm (x : ByteArray) (i : Nat) : St × Nat × Nat × Nat :=
  if (sgn x i).2.2.2 ≠ 0 then (St.zero, 0, (sgn x i).2.2.1, (sgn x i).2.2.2)
  else if x.size ≤ (sgn x i).2.1 ∨ bt x (sgn x i).2.1 ≠ 45 then (ofL [(sgn x i).1], (sgn x i).2.1, 0, 0)
  else if (sgn x ((sgn x i).2.1 + 1)).2.2.2 ≠ 0 then (St.zero, 0, (sgn x ((sgn x i).2.1 + 1)).2.2.1, (sgn x ((sgn x i).2.1 + 1)).2.2.2)
  else if (sgn x ((sgn x i).2.1 + 1)).1 < (sgn x i).1 then (St.zero, 0, i, 10)
  else (rng (sgn x i).1 ((sgn x ((sgn x i).2.1 + 1)).1 + 1 - (sgn x i).1), (sgn x ((sgn x i).2.1 + 1)).2.1, 0, 0)
def itmV (p : St × Nat × Nat × Nat) : Value := .tuple #[.agg #[.int .u64 (p.1.a : Int), .int .u64 (p.1.b : Int), .int .u64 (p.1.c : Int), .int .u64 (p.1.d : Int)], .int .i64 (p.2.1 : Int), .agg #[.int .i64 (p.2.2.1 : Int), .int .i64 (p.2.2.2 : Int)]]
/-- A box of two words stands. -/
def FBox (a c : Int) (B : Nat) (W : World) : Prop := W.heap[B]? = some (.cells #[.int .i64 a, .int .i64 c] 26 (0, 0))
theorem FBox.new (a c : Int) (W : World) : FBox a c W.heap.size (W.alloc (.cells #[.int .i64 a, .int .i64 c] 26)) := World.alloc_heap_new W _
theorem FBox.lt {a c : Int} {B : Nat} {W : World} (h : FBox a c B W) : B < W.heap.size := (Array.getElem?_eq_some_iff.1 h).1
theorem FBox.below {a c : Int} {B : Nat} {W W' : World} (h : FBox a c B W) (hb : Below W.heap.size W W') : FBox a c B W' := (hb.block B h.lt).trans h
theorem FBox.cells {a c : Int} {B : Nat} {W : World} (h : FBox a c B W) : W.cell? ⟨B, 0, none⟩ = some (.int .i64 a) ∧ W.cell? ⟨B, 1, none⟩ = some (.int .i64 c) ∧ ∀ o, W.frozen? ⟨B, o, none⟩ = false := by
  refine ⟨?_, ?_, fun o => ?_⟩ <;> simp [World.cell?, World.frozen?, show W.heap[B]? = _ from h]
theorem SBox.bel {s : St} {B : Nat} {W W' : World} (h : SBox s B W) (hb : Below W.heap.size W W') : SBox s B W' := (hb.block B h.lt).trans h
theorem SBox.fz {s : St} {B : Nat} {W : World} (h : SBox s B W) : ∀ o, W.frozen? ⟨B, o, none⟩ = false := fun o => by simp [World.frozen?, show W.heap[B]? = _ from h]
/-- The boxes of a call's two results stand as they were laid, and what was there. -/
def Ini (w W : World) : Prop := SBox St.zero w.heap.size W ∧ FBox 0 0 (w.heap.size + 1) W ∧ Below w.heap.size w W
theorem Ini.nx {w W W' : World} (h : Ini w W) (hb : Below W.heap.size W W') : Ini w W' := ⟨h.1.bel hb, h.2.1.below hb, below_of h.2.2 hb⟩
theorem Ini.start (w : World) : Ini w ((w.alloc (.cells #[.int .u64 0, .int .u64 0, .int .u64 0, .int .u64 0] 33)).alloc (.cells #[.int .i64 0, .int .i64 0] 26)) := by
  refine ⟨(SBox.new St.zero w).alloc _, ?_, ((Below.refl _ _).alloc (Nat.le_refl _) _).alloc (by simp <;> omega) _⟩
  have := FBox.new 0 0 (w.alloc (.cells #[.int .u64 0, .int .u64 0, .int .u64 0, .int .u64 0] 33))
  rwa [World.size_alloc] at this
theorem Ini.alloc {w W : World} (h : Ini w W) (o : Obj) : Ini w (W.alloc o) := h.nx ((Below.refl _ _).alloc (Nat.le_refl _) o)
theorem Ini.set {w W : World} {B i : Nat} (h : Ini w W) (v : Value) (hB : w.heap.size + 1 < B) : Ini w (W.setCell ⟨B, i, none⟩ v) :=
  ⟨(Below.heap_setCell W ⟨B, i, none⟩ v _ (by simp only; omega)).trans h.1, (Below.heap_setCell W ⟨B, i, none⟩ v _ (by simp only; omega)).trans h.2.1, h.2.2.setCell (p := ⟨B, i, none⟩) (by simp only; omega) v⟩
theorem Ini.facts {w W : World} (h : Ini w W) : W.cell? ⟨w.heap.size, 0, none⟩ = some (.int .u64 0) ∧ W.cell? ⟨w.heap.size, 1, none⟩ = some (.int .u64 0) ∧ W.cell? ⟨w.heap.size, 2, none⟩ = some (.int .u64 0) ∧ W.cell? ⟨w.heap.size, 3, none⟩ = some (.int .u64 0) ∧ W.cell? ⟨w.heap.size + 1, 0, none⟩ = some (.int .i64 0) ∧ W.cell? ⟨w.heap.size + 1, 1, none⟩ = some (.int .i64 0) ∧ (∀ o, W.frozen? ⟨w.heap.size, o, none⟩ = false) ∧ (∀ o, W.frozen? ⟨w.heap.size + 1, o, none⟩ = false) ∧ w.heap.size < W.heap.size ∧ w.heap.size + 1 < W.heap.size := by
  obtain ⟨a0, a1, a2, a3⟩ := h.1.cells
  obtain ⟨b0, b1, f1⟩ := h.2.1.cells
  exact ⟨a0, a1, a2, a3, b0, b1, h.1.fz, f1, h.1.lt, h.2.1.lt⟩
theorem below6 {w W : World} (h : Below w.heap.size w W) (v0 v1 v2 v3 v4 v5 : Value) : Below w.heap.size w ((((((W.setCell ⟨w.heap.size, 0, none⟩ v0).setCell ⟨w.heap.size, 1, none⟩ v1).setCell ⟨w.heap.size, 2, none⟩ v2).setCell ⟨w.heap.size, 3, none⟩ v3).setCell ⟨w.heap.size + 1, 0, none⟩ v4).setCell ⟨w.heap.size + 1, 1, none⟩ v5) :=
  (((((h.setCell (Nat.le_refl _) _).setCell (Nat.le_refl _) _).setCell (Nat.le_refl _) _).setCell (Nat.le_refl _) _).setCell (Nat.le_succ _) _).setCell (Nat.le_succ _) _
theorem of_1 (c : Nat) (hc : c < 256) (B : Nat) (w : World) (hB : B < w.heap.size) (h : w.cell? ⟨B, 0, none⟩ = some (.int .u8 c)) : Calls Try.prog 50 #[.slice (some ⟨B, 0, none⟩) 1 1] w fun e w' => e = .returned (.agg #[.int .u64 (ofL [c]).a, .int .u64 (ofL [c]).b, .int .u64 (ofL [c]).c, .int .u64 (ofL [c]).d]) ∧ Below w.heap.size w w' :=
  of_any B 0 1 1 [c] w rfl (by simpa using hc) (by unfold maxLen; omega) hB (fun i hi => by
    match i, hi with
    | 0, _ => exact h)
set_option maxRecDepth 100000 in
set_option maxHeartbeats 4000000 in
theorem ritem_any (x : ByteArray) (i : Nat) (w : World) (hx : x.size ≤ 99999) (hi : i ≤ 99999) :
    Calls Try.prog 97 #[.string x, .int .i64 i] w fun e w' => e = .returned (itmV (itm x i)) ∧ Below w.heap.size w w' := by
  have H1 : Hid _ := fun w => rsgn_any x i w (by omega) (by omega)
  have hp := sgn_ok x i
  have hq := sgn_bad x i
  have H : Hid (itm x i = _) := itm.eq_1 x i
  generalize itm x i = R at *
  have H2 : ∀ j : Nat, j ≤ 100000 → ∀ w, Calls Try.prog 100 #[.string x, .int .i64 j] w fun e w' => e = .returned (signV (sgn x j)) ∧ Below w.heap.size w w' := fun j hj w => rsgn_any x j w (by omega) hj
  generalize sgn x i = p at *
  obtain ⟨c, n, fa, fc⟩ := p
  simp only [signV] at H1 H2 H hp hq
  have I0 := Ini.start w
  by_cases h1 : fc = 0
  · obtain ⟨hn1, hn2, rfl⟩ := hp.2 h1
    subst h1
    have hcc := hp.1
    clear hp hq
    rw [if_neg (by simp)] at H
    by_cases h2 : x.size ≤ n ∨ bt x n ≠ 45
    · rw [if_pos h2] at H
      rw [show R = _ from H]
      clear H H2
      have HO : Hid _ := fun B w => of_1 c hcc B w
      have h2' : (n : Int) < x.size → ((bt x n : Int) != 45) = true := by
        intro h; simp; omega
      generalize ofL [c] = q at *
      by_cases h3 : x.size ≤ n
      · clear h2'
        go_enter Try.func97, Try.ntmps97
        go_wp2_with (go_at_call 100; refine (H1.out _).mono ?_)
        rintro e w1 ⟨rfl, hb1⟩
        have I1 := (I0.nx hb1).alloc (.cells #[.int .i64 0, .int .i64 0] 26)
        clear H1 hb1 I0
        go_wp2_with (go_at_call 50; refine (HO.out _ _ (by simp) (by simp)).mono ?_)
        rintro e w2 ⟨rfl, hb2⟩
        have I2 := (I1.alloc _).nx hb2
        obtain ⟨a0, a1, a2, a3, b0, b1, f0, f1, y0, y1⟩ := I2.facts
        clear HO hb2 I1
        go_wp2
        exact bodyPost_ret (v := itmV (q, n, 0, 0)) (by simp [results, Try.results97, go_sem, itmV, a0, a1, a2, a3, b0, b1]) rfl ⟨rfl, below6 I2.2.2 _ _ _ _ _ _⟩
      · have h3' : n < x.size := by omega
        have b9 := bt_eq x n h3'
        have h4 := h2' (by omega)
        clear h2'
        go_enter Try.func97, Try.ntmps97
        go_wp2_with (go_at_call 100; refine (H1.out _).mono ?_)
        rintro e w1 ⟨rfl, hb1⟩
        have I1 := (I0.nx hb1).alloc (.cells #[.int .i64 0, .int .i64 0] 26)
        clear H1 hb1 I0
        go_wp2_with (go_at_call 50; refine (HO.out _ _ (by simp) (by simp)).mono ?_)
        rintro e w2 ⟨rfl, hb2⟩
        have I2 := (I1.alloc _).nx hb2
        obtain ⟨a0, a1, a2, a3, b0, b1, f0, f1, y0, y1⟩ := I2.facts
        clear HO hb2 I1
        go_wp2
        exact bodyPost_ret (v := itmV (q, n, 0, 0)) (by simp [results, Try.results97, go_sem, itmV, a0, a1, a2, a3, b0, b1]) rfl ⟨rfl, below6 I2.2.2 _ _ _ _ _ _⟩
    · rw [if_neg h2] at H
      have h3 : n < x.size := by omega
      have h4 : bt x n = 45 := by omega
      have b9 := bt_eq x n h3
      rw [h4] at b9
      have HB := H2 (n + 1) (by omega)
      have hp := sgn_ok x (n + 1)
      have hq := sgn_bad x (n + 1)
      clear H2
      generalize sgn x (n + 1) = p at *
      obtain ⟨c2, n2, fa2, fc2⟩ := p
      simp only at HB H hp hq
      have H2 : Hid _ := HB
      clear HB
      by_cases h5 : fc2 = 0
      · obtain ⟨hm1, hm2, rfl⟩ := hp.2 h5
        subst h5
        have hc2 := hp.1
        clear hp hq
        rw [if_neg (by simp)] at H
        by_cases h6 : c2 < c
        · rw [if_pos h6] at H
          rw [show R = _ from H]
          clear H
          have HR : Hid _ := fun w => range_bad c c2 w (Or.inr (Or.inr (by omega)))
          go_enter Try.func97, Try.ntmps97
          go_wp2_with (go_at_call 100; refine (H1.out _).mono ?_)
          rintro e w1 ⟨rfl, hb1⟩
          have I1 := (I0.nx hb1).alloc (.cells #[.int .i64 0, .int .i64 0] 26)
          have F1 := FBox.new 0 0 w1
          have hy1 := (I0.nx hb1).2.1.lt
          clear H1 hb1 I0
          go_wp2_with (go_at_call 100; refine (H2.out _).mono ?_)
          rintro e w2 ⟨rfl, hb2⟩
          have I2 := I1.nx hb2
          have F2 := F1.below hb2
          obtain ⟨c0, c1, fz⟩ := F2.cells
          have y2 := F2.lt
          have y3 : w.heap.size + 1 < w1.heap.size := hy1
          clear H2 hb2
          go_wp2_with (go_at_call 101; refine (HR.out _).mono ?_)
          rintro e w3 ⟨rfl, hb3⟩
          have I3 := ((I2.set _ y3).set _ y3).nx hb3
          obtain ⟨a0, a1, a2, a3, b0, b1, f0, f1, y0, y1⟩ := I3.facts
          clear HR hb3
          go_wp2
          refine bodyPost_ret (v := itmV (St.zero, 0, i, 10)) (by simp [results, Try.results97, go_sem, itmV, St.zero, y0, y1, a0, a1, a2, a3, b0, b1]) rfl ⟨rfl, ?_⟩
          have hb := below6 I3.2.2 (.int .u64 0) (.int .u64 0) (.int .u64 0) (.int .u64 0) (.int .i64 i) (.int .i64 10)
          exact hb.alloc hb.size _
        · rw [if_neg h6] at H
          rw [show R = _ from H]
          clear H
          have HR : Hid _ := fun w => range_any c c2 w (by omega) (by omega)
          generalize rng c (c2 + 1 - c) = q at *
          go_enter Try.func97, Try.ntmps97
          go_wp2_with (go_at_call 100; refine (H1.out _).mono ?_)
          rintro e w1 ⟨rfl, hb1⟩
          have I1 := (I0.nx hb1).alloc (.cells #[.int .i64 0, .int .i64 0] 26)
          have F1 := FBox.new 0 0 w1
          have hy1 := (I0.nx hb1).2.1.lt
          clear H1 hb1 I0
          go_wp2_with (go_at_call 100; refine (H2.out _).mono ?_)
          rintro e w2 ⟨rfl, hb2⟩
          have I2 := I1.nx hb2
          have F2 := F1.below hb2
          obtain ⟨c0, c1, fz⟩ := F2.cells
          have y2 := F2.lt
          have y3 : w.heap.size + 1 < w1.heap.size := hy1
          clear H2 hb2
          go_wp2_with (go_at_call 101; refine (HR.out _).mono ?_)
          rintro e w3 ⟨rfl, hb3⟩
          have I3 := ((I2.set _ y3).set _ y3).nx hb3
          obtain ⟨a0, a1, a2, a3, b0, b1, f0, f1, y0, y1⟩ := I3.facts
          clear HR hb3
          go_wp2
          refine bodyPost_ret (v := itmV (q, n2, 0, 0)) (by simp [results, Try.results97, go_sem, itmV, y0, y1, a0, a1, a2, a3, b0, b1]) rfl ⟨rfl, ?_⟩
          have hb := below6 I3.2.2 (.int .u64 q.a) (.int .u64 q.b) (.int .u64 q.c) (.int .u64 q.d) (.int .i64 0) (.int .i64 0)
          exact hb.alloc hb.size _
      · rw [if_pos h5] at H
        have h5' : ((fc2 : Int) != 0) = true := by simp; omega
        rw [show R = _ from H]
        clear H
        go_enter Try.func97, Try.ntmps97
        go_wp2_with (go_at_call 100; refine (H1.out _).mono ?_)
        rintro e w1 ⟨rfl, hb1⟩
        have I1 := (I0.nx hb1).alloc (.cells #[.int .i64 0, .int .i64 0] 26)
        have F1 := FBox.new 0 0 w1
        have hy1 := (I0.nx hb1).2.1.lt
        clear H1 hb1 I0
        go_wp2_with (go_at_call 100; refine (H2.out _).mono ?_)
        rintro e w2 ⟨rfl, hb2⟩
        have I2 := I1.nx hb2
        have F2 := F1.below hb2
        obtain ⟨c0, c1, fz⟩ := F2.cells
        have y2 := F2.lt
        have y3 : w.heap.size + 1 < w1.heap.size := hy1
        clear H2 hb2
        obtain ⟨a0, a1, a2, a3, b0, b1, f0, f1, y0, y1⟩ := I2.facts
        go_wp2
        go_region
        all_goals go_wp2
        refine bodyPost_ret (v := itmV (St.zero, 0, fa2, fc2)) (by simp [results, Try.results97, go_sem, itmV, St.zero, a0, a1, a2, a3, b0, b1]) rfl ⟨rfl, ?_⟩
        have hb := below6 ((I2.set (B := w1.heap.size) (i := 0) (.int .i64 fa2) y3).set (B := w1.heap.size) (i := 1) (.int .i64 fc2) y3).2.2 (.int .u64 0) (.int .u64 0) (.int .u64 0) (.int .u64 0) (.int .i64 fa2) (.int .i64 fc2)
        exact hb.drew
  · rw [if_pos h1] at H
    have h1' : ((fc : Int) != 0) = true := by simp; omega
    rw [show R = _ from H]
    clear H H2
    go_enter Try.func97, Try.ntmps97
    go_wp2_with (go_at_call 100; refine (H1.out _).mono ?_)
    rintro e w1 ⟨rfl, hb1⟩
    have I1 := I0.nx hb1
    obtain ⟨a0, a1, a2, a3, b0, b1, f0, f1, y0, y1⟩ := I1.facts
    clear H1 hb1 I0
    go_wp2
    go_region
    all_goals go_wp2
    refine bodyPost_ret (v := itmV (St.zero, 0, fa, fc)) (by simp [results, Try.results97, go_sem, itmV, St.zero, y0, y1, a0, a1, a2, a3, b0, b1]) rfl ⟨rfl, ?_⟩
    have hb := below6 I1.2.2 (.int .u64 0) (.int .u64 0) (.int .u64 0) (.int .u64 0) (.int .i64 fa) (.int .i64 fc)
    exact (hb.alloc hb.size _).drew
end Go.Proofs.Ytbbmjnhbmcbehaa
