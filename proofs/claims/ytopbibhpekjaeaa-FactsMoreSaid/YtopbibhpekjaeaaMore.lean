/- The law of a rule more, walked. -/
import Derived.Test.YtopbibhpekjaeaaY0
import Derived.Deep.QuietTactic
import Derived.BigQuiet
import Derived.WalkSmall
namespace Go.Proofs.Ytopbibhpekjaeaa
open Go.RowKit

set_option maxRecDepth 100000 in
set_option maxHeartbeats 16000000 in
theorem more_walk (G : Gm) (a : Option Addr) (c : Nat) (R : Rl) (ra : Option Addr) (rc : Nat) (w : World) (hR : RAt w w.heap.size a G.rules) (hlt : G.rules.length * 32 < 140737488355328) (hK : KAt w w.heap.size ra R.rhs) :
    Calls Try.prog 9 #[.agg #[.int .i64 G.nts, .int .i64 G.start, .slice a G.rules.length c], .agg #[.int .i64 R.lhs, .slice ra R.rhs.length rc]] w fun e w' => e = .returned (.bool true) ∧ Below w.heap.size w w' := by
  obtain ⟨W0, hW0⟩ : ∃ W0, (w.alloc (.cells #[.int .i64 G.nts, .int .i64 G.start, .slice a G.rules.length c] 24)).alloc (.cells #[.int .i64 R.lhs, .slice ra R.rhs.length rc] 52) = W0 := ⟨_, rfl⟩
  have hs0 : W0.heap.size = w.heap.size + 2 := by rw [← hW0]; simp
  have hB00 : Below w.heap.size w (w.alloc (.cells #[.int .i64 G.nts, .int .i64 G.start, .slice a G.rules.length c] 24)) := (Below.refl _ _).alloc (Nat.le_refl _) _
  have hB01 : Below (w.heap.size + 1) (w.alloc (.cells #[.int .i64 G.nts, .int .i64 G.start, .slice a G.rules.length c] 24)) W0 := by rw [← hW0]; exact (Below.refl _ _).alloc (by simp) _
  have hB0 : Below w.heap.size w W0 := hB00.trans (hB01.mono (by omega))
  have c0 : W0.cell? ⟨w.heap.size, 0, none⟩ = some (.int .i64 G.nts) := (hB01.cell (p := ⟨w.heap.size, 0, none⟩) (by show w.heap.size < _; omega)).trans (cell_new 0 rfl)
  have c1 : W0.cell? ⟨w.heap.size, 1, none⟩ = some (.int .i64 G.start) := (hB01.cell (p := ⟨w.heap.size, 1, none⟩) (by show w.heap.size < _; omega)).trans (cell_new 1 rfl)
  have c2 : W0.cell? ⟨w.heap.size, 2, none⟩ = some (.slice a G.rules.length c) := (hB01.cell (p := ⟨w.heap.size, 2, none⟩) (by show w.heap.size < _; omega)).trans (cell_new 2 rfl)
  have r0 : W0.cell? ⟨w.heap.size + 1, 0, none⟩ = some (.int .i64 R.lhs) := by
    have := cell_new (w := w.alloc (.cells #[.int .i64 G.nts, .int .i64 G.start, .slice a G.rules.length c] 24)) (cs := #[.int .i64 R.lhs, .slice ra R.rhs.length rc]) (t := 52) 0 rfl
    rw [hW0] at this; simpa using this
  have r1 : W0.cell? ⟨w.heap.size + 1, 1, none⟩ = some (.slice ra R.rhs.length rc) := by
    have := cell_new (w := w.alloc (.cells #[.int .i64 G.nts, .int .i64 G.start, .slice a G.rules.length c] 24)) (cs := #[.int .i64 R.lhs, .slice ra R.rhs.length rc]) (t := 52) 1 rfl
    rw [hW0] at this; simpa using this
  have hR0 := (hR.keep hB0).mono (B' := W0.heap.size) (by omega)
  clear hB00 hB01
  have HA : Hid _ := fun W => alive_any W
  have H14 : Hid _ := fun (_ : Unit) => copyGram_any G a c W0 hR0
  obtain ⟨i0, hinf, hz0, hz1, hz2⟩ := info_parts info52
  go_enter Try.func9, Try.ntmps9
  go_wp2_with (go_at_call 14; refine (H14.out ()).mono ?_)
  rintro e W1 ⟨⟨lv, xs, rfl, hrow, hrx⟩, hb1⟩
  have hs1 := hb1.size
  have B1 := below_of hB0 hb1
  have k1 : ∀ b q, b < W0.heap.size → W1.cell? ⟨b, q, none⟩ = W0.cell? ⟨b, q, none⟩ := fun b q h => hb1.cell (p := ⟨b, q, none⟩) h
  rw [← k1 _ _ (by omega)] at c0 c1 c2 r0 r1
  clear hb1 k1 hB0 hR0 hW0 H14
  obtain ⟨la, lc, rfl⟩ := row_slice hrow
  replace hrow := row_mono hrow (B' := W0.heap.size) (by omega)
  have g2 : (W1.alloc (.cells #[.int .i64 G.nts, .int .i64 G.start, .slice la G.rules.length lc] 24)).cell? ⟨W1.heap.size, 2, none⟩ = some (.slice la G.rules.length lc) := cell_new 2 rfl
  have hBx : Below W1.heap.size W1 (W1.alloc (.cells #[.int .i64 G.nts, .int .i64 G.start, .slice la G.rules.length lc] 24)) := (Below.refl _ _).alloc (Nat.le_refl _) _
  have r0' := (hBx.cell (p := ⟨w.heap.size + 1, 0, none⟩) (by show w.heap.size + 1 < _; omega)).trans r0
  have r1' := (hBx.cell (p := ⟨w.heap.size + 1, 1, none⟩) (by show w.heap.size + 1 < _; omega)).trans r1
  have HC : Hid _ := fun g1 cap1 w2 hg hown hat => copy_more (w := w) (W0 := W0) (W1 := W1) (w2 := w2) (rs := G.rules) (R := R) (ra := ra) (rc := rc) (lv := .slice la G.rules.length lc) (xs := xs) (nts := G.nts) (start := G.start) (g1 := g1) (cap1 := cap1) B1 (by omega) hs1 hK hrow hrx hg hown hat (by omega)
  have hrow1 := (hrow.alloc (.cells #[.int .i64 G.nts, .int .i64 G.start, .slice la G.rules.length lc] 24)).alloc (.cells #[.int .i64 R.lhs, .slice ra R.rhs.length rc] 52)
  have nx : (Value.slice la G.rules.length lc).ownBlock ≠ some W1.heap.size := fun e => by have := (hrow.lt _ e).2; omega
  have hsx : (W1.alloc (.cells #[.int .i64 G.nts, .int .i64 G.start, .slice la G.rules.length lc] 24)).heap.size = W1.heap.size + 1 := by simp
  have HN : Hid (∀ j x, [Value.int .i64 R.lhs, .slice ra R.rhs.length rc][j]? = some x → ((W1.alloc (.cells #[.int .i64 G.nts, .int .i64 G.start, .slice la G.rules.length lc] 24)).alloc (.cells #[.int .i64 R.lhs, .slice ra R.rhs.length rc] 52)).cell? ((⟨W1.heap.size + 1, 0, none⟩ : Addr).add j) = some x) := by
    have h := cell_two_new (W1.alloc (.cells #[.int .i64 G.nts, .int .i64 G.start, .slice la G.rules.length lc] 24)) (.int .i64 R.lhs) (.slice ra R.rhs.length rc) 52
    rw [hsx] at h
    exact h
  have HS : Hid (∀ w2, ((W1.alloc (.cells #[.int .i64 G.nts, .int .i64 G.start, .slice la G.rules.length lc] 24)).alloc (.cells #[.int .i64 R.lhs, .slice ra R.rhs.length rc] 52)).grownBy w2 (Value.slice la G.rules.length lc).ownBlock → w2.cell? ⟨W1.heap.size, 2, none⟩ = some (.slice la G.rules.length lc) ∧ w2.frozen? ⟨W1.heap.size, 2, none⟩ = false) := fun w2 hg => by
    have hBm : Below (W1.heap.size + 1) (W1.alloc (.cells #[.int .i64 G.nts, .int .i64 G.start, .slice la G.rules.length lc] 24)) ((W1.alloc (.cells #[.int .i64 G.nts, .int .i64 G.start, .slice la G.rules.length lc] 24)).alloc (.cells #[.int .i64 R.lhs, .slice ra R.rhs.length rc] 52)) := (Below.refl _ _).alloc (by omega) _
    have hl1 : W1.heap.size < ((W1.alloc (.cells #[.int .i64 G.nts, .int .i64 G.start, .slice la G.rules.length lc] 24)).alloc (.cells #[.int .i64 R.lhs, .slice ra R.rhs.length rc] 52)).heap.size := by simp; omega
    exact ⟨(hg.cell_far ⟨W1.heap.size, 2, none⟩ hl1 (fun e => nx e.symm)).trans ((hBm.cell (p := ⟨W1.heap.size, 2, none⟩) (by show W1.heap.size < _; omega)).trans g2), (hg.frozen_far ⟨W1.heap.size, 2, none⟩ hl1 (fun e => nx e.symm)).trans ((hBm.frozen (p := ⟨W1.heap.size, 2, none⟩) (by show W1.heap.size < _; omega)).trans (World.frozen?_alloc_new _ _ _ _))⟩
  have HS0 : Hid _ := hs0
  clear hrx hrow hK hs0
  go_wp2_with (at_builtin; refine wpList_append_lies _ rfl _ _ 22 rfl W0.heap.size 52 i0 _ 2 32 Try.underlying22 hinf hz0 hz1 hz2 rfl (by decide) (.slice la G.rules.length lc) G.rules.length xs rfl hrow1 ⟨W1.heap.size + 1, 0, none⟩ 1 1 [.int .i64 R.lhs, .slice ra R.rhs.length rc] rfl rfl ?ca1 ?ca2 (by decide) ?ca3 ?ca4 ?ca5 (W1.heap.size + 1 + 1) (by simp) ?_)
  case ca1 => exact HN.out
  case ca2 => first | rfl | (intro u hu; simp at hu; rcases hu with rfl | rfl <;> rfl)
  case ca3 => unfold maxLen; omega
  case ca4 => omega
  case ca5 => simp; omega
  intro g1 cap1 w2 hown hgrow hat _
  obtain ⟨W3, hW3, d0, d1, d2, hRx, hl3, hB3⟩ := HC.out g1 cap1 w2 hgrow hown hat
  obtain ⟨q1, q2⟩ := HS.out w2 hgrow
  have hs0 := HS0.out
  clear HC HS HN hown hgrow hat hrow1 nx hsx r0' r1' g2 hBx hz0 hz1 hz2 hinf
  have gG : GB w.heap.size G a c W3 := by
    have k : ∀ q, W3.cell? ⟨w.heap.size, q, none⟩ = W1.cell? ⟨w.heap.size, q, none⟩ := fun q => hB3.cell (p := ⟨w.heap.size, q, none⟩) (by show w.heap.size < _; omega)
    have hBw := B1.trans (hB3.mono (by omega))
    exact ⟨(k 0).trans c0, (k 1).trans c1, (k 2).trans c2, (hR.keep hBw).mono hBw.size, by omega⟩
  have gX : GB W1.heap.size ⟨G.nts, G.start, G.rules ++ [R]⟩ (some ⟨g1, 0, none⟩) cap1 W3 := ⟨d0, d1, by rw [d2]; simp, hRx, hl3⟩
  have hBw := B1.trans (hB3.mono (by omega))
  have HLen : Hid ((G.rules ++ [R]).length = G.rules.length + 1) := by show _ = _; simp
  have HIn : Hid (∀ r ∈ G.rules, r ∈ G.rules ++ [R]) := fun r hr => List.mem_append_left _ hr
  have hqs : ∃ qs, G.rules ++ [R] = qs := ⟨_, rfl⟩
  obtain ⟨qs, hqs⟩ := hqs
  rw [hqs] at gX HLen HIn hRx
  rw [← HLen.out] at d2 hW3
  rw [← HLen.out]
  clear hs0
  have H11 : Hid _ := fun (_ : Unit) => heavy_any ⟨G.nts, G.start, qs⟩ (some ⟨g1, 0, none⟩) cap1 300 W3 gX.rat
  have H13 : Hid _ := fun W h => right_any ⟨G.nts, G.start, qs⟩ (some ⟨g1, 0, none⟩) cap1 W h
  clear r0 r1 c0 c1 c2 hs1 B1 hB3 hRx hl3 HS0
  go_wp2_with (go_at_call 11; refine (H11.out ()).mono ?_)
  intro e V0 h1 hb
  obtain ⟨x, rfl⟩ : ∃ x, e = .returned (.bool x) := by
    rcases h1 with h1 | h1
    · exact ⟨_, h1⟩
    · exact ⟨_, h1⟩
  clear h1
  replace hBw := below_of hBw hb
  replace gG := gG.below hb
  replace gX := gX.below hb
  clear hb H11 hW3 d0 d1 d2 q1 q2
  have c0 : V0.cell? ⟨w.heap.size, 0, none⟩ = some (.int .i64 G.nts) := gG.c0
  have c1 : V0.cell? ⟨w.heap.size, 1, none⟩ = some (.int .i64 G.start) := gG.c1
  have c2 : V0.cell? ⟨w.heap.size, 2, none⟩ = some (.slice a G.rules.length c) := gG.c2
  have d0 : V0.cell? ⟨W1.heap.size, 0, none⟩ = some (.int .i64 G.nts) := gX.c0
  have d1 : V0.cell? ⟨W1.heap.size, 1, none⟩ = some (.int .i64 G.start) := gX.c1
  have d2 : V0.cell? ⟨W1.heap.size, 2, none⟩ = some (.slice (some ⟨g1, 0, none⟩) qs.length cap1) := gX.c2
  cases x with
  | true =>
    go_wp2_with (go_at_call 12; refine (HA.out _).mono ?_)
    rintro e V1 ⟨rfl, hb⟩
    go_wp2
    go_ret
    exact ⟨rfl, below_of hBw hb⟩
  | false =>
    cases hok : Gm.okB ⟨G.nts, G.start, qs⟩ with
    | false =>
      have H13' : Hid (∀ W, RAt W W.heap.size (some ⟨g1, 0, none⟩) qs → Calls Try.prog 13 #[.agg #[.int .i64 G.nts, .int .i64 G.start, .slice (some ⟨g1, 0, none⟩) qs.length cap1]] W fun e w' => e = .returned (.int .i64 3) ∧ Below W.heap.size W w') := fun W h => by
        have := H13.out W h
        rw [hok] at this
        exact this
      clear hok H13
      go_wp2_with (go_at_call 13; refine (H13'.out _ gX.rat).mono ?_)
      rintro e V1 ⟨rfl, hb⟩
      replace hBw := below_of hBw hb
      clear hb
      go_wp2_with (go_at_call 12; refine (HA.out _).mono ?_)
      rintro e V2 ⟨rfl, hb⟩
      go_wp2
      go_ret
      exact ⟨rfl, below_of hBw hb⟩
    | true =>
      have H13' : Hid (∀ W, RAt W W.heap.size (some ⟨g1, 0, none⟩) qs → Calls Try.prog 13 #[.agg #[.int .i64 G.nts, .int .i64 G.start, .slice (some ⟨g1, 0, none⟩) qs.length cap1]] W fun e w' => e = .returned (.int .i64 0) ∧ Below W.heap.size W w') := fun W h => by
        have := H13.out W h
        rw [hok] at this
        exact this
      have hokG : G.okB = true := okB_mem (G := ⟨G.nts, G.start, qs⟩) (X := G) rfl rfl (by show G.rules.length ≤ qs.length; have := HLen.out; omega) HIn.out hok
      obtain ⟨N, S, hN, hS, hSN, hOk⟩ := ok_of hokG
      clear hS hSN
      have HNt : Hid (G.nts = (N : Int)) := hN
      have hn1 := hOk.n1
      have hn2 := hOk.n2
      have hNN : G.nts.toNat = N := by omega
      have hNX : Gm.nts ⟨G.nts, G.start, qs⟩ = G.nts := rfl
      have H19G : Hid (∀ W, RAt W W.heap.size a G.rules → Calls Try.prog 19 #[.agg #[.int .i64 (N : Int), .int .i64 G.start, .slice a G.rules.length c]] W fun e w' => (∃ v l, e = .returned (.tuple #[v, .int .i64 0]) ∧ w'.ownsRow W.heap.size 4 1 v l.length (boolsV l) ∧ MarkIs pN G l) ∧ Below W.heap.size W w') := fun W h => by
        have := Nullable_row G a c W h
        rw [← code_ok hokG] at this
        rw [← HNt.out]
        exact this
      have H19X : Hid (∀ W, RAt W W.heap.size (some ⟨g1, 0, none⟩) qs → Calls Try.prog 19 #[.agg #[.int .i64 (N : Int), .int .i64 G.start, .slice (some ⟨g1, 0, none⟩) qs.length cap1]] W fun e w' => (∃ v l, e = .returned (.tuple #[v, .int .i64 0]) ∧ w'.ownsRow W.heap.size 4 1 v l.length (boolsV l) ∧ MarkIs pN ⟨G.nts, G.start, qs⟩ l) ∧ Below W.heap.size W w') := fun W h => by
        have := Nullable_row ⟨G.nts, G.start, qs⟩ (some ⟨g1, 0, none⟩) cap1 W h
        rw [← code_ok hok] at this
        rw [← HNt.out]
        exact this
      have H21G : Hid (∀ W, RAt W W.heap.size a G.rules → Calls Try.prog 21 #[.agg #[.int .i64 (N : Int), .int .i64 G.start, .slice a G.rules.length c]] W fun e w' => (∃ v l, e = .returned (.tuple #[v, .int .i64 0]) ∧ w'.ownsRow W.heap.size 4 1 v l.length (boolsV l) ∧ MarkIs pP G l) ∧ Below W.heap.size W w') := fun W h => by
        have := Productive_row G a c W h
        rw [← code_ok hokG] at this
        rw [← HNt.out]
        exact this
      have H21X : Hid (∀ W, RAt W W.heap.size (some ⟨g1, 0, none⟩) qs → Calls Try.prog 21 #[.agg #[.int .i64 (N : Int), .int .i64 G.start, .slice (some ⟨g1, 0, none⟩) qs.length cap1]] W fun e w' => (∃ v l, e = .returned (.tuple #[v, .int .i64 0]) ∧ w'.ownsRow W.heap.size 4 1 v l.length (boolsV l) ∧ MarkIs pP ⟨G.nts, G.start, qs⟩ l) ∧ Below W.heap.size W w') := fun W h => by
        have := Productive_row ⟨G.nts, G.start, qs⟩ (some ⟨g1, 0, none⟩) cap1 W h
        rw [← code_ok hok] at this
        rw [← HNt.out]
        exact this
      have H23G : Hid (∀ W, RAt W W.heap.size a G.rules → Calls Try.prog 23 #[.agg #[.int .i64 (N : Int), .int .i64 G.start, .slice a G.rules.length c]] W fun e w' => (∃ v l, e = .returned (.tuple #[v, .int .i64 0]) ∧ w'.ownsRow W.heap.size 4 1 v l.length (boolsV l) ∧ ReachIs G l) ∧ Below W.heap.size W w') := fun W h => by
        have := Reach_row G a c W h
        rw [← code_ok hokG] at this
        rw [← HNt.out]
        exact this
      have H23X : Hid (∀ W, RAt W W.heap.size (some ⟨g1, 0, none⟩) qs → Calls Try.prog 23 #[.agg #[.int .i64 (N : Int), .int .i64 G.start, .slice (some ⟨g1, 0, none⟩) qs.length cap1]] W fun e w' => (∃ v l, e = .returned (.tuple #[v, .int .i64 0]) ∧ w'.ownsRow W.heap.size 4 1 v l.length (boolsV l) ∧ ReachIs ⟨G.nts, G.start, qs⟩ l) ∧ Below W.heap.size W w') := fun W h => by
        have := Reach_row ⟨G.nts, G.start, qs⟩ (some ⟨g1, 0, none⟩) cap1 W h
        rw [← code_ok hok] at this
        rw [← HNt.out]
        exact this
      have H29G : Hid (∀ W, RAt W W.heap.size a G.rules → Calls Try.prog 29 #[.agg #[.int .i64 (N : Int), .int .i64 G.start, .slice a G.rules.length c]] W fun e w' => (∃ v l, e = .returned (.tuple #[v, .int .i64 0]) ∧ w'.ownsRow W.heap.size 3 1 v l.length (intsZ l) ∧ ShortIs G l) ∧ Below W.heap.size W w') := fun W h => by
        have := Shortest_row G a c W h
        rw [← code_ok hokG] at this
        rw [← HNt.out]
        exact this
      have H29X : Hid (∀ W, RAt W W.heap.size (some ⟨g1, 0, none⟩) qs → Calls Try.prog 29 #[.agg #[.int .i64 (N : Int), .int .i64 G.start, .slice (some ⟨g1, 0, none⟩) qs.length cap1]] W fun e w' => (∃ v l, e = .returned (.tuple #[v, .int .i64 0]) ∧ w'.ownsRow W.heap.size 3 1 v l.length (intsZ l) ∧ ShortIs ⟨G.nts, G.start, qs⟩ l) ∧ Below W.heap.size W w') := fun W h => by
        have := Shortest_row ⟨G.nts, G.start, qs⟩ (some ⟨g1, 0, none⟩) cap1 W h
        rw [← code_ok hok] at this
        rw [← HNt.out]
        exact this
      have H33G : Hid (∀ W, RAt W W.heap.size a G.rules → Calls Try.prog 33 #[.agg #[.int .i64 (N : Int), .int .i64 G.start, .slice a G.rules.length c]] W fun e w' => (∃ x, e = .returned (.tuple #[.bool x, .int .i64 0]) ∧ CycIs G x) ∧ Below W.heap.size W w') := fun W h => by
        have := Cyclic_row G a c W h
        rw [← code_ok hokG] at this
        rw [← HNt.out]
        exact this
      have H33X : Hid (∀ W, RAt W W.heap.size (some ⟨g1, 0, none⟩) qs → Calls Try.prog 33 #[.agg #[.int .i64 (N : Int), .int .i64 G.start, .slice (some ⟨g1, 0, none⟩) qs.length cap1]] W fun e w' => (∃ x, e = .returned (.tuple #[.bool x, .int .i64 0]) ∧ CycIs ⟨G.nts, G.start, qs⟩ x) ∧ Below W.heap.size W w') := fun W h => by
        have := Cyclic_row ⟨G.nts, G.start, qs⟩ (some ⟨g1, 0, none⟩) cap1 W h
        rw [← code_ok hok] at this
        rw [← HNt.out]
        exact this
      have HM1 : Hid (∀ l m, MarkIs pN G l → MarkIs pN ⟨G.nts, G.start, qs⟩ m → l.length = N ∧ m.length = N ∧ ∀ k, l.getD k false = true → m.getD k false = true) := fun l m h1 h2 => by
        have := h1.more h2 hokG hok HIn.out
        rw [hNX, hNN] at this
        exact this
      have HM2 : Hid (∀ l m, MarkIs pP G l → MarkIs pP ⟨G.nts, G.start, qs⟩ m → l.length = N ∧ m.length = N ∧ ∀ k, l.getD k false = true → m.getD k false = true) := fun l m h1 h2 => by
        have := h1.more h2 hokG hok HIn.out
        rw [hNX, hNN] at this
        exact this
      have HM3 : Hid (∀ l m, ReachIs G l → ReachIs ⟨G.nts, G.start, qs⟩ m → l.length = N ∧ m.length = N ∧ ∀ k, l.getD k false = true → m.getD k false = true) := fun l m h1 h2 => by
        have := h1.more h2 hokG hok rfl HIn.out
        rw [hNX, hNN] at this
        exact this
      have HSh : Hid (∀ l m, ShortIs G l → ShortIs ⟨G.nts, G.start, qs⟩ m → l.length = N ∧ m.length = N ∧ ∀ x, x < N → l.getD x 0 = -1 ∨ ∃ p q : Nat, l.getD x 0 = (p : Int) ∧ m.getD x 0 = (q : Int) ∧ q ≤ p) := fun l m h1 h2 => by
        have := h1.more h2 hokG hok rfl HIn.out
        rw [hNX, hNN] at this
        exact this
      have HCy : Hid (∀ x y, CycIs G x → CycIs ⟨G.nts, G.start, qs⟩ y → x = true → y = true) := fun x y h1 h2 => h1.more h2 hokG hok rfl HIn.out
      clear hok hokG hN hOk hNN hNX H13
      go_wp2_with (go_at_call 13; refine (H13'.out _ gX.rat).mono ?_)
      rintro e V1 ⟨rfl, hb⟩
      replace hBw := below_of hBw hb
      replace gG := gG.below hb
      replace gX := gX.below hb
      clear hb H13' c0 c1 c2 d0 d1 d2
      have c0 : V1.cell? ⟨w.heap.size, 0, none⟩ = some (.int .i64 (N : Int)) := by rw [← HNt.out]; exact gG.c0
      have c1 : V1.cell? ⟨w.heap.size, 1, none⟩ = some (.int .i64 G.start) := gG.c1
      have c2 : V1.cell? ⟨w.heap.size, 2, none⟩ = some (.slice a G.rules.length c) := gG.c2
      have d0 : V1.cell? ⟨W1.heap.size, 0, none⟩ = some (.int .i64 (N : Int)) := by rw [← HNt.out]; exact gX.c0
      have d1 : V1.cell? ⟨W1.heap.size, 1, none⟩ = some (.int .i64 G.start) := gX.c1
      have d2 : V1.cell? ⟨W1.heap.size, 2, none⟩ = some (.slice (some ⟨g1, 0, none⟩) qs.length cap1) := gX.c2
      go_wp2_with (go_at_call 19; refine (H19G.out _ gG.rat).mono ?_)
      rintro e V2 ⟨⟨v2, l2, rfl, r2, i2⟩, hb⟩
      replace hBw := below_of hBw hb
      replace gG := gG.below hb
      replace gX := gX.below hb
      clear hb c0 c1 c2 d0 d1 d2
      have c0 : V2.cell? ⟨w.heap.size, 0, none⟩ = some (.int .i64 (N : Int)) := by rw [← HNt.out]; exact gG.c0
      have c1 : V2.cell? ⟨w.heap.size, 1, none⟩ = some (.int .i64 G.start) := gG.c1
      have c2 : V2.cell? ⟨w.heap.size, 2, none⟩ = some (.slice a G.rules.length c) := gG.c2
      have d0 : V2.cell? ⟨W1.heap.size, 0, none⟩ = some (.int .i64 (N : Int)) := by rw [← HNt.out]; exact gX.c0
      have d1 : V2.cell? ⟨W1.heap.size, 1, none⟩ = some (.int .i64 G.start) := gX.c1
      have d2 : V2.cell? ⟨W1.heap.size, 2, none⟩ = some (.slice (some ⟨g1, 0, none⟩) qs.length cap1) := gX.c2
      go_wp2_with (go_at_call 19; refine (H19X.out _ gX.rat).mono ?_)
      rintro e V3 ⟨⟨v3, l3, rfl, r3, i3⟩, hb⟩
      replace hBw := below_of hBw hb
      replace gG := gG.below hb
      replace gX := gX.below hb
      replace r2 := row_below r2 hb
      clear hb c0 c1 c2 d0 d1 d2
      have c0 : V3.cell? ⟨w.heap.size, 0, none⟩ = some (.int .i64 (N : Int)) := by rw [← HNt.out]; exact gG.c0
      have c1 : V3.cell? ⟨w.heap.size, 1, none⟩ = some (.int .i64 G.start) := gG.c1
      have c2 : V3.cell? ⟨w.heap.size, 2, none⟩ = some (.slice a G.rules.length c) := gG.c2
      have d0 : V3.cell? ⟨W1.heap.size, 0, none⟩ = some (.int .i64 (N : Int)) := by rw [← HNt.out]; exact gX.c0
      have d1 : V3.cell? ⟨W1.heap.size, 1, none⟩ = some (.int .i64 G.start) := gX.c1
      have d2 : V3.cell? ⟨W1.heap.size, 2, none⟩ = some (.slice (some ⟨g1, 0, none⟩) qs.length cap1) := gX.c2
      go_wp2_with (go_at_call 21; refine (H21G.out _ gG.rat).mono ?_)
      rintro e V4 ⟨⟨v4, l4, rfl, r4, i4⟩, hb⟩
      replace hBw := below_of hBw hb
      replace gG := gG.below hb
      replace gX := gX.below hb
      replace r2 := row_below r2 hb
      replace r3 := row_below r3 hb
      clear hb c0 c1 c2 d0 d1 d2
      have c0 : V4.cell? ⟨w.heap.size, 0, none⟩ = some (.int .i64 (N : Int)) := by rw [← HNt.out]; exact gG.c0
      have c1 : V4.cell? ⟨w.heap.size, 1, none⟩ = some (.int .i64 G.start) := gG.c1
      have c2 : V4.cell? ⟨w.heap.size, 2, none⟩ = some (.slice a G.rules.length c) := gG.c2
      have d0 : V4.cell? ⟨W1.heap.size, 0, none⟩ = some (.int .i64 (N : Int)) := by rw [← HNt.out]; exact gX.c0
      have d1 : V4.cell? ⟨W1.heap.size, 1, none⟩ = some (.int .i64 G.start) := gX.c1
      have d2 : V4.cell? ⟨W1.heap.size, 2, none⟩ = some (.slice (some ⟨g1, 0, none⟩) qs.length cap1) := gX.c2
      go_wp2_with (go_at_call 21; refine (H21X.out _ gX.rat).mono ?_)
      rintro e V5 ⟨⟨v5, l5, rfl, r5, i5⟩, hb⟩
      replace hBw := below_of hBw hb
      replace gG := gG.below hb
      replace gX := gX.below hb
      replace r2 := row_below r2 hb
      replace r3 := row_below r3 hb
      replace r4 := row_below r4 hb
      clear hb c0 c1 c2 d0 d1 d2
      have c0 : V5.cell? ⟨w.heap.size, 0, none⟩ = some (.int .i64 (N : Int)) := by rw [← HNt.out]; exact gG.c0
      have c1 : V5.cell? ⟨w.heap.size, 1, none⟩ = some (.int .i64 G.start) := gG.c1
      have c2 : V5.cell? ⟨w.heap.size, 2, none⟩ = some (.slice a G.rules.length c) := gG.c2
      have d0 : V5.cell? ⟨W1.heap.size, 0, none⟩ = some (.int .i64 (N : Int)) := by rw [← HNt.out]; exact gX.c0
      have d1 : V5.cell? ⟨W1.heap.size, 1, none⟩ = some (.int .i64 G.start) := gX.c1
      have d2 : V5.cell? ⟨W1.heap.size, 2, none⟩ = some (.slice (some ⟨g1, 0, none⟩) qs.length cap1) := gX.c2
      go_wp2_with (go_at_call 23; refine (H23G.out _ gG.rat).mono ?_)
      rintro e V6 ⟨⟨v6, l6, rfl, r6, i6⟩, hb⟩
      replace hBw := below_of hBw hb
      replace gG := gG.below hb
      replace gX := gX.below hb
      replace r2 := row_below r2 hb
      replace r3 := row_below r3 hb
      replace r4 := row_below r4 hb
      replace r5 := row_below r5 hb
      clear hb c0 c1 c2 d0 d1 d2
      have c0 : V6.cell? ⟨w.heap.size, 0, none⟩ = some (.int .i64 (N : Int)) := by rw [← HNt.out]; exact gG.c0
      have c1 : V6.cell? ⟨w.heap.size, 1, none⟩ = some (.int .i64 G.start) := gG.c1
      have c2 : V6.cell? ⟨w.heap.size, 2, none⟩ = some (.slice a G.rules.length c) := gG.c2
      have d0 : V6.cell? ⟨W1.heap.size, 0, none⟩ = some (.int .i64 (N : Int)) := by rw [← HNt.out]; exact gX.c0
      have d1 : V6.cell? ⟨W1.heap.size, 1, none⟩ = some (.int .i64 G.start) := gX.c1
      have d2 : V6.cell? ⟨W1.heap.size, 2, none⟩ = some (.slice (some ⟨g1, 0, none⟩) qs.length cap1) := gX.c2
      go_wp2_with (go_at_call 23; refine (H23X.out _ gX.rat).mono ?_)
      rintro e V7 ⟨⟨v7, l7, rfl, r7, i7⟩, hb⟩
      replace hBw := below_of hBw hb
      replace gG := gG.below hb
      replace gX := gX.below hb
      replace r2 := row_below r2 hb
      replace r3 := row_below r3 hb
      replace r4 := row_below r4 hb
      replace r5 := row_below r5 hb
      replace r6 := row_below r6 hb
      clear hb c0 c1 c2 d0 d1 d2
      have c0 : V7.cell? ⟨w.heap.size, 0, none⟩ = some (.int .i64 (N : Int)) := by rw [← HNt.out]; exact gG.c0
      have c1 : V7.cell? ⟨w.heap.size, 1, none⟩ = some (.int .i64 G.start) := gG.c1
      have c2 : V7.cell? ⟨w.heap.size, 2, none⟩ = some (.slice a G.rules.length c) := gG.c2
      have d0 : V7.cell? ⟨W1.heap.size, 0, none⟩ = some (.int .i64 (N : Int)) := by rw [← HNt.out]; exact gX.c0
      have d1 : V7.cell? ⟨W1.heap.size, 1, none⟩ = some (.int .i64 G.start) := gX.c1
      have d2 : V7.cell? ⟨W1.heap.size, 2, none⟩ = some (.slice (some ⟨g1, 0, none⟩) qs.length cap1) := gX.c2
      obtain ⟨e2, e3, h23⟩ := HM1.out _ _ i2 i3
      obtain ⟨e4, e5, h45⟩ := HM2.out _ _ i4 i5
      obtain ⟨e6, e7, h67⟩ := HM3.out _ _ i6 i7
      rw [e2] at r2
      rw [e3] at r3
      rw [e4] at r4
      rw [e5] at r5
      rw [e6] at r6
      rw [e7] at r7
      obtain ⟨a2, cc2, rfl⟩ := row_slice r2
      have H36a : Hid _ := fun (_ : Unit) => less_rows r2 r3 (by omega) h23
      clear i2 i3 i4 i5 i6 i7 e2 e3 e4 e5 e6 e7
      go_wp2_with (go_at_call 36; refine (H36a.out ()).mono ?_)
      rintro e V8 ⟨rfl, hb⟩
      replace hBw := below_of hBw hb
      replace gG := gG.below hb
      replace gX := gX.below hb
      replace r4 := row_below r4 hb
      replace r5 := row_below r5 hb
      replace r6 := row_below r6 hb
      replace r7 := row_below r7 hb
      have H36b : Hid _ := fun (_ : Unit) => less_rows r4 r5 (by omega) h45
      clear hb c0 c1 c2 d0 d1 d2 H36a r2 r3
      have c0 : V8.cell? ⟨w.heap.size, 0, none⟩ = some (.int .i64 (N : Int)) := by rw [← HNt.out]; exact gG.c0
      have c1 : V8.cell? ⟨w.heap.size, 1, none⟩ = some (.int .i64 G.start) := gG.c1
      have c2 : V8.cell? ⟨w.heap.size, 2, none⟩ = some (.slice a G.rules.length c) := gG.c2
      have d0 : V8.cell? ⟨W1.heap.size, 0, none⟩ = some (.int .i64 (N : Int)) := by rw [← HNt.out]; exact gX.c0
      have d1 : V8.cell? ⟨W1.heap.size, 1, none⟩ = some (.int .i64 G.start) := gX.c1
      have d2 : V8.cell? ⟨W1.heap.size, 2, none⟩ = some (.slice (some ⟨g1, 0, none⟩) qs.length cap1) := gX.c2
      go_wp2_with (go_at_call 36; refine (H36b.out ()).mono ?_)
      rintro e V9 ⟨rfl, hb⟩
      replace hBw := below_of hBw hb
      replace gG := gG.below hb
      replace gX := gX.below hb
      replace r6 := row_below r6 hb
      replace r7 := row_below r7 hb
      have H36c : Hid _ := fun (_ : Unit) => less_rows r6 r7 (by omega) h67
      clear hb c0 c1 c2 d0 d1 d2 H36b r4 r5
      have c0 : V9.cell? ⟨w.heap.size, 0, none⟩ = some (.int .i64 (N : Int)) := by rw [← HNt.out]; exact gG.c0
      have c1 : V9.cell? ⟨w.heap.size, 1, none⟩ = some (.int .i64 G.start) := gG.c1
      have c2 : V9.cell? ⟨w.heap.size, 2, none⟩ = some (.slice a G.rules.length c) := gG.c2
      have d0 : V9.cell? ⟨W1.heap.size, 0, none⟩ = some (.int .i64 (N : Int)) := by rw [← HNt.out]; exact gX.c0
      have d1 : V9.cell? ⟨W1.heap.size, 1, none⟩ = some (.int .i64 G.start) := gX.c1
      have d2 : V9.cell? ⟨W1.heap.size, 2, none⟩ = some (.slice (some ⟨g1, 0, none⟩) qs.length cap1) := gX.c2
      go_wp2_with (go_at_call 36; refine (H36c.out ()).mono ?_)
      rintro e V10 ⟨rfl, hb⟩
      replace hBw := below_of hBw hb
      replace gG := gG.below hb
      replace gX := gX.below hb
      clear hb c0 c1 c2 d0 d1 d2 H36c r6 r7
      have c0 : V10.cell? ⟨w.heap.size, 0, none⟩ = some (.int .i64 (N : Int)) := by rw [← HNt.out]; exact gG.c0
      have c1 : V10.cell? ⟨w.heap.size, 1, none⟩ = some (.int .i64 G.start) := gG.c1
      have c2 : V10.cell? ⟨w.heap.size, 2, none⟩ = some (.slice a G.rules.length c) := gG.c2
      have d0 : V10.cell? ⟨W1.heap.size, 0, none⟩ = some (.int .i64 (N : Int)) := by rw [← HNt.out]; exact gX.c0
      have d1 : V10.cell? ⟨W1.heap.size, 1, none⟩ = some (.int .i64 G.start) := gX.c1
      have d2 : V10.cell? ⟨W1.heap.size, 2, none⟩ = some (.slice (some ⟨g1, 0, none⟩) qs.length cap1) := gX.c2
      go_wp2_with (go_at_call 29; refine (H29G.out _ gG.rat).mono ?_)
      rintro e V11 ⟨⟨v11, l11, rfl, r11, i11⟩, hb⟩
      replace hBw := below_of hBw hb
      replace gG := gG.below hb
      replace gX := gX.below hb
      clear hb c0 c1 c2 d0 d1 d2
      have c0 : V11.cell? ⟨w.heap.size, 0, none⟩ = some (.int .i64 (N : Int)) := by rw [← HNt.out]; exact gG.c0
      have c1 : V11.cell? ⟨w.heap.size, 1, none⟩ = some (.int .i64 G.start) := gG.c1
      have c2 : V11.cell? ⟨w.heap.size, 2, none⟩ = some (.slice a G.rules.length c) := gG.c2
      have d0 : V11.cell? ⟨W1.heap.size, 0, none⟩ = some (.int .i64 (N : Int)) := by rw [← HNt.out]; exact gX.c0
      have d1 : V11.cell? ⟨W1.heap.size, 1, none⟩ = some (.int .i64 G.start) := gX.c1
      have d2 : V11.cell? ⟨W1.heap.size, 2, none⟩ = some (.slice (some ⟨g1, 0, none⟩) qs.length cap1) := gX.c2
      go_wp2_with (go_at_call 29; refine (H29X.out _ gX.rat).mono ?_)
      rintro e V12 ⟨⟨v12, l12, rfl, r12, i12⟩, hb⟩
      replace hBw := below_of hBw hb
      replace gG := gG.below hb
      replace gX := gX.below hb
      replace r11 := row_below r11 hb
      clear hb c0 c1 c2 d0 d1 d2
      have c0 : V12.cell? ⟨w.heap.size, 0, none⟩ = some (.int .i64 (N : Int)) := by rw [← HNt.out]; exact gG.c0
      have c1 : V12.cell? ⟨w.heap.size, 1, none⟩ = some (.int .i64 G.start) := gG.c1
      have c2 : V12.cell? ⟨w.heap.size, 2, none⟩ = some (.slice a G.rules.length c) := gG.c2
      have d0 : V12.cell? ⟨W1.heap.size, 0, none⟩ = some (.int .i64 (N : Int)) := by rw [← HNt.out]; exact gX.c0
      have d1 : V12.cell? ⟨W1.heap.size, 1, none⟩ = some (.int .i64 G.start) := gX.c1
      have d2 : V12.cell? ⟨W1.heap.size, 2, none⟩ = some (.slice (some ⟨g1, 0, none⟩) qs.length cap1) := gX.c2
      obtain ⟨e1, e2, hsh⟩ := HSh.out _ _ i11 i12
      rw [e1] at r11
      rw [e2] at r12
      obtain ⟨g7, cc7, rfl, _, hg7⟩ := row_at r11 (by omega)
      obtain ⟨g8, cc8, rfl, _, hg8⟩ := row_at r12 (by omega)
      have HSH : Hid _ := hsh
      have HR7 : Hid (∀ W, Below V12.heap.size V12 W → ∀ k, k < N → W.cell? ⟨g7, k, none⟩ = some (.int .i64 (l11.getD k 0))) := fun W hb k hk => z_cell (row_below r11 hb) hk
      have HR8 : Hid (∀ W, Below V12.heap.size V12 W → ∀ k, k < N → W.cell? ⟨g8, k, none⟩ = some (.int .i64 (l12.getD k 0))) := fun W hb k hk => z_cell (row_below r12 hb) hk
      clear e1 e2 hsh i11 i12 r11 r12
      go_wp2
      go_loopw [22] (fun iv W => ∃ k : Nat, k ≤ N ∧ iv = .int .i64 k ∧ Below V12.heap.size V12 W) (fun iv _ => N - (intOf iv).toNat)
      case atStart => exact ⟨0, by omega, rfl, Below.refl _ _⟩
      case round =>
        obtain ⟨k, hk, rfl, hB⟩ := hrel
        replace hBw := below_of hBw hB
        replace gG := gG.below hB
        replace gX := gX.below hB
        clear c0 c1 c2 d0 d1 d2
        have c0 : wr.cell? ⟨w.heap.size, 0, none⟩ = some (.int .i64 (N : Int)) := by rw [← HNt.out]; exact gG.c0
        have c1 : wr.cell? ⟨w.heap.size, 1, none⟩ = some (.int .i64 G.start) := gG.c1
        have c2 : wr.cell? ⟨w.heap.size, 2, none⟩ = some (.slice a G.rules.length c) := gG.c2
        have d0 : wr.cell? ⟨W1.heap.size, 0, none⟩ = some (.int .i64 (N : Int)) := by rw [← HNt.out]; exact gX.c0
        have d1 : wr.cell? ⟨W1.heap.size, 1, none⟩ = some (.int .i64 G.start) := gX.c1
        have d2 : wr.cell? ⟨W1.heap.size, 2, none⟩ = some (.slice (some ⟨g1, 0, none⟩) qs.length cap1) := gX.c2
        by_cases hlt : k < N
        · have hkI : (k : Int) < N := by omega
          have t7 := HR7.out wr hB k hlt
          have t8 := HR8.out wr hB k hlt
          rcases HSH.out k hlt with h1 | ⟨p, q, h1, h2, hqp⟩
          · rw [h1] at t7
            clear h1 t8 c1 c2 d0 d1 d2
            go_wp2
            go_big_quiet (fail)
            go_wp2
            exact ⟨⟨k + 1, by omega, by go_num, below_drewN hB _⟩, by simp [intOf]; omega⟩
          · rw [h1] at t7
            rw [h2] at t8
            have hd : decide (p < q) = false := by simp; omega
            have hq0 : decide ((q : Int) < 0) = false := by simp
            clear h1 h2 hqp c1 c2 d0 d1 d2
            go_wp2
            go_big_quiet (fail)
            go_wp2
            exact ⟨⟨k + 1, by omega, by go_num, below_drewN hB _⟩, by simp [intOf]; omega⟩
        · obtain rfl : k = N := by omega
          go_wp2_with (go_at_call 33; refine (H33G.out _ gG.rat).mono ?_)
          rintro e V13 ⟨⟨x, rfl, ix⟩, hb⟩
          replace hBw := below_of hBw hb
          replace gG := gG.below hb
          replace gX := gX.below hb
          clear hb c0 c1 c2 d0 d1 d2
          have c0 : V13.cell? ⟨w.heap.size, 0, none⟩ = some (.int .i64 (k : Int)) := by rw [← HNt.out]; exact gG.c0
          have c1 : V13.cell? ⟨w.heap.size, 1, none⟩ = some (.int .i64 G.start) := gG.c1
          have c2 : V13.cell? ⟨w.heap.size, 2, none⟩ = some (.slice a G.rules.length c) := gG.c2
          have d0 : V13.cell? ⟨W1.heap.size, 0, none⟩ = some (.int .i64 (k : Int)) := by rw [← HNt.out]; exact gX.c0
          have d1 : V13.cell? ⟨W1.heap.size, 1, none⟩ = some (.int .i64 G.start) := gX.c1
          have d2 : V13.cell? ⟨W1.heap.size, 2, none⟩ = some (.slice (some ⟨g1, 0, none⟩) qs.length cap1) := gX.c2
          go_wp2_with (go_at_call 33; refine (H33X.out _ gX.rat).mono ?_)
          rintro e V14 ⟨⟨y, rfl, iy⟩, hb⟩
          replace hBw := below_of hBw hb
          have hxy := HCy.out _ _ ix iy
          clear hb c0 c1 c2 d0 d1 d2 ix iy
          cases x with
          | false =>
            clear hxy
            go_wp2_with (go_at_call 12; refine (HA.out _).mono ?_)
            rintro e V15 ⟨rfl, hb⟩
            go_wp2
            go_ret
            exact ⟨rfl, below_of hBw hb⟩
          | true =>
            obtain rfl := hxy rfl
            clear hxy
            go_wp2_with (go_at_call 12; refine (HA.out _).mono ?_)
            rintro e V15 ⟨rfl, hb⟩
            go_wp2
            go_ret
            exact ⟨rfl, below_of hBw hb⟩
end Go.Proofs.Ytopbibhpekjaeaa
