/- Which grammars are right, by the document's own answer. -/
import Derived.Test.YtlnlkbkmnkjbhaaDoorGb
namespace Go.Proofs.YtlnlkbkmnkjbhaaDoor
open Go.RowKit


set_option maxRecDepth 100000 in
set_option maxHeartbeats 8000000 in
theorem grefRight_any (G : Gm) (a : Option Addr) (c : Nat) (w : World) (hR : RAt w w.heap.size a G.rules) :
    Calls Tryd.prog 41 #[.agg #[.int .i64 G.nts, .int .i64 G.start, .slice a G.rules.length c]] w fun e w' => e = .returned (.int .i64 (if G.okB then 0 else 3)) ∧ Below w.heap.size w w' := by
  have hlen := hR.len
  obtain ⟨res, HR⟩ : ∃ res : Int, Hid ((if G.okB then 0 else 3) = res) := ⟨_, rfl⟩
  rw [HR.out]
  have H0 : Hid (G.okB = true → res = 0) := fun h => by rw [← HR.out, h]; rfl
  have H3 : Hid (G.okB = false → res = 3) := fun h => by rw [← HR.out, h]; rfl
  clear HR
  obtain ⟨W0, hW0⟩ : ∃ W0, w.alloc (.cells #[.int .i64 G.nts, .int .i64 G.start, .slice a G.rules.length c] 24) = W0 := ⟨_, rfl⟩
  have hs0 : W0.heap.size = w.heap.size + 1 := by rw [← hW0]; simp
  have hB0 : Below w.heap.size w W0 := by rw [← hW0]; exact (Below.refl _ _).alloc (Nat.le_refl _) _
  have c0 : W0.cell? ⟨w.heap.size, 0, none⟩ = some (.int .i64 G.nts) := by rw [← hW0]; exact cell_new 0 rfl
  have c1 : W0.cell? ⟨w.heap.size, 1, none⟩ = some (.int .i64 G.start) := by rw [← hW0]; exact cell_new 1 rfl
  have c2 : W0.cell? ⟨w.heap.size, 2, none⟩ = some (.slice a G.rules.length c) := by rw [← hW0]; exact cell_new 2 rfl
  by_cases h1 : G.nts < 1
  · have HN : Hid (G.okB = false) := by show _ = _; unfold Gm.okB; simp [show ¬ 1 ≤ G.nts by omega]
    go_enter Tryd.func41, Tryd.ntmps41
    go_wp2
    go_ret
    exact ⟨by rw [H3.out HN.out]; rfl, hB0⟩
  have h1' : decide (G.nts < 1) = false := by simp; omega
  by_cases h2 : 4096 < G.nts
  · have HN : Hid (G.okB = false) := by show _ = _; unfold Gm.okB; simp [show ¬ G.nts ≤ 4096 by omega]
    go_enter Tryd.func41, Tryd.ntmps41
    go_wp2
    go_ret
    exact ⟨by rw [H3.out HN.out]; rfl, hB0⟩
  have h2' : decide (4096 < G.nts) = false := by simp; omega
  by_cases h3 : G.start < 0
  · have HN : Hid (G.okB = false) := by show _ = _; unfold Gm.okB isN; simp [show ¬ 0 ≤ G.start by omega]
    go_enter Tryd.func41, Tryd.ntmps41
    go_wp2
    go_ret
    exact ⟨by rw [H3.out HN.out]; rfl, hB0⟩
  have h3' : decide (G.start < 0) = false := by simp; omega
  by_cases h5 : G.nts ≤ G.start
  · have HN : Hid (G.okB = false) := by show _ = _; unfold Gm.okB isN; simp [show ¬ G.start < G.nts by omega]
    go_enter Tryd.func41, Tryd.ntmps41
    go_wp2
    go_ret
    exact ⟨by rw [H3.out HN.out]; rfl, hB0⟩
  have h5' : decide (G.nts ≤ G.start) = false := by simp; omega
  by_cases h4 : 8192 < G.rules.length
  · have HN : Hid (G.okB = false) := by show _ = _; unfold Gm.okB; simp [show ¬ G.rules.length ≤ 8192 by omega]
    have h4' : (8192 : Int) < G.rules.length := by omega
    go_enter Tryd.func41, Tryd.ntmps41
    go_wp2
    go_ret
    exact ⟨by rw [H3.out HN.out]; rfl, hB0⟩
  have h4' : decide ((8192 : Int) < G.rules.length) = false := by simp; omega
  have HO : Hid (G.okB = G.rules.all (Rl.okB G.nts)) := by
    show _ = _
    unfold Gm.okB isN; simp [show 1 ≤ G.nts by omega, show G.nts ≤ 4096 by omega, show 0 ≤ G.start by omega, show G.start < G.nts by omega, show G.rules.length ≤ 8192 by omega]
  rw [HO.out] at H0 H3
  clear HO
  go_enter Tryd.func41, Tryd.ntmps41
  go_wp2
  clear hW0 c1 h1' h2' h3' h5' h4'
  go_loopw [3] (fun iv W => ∃ k : Nat, k ≤ G.rules.length ∧ iv = .int .i64 k ∧ (G.rules.take k).all (Rl.okB G.nts) = true ∧ Below W0.heap.size W0 W) (fun iv _ => G.rules.length - (intOf iv).toNat)
  case atStart => exact ⟨0, by omega, rfl, rfl, Below.refl _ _⟩
  case round =>
    obtain ⟨k, hk, rfl, ha, hB⟩ := hrel
    have hBw : Below w.heap.size w wr := hB0.trans (hB.mono (by omega))
    have hsz := hB.size
    have d0 := (hB.cell (p := ⟨w.heap.size, 0, none⟩) (by simp; omega)).trans c0
    have d2 := (hB.cell (p := ⟨w.heap.size, 2, none⟩) (by simp; omega)).trans c2
    by_cases hlt : k < G.rules.length
    · obtain ⟨r, hr⟩ : ∃ r, G.rules[k]? = some r := ⟨G.rules[k], by simp [hlt]⟩
      obtain ⟨b, o, sa, sc, rfl, hb, hK, e0, e1⟩ := (hR.keep hBw).cells k r hr
      have hkl := hK.len
      have hkI : (k : Int) < G.rules.length := by omega
      have HA : Hid (Rl.okB G.nts r = false → G.rules.all (Rl.okB G.nts) = false) := fun h => by
        cases hx : G.rules.all (Rl.okB G.nts)
        · rfl
        · exact absurd (List.all_eq_true.1 hx r (List.mem_of_getElem? hr)) (by simp [h])
      have HT : Hid (Rl.okB G.nts r = true → (G.rules.take (k + 1)).all (Rl.okB G.nts) = true) := fun h => by rw [List.take_add_one, hr]; simpa [ha] using h
      obtain ⟨W1, hW1⟩ : ∃ W1, wr.alloc (.cells #[.int .i64 r.lhs, .slice sa r.rhs.length sc] 61) = W1 := ⟨_, rfl⟩
      have hB1 : Below wr.heap.size wr W1 := by rw [← hW1]; exact (Below.refl _ _).alloc (Nat.le_refl _) _
      have hs1 : W1.heap.size = wr.heap.size + 1 := by rw [← hW1]; simp
      have f0 : W1.cell? ⟨w.heap.size, 0, none⟩ = some (.int .i64 G.nts) := (hB1.cell (p := ⟨w.heap.size, 0, none⟩) (by simp; omega)).trans d0
      have f2 : W1.cell? ⟨wr.heap.size, 0, none⟩ = some (.int .i64 r.lhs) := by rw [← hW1]; exact cell_new 0 rfl
      have f3 : W1.cell? ⟨wr.heap.size, 1, none⟩ = some (.slice sa r.rhs.length sc) := by rw [← hW1]; exact cell_new 1 rfl
      have hBF : Below w.heap.size w W1 := hBw.trans (hB1.mono (by omega))
      have hB2 : Below W0.heap.size W0 W1 := hB.trans (hB1.mono (by omega))
      have hK1 := (hK.keep (hB1.mono (by omega))).mono (B' := W1.heap.size) (by omega)
      have HL : Hid (Rl.okB G.nts r = (isN G.nts r.lhs && decide (r.rhs.length ≤ 80) && r.rhs.all (Ks.okB G.nts))) := rfl
      have z0 : w.heap.size < W1.heap.size := by omega
      clear ha hr hR hB0 hK
      by_cases g1 : r.lhs < 0
      · have HNO : Hid _ := HA.out (by rw [HL.out]; unfold isN; simp [show ¬ 0 ≤ r.lhs by omega])
        clear HA HT HL
        go_wp2
        go_ret
        exact ⟨by rw [H3.out HNO.out]; rfl, hBF⟩
      have g1' : decide (r.lhs < 0) = false := by simp; omega
      by_cases g2 : G.nts ≤ r.lhs
      · have HNO : Hid _ := HA.out (by rw [HL.out]; unfold isN; simp [show ¬ r.lhs < G.nts by omega])
        clear HA HT HL
        go_wp2
        go_ret
        exact ⟨by rw [H3.out HNO.out]; rfl, hBF⟩
      have g2' : decide (G.nts ≤ r.lhs) = false := by simp; omega
      by_cases g3 : 80 < r.rhs.length
      · have HNO : Hid _ := HA.out (by rw [HL.out, decide_eq_false (show ¬ r.rhs.length ≤ 80 by omega)]; simp)
        have g3' : (80 : Int) < r.rhs.length := by omega
        clear HA HT HL
        go_wp2
        go_ret
        exact ⟨by rw [H3.out HNO.out]; rfl, hBF⟩
      have g3' : decide ((80 : Int) < r.rhs.length) = false := by simp; omega
      have HL2 : Hid (Rl.okB G.nts r = r.rhs.all (Ks.okB G.nts)) := by
        show _ = _
        rw [HL.out]; unfold isN; simp [show 0 ≤ r.lhs by omega, show r.lhs < G.nts by omega, show r.rhs.length ≤ 80 by omega]
      rw [HL2.out] at HA HT
      clear HL HL2
      go_wp2
      clear g1' g2' g3' e0 e1
      go_loopw [5] (fun jv W => ∃ j : Nat, j ≤ r.rhs.length ∧ jv = .int .i64 j ∧ (r.rhs.take j).all (Ks.okB G.nts) = true ∧ Below W1.heap.size W1 W) (fun jv _ => r.rhs.length - (intOf jv).toNat)
      case atStart => exact ⟨0, by omega, rfl, rfl, Below.refl _ _⟩
      case round =>
        obtain ⟨j, hj, rfl, ha, hBi⟩ := hrel
        have hszi := hBi.size
        have q3 := (hBi.cell (by rw [hs1]; exact Nat.lt_succ_self _)).trans f3
        have q0 := (hBi.cell (p := ⟨w.heap.size, 0, none⟩) z0).trans f0
        by_cases hlt2 : j < r.rhs.length
        · obtain ⟨s, hs⟩ : ∃ s, r.rhs[j]? = some s := ⟨r.rhs[j], by simp [hlt2]⟩
          obtain ⟨b2, o2, rfl, hb2, hso, k0, k1, k2, k3, k4⟩ := (hK1.keep hBi).cells j s hs
          have hjI : (j : Int) < r.rhs.length := by omega
          have HA2 : Hid (Ks.okB G.nts s = false → r.rhs.all (Ks.okB G.nts) = false) := fun h => by
            cases hx : r.rhs.all (Ks.okB G.nts)
            · rfl
            · exact absurd (List.all_eq_true.1 hx s (List.mem_of_getElem? hs)) (by simp [h])
          have HT2 : Hid (Ks.okB G.nts s = true → (r.rhs.take (j + 1)).all (Ks.okB G.nts) = true) := fun h => by rw [List.take_add_one, hs]; simpa [ha] using h
          clear ha hs
          have he := fun w => eq49z s.set w
          have hB3 := hBi.alloc hszi (.cells #[.int .i64 s.nt, .int .u64 s.set.a, .int .u64 s.set.b, .int .u64 s.set.c, .int .u64 s.set.d] 71)
          have hBF3 := hBF.trans (hB3.mono hBF.size)
          have z1 : w.heap.size < wr.heap.size := by omega
          by_cases n1 : s.nt = -1
          · have hyes := HT2.out (by unfold Ks.okB; simp [n1])
            have n1' : (s.nt != -1) = false := by simp [n1]
            rw [n1] at k0 hB3
            go_wp2
            exact ⟨⟨j + 1, by omega, by go_num, hyes, hB3⟩, by simp [intOf]; omega⟩
          have n1' : (s.nt == -1) = false := by simp [n1]
          by_cases n2 : s.nt < 0
          · have HNO : Hid _ := HA.out (HA2.out (by unfold Ks.okB isN; simp [n1, show ¬ 0 ≤ s.nt by omega]))
            clear HA HT HA2 HT2
            go_wp2
            go_ret
            exact ⟨by rw [H3.out HNO.out]; rfl, hBF3⟩
          have n2' : decide (s.nt < 0) = false := by simp; omega
          by_cases n3 : G.nts ≤ s.nt
          · have HNO : Hid _ := HA.out (HA2.out (by unfold Ks.okB isN; simp [n1, show ¬ s.nt < G.nts by omega]))
            clear HA HT HA2 HT2
            go_wp2
            go_ret
            exact ⟨by rw [H3.out HNO.out]; rfl, hBF3⟩
          have n3' : decide (G.nts ≤ s.nt) = false := by simp; omega
          have HL : Hid (Ks.okB G.nts s = s.set.same St.zero) := by
            show _ = _
            unfold Ks.okB isN; simp [n1, show 0 ≤ s.nt by omega, show s.nt < G.nts by omega]
          rw [HL.out] at HA2 HT2
          generalize s.set.same St.zero = z at *
          cases z with
          | true =>
            have hyes := HT2.out rfl
            go_wp2
            exact ⟨⟨j + 1, by omega, by go_num, hyes, hB3⟩, by simp [intOf]; omega⟩
          | false =>
            have HNO : Hid _ := HA.out (HA2.out rfl)
            clear HA HT HA2 HT2
            go_wp2
            go_ret
            exact ⟨by rw [H3.out HNO.out]; rfl, hBF3⟩
        · obtain rfl : j = r.rhs.length := by omega
          rw [List.take_length] at ha
          have hyes := HT.out ha
          clear ha
          go_wp2
          exact ⟨⟨k + 1, by omega, by go_num, hyes, hB2.trans (hBi.mono hB2.size)⟩, by simp [intOf]; omega⟩
    · obtain rfl : k = G.rules.length := by omega
      rw [List.take_length] at ha
      have HA1 : Hid _ := ha
      clear ha
      go_wp2
      go_ret
      exact ⟨by rw [H0.out HA1.out]; rfl, hBw⟩
end Go.Proofs.YtlnlkbkmnkjbhaaDoor
