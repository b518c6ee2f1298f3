/- Which grammars and which trees are right, by the document's own answer. -/
import Derived.Test.YtlnlkbkmnkjbhaaDoorGb
import Derived.Test.YtlnlkbkmnkjbhaaDoorGi
import Derived.Deep.QuietTactic
import Derived.BigQuiet
import Derived.Deep.RegionWith
import Derived.Deep.RegionHeld3
import Derived.Test.YtlnlkbkmnkjbhaaDoorGj
namespace Go.Proofs.YtlnlkbkmnkjbhaaDoor
open Go.RowKit

set_option maxRecDepth 100000 in
set_option maxHeartbeats 8000000 in
theorem grefRight_any (G : Gm) (a : Option Addr) (c : Nat) (w : World) (hR : RAt w w.heap.size a G.rules) :
    Calls Tryd.prog 41 #[.agg #[.int .i64 G.nts, .int .i64 G.start, .slice a G.rules.length c]] w fun e w' => e = .returned (.int .i64 (if G.okB then 0 else 3)) ∧ Below w.heap.size w w' := by
  have hlen := hR.len
  obtain ⟨res, HR⟩ : ∃ res : Int, Hid ((if G.okB then 0 else 3) = res) := ⟨_, rfl⟩
  rw [HR.out]
  have H0 : Hid (G.okB = true → res = 0) := fun h => by rw [← HR.out, h]; rfl
  have H3 : Hid (G.okB = false → res = 3) := fun h => by rw [← HR.out, h]; rfl
  clear HR
  obtain ⟨W0, hW0⟩ : ∃ W0, w.alloc (.cells #[.int .i64 G.nts, .int .i64 G.start, .slice a G.rules.length c] 24) = W0 := ⟨_, rfl⟩
  have hs0 : W0.heap.size = w.heap.size + 1 := by rw [← hW0]; simp
  have hB0 : Below w.heap.size w W0 := by rw [← hW0]; exact (Below.refl _ _).alloc (Nat.le_refl _) _
  have c0 : W0.cell? ⟨w.heap.size, 0, none⟩ = some (.int .i64 G.nts) := by rw [← hW0]; exact cell_new 0 rfl
  have c1 : W0.cell? ⟨w.heap.size, 1, none⟩ = some (.int .i64 G.start) := by rw [← hW0]; exact cell_new 1 rfl
  have c2 : W0.cell? ⟨w.heap.size, 2, none⟩ = some (.slice a G.rules.length c) := by rw [← hW0]; exact cell_new 2 rfl
  by_cases h1 : G.nts < 1
  · have HN : Hid (G.okB = false) := by show _ = _; unfold Gm.okB; simp [show ¬ 1 ≤ G.nts by omega]
    go_enter Tryd.func41, Tryd.ntmps41
    go_wp2
    go_ret
    exact ⟨by rw [H3.out HN.out]; rfl, hB0⟩
  have h1' : decide (G.nts < 1) = false := by simp; omega
  by_cases h2 : 4096 < G.nts
  · have HN : Hid (G.okB = false) := by show _ = _; unfold Gm.okB; simp [show ¬ G.nts ≤ 4096 by omega]
    go_enter Tryd.func41, Tryd.ntmps41
    go_wp2
    go_ret
    exact ⟨by rw [H3.out HN.out]; rfl, hB0⟩
  have h2' : decide (4096 < G.nts) = false := by simp; omega
  by_cases h3 : G.start < 0
  · have HN : Hid (G.okB = false) := by show _ = _; unfold Gm.okB isN; simp [show ¬ 0 ≤ G.start by omega]
    go_enter Tryd.func41, Tryd.ntmps41
    go_wp2
    go_ret
    exact ⟨by rw [H3.out HN.out]; rfl, hB0⟩
  have h3' : decide (G.start < 0) = false := by simp; omega
  by_cases h5 : G.nts ≤ G.start
  · have HN : Hid (G.okB = false) := by show _ = _; unfold Gm.okB isN; simp [show ¬ G.start < G.nts by omega]
    go_enter Tryd.func41, Tryd.ntmps41
    go_wp2
    go_ret
    exact ⟨by rw [H3.out HN.out]; rfl, hB0⟩
  have h5' : decide (G.nts ≤ G.start) = false := by simp; omega
  by_cases h4 : 8192 < G.rules.length
  · have HN : Hid (G.okB = false) := by show _ = _; unfold Gm.okB; simp [show ¬ G.rules.length ≤ 8192 by omega]
    have h4' : (8192 : Int) < G.rules.length := by omega
    go_enter Tryd.func41, Tryd.ntmps41
    go_wp2
    go_ret
    exact ⟨by rw [H3.out HN.out]; rfl, hB0⟩
  have h4' : decide ((8192 : Int) < G.rules.length) = false := by simp; omega
  have HO : Hid (G.okB = G.rules.all (Rl.okB G.nts)) := by
    show _ = _
    unfold Gm.okB isN; simp [show 1 ≤ G.nts by omega, show G.nts ≤ 4096 by omega, show 0 ≤ G.start by omega, show G.start < G.nts by omega, show G.rules.length ≤ 8192 by omega]
  rw [HO.out] at H0 H3
  clear HO
  go_enter Tryd.func41, Tryd.ntmps41
  go_wp2
  clear hW0 c1 h1' h2' h3' h5' h4'
  go_loopw [3] (fun iv W => ∃ k : Nat, k ≤ G.rules.length ∧ iv = .int .i64 k ∧ (G.rules.take k).all (Rl.okB G.nts) = true ∧ Below W0.heap.size W0 W) (fun iv _ => G.rules.length - (intOf iv).toNat)
  case atStart => exact ⟨0, by omega, rfl, rfl, Below.refl _ _⟩
  case round =>
    obtain ⟨k, hk, rfl, ha, hB⟩ := hrel
    have hBw : Below w.heap.size w wr := hB0.trans (hB.mono (by omega))
    have hsz := hB.size
    have d0 := (hB.cell (p := ⟨w.heap.size, 0, none⟩) (by simp; omega)).trans c0
    have d2 := (hB.cell (p := ⟨w.heap.size, 2, none⟩) (by simp; omega)).trans c2
    by_cases hlt : k < G.rules.length
    · obtain ⟨r, hr⟩ : ∃ r, G.rules[k]? = some r := ⟨G.rules[k], by simp [hlt]⟩
      obtain ⟨b, o, sa, sc, rfl, hb, hK, e0, e1⟩ := (hR.keep hBw).cells k r hr
      have hkl := hK.len
      have hkI : (k : Int) < G.rules.length := by omega
      have HA : Hid (Rl.okB G.nts r = false → G.rules.all (Rl.okB G.nts) = false) := fun h => by
        cases hx : G.rules.all (Rl.okB G.nts)
        · rfl
        · exact absurd (List.all_eq_true.1 hx r (List.mem_of_getElem? hr)) (by simp [h])
      have HT : Hid (Rl.okB G.nts r = true → (G.rules.take (k + 1)).all (Rl.okB G.nts) = true) := fun h => by rw [List.take_add_one, hr]; simpa [ha] using h
      obtain ⟨W1, hW1⟩ : ∃ W1, wr.alloc (.cells #[.int .i64 r.lhs, .slice sa r.rhs.length sc] 61) = W1 := ⟨_, rfl⟩
      have hB1 : Below wr.heap.size wr W1 := by rw [← hW1]; exact (Below.refl _ _).alloc (Nat.le_refl _) _
      have hs1 : W1.heap.size = wr.heap.size + 1 := by rw [← hW1]; simp
      have f0 : W1.cell? ⟨w.heap.size, 0, none⟩ = some (.int .i64 G.nts) := (hB1.cell (p := ⟨w.heap.size, 0, none⟩) (by simp; omega)).trans d0
      have f2 : W1.cell? ⟨wr.heap.size, 0, none⟩ = some (.int .i64 r.lhs) := by rw [← hW1]; exact cell_new 0 rfl
      have f3 : W1.cell? ⟨wr.heap.size, 1, none⟩ = some (.slice sa r.rhs.length sc) := by rw [← hW1]; exact cell_new 1 rfl
      have hBF : Below w.heap.size w W1 := hBw.trans (hB1.mono (by omega))
      have hB2 : Below W0.heap.size W0 W1 := hB.trans (hB1.mono (by omega))
      have hK1 := (hK.keep (hB1.mono (by omega))).mono (B' := W1.heap.size) (by omega)
      have HL : Hid (Rl.okB G.nts r = (isN G.nts r.lhs && decide (r.rhs.length ≤ 80) && r.rhs.all (Ks.okB G.nts))) := rfl
      have z0 : w.heap.size < W1.heap.size := by omega
      clear ha hr hR hB0 hK
      by_cases g1 : r.lhs < 0
      · have HNO : Hid _ := HA.out (by rw [HL.out]; unfold isN; simp [show ¬ 0 ≤ r.lhs by omega])
        clear HA HT HL
        go_wp2
        go_ret
        exact ⟨by rw [H3.out HNO.out]; rfl, hBF⟩
      have g1' : decide (r.lhs < 0) = false := by simp; omega
      by_cases g2 : G.nts ≤ r.lhs
      · have HNO : Hid _ := HA.out (by rw [HL.out]; unfold isN; simp [show ¬ r.lhs < G.nts by omega])
        clear HA HT HL
        go_wp2
        go_ret
        exact ⟨by rw [H3.out HNO.out]; rfl, hBF⟩
      have g2' : decide (G.nts ≤ r.lhs) = false := by simp; omega
      by_cases g3 : 80 < r.rhs.length
      · have HNO : Hid _ := HA.out (by rw [HL.out, decide_eq_false (show ¬ r.rhs.length ≤ 80 by omega)]; simp)
        have g3' : (80 : Int) < r.rhs.length := by omega
        clear HA HT HL
        go_wp2
        go_ret
        exact ⟨by rw [H3.out HNO.out]; rfl, hBF⟩
      have g3' : decide ((80 : Int) < r.rhs.length) = false := by simp; omega
      have HL2 : Hid (Rl.okB G.nts r = r.rhs.all (Ks.okB G.nts)) := by
        show _ = _
        rw [HL.out]; unfold isN; simp [show 0 ≤ r.lhs by omega, show r.lhs < G.nts by omega, show r.rhs.length ≤ 80 by omega]
      rw [HL2.out] at HA HT
      clear HL HL2
      go_wp2
      clear g1' g2' g3' e0 e1
      go_loopw [5] (fun jv W => ∃ j : Nat, j ≤ r.rhs.length ∧ jv = .int .i64 j ∧ (r.rhs.take j).all (Ks.okB G.nts) = true ∧ Below W1.heap.size W1 W) (fun jv _ => r.rhs.length - (intOf jv).toNat)
      case atStart => exact ⟨0, by omega, rfl, rfl, Below.refl _ _⟩
      case round =>
        obtain ⟨j, hj, rfl, ha, hBi⟩ := hrel
        have hszi := hBi.size
        have q3 := (hBi.cell (by rw [hs1]; exact Nat.lt_succ_self _)).trans f3
        have q0 := (hBi.cell (p := ⟨w.heap.size, 0, none⟩) z0).trans f0
        by_cases hlt2 : j < r.rhs.length
        · obtain ⟨s, hs⟩ : ∃ s, r.rhs[j]? = some s := ⟨r.rhs[j], by simp [hlt2]⟩
          obtain ⟨b2, o2, rfl, hb2, hso, k0, k1, k2, k3, k4⟩ := (hK1.keep hBi).cells j s hs
          have hjI : (j : Int) < r.rhs.length := by omega
          have HA2 : Hid (Ks.okB G.nts s = false → r.rhs.all (Ks.okB G.nts) = false) := fun h => by
            cases hx : r.rhs.all (Ks.okB G.nts)
            · rfl
            · exact absurd (List.all_eq_true.1 hx s (List.mem_of_getElem? hs)) (by simp [h])
          have HT2 : Hid (Ks.okB G.nts s = true → (r.rhs.take (j + 1)).all (Ks.okB G.nts) = true) := fun h => by rw [List.take_add_one, hs]; simpa [ha] using h
          clear ha hs
          have he := fun w => eq49z s.set w
          have hB3 := hBi.alloc hszi (.cells #[.int .i64 s.nt, .int .u64 s.set.a, .int .u64 s.set.b, .int .u64 s.set.c, .int .u64 s.set.d] 71)
          have hBF3 := hBF.trans (hB3.mono hBF.size)
          have z1 : w.heap.size < wr.heap.size := by omega
          by_cases n1 : s.nt = -1
          · have hyes := HT2.out (by unfold Ks.okB; simp [n1])
            have n1' : (s.nt != -1) = false := by simp [n1]
            rw [n1] at k0 hB3
            go_wp2
            exact ⟨⟨j + 1, by omega, by go_num, hyes, hB3⟩, by simp [intOf]; omega⟩
          have n1' : (s.nt == -1) = false := by simp [n1]
          by_cases n2 : s.nt < 0
          · have HNO : Hid _ := HA.out (HA2.out (by unfold Ks.okB isN; simp [n1, show ¬ 0 ≤ s.nt by omega]))
            clear HA HT HA2 HT2
            go_wp2
            go_ret
            exact ⟨by rw [H3.out HNO.out]; rfl, hBF3⟩
          have n2' : decide (s.nt < 0) = false := by simp; omega
          by_cases n3 : G.nts ≤ s.nt
          · have HNO : Hid _ := HA.out (HA2.out (by unfold Ks.okB isN; simp [n1, show ¬ s.nt < G.nts by omega]))
            clear HA HT HA2 HT2
            go_wp2
            go_ret
            exact ⟨by rw [H3.out HNO.out]; rfl, hBF3⟩
          have n3' : decide (G.nts ≤ s.nt) = false := by simp; omega
          have HL : Hid (Ks.okB G.nts s = s.set.same St.zero) := by
            show _ = _
            unfold Ks.okB isN; simp [n1, show 0 ≤ s.nt by omega, show s.nt < G.nts by omega]
          rw [HL.out] at HA2 HT2
          generalize s.set.same St.zero = z at *
          cases z with
          | true =>
            have hyes := HT2.out rfl
            go_wp2
            exact ⟨⟨j + 1, by omega, by go_num, hyes, hB3⟩, by simp [intOf]; omega⟩
          | false =>
            have HNO : Hid _ := HA.out (HA2.out rfl)
            clear HA HT HA2 HT2
            go_wp2
            go_ret
            exact ⟨by rw [H3.out HNO.out]; rfl, hBF3⟩
        · obtain rfl : j = r.rhs.length := by omega
          rw [List.take_length] at ha
          have hyes := HT.out ha
          clear ha
          go_wp2
          exact ⟨⟨k + 1, by omega, by go_num, hyes, hB2.trans (hBi.mono hB2.size)⟩, by simp [intOf]; omega⟩
    · obtain rfl : k = G.rules.length := by omega
      rw [List.take_length] at ha
      have HA1 : Hid _ := ha
      clear ha
      go_wp2
      go_ret
      exact ⟨by rw [H0.out HA1.out]; rfl, hBw⟩
theorem szL_mem' : ∀ {l : List Tr} {j : Nat} {x : Tr}, l[j]? = some x → sz x ≤ szL l
  | [], j, x, h => by cases h
  | d :: l, 0, x, h => by cases h; rw [szL]; omega
  | d :: l, j + 1, x, h => by rw [szL]; have := szL_mem' (l := l) (j := j) (x := x) h; omega
set_option maxRecDepth 100000 in
set_option maxHeartbeats 8000000 in
theorem refOf_any (G : Gm) (ga : Option Addr) (gc : Nat) : ∀ (N : Nat) (nt : Int) (d : Tr) (sa : Option Addr) (sc f : Nat) (w : World), sz d ≤ N → RAt w w.heap.size ga G.rules → TAt w w.heap.size f sa d.kids → 0 ≤ nt →
    Calls Tryd.prog 42 #[.agg #[.int .i64 G.nts, .int .i64 G.start, .slice ga G.rules.length gc], .int .i64 nt, .agg #[.int .i64 d.rule, .int .u8 (d.byte.toNat : Int), .slice sa d.kids.length sc]] w fun e w' => e = .returned (.bool (isS G ⟨nt, St.zero⟩ d)) ∧ Below w.heap.size w w' := by
  intro N
  induction N with
  | zero => intro nt d sa sc f w hN; rw [sz_eq] at hN; omega
  | succ N ih =>
  intro nt d sa sc f w hN hR hk hnt
  obtain ⟨w1, hw1⟩ : ∃ w1, w.alloc (.cells #[.int .i64 G.nts, .int .i64 G.start, .slice ga G.rules.length gc] 24) = w1 := ⟨_, rfl⟩
  obtain ⟨w2, hw2⟩ : ∃ w2, w1.alloc (.cells #[.int .i64 d.rule, .int .u8 (d.byte.toNat : Int), .slice sa d.kids.length sc] 27) = w2 := ⟨_, rfl⟩
  have s1 : w1.heap.size = w.heap.size + 1 := by rw [← hw1]; simp
  have s2 : w2.heap.size = w.heap.size + 2 := by rw [← hw2]; simp [s1]
  have hB1 : Below w.heap.size w w1 := by rw [← hw1]; exact (Below.refl _ _).alloc (Nat.le_refl _) _
  have hB2' : Below w1.heap.size w1 w2 := by rw [← hw2]; exact (Below.refl _ _).alloc (Nat.le_refl _) _
  have hB2 : Below w.heap.size w w2 := hB1.trans (hB2'.mono hB1.size)
  have gg : ∀ j v, (#[.int .i64 G.nts, .int .i64 G.start, .slice ga G.rules.length gc] : Array Value)[j]? = some v → w2.cell? ⟨w.heap.size, j, none⟩ = some v := fun j v hv => (hB2'.cell (p := ⟨w.heap.size, j, none⟩) (by show w.heap.size < _; omega)).trans (by rw [← hw1]; exact cell_new j hv)
  have dk : ∀ j v, (#[.int .i64 d.rule, .int .u8 (d.byte.toNat : Int), .slice sa d.kids.length sc] : Array Value)[j]? = some v → w2.cell? ⟨w.heap.size + 1, j, none⟩ = some v := fun j v hv => by rw [← hw2, ← s1]; exact cell_new j hv
  have HF : Hid (∀ W, Below w2.heap.size w2 W → (W.cell? ⟨w.heap.size, 0, none⟩ = some (.int .i64 G.nts) ∧ W.cell? ⟨w.heap.size, 1, none⟩ = some (.int .i64 G.start) ∧ W.cell? ⟨w.heap.size, 2, none⟩ = some (.slice ga G.rules.length gc)) ∧ W.cell? ⟨w.heap.size + 1, 0, none⟩ = some (.int .i64 d.rule) ∧ W.cell? ⟨w.heap.size + 1, 1, none⟩ = some (.int .u8 (d.byte.toNat : Int)) ∧ W.cell? ⟨w.heap.size + 1, 2, none⟩ = some (.slice sa d.kids.length sc)) := fun W h => by
    have k : ∀ b q, b < w2.heap.size → W.cell? ⟨b, q, none⟩ = w2.cell? ⟨b, q, none⟩ := fun b q hb => h.cell (p := ⟨b, q, none⟩) hb
    exact ⟨⟨(k _ _ (by omega)).trans (gg 0 _ rfl), (k _ _ (by omega)).trans (gg 1 _ rfl), (k _ _ (by omega)).trans (gg 2 _ rfl)⟩, (k _ _ (by omega)).trans (dk 0 _ rfl), (k _ _ (by omega)).trans (dk 1 _ rfl), (k _ _ (by omega)).trans (dk 2 _ rfl)⟩
  obtain ⟨⟨g0, g1, g2⟩, d0, d1, d2⟩ := HF.out w2 (Below.refl _ _)
  have HE : Hid (isS G ⟨nt, St.zero⟩ d = (isNd G nt d.rule d.byte d.kids.length && allS G (ruleOf G d.rule).rhs d.kids)) := by show _ = _; rw [isS_eq, if_neg (by show ¬ nt < 0; omega)]
  have HB2 : Hid _ := hB2
  have HS2 : Hid _ := s2
  have HI : Hid _ := ih
  have HR : Hid _ := hR
  have HK : Hid _ := hk
  have HN : Hid _ := hN
  have HNT : Hid _ := hnt
  have hu0 : (0 : Int) ≤ (d.byte.toNat : Int) := by omega
  have hb0 : (d.byte == 0) = ((d.byte.toNat : Int) == 0) := by
    rw [Bool.eq_iff_iff]; simp [← UInt8.toNat_inj]
  have HND : Hid (isNd G nt d.rule d.byte d.kids.length = (decide (0 ≤ d.rule) && decide (d.rule < (G.rules.length : Int)) && ((d.byte.toNat : Int) == 0) && (ruleOf G d.rule).lhs == nt && (ruleOf G d.rule).rhs.length == d.kids.length)) := by show _ = _; unfold isNd; rw [hb0]
  clear hb0 hB1 hB2' hB2 gg dk hR hk hN ih hnt hu0
  generalize hu : (d.byte.toNat : Int) = u at *
  by_cases h3 : u = 0
  · have e3' : (u != 0) = false := by simp [h3]
    have HU : Hid (u == 0) := by show (u == 0) = true; simp [h3]
    by_cases h1 : d.rule < 0
    · have HX : Hid (isS G ⟨nt, St.zero⟩ d = false) := by show _ = _; rw [HE.out, HND.out, decide_eq_false (show ¬ 0 ≤ d.rule by omega)]; rfl
      clear h3
      go_enter Tryd.func42, Tryd.ntmps42
      go_wp2
      go_quiet (fail)
      go_wp2
      go_ret
      exact ⟨by rw [HX.out]; rfl, below_of HB2.out ⟨rfl, rfl, rfl, Nat.le_refl _, fun _ _ => rfl⟩⟩
    have h1' : decide (d.rule < 0) = false := by simp; omega
    by_cases h2 : (G.rules.length : Int) ≤ d.rule
    · have HX : Hid (isS G ⟨nt, St.zero⟩ d = false) := by show _ = _; rw [HE.out, HND.out, decide_eq_false (show ¬ d.rule < (G.rules.length : Int) by omega)]; simp
      clear h3
      go_enter Tryd.func42, Tryd.ntmps42
      go_wp2
      go_quiet (fail)
      go_wp2
      go_ret
      exact ⟨by rw [HX.out]; rfl, below_of HB2.out ⟨rfl, rfl, rfl, Nat.le_refl _, fun _ _ => rfl⟩⟩
    have h2' : decide ((G.rules.length : Int) ≤ d.rule) = false := by simp; omega
    obtain ⟨r, hr⟩ : ∃ r, G.rules[d.rule.toNat]? = some r := ⟨G.rules[d.rule.toNat]'(by omega), by simp⟩
    have hro : ruleOf G d.rule = r := by unfold ruleOf; rw [List.getD_eq_getElem?_getD, hr]; rfl
    obtain ⟨m, hm⟩ : ∃ m : Nat, d.rule = (m : Int) := ⟨d.rule.toNat, by omega⟩
    obtain ⟨rb, ro, ka, kc, rfl, hrb, hK, c0, c1⟩ := HR.out.cells _ r hr
    have hmm : d.rule.toNat = m := by omega
    rw [hmm] at c0 c1
    have hml : (m : Int) < (G.rules.length : Int) := by omega
    have hml' : decide ((G.rules.length : Int) ≤ (m : Int)) = false := by simp; omega
    have hm0 : decide ((m : Int) < 0) = false := by rw [decide_eq_false_iff_not]; omega
    have hmN : decide (G.rules.length ≤ m) = false := by simp; omega
    have HQ : Hid (isNd G nt d.rule d.byte d.kids.length = (r.lhs == nt && r.rhs.length == d.kids.length)) := by
      show _ = _
      rw [HND.out, hro, decide_eq_true (show 0 ≤ d.rule by omega), decide_eq_true (show d.rule < (G.rules.length : Int) by omega), HU.out]
      first | rfl | simp
    rw [hro] at HE
    have HFm : Hid (∀ W, Below w2.heap.size w2 W → (W.cell? ⟨w.heap.size, 0, none⟩ = some (.int .i64 G.nts) ∧ W.cell? ⟨w.heap.size, 1, none⟩ = some (.int .i64 G.start) ∧ W.cell? ⟨w.heap.size, 2, none⟩ = some (.slice (some ⟨rb, ro, none⟩) G.rules.length gc)) ∧ (W.cell? ⟨w.heap.size + 1, 0, none⟩ = some (.int .i64 (m : Int)) ∧ W.cell? ⟨w.heap.size + 1, 1, none⟩ = some (.int .u8 u) ∧ W.cell? ⟨w.heap.size + 1, 2, none⟩ = some (.slice sa d.kids.length sc)) ∧ W.cell? ⟨rb, ro + m * 2, none⟩ = some (.int .i64 r.lhs) ∧ W.cell? ⟨rb, ro + m * 2 + 1, none⟩ = some (.slice ka r.rhs.length kc)) := fun W h => by
      have hh := HF.out W h
      rw [hm] at hh
      have hb := below_of HB2.out h
      exact ⟨hh.1, hh.2, (hb.cell (p := ⟨rb, ro + m * 2, none⟩) hrb).trans c0, (hb.cell (p := ⟨rb, ro + m * 2 + 1, none⟩) hrb).trans c1⟩
    have HKK : Hid _ := hK
    clear hr hro hmm c0 c1 h1 h1' h2 h2' h3 HND HF g0 g1 g2 d0 d1 d2 hK hm
    obtain ⟨⟨g0, g1, g2⟩, ⟨d0, d1, d2⟩, c0, c1⟩ := HFm.out w2 (Below.refl _ _)
    have hrbw : rb < w2.heap.size := by have := HS2.out; omega
    by_cases h4 : r.lhs = nt
    · have e4 : (r.lhs != nt) = false := by simp [h4]
      have HL4 : Hid ((r.lhs == nt) = true) := by show _ = _; simp [h4]
      rw [HL4.out] at HQ
      by_cases h5 : r.rhs.length = d.kids.length
      · have e5 : ((r.rhs.length : Int) != (d.kids.length : Int)) = false := by simp [h5]
        have H5 : Hid _ := h5
        have HX : Hid (isS G ⟨nt, St.zero⟩ d = allS G r.rhs d.kids) := by show _ = _; rw [HE.out, HQ.out]; simp [h5]
        clear h4 h5
        go_enter Tryd.func42, Tryd.ntmps42
        go_wp2
        go_quiet (fail)
        go_wp2
        clear g0 g1 g2 d0 d1 d2 c0 c1
        go_loopw [7] (fun i W => ∃ j : Nat, j ≤ d.kids.length ∧ i = .int .i64 (j : Int) ∧ ((r.rhs.zip d.kids).take j).all (fun c => isS G c.1 c.2) = true ∧ Below w2.heap.size w2 W) (fun i _ => d.kids.length - (intOf i).toNat)
        case atStart => exact ⟨0, by omega, rfl, by simp, ⟨rfl, rfl, rfl, Nat.le_refl _, fun _ _ => rfl⟩⟩
        case round =>
          obtain ⟨j, hj, rfl, hall, hB⟩ := hrel
          obtain ⟨⟨g0, g1, g2⟩, ⟨d0, d1, d2⟩, c0, c1⟩ := HFm.out wr hB
          have HB : Hid _ := hB
          have HAL : Hid _ := hall
          have hs2 := HS2.out
          have hszr := hB.size
          have HBw : Hid (Below w.heap.size w wr) := below_of HB2.out hB
          have hlen40 := HK.out.len
          clear hB hall
          by_cases hlt : j < d.kids.length
          · have hlt' : j < r.rhs.length := by have := H5.out; omega
            obtain ⟨x, hx⟩ : ∃ x, r.rhs[j]? = some x := ⟨r.rhs[j], by simp [hlt']⟩
            obtain ⟨y, hy⟩ : ∃ y, d.kids[j]? = some y := ⟨d.kids[j], by simp [hlt]⟩
            obtain ⟨kb, ko, rfl, hkb, hxok, k0, k1, k2, k3, k4⟩ := HKK.out.cells j x hx
            have kk : ∀ q, wr.cell? ⟨kb, q, none⟩ = w.cell? ⟨kb, q, none⟩ := fun q => HBw.out.cell (p := ⟨kb, q, none⟩) hkb
            have k0' := (kk _).trans k0
            have k1' := (kk _).trans k1
            have k2' := (kk _).trans k2
            have k3' := (kk _).trans k3
            have k4' := (kk _).trans k4
            obtain ⟨yb, yo, hsa, hyb, ya, yc, z0, z1, z2, hyc, hyk⟩ := HK.out.one hy
            subst hsa
            have zz : ∀ q, wr.cell? ⟨yb, q, none⟩ = w.cell? ⟨yb, q, none⟩ := fun q => HBw.out.cell (p := ⟨yb, q, none⟩) hyb
            have z0' := (zz _).trans z0
            have z1' := (zz _).trans z1
            have z2' := (zz _).trans z2
            have hybw : yb < wr.heap.size := by omega
            have hww : w.heap.size < wr.heap.size := by omega
            have hww1 : w.heap.size + 1 < wr.heap.size := by omega
            have hrbr : rb < wr.heap.size := by omega
            have hjI : (j : Int) < (r.rhs.length : Int) := by omega
            have hjI2 : (j : Int) < (d.kids.length : Int) := by omega
            have HST : Hid (isS G x y = true → ((r.rhs.zip d.kids).take (j + 1)).all (fun c => isS G c.1 c.2) = true) := fun h => by
              rw [List.take_add_one, List.all_append, HAL.out, (List.getElem?_zip_eq_some (z := (x, y))).2 ⟨hx, hy⟩]; simp [h]
            have HBD : Hid (isS G x y = false → isS G ⟨nt, St.zero⟩ d = false) := fun h => by
              rw [HX.out, allS_zip]
              have hm := List.mem_of_getElem? ((List.getElem?_zip_eq_some (z := (x, y))).2 ⟨hx, hy⟩)
              cases hxx : (r.rhs.zip d.kids).all (fun c => isS G c.1 c.2)
              · rfl
              · exact absurd (List.all_eq_true.1 hxx _ hm) (by simp [h])
            have HXS := isS_eq G x y
            have hyN : sz y ≤ N := by have h1 := HN.out; have h2 := sz_eq d; have h3 := szL_mem' hy; omega
            have HOK : Hid _ := hxok
            have HYK : Hid _ := hyk
            have HYN : Hid _ := hyN
            clear hx hy k0 k1 k2 k3 k4 z0 z1 z2 kk zz hyk hxok hyN
            by_cases n1 : x.nt < 0
            · rw [if_pos n1] at HXS
              have HXS' : Hid _ := HXS
              have n1' : decide (0 ≤ x.nt) = false := by simp; omega
              by_cases y1 : y.rule = -1
              · have q1 : (y.rule == -1) = true := by simp [y1]
                by_cases y2 : y.kids.length = 0
                · have q2 : ((y.kids.length : Int) == 0) = true := by simp [y2]
                  have hk0 : y.kids.isEmpty = true := by cases hyk : y.kids with | nil => rfl | cons a l => rw [hyk] at y2; simp at y2
                  have HXV : Hid (isS G x y = x.set.has y.byte.toNat) := by show _ = _; rw [HXS'.out]; unfold isBy; rw [q1, hk0]; rfl
                  have HHS : Hid (∀ W, Calls Tryd.prog 66 #[.agg #[.int .u64 x.set.a, .int .u64 x.set.b, .int .u64 x.set.c, .int .u64 x.set.d], .int .i64 (IntKind.i64.wrap (y.byte.toNat : Int))] W fun e w' => e = .returned (.bool (x.set.has y.byte.toNat)) ∧ Below W.heap.size W w') := fun W => by
                    rw [show IntKind.i64.wrap (y.byte.toNat : Int) = (y.byte.toNat : Int) by rw [IntKind.wrap_i64]; have := UInt8.toNat_lt y.byte; omega]
                    exact rhas_any x.set y.byte.toNat W HOK.out (UInt8.toNat_lt _)
                  clear y1 y2 HXS hk0
                  generalize x.set.has y.byte.toNat = hh at HHS HXV
                  obtain ⟨V, hV⟩ : ∃ V, wr.alloc (.cells #[.int .i64 x.nt, .int .u64 x.set.a, .int .u64 x.set.b, .int .u64 x.set.c, .int .u64 x.set.d] 71) = V := ⟨_, rfl⟩
                  have hBV : Below wr.heap.size wr V := by rw [← hV]; exact (Below.refl _ _).alloc (Nat.le_refl _) _
                  have sV : V.heap.size = wr.heap.size + 1 := by rw [← hV]; simp
                  have b0 : ∀ q v, (#[.int .i64 x.nt, .int .u64 x.set.a, .int .u64 x.set.b, .int .u64 x.set.c, .int .u64 x.set.d] : Array Value)[q]? = some v → V.cell? ⟨wr.heap.size, q, none⟩ = some v := fun q v hv => by rw [← hV]; exact cell_new q hv
                  have HFC : Hid (∀ W, Below V.heap.size V W → W.cell? ⟨w.heap.size + 1, 2, none⟩ = some (.slice (some ⟨yb, yo, none⟩) d.kids.length sc) ∧ W.cell? ⟨yb, yo + j * 3, none⟩ = some (.int .i64 y.rule) ∧ W.cell? ⟨yb, yo + j * 3 + 1, none⟩ = some (.int .u8 (y.byte.toNat : Int)) ∧ W.cell? ⟨yb, yo + j * 3 + 2, none⟩ = some (.slice ya y.kids.length yc) ∧ W.cell? ⟨wr.heap.size, 0, none⟩ = some (.int .i64 x.nt) ∧ W.cell? ⟨wr.heap.size, 1, none⟩ = some (.int .u64 x.set.a) ∧ W.cell? ⟨wr.heap.size, 2, none⟩ = some (.int .u64 x.set.b) ∧ W.cell? ⟨wr.heap.size, 3, none⟩ = some (.int .u64 x.set.c) ∧ W.cell? ⟨wr.heap.size, 4, none⟩ = some (.int .u64 x.set.d)) := fun W h => by
                    have k : ∀ b q, b < V.heap.size → W.cell? ⟨b, q, none⟩ = V.cell? ⟨b, q, none⟩ := fun b q hb => h.cell (p := ⟨b, q, none⟩) hb
                    have k' : ∀ b q, b < wr.heap.size → W.cell? ⟨b, q, none⟩ = wr.cell? ⟨b, q, none⟩ := fun b q hb => (k b q (by omega)).trans (hBV.cell (p := ⟨b, q, none⟩) hb)
                    exact ⟨(k' _ _ (by omega)).trans d2, (k' _ _ (by omega)).trans z0', (k' _ _ (by omega)).trans z1', (k' _ _ (by omega)).trans z2', (k _ _ (by omega)).trans (b0 0 _ rfl), (k _ _ (by omega)).trans (b0 1 _ rfl), (k _ _ (by omega)).trans (b0 2 _ rfl), (k _ _ (by omega)).trans (b0 3 _ rfl), (k _ _ (by omega)).trans (b0 4 _ rfl)⟩
                  have T : Below V.heap.size V V := Below.refl _ _
                  have HBV : Hid _ := hBV
                  clear b0 hBV
                  go_wp2
                  clear g0 g1 g2 d0 d1 d2 c0 c1 k0' k1' k2' k3' k4' z0' z1' z2'
                  go_region_held3 (fun W => W.cell? ⟨w.heap.size + 1, 2, none⟩ = some (.slice (some ⟨yb, yo, none⟩) d.kids.length sc) ∧ W.cell? ⟨yb, yo + j * 3, none⟩ = some (.int .i64 y.rule) ∧ W.cell? ⟨yb, yo + j * 3 + 1, none⟩ = some (.int .u8 (y.byte.toNat : Int)) ∧ W.cell? ⟨yb, yo + j * 3 + 2, none⟩ = some (.slice ya y.kids.length yc) ∧ W.cell? ⟨wr.heap.size, 0, none⟩ = some (.int .i64 x.nt) ∧ W.cell? ⟨wr.heap.size, 1, none⟩ = some (.int .u64 x.set.a) ∧ W.cell? ⟨wr.heap.size, 2, none⟩ = some (.int .u64 x.set.b) ∧ W.cell? ⟨wr.heap.size, 3, none⟩ = some (.int .u64 x.set.c) ∧ W.cell? ⟨wr.heap.size, 4, none⟩ = some (.int .u64 x.set.d)) (first | with_reducible exact HFC.out _ T | with_reducible exact HFC.out _ T.drew) ((go_at_call 66; refine (HHS.out _).mono ?_; rintro e w3 ⟨rfl, hb3⟩; replace T : Below V.heap.size V w3 := (by first | with_reducible exact T.trans (hb3.mono T.size) | with_reducible exact T.drew.trans (hb3.mono T.drew.size)); clear hb3))
                  obtain ⟨d2, z0', z1', z2', k0', k1', k2', k3', k4'⟩ := HFC.out _ T
                  have HT3 : Hid (Below wr.heap.size wr w3) := HBV.out.trans (T.mono HBV.out.size)
                  clear T
                  cases hh with
                  | false =>
                    have HRR : Hid _ := HBD.out HXV.out
                    go_wp2
                    go_quiet (fail)
                    go_wp2
                    go_ret
                    exact ⟨by rw [HRR.out]; rfl, below_of HBw.out (HT3.out.trans ⟨rfl, rfl, rfl, Nat.le_refl _, fun _ _ => rfl⟩)⟩
                  | true =>
                    have HNX : Hid _ := HST.out HXV.out
                    have HB3 : Hid (Below w2.heap.size w2 w3) := HB.out.trans (HT3.out.mono HB.out.size)
                    go_wp2
                    go_quiet (fail)
                    go_wp2
                    exact ⟨⟨j + 1, by omega, by go_num, HNX.out, HB3.out.trans ⟨rfl, rfl, rfl, Nat.le_refl _, fun _ _ => rfl⟩⟩, by simp [intOf]; omega⟩
                · have q2 : ((y.kids.length : Int) == 0) = false := by rw [beq_eq_false_iff_ne]; omega
                  have HBB : Hid (isS G x y = false) := by show _ = _; rw [HXS'.out]; unfold isBy; cases hyk : y.kids with | nil => rw [hyk] at y2; simp at y2 | cons a l => simp
                  have HRR : Hid _ := HBD.out HBB.out
                  clear y1 y2 HXS
                  go_wp2
                  go_quiet (fail)
                  go_wp2
                  go_quiet (fail)
                  go_wp2
                  go_ret
                  exact ⟨by rw [HRR.out]; rfl, below_of HBw.out (by exact (((Below.refl _ wr).alloc (Nat.le_refl _) _).trans ⟨rfl, rfl, rfl, Nat.le_refl _, fun _ _ => rfl⟩))⟩
              · have q1 : (y.rule == -1) = false := by simp [y1]
                have HBB : Hid (isS G x y = false) := by show _ = _; rw [HXS'.out]; unfold isBy; rw [q1]; rfl
                have HRR : Hid _ := HBD.out HBB.out
                clear y1 HXS
                go_wp2
                go_quiet (fail)
                go_wp2
                go_quiet (fail)
                go_wp2
                go_ret
                exact ⟨by rw [HRR.out]; rfl, below_of HBw.out (by exact (((Below.refl _ wr).alloc (Nat.le_refl _) _).trans ⟨rfl, rfl, rfl, Nat.le_refl _, fun _ _ => rfl⟩))⟩
            · have HXN : Hid (isS G ⟨x.nt, St.zero⟩ y = isS G x y) := by show _ = _; rw [isS_eq, isS_eq, if_neg n1, if_neg (by exact n1)]
              have n0 : 0 ≤ x.nt := by omega
              have HIH : Hid (∀ W, Below wr.heap.size wr W → Calls Tryd.prog 42 #[.agg #[.int .i64 G.nts, .int .i64 G.start, .slice (some ⟨rb, ro, none⟩) G.rules.length gc], .int .i64 x.nt, .agg #[.int .i64 y.rule, .int .u8 (y.byte.toNat : Int), .slice ya y.kids.length yc]] W fun e w' => e = .returned (.bool (isS G x y)) ∧ Below W.heap.size W w') := fun W h => by
                have hb := below_of HBw.out h
                have := HI.out x.nt y ya yc f W HYN.out ((HR.out.keep hb).mono hb.size) (((show TAt w w.heap.size f ya y.kids from HYK.out).keep hb).mono hb.size) n0
                rw [HXN.out] at this
                exact this
              have n2 : decide (x.nt < 0) = false := by simp; omega
              generalize isS G x y = hh at HIH HST HBD
              clear HXS HXN n1
              obtain ⟨V, hV⟩ : ∃ V, wr.alloc (.cells #[.int .i64 x.nt, .int .u64 x.set.a, .int .u64 x.set.b, .int .u64 x.set.c, .int .u64 x.set.d] 71) = V := ⟨_, rfl⟩
              have hBV : Below wr.heap.size wr V := by rw [← hV]; exact (Below.refl _ _).alloc (Nat.le_refl _) _
              have sV : V.heap.size = wr.heap.size + 1 := by rw [← hV]; simp
              have b0 : V.cell? ⟨wr.heap.size, 0, none⟩ = some (.int .i64 x.nt) := by rw [← hV]; exact cell_new 0 rfl
              have HFC : Hid (∀ W, Below V.heap.size V W → W.cell? ⟨w.heap.size, 0, none⟩ = some (.int .i64 G.nts) ∧ W.cell? ⟨w.heap.size, 1, none⟩ = some (.int .i64 G.start) ∧ W.cell? ⟨w.heap.size, 2, none⟩ = some (.slice (some ⟨rb, ro, none⟩) G.rules.length gc) ∧ W.cell? ⟨w.heap.size + 1, 2, none⟩ = some (.slice (some ⟨yb, yo, none⟩) d.kids.length sc) ∧ W.cell? ⟨yb, yo + j * 3, none⟩ = some (.int .i64 y.rule) ∧ W.cell? ⟨yb, yo + j * 3 + 1, none⟩ = some (.int .u8 (y.byte.toNat : Int)) ∧ W.cell? ⟨yb, yo + j * 3 + 2, none⟩ = some (.slice ya y.kids.length yc) ∧ W.cell? ⟨wr.heap.size, 0, none⟩ = some (.int .i64 x.nt)) := fun W h => by
                have k : ∀ b q, b < V.heap.size → W.cell? ⟨b, q, none⟩ = V.cell? ⟨b, q, none⟩ := fun b q hb => h.cell (p := ⟨b, q, none⟩) hb
                have k' : ∀ b q, b < wr.heap.size → W.cell? ⟨b, q, none⟩ = wr.cell? ⟨b, q, none⟩ := fun b q hb => (k b q (by omega)).trans (hBV.cell (p := ⟨b, q, none⟩) hb)
                exact ⟨(k' _ _ (by omega)).trans g0, (k' _ _ (by omega)).trans g1, (k' _ _ (by omega)).trans g2, (k' _ _ (by omega)).trans d2, (k' _ _ (by omega)).trans z0', (k' _ _ (by omega)).trans z1', (k' _ _ (by omega)).trans z2', (k _ _ (by omega)).trans b0⟩
              have HBV : Hid _ := hBV
              by_cases y1 : y.rule = -1
              · have q1 : (y.rule == -1) = true := by simp [y1]
                by_cases y2 : y.kids.length = 0
                · have q2 : ((y.kids.length : Int) == 0) = true := by simp [y2]
                  have HHS : Hid (∀ W, Calls Tryd.prog 66 #[.agg #[.int .u64 x.set.a, .int .u64 x.set.b, .int .u64 x.set.c, .int .u64 x.set.d], .int .i64 (IntKind.i64.wrap (y.byte.toNat : Int))] W fun e w' => e = .returned (.bool (x.set.has y.byte.toNat)) ∧ Below W.heap.size W w') := fun W => by
                    rw [show IntKind.i64.wrap (y.byte.toNat : Int) = (y.byte.toNat : Int) by rw [IntKind.wrap_i64]; have := UInt8.toNat_lt y.byte; omega]
                    exact rhas_any x.set y.byte.toNat W HOK.out (UInt8.toNat_lt _)
                  generalize x.set.has y.byte.toNat = lf at HHS
                  have bb : ∀ q v, (#[.int .i64 x.nt, .int .u64 x.set.a, .int .u64 x.set.b, .int .u64 x.set.c, .int .u64 x.set.d] : Array Value)[q]? = some v → V.cell? ⟨wr.heap.size, q, none⟩ = some v := fun q v hv => by rw [← hV]; exact cell_new q hv
                  have HFD : Hid (∀ W, Below V.heap.size V W → W.cell? ⟨w.heap.size + 1, 2, none⟩ = some (.slice (some ⟨yb, yo, none⟩) d.kids.length sc) ∧ W.cell? ⟨yb, yo + j * 3, none⟩ = some (.int .i64 y.rule) ∧ W.cell? ⟨yb, yo + j * 3 + 1, none⟩ = some (.int .u8 (y.byte.toNat : Int)) ∧ W.cell? ⟨yb, yo + j * 3 + 2, none⟩ = some (.slice ya y.kids.length yc) ∧ W.cell? ⟨wr.heap.size, 0, none⟩ = some (.int .i64 x.nt) ∧ W.cell? ⟨wr.heap.size, 1, none⟩ = some (.int .u64 x.set.a) ∧ W.cell? ⟨wr.heap.size, 2, none⟩ = some (.int .u64 x.set.b) ∧ W.cell? ⟨wr.heap.size, 3, none⟩ = some (.int .u64 x.set.c) ∧ W.cell? ⟨wr.heap.size, 4, none⟩ = some (.int .u64 x.set.d)) := fun W h => by
                    have k : ∀ b q, b < V.heap.size → W.cell? ⟨b, q, none⟩ = V.cell? ⟨b, q, none⟩ := fun b q hb => h.cell (p := ⟨b, q, none⟩) hb
                    have k' : ∀ b q, b < wr.heap.size → W.cell? ⟨b, q, none⟩ = wr.cell? ⟨b, q, none⟩ := fun b q hb => (k b q (by omega)).trans (hBV.cell (p := ⟨b, q, none⟩) hb)
                    exact ⟨(k' _ _ (by omega)).trans d2, (k' _ _ (by omega)).trans z0', (k' _ _ (by omega)).trans z1', (k' _ _ (by omega)).trans z2', (k _ _ (by omega)).trans (bb 0 _ rfl), (k _ _ (by omega)).trans (bb 1 _ rfl), (k _ _ (by omega)).trans (bb 2 _ rfl), (k _ _ (by omega)).trans (bb 3 _ rfl), (k _ _ (by omega)).trans (bb 4 _ rfl)⟩
                  have T : Below V.heap.size V V := Below.refl _ _
                  clear y1 y2 hBV b0 bb
                  go_wp2
                  clear g0 g1 g2 d0 d1 d2 c0 c1 k0' k1' k2' k3' k4' z0' z1' z2'
                  go_region_held3 (fun W => W.cell? ⟨w.heap.size + 1, 2, none⟩ = some (.slice (some ⟨yb, yo, none⟩) d.kids.length sc) ∧ W.cell? ⟨yb, yo + j * 3, none⟩ = some (.int .i64 y.rule) ∧ W.cell? ⟨yb, yo + j * 3 + 1, none⟩ = some (.int .u8 (y.byte.toNat : Int)) ∧ W.cell? ⟨yb, yo + j * 3 + 2, none⟩ = some (.slice ya y.kids.length yc) ∧ W.cell? ⟨wr.heap.size, 0, none⟩ = some (.int .i64 x.nt) ∧ W.cell? ⟨wr.heap.size, 1, none⟩ = some (.int .u64 x.set.a) ∧ W.cell? ⟨wr.heap.size, 2, none⟩ = some (.int .u64 x.set.b) ∧ W.cell? ⟨wr.heap.size, 3, none⟩ = some (.int .u64 x.set.c) ∧ W.cell? ⟨wr.heap.size, 4, none⟩ = some (.int .u64 x.set.d)) (first | with_reducible exact HFD.out _ T | with_reducible exact HFD.out _ T.drew) ((go_at_call 66; refine (HHS.out _).mono ?_; rintro e w9 ⟨rfl, hb9⟩; replace T : Below V.heap.size V w9 := (by first | with_reducible exact T.trans (hb9.mono T.size) | with_reducible exact T.drew.trans (hb9.mono T.drew.size)); clear hb9))
                  go_wp2
                  refine wp_region_held_drew (S := (fun W => W.cell? ⟨w.heap.size, 0, none⟩ = some (.int .i64 G.nts) ∧ W.cell? ⟨w.heap.size, 1, none⟩ = some (.int .i64 G.start) ∧ W.cell? ⟨w.heap.size, 2, none⟩ = some (.slice (some ⟨rb, ro, none⟩) G.rules.length gc) ∧ W.cell? ⟨w.heap.size + 1, 2, none⟩ = some (.slice (some ⟨yb, yo, none⟩) d.kids.length sc) ∧ W.cell? ⟨yb, yo + j * 3, none⟩ = some (.int .i64 y.rule) ∧ W.cell? ⟨yb, yo + j * 3 + 1, none⟩ = some (.int .u8 (y.byte.toNat : Int)) ∧ W.cell? ⟨yb, yo + j * 3 + 2, none⟩ = some (.slice ya y.kids.length yc) ∧ W.cell? ⟨wr.heap.size, 0, none⟩ = some (.int .i64 x.nt))) (by kernel_rfl) (by first | with_reducible exact HFC.out _ T.drew | exact HFC.out _ T) (fun hHeld => ?_)
                  refine wpAnyH_take (i := 0) (v := ?v1x0) rfl (by kernel_rfl) (by kernel_rfl) (by kernel_rfl) (fun _ _ _ h => h) (Or.inl ⟨by rfl, ?y1x0⟩) (by assumption) ?_
                  case y1x0 => (intro w hSw; (try dsimp only at hSw); go_simp <;> with_reducible rfl)
                  try simp only [Act.put, List.getElem_toArray, List.getElem_cons_zero, List.setIfInBounds_toArray, List.set_cons_zero, List.set_cons_succ]
                  refine wpAnyH_take (i := 1) (v := ?v1x1) rfl (by kernel_rfl) (by kernel_rfl) (by kernel_rfl) (fun _ _ _ h => h) (Or.inl ⟨by rfl, ?y1x1⟩) (by assumption) ?_
                  case y1x1 => (intro w hSw; (try dsimp only at hSw); go_simp <;> with_reducible rfl)
                  try simp only [Act.put, List.getElem_toArray, List.getElem_cons_zero, List.getElem_cons_succ, List.setIfInBounds_toArray, List.set_cons_zero, List.set_cons_succ]
                  refine wpAnyH_take (i := 2) (v := ?v1x2) rfl (by kernel_rfl) (by kernel_rfl) (by kernel_rfl) (fun _ _ _ h => h) (Or.inl ⟨by rfl, ?y1x2⟩) (by assumption) ?_
                  case y1x2 => (intro w hSw; (try dsimp only at hSw); go_simp <;> with_reducible rfl)
                  try simp only [Act.put, List.getElem_toArray, List.getElem_cons_zero, List.getElem_cons_succ, List.setIfInBounds_toArray, List.set_cons_zero, List.set_cons_succ]
                  refine wpAnyH_take (i := 3) (v := ?v1x3) rfl (by kernel_rfl) (by kernel_rfl) (by kernel_rfl) (fun _ _ _ h => h) (Or.inl ⟨by rfl, ?y1x3⟩) (by assumption) ?_
                  case y1x3 => (intro w hSw; (try dsimp only at hSw); go_simp <;> with_reducible rfl)
                  try simp only [Act.put, List.getElem_toArray, List.getElem_cons_zero, List.getElem_cons_succ, List.setIfInBounds_toArray, List.set_cons_zero, List.set_cons_succ]
                  refine wpAnyH_take (i := 4) (v := undef) rfl (by kernel_rfl) (by kernel_rfl) (by kernel_rfl) (fun _ _ _ h => h) (Or.inr ⟨by rfl, rfl⟩) (by assumption) ?_
                  try simp only [Act.put, List.getElem_toArray, List.getElem_cons_zero, List.getElem_cons_succ, List.setIfInBounds_toArray, List.set_cons_zero, List.set_cons_succ]
                  refine wpAnyH_take (i := 5) (v := undef) rfl (by kernel_rfl) (by kernel_rfl) (by kernel_rfl) (fun _ _ _ h => h) (Or.inr ⟨by rfl, rfl⟩) (by assumption) ?_
                  try simp only [Act.put, List.getElem_toArray, List.getElem_cons_zero, List.getElem_cons_succ, List.setIfInBounds_toArray, List.set_cons_zero, List.set_cons_succ]
                  refine wpAnyH_take (i := 6) (v := ?v1x6) rfl (by kernel_rfl) (by kernel_rfl) (by kernel_rfl) (fun _ _ _ h => h) (Or.inl ⟨by rfl, ?y1x6⟩) (by assumption) ?_
                  case y1x6 => (intro w hSw; (try dsimp only at hSw); go_simp <;> with_reducible rfl)
                  try simp only [Act.put, List.getElem_toArray, List.getElem_cons_zero, List.getElem_cons_succ, List.setIfInBounds_toArray, List.set_cons_zero, List.set_cons_succ]
                  refine wpAnyH_take (i := 7) (v := ?v1x7) rfl (by kernel_rfl) (by kernel_rfl) (by kernel_rfl) (fun _ _ _ h => h) (Or.inl ⟨by rfl, ?y1x7⟩) (by assumption) ?_
                  case y1x7 => (intro w hSw; (try dsimp only at hSw); go_simp <;> with_reducible rfl)
                  try simp only [Act.put, List.getElem_toArray, List.getElem_cons_zero, List.getElem_cons_succ, List.setIfInBounds_toArray, List.set_cons_zero, List.set_cons_succ]
                  refine wpAnyH_take (i := 8) (v := ?v1x8) rfl (by kernel_rfl) (by kernel_rfl) (by kernel_rfl) (fun _ _ _ h => h) (Or.inl ⟨by rfl, ?y1x8⟩) (by assumption) ?_
                  case y1x8 => (intro w hSw; (try dsimp only at hSw); go_simp <;> with_reducible rfl)
                  try simp only [Act.put, List.getElem_toArray, List.getElem_cons_zero, List.getElem_cons_succ, List.setIfInBounds_toArray, List.set_cons_zero, List.set_cons_succ]
                  refine wpAnyH_take (i := 9) (v := ?v1x9) rfl (by kernel_rfl) (by kernel_rfl) (by kernel_rfl) (fun _ _ _ h => h) (Or.inl ⟨by rfl, ?y1x9⟩) (by assumption) ?_
                  case y1x9 => (intro w hSw; (try dsimp only at hSw); go_simp <;> with_reducible rfl)
                  try simp only [Act.put, List.getElem_toArray, List.getElem_cons_zero, List.getElem_cons_succ, List.setIfInBounds_toArray, List.set_cons_zero, List.set_cons_succ]
                  refine wpAnyH_take (i := 10) (v := ?v1x10) rfl (by kernel_rfl) (by kernel_rfl) (by kernel_rfl) (fun _ _ _ h => h) (Or.inl ⟨by rfl, ?y1x10⟩) (by assumption) ?_
                  case y1x10 => (intro w hSw; (try dsimp only at hSw); go_simp <;> with_reducible rfl)
                  try simp only [Act.put, List.getElem_toArray, List.getElem_cons_zero, List.getElem_cons_succ, List.setIfInBounds_toArray, List.set_cons_zero, List.set_cons_succ]
                  refine wpAnyH_take (i := 11) (v := ?v1x11) rfl (by kernel_rfl) (by kernel_rfl) (by kernel_rfl) (fun _ _ _ h => h) (Or.inl ⟨by rfl, ?y1x11⟩) (by assumption) ?_
                  case y1x11 => (intro w hSw; (try dsimp only at hSw); go_simp <;> with_reducible rfl)
                  try simp only [Act.put, List.getElem_toArray, List.getElem_cons_zero, List.getElem_cons_succ, List.setIfInBounds_toArray, List.set_cons_zero, List.set_cons_succ]
                  refine wpAnyH_take (i := 12) (v := ?v1x12) rfl (by kernel_rfl) (by kernel_rfl) (by kernel_rfl) (fun _ _ _ h => h) (Or.inl ⟨by rfl, ?y1x12⟩) (by assumption) ?_
                  case y1x12 => (intro w hSw; (try dsimp only at hSw); go_simp <;> with_reducible rfl)
                  try simp only [Act.put, List.getElem_toArray, List.getElem_cons_zero, List.getElem_cons_succ, List.setIfInBounds_toArray, List.set_cons_zero, List.set_cons_succ]
                  refine wpAnyH_take (i := 13) (v := ?v1x13) rfl (by kernel_rfl) (by kernel_rfl) (by kernel_rfl) (fun _ _ _ h => h) (Or.inl ⟨by rfl, ?y1x13⟩) (by assumption) ?_
                  case y1x13 => (intro w hSw; (try dsimp only at hSw); go_simp <;> with_reducible rfl)
                  try simp only [Act.put, List.getElem_toArray, List.getElem_cons_zero, List.getElem_cons_succ, List.setIfInBounds_toArray, List.set_cons_zero, List.set_cons_succ]
                  refine wpAnyH_take (i := 14) (v := ?v1x14) rfl (by kernel_rfl) (by kernel_rfl) (by kernel_rfl) (fun _ _ _ h => h) (Or.inl ⟨by rfl, ?y1x14⟩) (by assumption) ?_
                  case y1x14 => (intro w hSw; (try dsimp only at hSw); go_simp <;> with_reducible rfl)
                  try simp only [Act.put, List.getElem_toArray, List.getElem_cons_zero, List.getElem_cons_succ, List.setIfInBounds_toArray, List.set_cons_zero, List.set_cons_succ]
                  refine wpAnyH_take (i := 15) (v := ?v1x15) rfl (by kernel_rfl) (by kernel_rfl) (by kernel_rfl) (fun _ _ _ h => h) (Or.inl ⟨by rfl, ?y1x15⟩) (by assumption) ?_
                  case y1x15 => (intro w hSw; (try dsimp only at hSw); go_simp <;> with_reducible rfl)
                  try simp only [Act.put, List.getElem_toArray, List.getElem_cons_zero, List.getElem_cons_succ, List.setIfInBounds_toArray, List.set_cons_zero, List.set_cons_succ]
                  refine wpAnyH_take (i := 16) (v := ?v1x16) rfl (by kernel_rfl) (by kernel_rfl) (by kernel_rfl) (fun _ _ _ h => h) (Or.inl ⟨by rfl, ?y1x16⟩) (by assumption) ?_
                  case y1x16 => (intro w hSw; (try dsimp only at hSw); go_simp <;> with_reducible rfl)
                  try simp only [Act.put, List.getElem_toArray, List.getElem_cons_zero, List.getElem_cons_succ, List.setIfInBounds_toArray, List.set_cons_zero, List.set_cons_succ]
                  refine wpAnyH_take (i := 17) (v := ?v1x17) rfl (by kernel_rfl) (by kernel_rfl) (by kernel_rfl) (fun _ _ _ h => h) (Or.inl ⟨by rfl, ?y1x17⟩) (by assumption) ?_
                  case y1x17 => (intro w hSw; (try dsimp only at hSw); go_simp <;> with_reducible rfl)
                  try simp only [Act.put, List.getElem_toArray, List.getElem_cons_zero, List.getElem_cons_succ, List.setIfInBounds_toArray, List.set_cons_zero, List.set_cons_succ]
                  refine wpAnyH_take (i := 18) (v := ?v1x18) rfl (by kernel_rfl) (by kernel_rfl) (by kernel_rfl) (fun _ _ _ h => h) (Or.inl ⟨by rfl, ?y1x18⟩) (by assumption) ?_
                  case y1x18 => (intro w hSw; (try dsimp only at hSw); go_simp <;> with_reducible rfl)
                  try simp only [Act.put, List.getElem_toArray, List.getElem_cons_zero, List.getElem_cons_succ, List.setIfInBounds_toArray, List.set_cons_zero, List.set_cons_succ]
                  refine wpAnyH_take (i := 19) (v := ?v1x19) rfl (by kernel_rfl) (by kernel_rfl) (by kernel_rfl) (fun _ _ _ h => h) (Or.inl ⟨by rfl, ?y1x19⟩) (by assumption) ?_
                  case y1x19 => (intro w hSw; (try dsimp only at hSw); go_simp <;> with_reducible rfl)
                  try simp only [Act.put, List.getElem_toArray, List.getElem_cons_zero, List.getElem_cons_succ, List.setIfInBounds_toArray, List.set_cons_zero, List.set_cons_succ]
                  refine wpAnyH_ready (rs := [20]) (by kernel_rfl) (by simp) ?_
                  refine AllReadyH.cons rfl (fun K hK => ?_) AllReadyH.nil
                  go_simp
                  refine (HIH.out _ (by first | with_reducible exact HBV.out.trans (T.drew.mono HBV.out.size) | with_reducible exact HBV.out.trans (T.mono HBV.out.size))).mono ?_
                  rintro e w3 ⟨rfl, hb3⟩
                  replace T : Below V.heap.size V w3 := (by first | with_reducible exact T.drew.trans (hb3.mono T.drew.size) | with_reducible exact T.trans (hb3.mono T.size))
                  clear hb3
                  go_wp2_with fail
                  refine hK.out _ _ (by with_reducible exact HFC.out _ T) (fun hHeld => ?_)
                  clear hK K
                  try simp only [Act.put, List.getElem_toArray, List.getElem_cons_zero, List.getElem_cons_succ, List.setIfInBounds_toArray, List.set_cons_zero, List.set_cons_succ]
                  refine wpAnyH_take (i := 21) (v := ?v1x21) rfl (by kernel_rfl) (by kernel_rfl) (by kernel_rfl) (fun _ _ _ h => h) (Or.inl ⟨by rfl, ?y1x21⟩) (by assumption) ?_
                  case y1x21 => (intro w hSw; (try dsimp only at hSw); go_simp <;> with_reducible rfl)
                  try simp only [Act.put, List.getElem_toArray, List.getElem_cons_zero, List.getElem_cons_succ, List.setIfInBounds_toArray, List.set_cons_zero, List.set_cons_succ]
                  refine wpAnyH_take (i := 22) (v := ?v1x22) rfl (by kernel_rfl) (by kernel_rfl) (by kernel_rfl) (fun _ _ _ h => h) (Or.inl ⟨by rfl, ?y1x22⟩) (by assumption) ?_
                  case y1x22 => (intro w hSw; (try dsimp only at hSw); go_simp <;> with_reducible rfl)
                  try simp only [Act.put, List.getElem_toArray, List.getElem_cons_zero, List.getElem_cons_succ, List.setIfInBounds_toArray, List.set_cons_zero, List.set_cons_succ]
                  refine wpAnyH_take (i := 23) (v := ?v1x23) rfl (by kernel_rfl) (by kernel_rfl) (by kernel_rfl) (fun _ _ _ h => h) (Or.inl ⟨by rfl, ?y1x23⟩) (by assumption) ?_
                  case y1x23 => (intro w hSw; (try dsimp only at hSw); go_simp <;> with_reducible rfl)
                  try simp only [Act.put, List.getElem_toArray, List.getElem_cons_zero, List.getElem_cons_succ, List.setIfInBounds_toArray, List.set_cons_zero, List.set_cons_succ]
                  refine wpAnyH_done (by kernel_rfl) ?_ _
                  cases hh with
                  | false =>
                    have HRR : Hid _ := HBD.out rfl
                    have HTT : Hid _ := HBV.out.trans (T.mono HBV.out.size)
                    clear T
                    go_wp2
                    go_ret
                    exact ⟨by rw [HRR.out]; rfl, below_of HBw.out HTT.out⟩
                  | true =>
                    have HNX : Hid _ := HST.out rfl
                    have HB3 : Hid (Below w2.heap.size w2 w3) := HB.out.trans ((HBV.out.trans (T.mono HBV.out.size)).mono HB.out.size)
                    clear T
                    go_wp2
                    exact ⟨⟨j + 1, by omega, by go_num, HNX.out, HB3.out⟩, by simp [intOf]; omega⟩
                · have q2 : ((y.kids.length : Int) == 0) = false := by rw [beq_eq_false_iff_ne]; omega
                  obtain ⟨v0, v1, v2, v3, v4, v5, v6, v7⟩ := HFC.out V (Below.refl _ _)
                  clear y1 y2 hBV b0
                  go_wp2
                  go_quiet (fail)
                  go_wp2
                  have T : Below V.heap.size V (V.drewN nq) := ⟨rfl, rfl, rfl, Nat.le_refl _, fun _ _ => rfl⟩
                  clear v0 v1 v2 v3 v4 v5 v6 v7 g0 g1 g2 d0 d1 d2 c0 c1 k0' k1' k2' k3' k4' z0' z1' z2'
                  generalize V.drewN nq = V2 at T ⊢
                  refine wp_region_held_drew (S := (fun W => W.cell? ⟨w.heap.size, 0, none⟩ = some (.int .i64 G.nts) ∧ W.cell? ⟨w.heap.size, 1, none⟩ = some (.int .i64 G.start) ∧ W.cell? ⟨w.heap.size, 2, none⟩ = some (.slice (some ⟨rb, ro, none⟩) G.rules.length gc) ∧ W.cell? ⟨w.heap.size + 1, 2, none⟩ = some (.slice (some ⟨yb, yo, none⟩) d.kids.length sc) ∧ W.cell? ⟨yb, yo + j * 3, none⟩ = some (.int .i64 y.rule) ∧ W.cell? ⟨yb, yo + j * 3 + 1, none⟩ = some (.int .u8 (y.byte.toNat : Int)) ∧ W.cell? ⟨yb, yo + j * 3 + 2, none⟩ = some (.slice ya y.kids.length yc) ∧ W.cell? ⟨wr.heap.size, 0, none⟩ = some (.int .i64 x.nt))) (by kernel_rfl) (by first | with_reducible exact HFC.out _ T.drew | exact HFC.out _ T) (fun hHeld => ?_)
                  refine wpAnyH_take (i := 0) (v := ?v2x0) rfl (by kernel_rfl) (by kernel_rfl) (by kernel_rfl) (fun _ _ _ h => h) (Or.inl ⟨by rfl, ?y2x0⟩) (by assumption) ?_
                  case y2x0 => (intro w hSw; (try dsimp only at hSw); go_simp <;> with_reducible rfl)
                  try simp only [Act.put, List.getElem_toArray, List.getElem_cons_zero, List.setIfInBounds_toArray, List.set_cons_zero, List.set_cons_succ]
                  refine wpAnyH_take (i := 1) (v := ?v2x1) rfl (by kernel_rfl) (by kernel_rfl) (by kernel_rfl) (fun _ _ _ h => h) (Or.inl ⟨by rfl, ?y2x1⟩) (by assumption) ?_
                  case y2x1 => (intro w hSw; (try dsimp only at hSw); go_simp <;> with_reducible rfl)
                  try simp only [Act.put, List.getElem_toArray, List.getElem_cons_zero, List.getElem_cons_succ, List.setIfInBounds_toArray, List.set_cons_zero, List.set_cons_succ]
                  refine wpAnyH_take (i := 2) (v := ?v2x2) rfl (by kernel_rfl) (by kernel_rfl) (by kernel_rfl) (fun _ _ _ h => h) (Or.inl ⟨by rfl, ?y2x2⟩) (by assumption) ?_
                  case y2x2 => (intro w hSw; (try dsimp only at hSw); go_simp <;> with_reducible rfl)
                  try simp only [Act.put, List.getElem_toArray, List.getElem_cons_zero, List.getElem_cons_succ, List.setIfInBounds_toArray, List.set_cons_zero, List.set_cons_succ]
                  refine wpAnyH_take (i := 3) (v := ?v2x3) rfl (by kernel_rfl) (by kernel_rfl) (by kernel_rfl) (fun _ _ _ h => h) (Or.inl ⟨by rfl, ?y2x3⟩) (by assumption) ?_
                  case y2x3 => (intro w hSw; (try dsimp only at hSw); go_simp <;> with_reducible rfl)
                  try simp only [Act.put, List.getElem_toArray, List.getElem_cons_zero, List.getElem_cons_succ, List.setIfInBounds_toArray, List.set_cons_zero, List.set_cons_succ]
                  refine wpAnyH_take (i := 4) (v := undef) rfl (by kernel_rfl) (by kernel_rfl) (by kernel_rfl) (fun _ _ _ h => h) (Or.inr ⟨by rfl, rfl⟩) (by assumption) ?_
                  try simp only [Act.put, List.getElem_toArray, List.getElem_cons_zero, List.getElem_cons_succ, List.setIfInBounds_toArray, List.set_cons_zero, List.set_cons_succ]
                  refine wpAnyH_take (i := 5) (v := undef) rfl (by kernel_rfl) (by kernel_rfl) (by kernel_rfl) (fun _ _ _ h => h) (Or.inr ⟨by rfl, rfl⟩) (by assumption) ?_
                  try simp only [Act.put, List.getElem_toArray, List.getElem_cons_zero, List.getElem_cons_succ, List.setIfInBounds_toArray, List.set_cons_zero, List.set_cons_succ]
                  refine wpAnyH_take (i := 6) (v := ?v2x6) rfl (by kernel_rfl) (by kernel_rfl) (by kernel_rfl) (fun _ _ _ h => h) (Or.inl ⟨by rfl, ?y2x6⟩) (by assumption) ?_
                  case y2x6 => (intro w hSw; (try dsimp only at hSw); go_simp <;> with_reducible rfl)
                  try simp only [Act.put, List.getElem_toArray, List.getElem_cons_zero, List.getElem_cons_succ, List.setIfInBounds_toArray, List.set_cons_zero, List.set_cons_succ]
                  refine wpAnyH_take (i := 7) (v := ?v2x7) rfl (by kernel_rfl) (by kernel_rfl) (by kernel_rfl) (fun _ _ _ h => h) (Or.inl ⟨by rfl, ?y2x7⟩) (by assumption) ?_
                  case y2x7 => (intro w hSw; (try dsimp only at hSw); go_simp <;> with_reducible rfl)
                  try simp only [Act.put, List.getElem_toArray, List.getElem_cons_zero, List.getElem_cons_succ, List.setIfInBounds_toArray, List.set_cons_zero, List.set_cons_succ]
                  refine wpAnyH_take (i := 8) (v := ?v2x8) rfl (by kernel_rfl) (by kernel_rfl) (by kernel_rfl) (fun _ _ _ h => h) (Or.inl ⟨by rfl, ?y2x8⟩) (by assumption) ?_
                  case y2x8 => (intro w hSw; (try dsimp only at hSw); go_simp <;> with_reducible rfl)
                  try simp only [Act.put, List.getElem_toArray, List.getElem_cons_zero, List.getElem_cons_succ, List.setIfInBounds_toArray, List.set_cons_zero, List.set_cons_succ]
                  refine wpAnyH_take (i := 9) (v := ?v2x9) rfl (by kernel_rfl) (by kernel_rfl) (by kernel_rfl) (fun _ _ _ h => h) (Or.inl ⟨by rfl, ?y2x9⟩) (by assumption) ?_
                  case y2x9 => (intro w hSw; (try dsimp only at hSw); go_simp <;> with_reducible rfl)
                  try simp only [Act.put, List.getElem_toArray, List.getElem_cons_zero, List.getElem_cons_succ, List.setIfInBounds_toArray, List.set_cons_zero, List.set_cons_succ]
                  refine wpAnyH_take (i := 10) (v := ?v2x10) rfl (by kernel_rfl) (by kernel_rfl) (by kernel_rfl) (fun _ _ _ h => h) (Or.inl ⟨by rfl, ?y2x10⟩) (by assumption) ?_
                  case y2x10 => (intro w hSw; (try dsimp only at hSw); go_simp <;> with_reducible rfl)
                  try simp only [Act.put, List.getElem_toArray, List.getElem_cons_zero, List.getElem_cons_succ, List.setIfInBounds_toArray, List.set_cons_zero, List.set_cons_succ]
                  refine wpAnyH_take (i := 11) (v := ?v2x11) rfl (by kernel_rfl) (by kernel_rfl) (by kernel_rfl) (fun _ _ _ h => h) (Or.inl ⟨by rfl, ?y2x11⟩) (by assumption) ?_
                  case y2x11 => (intro w hSw; (try dsimp only at hSw); go_simp <;> with_reducible rfl)
                  try simp only [Act.put, List.getElem_toArray, List.getElem_cons_zero, List.getElem_cons_succ, List.setIfInBounds_toArray, List.set_cons_zero, List.set_cons_succ]
                  refine wpAnyH_take (i := 12) (v := ?v2x12) rfl (by kernel_rfl) (by kernel_rfl) (by kernel_rfl) (fun _ _ _ h => h) (Or.inl ⟨by rfl, ?y2x12⟩) (by assumption) ?_
                  case y2x12 => (intro w hSw; (try dsimp only at hSw); go_simp <;> with_reducible rfl)
                  try simp only [Act.put, List.getElem_toArray, List.getElem_cons_zero, List.getElem_cons_succ, List.setIfInBounds_toArray, List.set_cons_zero, List.set_cons_succ]
                  refine wpAnyH_take (i := 13) (v := ?v2x13) rfl (by kernel_rfl) (by kernel_rfl) (by kernel_rfl) (fun _ _ _ h => h) (Or.inl ⟨by rfl, ?y2x13⟩) (by assumption) ?_
                  case y2x13 => (intro w hSw; (try dsimp only at hSw); go_simp <;> with_reducible rfl)
                  try simp only [Act.put, List.getElem_toArray, List.getElem_cons_zero, List.getElem_cons_succ, List.setIfInBounds_toArray, List.set_cons_zero, List.set_cons_succ]
                  refine wpAnyH_take (i := 14) (v := ?v2x14) rfl (by kernel_rfl) (by kernel_rfl) (by kernel_rfl) (fun _ _ _ h => h) (Or.inl ⟨by rfl, ?y2x14⟩) (by assumption) ?_
                  case y2x14 => (intro w hSw; (try dsimp only at hSw); go_simp <;> with_reducible rfl)
                  try simp only [Act.put, List.getElem_toArray, List.getElem_cons_zero, List.getElem_cons_succ, List.setIfInBounds_toArray, List.set_cons_zero, List.set_cons_succ]
                  refine wpAnyH_take (i := 15) (v := ?v2x15) rfl (by kernel_rfl) (by kernel_rfl) (by kernel_rfl) (fun _ _ _ h => h) (Or.inl ⟨by rfl, ?y2x15⟩) (by assumption) ?_
                  case y2x15 => (intro w hSw; (try dsimp only at hSw); go_simp <;> with_reducible rfl)
                  try simp only [Act.put, List.getElem_toArray, List.getElem_cons_zero, List.getElem_cons_succ, List.setIfInBounds_toArray, List.set_cons_zero, List.set_cons_succ]
                  refine wpAnyH_take (i := 16) (v := ?v2x16) rfl (by kernel_rfl) (by kernel_rfl) (by kernel_rfl) (fun _ _ _ h => h) (Or.inl ⟨by rfl, ?y2x16⟩) (by assumption) ?_
                  case y2x16 => (intro w hSw; (try dsimp only at hSw); go_simp <;> with_reducible rfl)
                  try simp only [Act.put, List.getElem_toArray, List.getElem_cons_zero, List.getElem_cons_succ, List.setIfInBounds_toArray, List.set_cons_zero, List.set_cons_succ]
                  refine wpAnyH_take (i := 17) (v := ?v2x17) rfl (by kernel_rfl) (by kernel_rfl) (by kernel_rfl) (fun _ _ _ h => h) (Or.inl ⟨by rfl, ?y2x17⟩) (by assumption) ?_
                  case y2x17 => (intro w hSw; (try dsimp only at hSw); go_simp <;> with_reducible rfl)
                  try simp only [Act.put, List.getElem_toArray, List.getElem_cons_zero, List.getElem_cons_succ, List.setIfInBounds_toArray, List.set_cons_zero, List.set_cons_succ]
                  refine wpAnyH_take (i := 18) (v := ?v2x18) rfl (by kernel_rfl) (by kernel_rfl) (by kernel_rfl) (fun _ _ _ h => h) (Or.inl ⟨by rfl, ?y2x18⟩) (by assumption) ?_
                  case y2x18 => (intro w hSw; (try dsimp only at hSw); go_simp <;> with_reducible rfl)
                  try simp only [Act.put, List.getElem_toArray, List.getElem_cons_zero, List.getElem_cons_succ, List.setIfInBounds_toArray, List.set_cons_zero, List.set_cons_succ]
                  refine wpAnyH_take (i := 19) (v := ?v2x19) rfl (by kernel_rfl) (by kernel_rfl) (by kernel_rfl) (fun _ _ _ h => h) (Or.inl ⟨by rfl, ?y2x19⟩) (by assumption) ?_
                  case y2x19 => (intro w hSw; (try dsimp only at hSw); go_simp <;> with_reducible rfl)
                  try simp only [Act.put, List.getElem_toArray, List.getElem_cons_zero, List.getElem_cons_succ, List.setIfInBounds_toArray, List.set_cons_zero, List.set_cons_succ]
                  refine wpAnyH_ready (rs := [20]) (by kernel_rfl) (by simp) ?_
                  refine AllReadyH.cons rfl (fun K hK => ?_) AllReadyH.nil
                  go_simp
                  refine (HIH.out _ (by first | with_reducible exact HBV.out.trans (T.drew.mono HBV.out.size) | with_reducible exact HBV.out.trans (T.mono HBV.out.size))).mono ?_
                  rintro e w3 ⟨rfl, hb3⟩
                  replace T : Below V.heap.size V w3 := (by first | with_reducible exact T.drew.trans (hb3.mono T.drew.size) | with_reducible exact T.trans (hb3.mono T.size))
                  clear hb3
                  go_wp2_with fail
                  refine hK.out _ _ (by with_reducible exact HFC.out _ T) (fun hHeld => ?_)
                  clear hK K
                  try simp only [Act.put, List.getElem_toArray, List.getElem_cons_zero, List.getElem_cons_succ, List.setIfInBounds_toArray, List.set_cons_zero, List.set_cons_succ]
                  refine wpAnyH_take (i := 21) (v := ?v2x21) rfl (by kernel_rfl) (by kernel_rfl) (by kernel_rfl) (fun _ _ _ h => h) (Or.inl ⟨by rfl, ?y2x21⟩) (by assumption) ?_
                  case y2x21 => (intro w hSw; (try dsimp only at hSw); go_simp <;> with_reducible rfl)
                  try simp only [Act.put, List.getElem_toArray, List.getElem_cons_zero, List.getElem_cons_succ, List.setIfInBounds_toArray, List.set_cons_zero, List.set_cons_succ]
                  refine wpAnyH_take (i := 22) (v := ?v2x22) rfl (by kernel_rfl) (by kernel_rfl) (by kernel_rfl) (fun _ _ _ h => h) (Or.inl ⟨by rfl, ?y2x22⟩) (by assumption) ?_
                  case y2x22 => (intro w hSw; (try dsimp only at hSw); go_simp <;> with_reducible rfl)
                  try simp only [Act.put, List.getElem_toArray, List.getElem_cons_zero, List.getElem_cons_succ, List.setIfInBounds_toArray, List.set_cons_zero, List.set_cons_succ]
                  refine wpAnyH_take (i := 23) (v := ?v2x23) rfl (by kernel_rfl) (by kernel_rfl) (by kernel_rfl) (fun _ _ _ h => h) (Or.inl ⟨by rfl, ?y2x23⟩) (by assumption) ?_
                  case y2x23 => (intro w hSw; (try dsimp only at hSw); go_simp <;> with_reducible rfl)
                  try simp only [Act.put, List.getElem_toArray, List.getElem_cons_zero, List.getElem_cons_succ, List.setIfInBounds_toArray, List.set_cons_zero, List.set_cons_succ]
                  refine wpAnyH_done (by kernel_rfl) ?_ _
                  cases hh with
                  | false =>
                    have HRR : Hid _ := HBD.out rfl
                    have HTT : Hid _ := HBV.out.trans (T.mono HBV.out.size)
                    clear T
                    go_wp2
                    go_ret
                    exact ⟨by rw [HRR.out]; rfl, below_of HBw.out HTT.out⟩
                  | true =>
                    have HNX : Hid _ := HST.out rfl
                    have HB3 : Hid (Below w2.heap.size w2 w3) := HB.out.trans ((HBV.out.trans (T.mono HBV.out.size)).mono HB.out.size)
                    clear T
                    go_wp2
                    exact ⟨⟨j + 1, by omega, by go_num, HNX.out, HB3.out⟩, by simp [intOf]; omega⟩
              · have q1 : (y.rule == -1) = false := by simp [y1]
                obtain ⟨v0, v1, v2, v3, v4, v5, v6, v7⟩ := HFC.out V (Below.refl _ _)
                clear y1 hBV b0
                go_wp2
                go_quiet (fail)
                go_wp2
                have T : Below V.heap.size V (V.drewN nq) := ⟨rfl, rfl, rfl, Nat.le_refl _, fun _ _ => rfl⟩
                clear v0 v1 v2 v3 v4 v5 v6 v7 g0 g1 g2 d0 d1 d2 c0 c1 k0' k1' k2' k3' k4' z0' z1' z2'
                generalize V.drewN nq = V2 at T ⊢
                refine wp_region_held_drew (S := (fun W => W.cell? ⟨w.heap.size, 0, none⟩ = some (.int .i64 G.nts) ∧ W.cell? ⟨w.heap.size, 1, none⟩ = some (.int .i64 G.start) ∧ W.cell? ⟨w.heap.size, 2, none⟩ = some (.slice (some ⟨rb, ro, none⟩) G.rules.length gc) ∧ W.cell? ⟨w.heap.size + 1, 2, none⟩ = some (.slice (some ⟨yb, yo, none⟩) d.kids.length sc) ∧ W.cell? ⟨yb, yo + j * 3, none⟩ = some (.int .i64 y.rule) ∧ W.cell? ⟨yb, yo + j * 3 + 1, none⟩ = some (.int .u8 (y.byte.toNat : Int)) ∧ W.cell? ⟨yb, yo + j * 3 + 2, none⟩ = some (.slice ya y.kids.length yc) ∧ W.cell? ⟨wr.heap.size, 0, none⟩ = some (.int .i64 x.nt))) (by kernel_rfl) (by first | with_reducible exact HFC.out _ T.drew | exact HFC.out _ T) (fun hHeld => ?_)
                refine wpAnyH_take (i := 0) (v := ?v3x0) rfl (by kernel_rfl) (by kernel_rfl) (by kernel_rfl) (fun _ _ _ h => h) (Or.inl ⟨by rfl, ?y3x0⟩) (by assumption) ?_
                case y3x0 => (intro w hSw; (try dsimp only at hSw); go_simp <;> with_reducible rfl)
                try simp only [Act.put, List.getElem_toArray, List.getElem_cons_zero, List.setIfInBounds_toArray, List.set_cons_zero, List.set_cons_succ]
                refine wpAnyH_take (i := 1) (v := ?v3x1) rfl (by kernel_rfl) (by kernel_rfl) (by kernel_rfl) (fun _ _ _ h => h) (Or.inl ⟨by rfl, ?y3x1⟩) (by assumption) ?_
                case y3x1 => (intro w hSw; (try dsimp only at hSw); go_simp <;> with_reducible rfl)
                try simp only [Act.put, List.getElem_toArray, List.getElem_cons_zero, List.getElem_cons_succ, List.setIfInBounds_toArray, List.set_cons_zero, List.set_cons_succ]
                refine wpAnyH_take (i := 2) (v := ?v3x2) rfl (by kernel_rfl) (by kernel_rfl) (by kernel_rfl) (fun _ _ _ h => h) (Or.inl ⟨by rfl, ?y3x2⟩) (by assumption) ?_
                case y3x2 => (intro w hSw; (try dsimp only at hSw); go_simp <;> with_reducible rfl)
                try simp only [Act.put, List.getElem_toArray, List.getElem_cons_zero, List.getElem_cons_succ, List.setIfInBounds_toArray, List.set_cons_zero, List.set_cons_succ]
                refine wpAnyH_take (i := 3) (v := ?v3x3) rfl (by kernel_rfl) (by kernel_rfl) (by kernel_rfl) (fun _ _ _ h => h) (Or.inl ⟨by rfl, ?y3x3⟩) (by assumption) ?_
                case y3x3 => (intro w hSw; (try dsimp only at hSw); go_simp <;> with_reducible rfl)
                try simp only [Act.put, List.getElem_toArray, List.getElem_cons_zero, List.getElem_cons_succ, List.setIfInBounds_toArray, List.set_cons_zero, List.set_cons_succ]
                refine wpAnyH_take (i := 4) (v := undef) rfl (by kernel_rfl) (by kernel_rfl) (by kernel_rfl) (fun _ _ _ h => h) (Or.inr ⟨by rfl, rfl⟩) (by assumption) ?_
                try simp only [Act.put, List.getElem_toArray, List.getElem_cons_zero, List.getElem_cons_succ, List.setIfInBounds_toArray, List.set_cons_zero, List.set_cons_succ]
                refine wpAnyH_take (i := 5) (v := undef) rfl (by kernel_rfl) (by kernel_rfl) (by kernel_rfl) (fun _ _ _ h => h) (Or.inr ⟨by rfl, rfl⟩) (by assumption) ?_
                try simp only [Act.put, List.getElem_toArray, List.getElem_cons_zero, List.getElem_cons_succ, List.setIfInBounds_toArray, List.set_cons_zero, List.set_cons_succ]
                refine wpAnyH_take (i := 6) (v := ?v3x6) rfl (by kernel_rfl) (by kernel_rfl) (by kernel_rfl) (fun _ _ _ h => h) (Or.inl ⟨by rfl, ?y3x6⟩) (by assumption) ?_
                case y3x6 => (intro w hSw; (try dsimp only at hSw); go_simp <;> with_reducible rfl)
                try simp only [Act.put, List.getElem_toArray, List.getElem_cons_zero, List.getElem_cons_succ, List.setIfInBounds_toArray, List.set_cons_zero, List.set_cons_succ]
                refine wpAnyH_take (i := 7) (v := ?v3x7) rfl (by kernel_rfl) (by kernel_rfl) (by kernel_rfl) (fun _ _ _ h => h) (Or.inl ⟨by rfl, ?y3x7⟩) (by assumption) ?_
                case y3x7 => (intro w hSw; (try dsimp only at hSw); go_simp <;> with_reducible rfl)
                try simp only [Act.put, List.getElem_toArray, List.getElem_cons_zero, List.getElem_cons_succ, List.setIfInBounds_toArray, List.set_cons_zero, List.set_cons_succ]
                refine wpAnyH_take (i := 8) (v := ?v3x8) rfl (by kernel_rfl) (by kernel_rfl) (by kernel_rfl) (fun _ _ _ h => h) (Or.inl ⟨by rfl, ?y3x8⟩) (by assumption) ?_
                case y3x8 => (intro w hSw; (try dsimp only at hSw); go_simp <;> with_reducible rfl)
                try simp only [Act.put, List.getElem_toArray, List.getElem_cons_zero, List.getElem_cons_succ, List.setIfInBounds_toArray, List.set_cons_zero, List.set_cons_succ]
                refine wpAnyH_take (i := 9) (v := ?v3x9) rfl (by kernel_rfl) (by kernel_rfl) (by kernel_rfl) (fun _ _ _ h => h) (Or.inl ⟨by rfl, ?y3x9⟩) (by assumption) ?_
                case y3x9 => (intro w hSw; (try dsimp only at hSw); go_simp <;> with_reducible rfl)
                try simp only [Act.put, List.getElem_toArray, List.getElem_cons_zero, List.getElem_cons_succ, List.setIfInBounds_toArray, List.set_cons_zero, List.set_cons_succ]
                refine wpAnyH_take (i := 10) (v := ?v3x10) rfl (by kernel_rfl) (by kernel_rfl) (by kernel_rfl) (fun _ _ _ h => h) (Or.inl ⟨by rfl, ?y3x10⟩) (by assumption) ?_
                case y3x10 => (intro w hSw; (try dsimp only at hSw); go_simp <;> with_reducible rfl)
                try simp only [Act.put, List.getElem_toArray, List.getElem_cons_zero, List.getElem_cons_succ, List.setIfInBounds_toArray, List.set_cons_zero, List.set_cons_succ]
                refine wpAnyH_take (i := 11) (v := ?v3x11) rfl (by kernel_rfl) (by kernel_rfl) (by kernel_rfl) (fun _ _ _ h => h) (Or.inl ⟨by rfl, ?y3x11⟩) (by assumption) ?_
                case y3x11 => (intro w hSw; (try dsimp only at hSw); go_simp <;> with_reducible rfl)
                try simp only [Act.put, List.getElem_toArray, List.getElem_cons_zero, List.getElem_cons_succ, List.setIfInBounds_toArray, List.set_cons_zero, List.set_cons_succ]
                refine wpAnyH_take (i := 12) (v := ?v3x12) rfl (by kernel_rfl) (by kernel_rfl) (by kernel_rfl) (fun _ _ _ h => h) (Or.inl ⟨by rfl, ?y3x12⟩) (by assumption) ?_
                case y3x12 => (intro w hSw; (try dsimp only at hSw); go_simp <;> with_reducible rfl)
                try simp only [Act.put, List.getElem_toArray, List.getElem_cons_zero, List.getElem_cons_succ, List.setIfInBounds_toArray, List.set_cons_zero, List.set_cons_succ]
                refine wpAnyH_take (i := 13) (v := ?v3x13) rfl (by kernel_rfl) (by kernel_rfl) (by kernel_rfl) (fun _ _ _ h => h) (Or.inl ⟨by rfl, ?y3x13⟩) (by assumption) ?_
                case y3x13 => (intro w hSw; (try dsimp only at hSw); go_simp <;> with_reducible rfl)
                try simp only [Act.put, List.getElem_toArray, List.getElem_cons_zero, List.getElem_cons_succ, List.setIfInBounds_toArray, List.set_cons_zero, List.set_cons_succ]
                refine wpAnyH_take (i := 14) (v := ?v3x14) rfl (by kernel_rfl) (by kernel_rfl) (by kernel_rfl) (fun _ _ _ h => h) (Or.inl ⟨by rfl, ?y3x14⟩) (by assumption) ?_
                case y3x14 => (intro w hSw; (try dsimp only at hSw); go_simp <;> with_reducible rfl)
                try simp only [Act.put, List.getElem_toArray, List.getElem_cons_zero, List.getElem_cons_succ, List.setIfInBounds_toArray, List.set_cons_zero, List.set_cons_succ]
                refine wpAnyH_take (i := 15) (v := ?v3x15) rfl (by kernel_rfl) (by kernel_rfl) (by kernel_rfl) (fun _ _ _ h => h) (Or.inl ⟨by rfl, ?y3x15⟩) (by assumption) ?_
                case y3x15 => (intro w hSw; (try dsimp only at hSw); go_simp <;> with_reducible rfl)
                try simp only [Act.put, List.getElem_toArray, List.getElem_cons_zero, List.getElem_cons_succ, List.setIfInBounds_toArray, List.set_cons_zero, List.set_cons_succ]
                refine wpAnyH_take (i := 16) (v := ?v3x16) rfl (by kernel_rfl) (by kernel_rfl) (by kernel_rfl) (fun _ _ _ h => h) (Or.inl ⟨by rfl, ?y3x16⟩) (by assumption) ?_
                case y3x16 => (intro w hSw; (try dsimp only at hSw); go_simp <;> with_reducible rfl)
                try simp only [Act.put, List.getElem_toArray, List.getElem_cons_zero, List.getElem_cons_succ, List.setIfInBounds_toArray, List.set_cons_zero, List.set_cons_succ]
                refine wpAnyH_take (i := 17) (v := ?v3x17) rfl (by kernel_rfl) (by kernel_rfl) (by kernel_rfl) (fun _ _ _ h => h) (Or.inl ⟨by rfl, ?y3x17⟩) (by assumption) ?_
                case y3x17 => (intro w hSw; (try dsimp only at hSw); go_simp <;> with_reducible rfl)
                try simp only [Act.put, List.getElem_toArray, List.getElem_cons_zero, List.getElem_cons_succ, List.setIfInBounds_toArray, List.set_cons_zero, List.set_cons_succ]
                refine wpAnyH_take (i := 18) (v := ?v3x18) rfl (by kernel_rfl) (by kernel_rfl) (by kernel_rfl) (fun _ _ _ h => h) (Or.inl ⟨by rfl, ?y3x18⟩) (by assumption) ?_
                case y3x18 => (intro w hSw; (try dsimp only at hSw); go_simp <;> with_reducible rfl)
                try simp only [Act.put, List.getElem_toArray, List.getElem_cons_zero, List.getElem_cons_succ, List.setIfInBounds_toArray, List.set_cons_zero, List.set_cons_succ]
                refine wpAnyH_take (i := 19) (v := ?v3x19) rfl (by kernel_rfl) (by kernel_rfl) (by kernel_rfl) (fun _ _ _ h => h) (Or.inl ⟨by rfl, ?y3x19⟩) (by assumption) ?_
                case y3x19 => (intro w hSw; (try dsimp only at hSw); go_simp <;> with_reducible rfl)
                try simp only [Act.put, List.getElem_toArray, List.getElem_cons_zero, List.getElem_cons_succ, List.setIfInBounds_toArray, List.set_cons_zero, List.set_cons_succ]
                refine wpAnyH_ready (rs := [20]) (by kernel_rfl) (by simp) ?_
                refine AllReadyH.cons rfl (fun K hK => ?_) AllReadyH.nil
                go_simp
                refine (HIH.out _ (by first | with_reducible exact HBV.out.trans (T.drew.mono HBV.out.size) | with_reducible exact HBV.out.trans (T.mono HBV.out.size))).mono ?_
                rintro e w3 ⟨rfl, hb3⟩
                replace T : Below V.heap.size V w3 := (by first | with_reducible exact T.drew.trans (hb3.mono T.drew.size) | with_reducible exact T.trans (hb3.mono T.size))
                clear hb3
                go_wp2_with fail
                refine hK.out _ _ (by with_reducible exact HFC.out _ T) (fun hHeld => ?_)
                clear hK K
                try simp only [Act.put, List.getElem_toArray, List.getElem_cons_zero, List.getElem_cons_succ, List.setIfInBounds_toArray, List.set_cons_zero, List.set_cons_succ]
                refine wpAnyH_take (i := 21) (v := ?v3x21) rfl (by kernel_rfl) (by kernel_rfl) (by kernel_rfl) (fun _ _ _ h => h) (Or.inl ⟨by rfl, ?y3x21⟩) (by assumption) ?_
                case y3x21 => (intro w hSw; (try dsimp only at hSw); go_simp <;> with_reducible rfl)
                try simp only [Act.put, List.getElem_toArray, List.getElem_cons_zero, List.getElem_cons_succ, List.setIfInBounds_toArray, List.set_cons_zero, List.set_cons_succ]
                refine wpAnyH_take (i := 22) (v := ?v3x22) rfl (by kernel_rfl) (by kernel_rfl) (by kernel_rfl) (fun _ _ _ h => h) (Or.inl ⟨by rfl, ?y3x22⟩) (by assumption) ?_
                case y3x22 => (intro w hSw; (try dsimp only at hSw); go_simp <;> with_reducible rfl)
                try simp only [Act.put, List.getElem_toArray, List.getElem_cons_zero, List.getElem_cons_succ, List.setIfInBounds_toArray, List.set_cons_zero, List.set_cons_succ]
                refine wpAnyH_take (i := 23) (v := ?v3x23) rfl (by kernel_rfl) (by kernel_rfl) (by kernel_rfl) (fun _ _ _ h => h) (Or.inl ⟨by rfl, ?y3x23⟩) (by assumption) ?_
                case y3x23 => (intro w hSw; (try dsimp only at hSw); go_simp <;> with_reducible rfl)
                try simp only [Act.put, List.getElem_toArray, List.getElem_cons_zero, List.getElem_cons_succ, List.setIfInBounds_toArray, List.set_cons_zero, List.set_cons_succ]
                refine wpAnyH_done (by kernel_rfl) ?_ _
                cases hh with
                | false =>
                  have HRR : Hid _ := HBD.out rfl
                  have HTT : Hid _ := HBV.out.trans (T.mono HBV.out.size)
                  clear T
                  go_wp2
                  go_ret
                  exact ⟨by rw [HRR.out]; rfl, below_of HBw.out HTT.out⟩
                | true =>
                  have HNX : Hid _ := HST.out rfl
                  have HB3 : Hid (Below w2.heap.size w2 w3) := HB.out.trans ((HBV.out.trans (T.mono HBV.out.size)).mono HB.out.size)
                  clear T
                  go_wp2
                  exact ⟨⟨j + 1, by omega, by go_num, HNX.out, HB3.out⟩, by simp [intOf]; omega⟩
          · have hjn : j = d.kids.length := by omega
            have HYES : Hid (isS G ⟨nt, St.zero⟩ d = true) := by
              show _ = _
              have hq := HAL.out
              rw [List.take_of_length_le (l := r.rhs.zip d.kids) (i := j) (by rw [List.length_zip]; omega)] at hq
              rw [HX.out, allS_zip]; exact hq
            subst hjn
            go_wp2
            go_ret
            exact ⟨by rw [HYES.out]; rfl, HBw.out⟩
      · have e5 : ((r.rhs.length : Int) != (d.kids.length : Int)) = true := by simp; omega
        have HX : Hid (isS G ⟨nt, St.zero⟩ d = false) := by show _ = _; rw [HE.out, HQ.out]; simp [h5]
        clear h4 h5
        go_enter Tryd.func42, Tryd.ntmps42
        go_wp2
        go_quiet (fail)
        go_wp2
        go_ret
        exact ⟨by rw [HX.out]; rfl, below_of HB2.out ⟨rfl, rfl, rfl, Nat.le_refl _, fun _ _ => rfl⟩⟩
    · have e4 : (r.lhs != nt) = true := by simp [h4]
      have HX : Hid (isS G ⟨nt, St.zero⟩ d = false) := by show _ = _; rw [HE.out, HQ.out]; simp [h4]
      clear h4
      go_enter Tryd.func42, Tryd.ntmps42
      go_wp2
      go_quiet (fail)
      go_wp2
      go_ret
      exact ⟨by rw [HX.out]; rfl, below_of HB2.out ⟨rfl, rfl, rfl, Nat.le_refl _, fun _ _ => rfl⟩⟩
  · have e3 : (u != 0) = true := by simp [h3]
    have HX : Hid (isS G ⟨nt, St.zero⟩ d = false) := by show _ = _; rw [HE.out, HND.out, show (u == 0) = false by simp [h3]]; simp
    clear h3
    go_enter Tryd.func42, Tryd.ntmps42
    go_wp2
    go_quiet (fail)
    go_wp2
    go_ret
    exact ⟨by rw [HX.out]; rfl, below_of HB2.out ⟨rfl, rfl, rfl, Nat.le_refl _, fun _ _ => rfl⟩⟩
set_option maxRecDepth 100000 in
set_option maxHeartbeats 4000000 in
theorem trefRight_any (G : Gm) (ga : Option Addr) (gc : Nat) (nt : Int) (d : Tr) (sa : Option Addr) (sc f : Nat) (w : World) (hR : RAt w w.heap.size ga G.rules) (hk : TAt w w.heap.size f sa d.kids) :
    Calls Tryd.prog 18 #[.agg #[.int .i64 G.nts, .int .i64 G.start, .slice ga G.rules.length gc], .int .i64 nt, .agg #[.int .i64 d.rule, .int .u8 (d.byte.toNat : Int), .slice sa d.kids.length sc]] w fun e w' => e = .returned (.int .i64 (rightC G nt d)) ∧ Below w.heap.size w w' := by
  obtain ⟨w1, hw1⟩ : ∃ w1, w.alloc (.cells #[.int .i64 G.nts, .int .i64 G.start, .slice ga G.rules.length gc] 24) = w1 := ⟨_, rfl⟩
  obtain ⟨w2, hw2⟩ : ∃ w2, w1.alloc (.cells #[.int .i64 d.rule, .int .u8 (d.byte.toNat : Int), .slice sa d.kids.length sc] 27) = w2 := ⟨_, rfl⟩
  have s1 : w1.heap.size = w.heap.size + 1 := by rw [← hw1]; simp
  have s2 : w2.heap.size = w.heap.size + 2 := by rw [← hw2]; simp [s1]
  have hB1 : Below w.heap.size w w1 := by rw [← hw1]; exact (Below.refl _ _).alloc (Nat.le_refl _) _
  have hB2 : Below w1.heap.size w1 w2 := by rw [← hw2]; exact (Below.refl _ _).alloc (Nat.le_refl _) _
  have hBw : Below w.heap.size w w2 := hB1.trans (hB2.mono hB1.size)
  have gg : ∀ j v, (#[.int .i64 G.nts, .int .i64 G.start, .slice ga G.rules.length gc] : Array Value)[j]? = some v → w2.cell? ⟨w.heap.size, j, none⟩ = some v := fun j v hv => (hB2.cell (p := ⟨w.heap.size, j, none⟩) (by show w.heap.size < _; omega)).trans (by rw [← hw1]; exact cell_new j hv)
  have dk : ∀ j v, (#[.int .i64 d.rule, .int .u8 (d.byte.toNat : Int), .slice sa d.kids.length sc] : Array Value)[j]? = some v → w2.cell? ⟨w.heap.size + 1, j, none⟩ = some v := fun j v hv => by rw [← hw2, ← s1]; exact cell_new j hv
  have HF : Hid (∀ W, Below w2.heap.size w2 W → (W.cell? ⟨w.heap.size, 0, none⟩ = some (.int .i64 G.nts) ∧ W.cell? ⟨w.heap.size, 1, none⟩ = some (.int .i64 G.start) ∧ W.cell? ⟨w.heap.size, 2, none⟩ = some (.slice ga G.rules.length gc)) ∧ W.cell? ⟨w.heap.size + 1, 0, none⟩ = some (.int .i64 d.rule) ∧ W.cell? ⟨w.heap.size + 1, 1, none⟩ = some (.int .u8 (d.byte.toNat : Int)) ∧ W.cell? ⟨w.heap.size + 1, 2, none⟩ = some (.slice sa d.kids.length sc)) := fun W h => by
    have k : ∀ b q, b < w2.heap.size → W.cell? ⟨b, q, none⟩ = w2.cell? ⟨b, q, none⟩ := fun b q hb => h.cell (p := ⟨b, q, none⟩) hb
    exact ⟨⟨(k _ _ (by omega)).trans (gg 0 _ rfl), (k _ _ (by omega)).trans (gg 1 _ rfl), (k _ _ (by omega)).trans (gg 2 _ rfl)⟩, (k _ _ (by omega)).trans (dk 0 _ rfl), (k _ _ (by omega)).trans (dk 1 _ rfl), (k _ _ (by omega)).trans (dk 2 _ rfl)⟩
  obtain ⟨⟨g0, g1, g2⟩, d0, d1, d2⟩ := HF.out w2 (Below.refl _ _)
  have HR : Hid _ := fun (_ : Unit) => grefRight_any G ga gc w2 ((hR.keep hBw).mono hBw.size)
  have HO : Hid (0 ≤ nt → ∀ W, Below w2.heap.size w2 W → Calls Tryd.prog 42 #[.agg #[.int .i64 G.nts, .int .i64 G.start, .slice ga G.rules.length gc], .int .i64 nt, .agg #[.int .i64 d.rule, .int .u8 (d.byte.toNat : Int), .slice sa d.kids.length sc]] W fun e w' => e = .returned (.bool (isS G ⟨nt, St.zero⟩ d)) ∧ Below W.heap.size W w') := fun h0 W h => refOf_any G ga gc (sz d) nt d sa sc f W (Nat.le_refl _) ((hR.keep (below_of hBw h)).mono (below_of hBw h).size) ((hk.keep (below_of hBw h)).mono (below_of hBw h).size) h0
  have HB : Hid _ := hBw
  have HC : Hid (rightC G nt d = if G.okB then (if isN G.nts nt then (if isS G ⟨nt, St.zero⟩ d then 0 else 90) else 1) else 3) := rfl
  clear hB1 hB2 hBw gg dk hR hk
  cases hok : G.okB with
  | false =>
    rw [hok] at HR HC
    clear hok
    go_enter Tryd.func18, Tryd.ntmps18
    go_wp2_with (go_at_call 41; refine (HR.out ()).mono ?_; rintro e w3 ⟨rfl, hb3⟩)
    go_ret
    exact ⟨by rw [HC.out]; rfl, below_of HB.out hb3⟩
  | true =>
    rw [hok] at HR HC
    clear hok
    by_cases h1 : nt < 0
    · have HN : Hid (isN G.nts nt = false) := by show _ = _; unfold isN; simp; omega
      rw [HN.out] at HC
      go_enter Tryd.func18, Tryd.ntmps18
      go_wp2_with (go_at_call 41; refine (HR.out ()).mono ?_; rintro e w3 ⟨rfl, hb3⟩; have HB3 : Hid _ := hb3; obtain ⟨⟨g0, g1, g2⟩, d0, d1, d2⟩ := HF.out w3 hb3; clear hb3)
      go_ret
      exact ⟨by rw [HC.out]; rfl, below_of HB.out HB3.out⟩
    · have h1' : decide (nt < 0) = false := by simp; omega
      by_cases h2 : G.nts ≤ nt
      · have HN : Hid (isN G.nts nt = false) := by show _ = _; unfold isN; simp; omega
        rw [HN.out] at HC
        go_enter Tryd.func18, Tryd.ntmps18
        go_wp2_with (go_at_call 41; refine (HR.out ()).mono ?_; rintro e w3 ⟨rfl, hb3⟩; have HB3 : Hid _ := hb3; obtain ⟨⟨g0, g1, g2⟩, d0, d1, d2⟩ := HF.out w3 hb3; clear hb3)
        go_ret
        exact ⟨by rw [HC.out]; rfl, below_of HB.out HB3.out⟩
      · have h2' : decide (G.nts ≤ nt) = false := by simp; omega
        have HN : Hid (isN G.nts nt = true) := by show _ = _; unfold isN; simp; omega
        rw [HN.out] at HC
        have H0 : Hid (0 ≤ nt) := by show _ ≤ _; omega
        cases hs : isS G ⟨nt, St.zero⟩ d with
        | false =>
          rw [hs] at HO HC
          clear hs
          go_enter Tryd.func18, Tryd.ntmps18
          go_wp2_with (go_at_call 41; refine (HR.out ()).mono ?_; rintro e w3 ⟨rfl, hb3⟩; have HB3 : Hid _ := hb3; obtain ⟨⟨g0, g1, g2⟩, d0, d1, d2⟩ := HF.out w3 hb3; clear hb3)
          refine (HO.out H0.out _ HB3.out).mono ?_
          rintro e w4 ⟨rfl, hb4⟩
          go_wp2
          go_ret
          exact ⟨by rw [HC.out]; rfl, below_of HB.out (HB3.out.trans (hb4.mono HB3.out.size))⟩
        | true =>
          rw [hs] at HO HC
          clear hs
          go_enter Tryd.func18, Tryd.ntmps18
          go_wp2_with (go_at_call 41; refine (HR.out ()).mono ?_; rintro e w3 ⟨rfl, hb3⟩; have HB3 : Hid _ := hb3; obtain ⟨⟨g0, g1, g2⟩, d0, d1, d2⟩ := HF.out w3 hb3; clear hb3)
          refine (HO.out H0.out _ HB3.out).mono ?_
          rintro e w4 ⟨rfl, hb4⟩
          go_wp2
          go_ret
          exact ⟨by rw [HC.out]; rfl, below_of HB.out (HB3.out.trans (hb4.mono HB3.out.size))⟩
end Go.Proofs.YtlnlkbkmnkjbhaaDoor
