/- The document's own lengths of any grammar. -/
import Derived.Test.YtopbibhpekjaeaaR6
namespace Go.Proofs.Ytopbibhpekjaeaa
open Go.RowKit

theorem Snd.bnd {N : Nat} {rs : List Rl} {out : List Int} (h : Snd N rs out) : ∀ m, m < N → -1 ≤ out.getD m 0 ∧ out.getD m 0 ≤ 513 := fun m hm => by
  rcases h.val m hm with h1 | ⟨k, _, h1⟩ <;> omega
set_option maxRecDepth 100000 in
set_option maxHeartbeats 8000000 in
theorem refShortest_row (G : Gm) (a : Option Addr) (c : Nat) (w : World) (hR : RAt w w.heap.size a G.rules) :
    Calls Try.prog 30 #[.agg #[.int .i64 G.nts, .int .i64 G.start, .slice a G.rules.length c]] w fun e w' => (∃ v l, e = .returned (.tuple #[v, .int .i64 G.code]) ∧ w'.ownsRow w.heap.size 3 1 v l.length (intsZ l) ∧ ShortIs G l) ∧ Below w.heap.size w w' := by
  obtain ⟨i0, hinf, hz0, hz1, hz2⟩ := info_parts info3
  obtain ⟨W0, hW0⟩ : ∃ W0, w.alloc (.cells #[.int .i64 G.nts, .int .i64 G.start, .slice a G.rules.length c] 24) = W0 := ⟨_, rfl⟩
  have hs0 : W0.heap.size = w.heap.size + 1 := by rw [← hW0]; simp
  have hB0 : Below w.heap.size w W0 := by rw [← hW0]; exact (Below.refl _ _).alloc (Nat.le_refl _) _
  have gG : GB w.heap.size G a c W0 := ⟨by rw [← hW0]; exact cell_new 0 rfl, by rw [← hW0]; exact cell_new 1 rfl, by rw [← hW0]; exact cell_new 2 rfl, (hR.keep hB0).mono (by omega), by omega⟩
  have c0 := gG.c0
  have c1 := gG.c1
  have c2 := gG.c2
  have H15 : Hid _ := fun (_ : Unit) => refRight_any G a c W0 gG.rat
  cases hok : G.okB with
  | false =>
    rw [hok] at H15
    simp only [Bool.false_eq_true, if_false] at H15
    go_enter Try.func30, Try.ntmps30
    go_wp2_with (go_at_call 15; refine (H15.out ()).mono ?_)
    rintro e W1 ⟨rfl, hb1⟩
    go_wp2
    go_ret2
    exact ⟨⟨.slice none 0 0, [], by rw [← code_no hok]; rfl, World.ownsRow_nil _ _ _ _, .inl ⟨hok, rfl⟩⟩, below_of hB0 hb1⟩
  | true =>
    rw [hok] at H15
    simp only [if_true] at H15
    obtain ⟨N, S, hN, hS, _, hOk⟩ := ok_of hok
    have hn1 := hOk.n1
    have hn2 := hOk.n2
    have hlen := hOk.len
    have HNt : Hid (G.nts.toNat = N) := by show _ = _; rw [hN, Int.toNat_natCast]
    have HN : Hid (G.nts = (N : Int)) := hN
    clear hN hS
    go_enter Try.func30, Try.ntmps30
    go_wp2_with (go_at_call 15; refine (H15.out ()).mono ?_)
    rintro e W1 ⟨rfl, hb1⟩
    replace gG := gG.below hb1
    have hB1 := below_of hB0 hb1
    have d0 : W1.cell? ⟨w.heap.size, 0, none⟩ = some (.int .i64 (N : Int)) := by rw [← HN.out]; exact gG.c0
    have d2 := gG.c2
    have hlt0 := gG.lt
    have hR1 := gG.rat
    clear c0 c1 c2 H15 hW0 gG hB0 hs0 hb1 hR
    go_wp2
    go_loopw [5, 6] (fun lv iv W => ∃ k : Nat, k ≤ N ∧ iv = .int .i64 k ∧ W.ownsRow W1.heap.size 3 1 lv k (intsZ (List.replicate k (-1))) ∧ Below W1.heap.size W1 W) (fun _ iv _ => N - (intOf iv).toNat)
    case atStart => exact ⟨0, by omega, rfl, World.ownsRow_nil _ _ _ _, Below.refl _ _⟩
    case round =>
      obtain ⟨k, hk, rfl, hrow, hB⟩ := hrel
      have hsz := hB.size
      have f0 := (hB.cell (p := ⟨w.heap.size, 0, none⟩) hlt0).trans d0
      have f2 := (hB.cell (p := ⟨w.heap.size, 2, none⟩) hlt0).trans d2
      by_cases hlt : k < N
      · have hkI : (k : Int) < N := by omega
        go_wp2_with (at_builtin; refine wpList_append_own _ rfl _ _ 41 rfl W1.heap.size 3 i0 (.int .i64 0) 1 8 Try.underlying41 hinf hz0 hz1 hz2 rfl (by decide) _ _ _ rfl (hrow.alloc _) ⟨wr.heap.size, 0, none⟩ 1 1 [.int .i64 (-1)] rfl rfl ?ca1 ?ca2 ?ca3 ?ca4 ?ca5 ?_)
        try case ca1 => exact cell_one_new _ _ _
        case ca2 => first | rfl | (intro u hu; simp at hu; subst hu; rfl)
        case ca3 => unfold maxLen; omega
        case ca4 => omega
        case ca5 => first | omega | (simp; omega)
        intro v' w3 hown' hgrow _
        have hb3 : Below W1.heap.size wr w3 := ((Below.refl _ wr).alloc hsz (.cells #[.int .i64 (-1)] 3)).grown hgrow (by simp; omega) (fun q hq => (hrow.lt q hq).1)
        obtain ⟨g', cap', rfl, _⟩ := row_at hown' (by omega)
        go_wp2
        go_roundw
        case rel => exact ⟨k + 1, by omega, by go_num, by rw [List.replicate_succ']; simp only [intsZ, List.map_append, List.map_cons, List.map_nil]; exact hown', hB.trans hb3⟩
        case measure => simp [intOf]; omega
      · obtain rfl : k = N := by omega
        obtain ⟨go, co, rfl, hgo1, hgo2⟩ := row_at hrow (by omega)
        clear hlt hk
        go_wp2
        clear f0 f2
        go_loopw [7] (fun nv W => ∃ n : Nat, n ≤ k + 1 ∧ nv = .int .i64 n ∧ W.ownsRow W1.heap.size 3 1 (.slice (some ⟨go, 0, none⟩) k co) k (intsZ (srt k G.rules n)) ∧ Below W1.heap.size W1 W) (fun nv _ => k + 1 - (intOf nv).toNat)
        case atStart => exact ⟨0, by omega, rfl, hrow, hB⟩
        case round =>
          clear hrow hB hgo2
          obtain ⟨n, hn, rfl, hrow, hB⟩ := hrel
          have f0 := (hB.cell (p := ⟨w.heap.size, 0, none⟩) hlt0).trans d0
          have f2 := (hB.cell (p := ⟨w.heap.size, 2, none⟩) hlt0).trans d2
          by_cases hlt : n < k + 1
          · have hnI : (n : Int) ≤ k := by omega
            have hSnd := srt_snd hOk n
            have HE : Hid (srt k G.rules (n + 1) = rlx G.rules (srt k G.rules n) G.rules.length) := rfl
            generalize srt k G.rules n = out at *
            go_wp2
            go_loopw [8] (fun iv W => ∃ i : Nat, i ≤ G.rules.length ∧ iv = .int .i64 i ∧ W.ownsRow W1.heap.size 3 1 (.slice (some ⟨go, 0, none⟩) k co) k (intsZ (rlx G.rules out i)) ∧ Below W1.heap.size W1 W) (fun iv _ => G.rules.length - (intOf iv).toNat)
            case atStart => exact ⟨0, by omega, rfl, hrow, hB⟩
            case round =>
              clear hrow hB f0 f2
              obtain ⟨i, hi, rfl, hrow, hB⟩ := hrel
              have f0 := (hB.cell (p := ⟨w.heap.size, 0, none⟩) hlt0).trans d0
              have f2 := (hB.cell (p := ⟨w.heap.size, 2, none⟩) hlt0).trans d2
              have hszB := hB.size
              by_cases hlti : i < G.rules.length
              · obtain ⟨r, hr⟩ : ∃ r, G.rules[i]? = some r := ⟨G.rules[i], by simp [hlti]⟩
                obtain ⟨b, o, sa, sc, rfl, hb, hK, e0', e1'⟩ := hR1.cells i r hr
                have e0 := (hB.cell (p := ⟨b, o + i * 2, none⟩) hb).trans e0'
                have e1 := (hB.cell (p := ⟨b, o + i * 2 + 1, none⟩) hb).trans e1'
                clear e0' e1'
                have hiI : (i : Int) < G.rules.length := by omega
                have hrm := List.mem_of_getElem? hr
                have hlh := hOk.lhs r hrm
                obtain ⟨m, hmE⟩ : ∃ m : Nat, r.lhs = m := ⟨r.lhs.toNat, by omega⟩
                have hmI : (m : Int) < k := by omega
                have hS2 := (rlx_ok hOk hSnd i (by omega)).1
                have hgl := (hrow.lt go rfl).2
                have H54 : Hid _ := fun (_ : Unit) => length_any r sa sc (rlx G.rules out i) go k co wr ((hK.keep hB).mono hszB) (hOk.rhs r hrm) (hsy hOk r hrm) hgl (fun m h => z_cell hrow h) hS2.bnd
                have HE2 : Hid (rlx G.rules out (i + 1) = updL (rlx G.rules out i) m r.rhs) := by
                  show _ = _
                  have e1 : rhsAt G.rules i = r.rhs := by unfold rhsAt; rw [hr]
                  have e2 : lhsAt G.rules i = r.lhs := by unfold lhsAt; rw [hr]
                  rw [rlx, e1, e2, hmE]; simp
                rw [hmE] at e0 H54
                have hcm := z_cell hrow (show m < k by omega)
                have hbm := hS2.bnd m (by omega)
                unfold updL at HE2
                generalize rlx G.rules out i = cur at *
                generalize lenL cur r.rhs = x at *
                have hbI : b < wr.heap.size := by omega
                have hcall : ∀ w2, Below wr.heap.size wr w2 → w2.cell? ⟨b, o + i * 2, none⟩ = some (.int .i64 (m : Int)) ∧ w2.cell? ⟨w.heap.size, 2, none⟩ = some (.slice (some ⟨b, o, none⟩) G.rules.length c) ∧ w2.ownsRow W1.heap.size 3 1 (.slice (some ⟨go, 0, none⟩) k co) k (intsZ cur) ∧ w2.cell? ⟨go, m, none⟩ = some (.int .i64 (cur.getD m 0)) ∧ w2.frozen? ⟨go, m, none⟩ = false ∧ Below W1.heap.size W1 w2 := fun w2 hb2 =>
                  ⟨(hb2.cell (p := ⟨b, o + i * 2, none⟩) hbI).trans e0, (hb2.cell (p := ⟨w.heap.size, 2, none⟩) (Nat.lt_of_lt_of_le hlt0 hszB)).trans f2, row_below hrow hb2, z_cell (row_below hrow hb2) (by omega), (row_below hrow hb2).frozenAt m, hB.trans (hb2.mono hszB)⟩
                have HC : Hid _ := hcall
                clear hcall hcm
                generalize cur.getD m 0 = y at *
                by_cases hx0 : x < 0
                · have hx0' : decide (0 ≤ x) = false := by simp; omega
                  rw [if_neg (by omega)] at HE2
                  go_wp2_with (go_at_call 54; refine (H54.out ()).mono ?_; rintro e w2 ⟨rfl, hb2⟩; obtain ⟨p0, p2, prow, pm, pf, pB⟩ := HC.out w2 hb2)
                  exact ⟨⟨i + 1, by omega, by go_num, by rw [HE2.out]; exact prow, pB⟩, by simp [intOf]; omega⟩
                · by_cases hy0 : y < 0
                  · rw [if_pos (by omega)] at HE2
                    have hx1 : 0 ≤ x := by omega
                    go_wp2_with (go_at_call 54; refine (H54.out ()).mono ?_; rintro e w2 ⟨rfl, hb2⟩; obtain ⟨p0, p2, prow, pm, pf, pB⟩ := HC.out w2 hb2; have hst := (prow.stored m (.int .i64 x)).1)
                    exact ⟨⟨i + 1, by omega, by go_num, by rw [HE2.out, intsZ_set]; exact hst, pB.setCell (p := ⟨go, m, none⟩) hgo1 _⟩, by simp [intOf]; omega⟩
                  · have hy0' : decide (y < 0) = false := by simp; omega
                    have hx1 : 0 ≤ x := by omega
                    by_cases hxy : x < y
                    · rw [if_pos (by omega)] at HE2
                      go_wp2_with (go_at_call 54; refine (H54.out ()).mono ?_; rintro e w2 ⟨rfl, hb2⟩; obtain ⟨p0, p2, prow, pm, pf, pB⟩ := HC.out w2 hb2; have hst := (prow.stored m (.int .i64 x)).1)
                      exact ⟨⟨i + 1, by omega, by go_num, by rw [HE2.out, intsZ_set]; exact hst, pB.setCell (p := ⟨go, m, none⟩) hgo1 _⟩, by simp [intOf]; omega⟩
                    · rw [if_neg (by omega)] at HE2
                      have hxy' : decide (x < y) = false := by simp; omega
                      go_wp2_with (go_at_call 54; refine (H54.out ()).mono ?_; rintro e w2 ⟨rfl, hb2⟩; obtain ⟨p0, p2, prow, pm, pf, pB⟩ := HC.out w2 hb2)
                      exact ⟨⟨i + 1, by omega, by go_num, by rw [HE2.out]; exact prow, pB⟩, by simp [intOf]; omega⟩
              · obtain rfl : i = G.rules.length := by omega
                go_wp2
                exact ⟨⟨n + 1, by omega, by go_num, by rw [HE.out]; exact hrow, hB⟩, by simp [intOf]; omega⟩
          · obtain rfl : n = k + 1 := by omega
            have hnI : decide (((k + 1 : Nat) : Int) ≤ (k : Int)) = false := by simp; omega
            have HD : Hid _ := srt_done hOk
            go_wp2
            go_ret2
            refine ⟨⟨_, srt k G.rules (k + 1), by rw [← code_ok hok]; rfl, by rw [srt_len]; exact row_mono hrow hB1.size, .inr ⟨hok, by rw [HNt.out]; exact HD.out⟩⟩, hB1.trans (hB.mono hB1.size)⟩
end Go.Proofs.Ytopbibhpekjaeaa
