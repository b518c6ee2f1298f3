/- Whether a grammar is cyclic, by the document's own answer. -/
import Derived.Test.YtopbibhpekjaeaaR10
namespace Go.Proofs.Ytopbibhpekjaeaa
open Go.RowKit

theorem count_set (st : List Bool) (a : Nat) (h1 : a < st.length) (h2 : st.getD a false = false) : (st.set a true).count true = st.count true + 1 := count_set_true st a h1 h2
set_option maxRecDepth 100000 in
set_option maxHeartbeats 16000000 in
theorem refCyclic_row (G : Gm) (a : Option Addr) (c : Nat) (w : World) (hR : RAt w w.heap.size a G.rules) :
    Calls Try.prog 34 #[.agg #[.int .i64 G.nts, .int .i64 G.start, .slice a G.rules.length c]] w fun e w' => (∃ x, e = .returned (.tuple #[.bool x, .int .i64 G.code]) ∧ CycIs G x) ∧ Below w.heap.size w w' := by
  obtain ⟨W0, hW0⟩ : ∃ W0, w.alloc (.cells #[.int .i64 G.nts, .int .i64 G.start, .slice a G.rules.length c] 24) = W0 := ⟨_, rfl⟩
  have hs0 : W0.heap.size = w.heap.size + 1 := by rw [← hW0]; simp
  have hB0 : Below w.heap.size w W0 := by rw [← hW0]; exact (Below.refl _ _).alloc (Nat.le_refl _) _
  have gG : GB w.heap.size G a c W0 := ⟨by rw [← hW0]; exact cell_new 0 rfl, by rw [← hW0]; exact cell_new 1 rfl, by rw [← hW0]; exact cell_new 2 rfl, (hR.keep hB0).mono (by omega), by omega⟩
  have c0 := gG.c0
  have c1 := gG.c1
  have c2 := gG.c2
  have H20 : Hid _ := fun (_ : Unit) => refNullable_row G a c W0 gG.rat
  go_enter Try.func34, Try.ntmps34
  go_wp2_with (go_at_call 20; refine (H20.out ()).mono ?_)
  rintro e W1 ⟨⟨v, so, rfl, hrow, hI⟩, hb1⟩
  replace gG := gG.below hb1
  have hB1 := below_of hB0 hb1
  clear c0 c1 c2 H20 hW0 hB0 hs0 hb1 hR
  rcases hI with ⟨hno, rfl⟩ | ⟨hok, hl, hm⟩
  · rw [← code_no hno]
    go_wp2
    go_ret2
    exact ⟨⟨false, by rw [← code_no hno]; rfl, .inl ⟨hno, rfl⟩⟩, hB1⟩
  · rw [← code_ok hok]
    obtain ⟨N, S, hN, hS, _, hOk⟩ := ok_of hok
    have hn1 := hOk.n1
    have hn2 := hOk.n2
    have hlen := hOk.len
    have hlN : so.length = N := by rw [hl, hN, Int.toNat_natCast]
    rw [hlN] at hrow
    obtain ⟨gm, cm, rfl, hg1, hg2⟩ := row_at hrow (by omega)
    have HNt : Hid (G.nts.toNat = N) := by show _ = _; rw [hN, Int.toNat_natCast]
    have d0 : W1.cell? ⟨w.heap.size, 0, none⟩ = some (.int .i64 (N : Int)) := by rw [← hN]; exact gG.c0
    have H47 : Hid _ := fun (_ : Unit) => none_any N hn2 W1
    have hlt1 := gG.lt
    have hR1 := gG.rat
    have d2 := gG.c2
    clear hN hS hl hlN
    go_wp2_with (go_at_call 47; refine (H47.out ()).mono ?_)
    rintro e W2 ⟨⟨v, rfl, hsr⟩, hb2⟩
    obtain ⟨gs, cs, rfl, hgs1, hgs2⟩ := row_at hsr (by omega)
    clear gG H47
    have f0 := (hb2.cell (p := ⟨w.heap.size, 0, none⟩) hlt1).trans d0
    go_wp2
    clear f0
    go_loopw [7, 8] (fun lv nv W => ∃ n : Nat, n ≤ N ∧ nv = .int .i64 n ∧ lv = .int .i64 ((N : Int) - ((stk N G.rules so n).count true : Nat)) ∧ W.ownsRow W1.heap.size 4 1 (.slice (some ⟨gs, 0, none⟩) N cs) N (boolsV (stk N G.rules so n)) ∧ Below W1.heap.size W1 W) (fun _ nv _ => N - (intOf nv).toNat)
    case atStart => exact ⟨0, by omega, rfl, by simp [stk, List.count_replicate], hsr, hb2⟩
    case round =>
      clear hsr hb2 hgs2
      obtain ⟨n, hn, rfl, rfl, hsr, hB⟩ := hrel
      have f0 := (hB.cell (p := ⟨w.heap.size, 0, none⟩) hlt1).trans d0
      by_cases hltn : n < N
      · have hnI : (n : Int) < N := by omega
        have HSt : Hid (stk N G.rules so (n + 1) = swp G.rules so (stk N G.rules so n) N) := rfl
        have hl0 := stk_len N G.rules so n
        generalize stk N G.rules so n = st0 at *
        go_wp2
        clear f0
        go_loopw [7, 9] (fun lv av W => ∃ a0 : Nat, a0 ≤ N ∧ av = .int .i64 a0 ∧ lv = .int .i64 ((N : Int) - ((swp G.rules so st0 a0).count true : Nat)) ∧ W.ownsRow W1.heap.size 4 1 (.slice (some ⟨gs, 0, none⟩) N cs) N (boolsV (swp G.rules so st0 a0)) ∧ Below W1.heap.size W1 W) (fun _ av _ => N - (intOf av).toNat)
        case atStart => exact ⟨0, by omega, rfl, rfl, hsr, hB⟩
        case round =>
          clear hsr hB
          obtain ⟨a0, ha0, rfl, rfl, hsr, hB⟩ := hrel
          have f0 := (hB.cell (p := ⟨w.heap.size, 0, none⟩) hlt1).trans d0
          by_cases hlta : a0 < N
          · have haI : (a0 : Int) < N := by omega
            have HSw : Hid (swp G.rules so st0 (a0 + 1) = stkA G.rules so (swp G.rules so st0 a0) a0) := rfl
            have hl1 : (swp G.rules so st0 a0).length = N := by rw [swp_len]; exact hl0
            generalize swp G.rules so st0 a0 = st at *
            have hca := getD_cell hsr a0 hlta
            have hcnt := List.count_le_length (a := true) (l := st)
            cases hx : st.getD a0 false with
            | true =>
              have HE : Hid (stkA G.rules so st a0 = st) := by show _ = _; unfold stkA; rw [hx]; rfl
              rw [HE.out] at HSw
              rw [hx] at hca
              go_wp2
              exact ⟨⟨a0 + 1, by omega, by go_num, by rw [HSw.out], by rw [HSw.out]; exact hsr, hB⟩, by simp [intOf]; omega⟩
            | false =>
              rw [hx] at hca
              have HYes : Hid (freeA G.rules so st a0 = true → stkA G.rules so st a0 = st.set a0 true ∧ (st.set a0 true).count true = st.count true + 1) := fun h => ⟨by unfold stkA; rw [hx, h]; rfl, count_set st a0 (by omega) hx⟩
              have HNo : Hid (freeA G.rules so st a0 = false → stkA G.rules so st a0 = st) := fun h => by unfold stkA; rw [hx, h]; rfl
              have HFr : Hid (freeA G.rules so st a0 = !(G.rules.any (badR so st a0))) := rfl
              have HX : Hid _ := hx
              clear hx
              go_wp2
              clear f0
              obtain ⟨Wa, hWa⟩ : ∃ Wa, wr = Wa := ⟨_, rfl⟩
              rw [hWa] at hB hsr ⊢
              clear hWa hca
              go_loopw [10, 11] (fun fv iv W => ∃ i : Nat, i ≤ G.rules.length ∧ iv = .int .i64 i ∧ fv = .bool (!((G.rules.take i).any (badR so st a0))) ∧ Below Wa.heap.size Wa W) (fun _ iv _ => G.rules.length - (intOf iv).toNat)
              case atStart => exact ⟨0, by omega, rfl, rfl, Below.refl _ _⟩
              case round =>
                obtain ⟨i, hi, rfl, rfl, hBa⟩ := hrel
                have hBi : Below W1.heap.size W1 wr := hB.trans (hBa.mono hB.size)
                have q2 := (hBi.cell (p := ⟨w.heap.size, 2, none⟩) hlt1).trans d2
                have hszi := hBi.size
                have hsr2 := row_below hsr hBa
                by_cases hlti : i < G.rules.length
                · have hiI : (i : Int) < G.rules.length := by omega
                  cases hany : (G.rules.take i).any (badR so st a0) with
                  | true =>
                    have hfree : freeA G.rules so st a0 = false := by
                      rw [HFr.out]
                      obtain ⟨r, hr, hb⟩ := List.any_eq_true.1 hany
                      rw [List.any_eq_true.2 ⟨r, List.mem_of_mem_take hr, hb⟩]; rfl
                    have hst := HNo.out hfree
                    rw [hst] at HSw
                    clear hfree hst
                    go_wp2
                    exact ⟨⟨a0 + 1, by omega, by go_num, by rw [HSw.out], by rw [HSw.out]; exact hsr2, hBi⟩, by simp [intOf]; omega⟩
                  | false =>
                    simp only [Bool.not_false]
                    obtain ⟨r, hr⟩ : ∃ r, G.rules[i]? = some r := ⟨G.rules[i], by simp [hlti]⟩
                    obtain ⟨b, o, sa, sc, rfl, hb, hK, e0', e1'⟩ := hR1.cells i r hr
                    have e0 := (hBi.cell (p := ⟨b, o + i * 2, none⟩) hb).trans e0'
                    have e1 := (hBi.cell (p := ⟨b, o + i * 2 + 1, none⟩) hb).trans e1'
                    clear e0' e1'
                    have hrm := List.mem_of_getElem? hr
                    have h80 := hOk.rhs r hrm
                    have hsyr := hOk.sym r hrm
                    have HT3 : Hid ((G.rules.take (i + 1)).any (badR so st a0) = badR so st a0 r) := by
                      show _ = _
                      rw [List.take_add_one, hr, List.any_append, hany]; simp
                    have hbI : b < wr.heap.size := by omega
                    have hlI : w.heap.size < wr.heap.size := by omega
                    obtain ⟨W5, hW5⟩ : ∃ W5, wr.alloc (.cells #[.int .i64 r.lhs, .slice sa r.rhs.length sc] 52) = W5 := ⟨_, rfl⟩
                    have hB5 : Below wr.heap.size wr W5 := by rw [← hW5]; exact (Below.refl _ _).alloc (Nat.le_refl _) _
                    have hs5 : W5.heap.size = wr.heap.size + 1 := by rw [← hW5]; simp
                    have g0 : W5.cell? ⟨wr.heap.size, 0, none⟩ = some (.int .i64 r.lhs) := by rw [← hW5]; exact cell_new 0 rfl
                    have g1 : W5.cell? ⟨wr.heap.size, 1, none⟩ = some (.slice sa r.rhs.length sc) := by rw [← hW5]; exact cell_new 1 rfl
                    have hBa5 : Below Wa.heap.size Wa W5 := hBa.trans (hB5.mono hBa.size)
                    have hB15 : Below W1.heap.size W1 W5 := hBi.trans (hB5.mono hszi)
                    have hK5 := (hK.keep hB15).mono hB15.size
                    clear hany hr
                    by_cases hla : r.lhs = (a0 : Int)
                    · have HBd : Hid (badR so st a0 r = (List.range r.rhs.length).any (bdB so st r.rhs)) := by show _ = _; unfold badR; rw [decide_eq_true hla]; rfl
                      rw [HBd.out] at HT3
                      rw [hla] at g0 hW5 e0
                      go_wp2
                      clear e0 e1 q2 hW5
                      go_loopw [10, 13] (fun fv kv W => ∃ k : Nat, k ≤ r.rhs.length ∧ kv = .int .i64 k ∧ fv = .bool (!((List.range k).any (bdB so st r.rhs))) ∧ Below W5.heap.size W5 W) (fun _ kv _ => r.rhs.length - (intOf kv).toNat)
                      case atStart => exact ⟨0, by omega, rfl, rfl, Below.refl _ _⟩
                      case round =>
                        obtain ⟨k, hk, rfl, rfl, hBk⟩ := hrel
                        have hszk := hBk.size
                        have y0 := (hBk.cell (by rw [hs5]; exact Nat.lt_succ_self _)).trans g0
                        have y1 := (hBk.cell (by rw [hs5]; exact Nat.lt_succ_self _)).trans g1
                        have hB1k : Below W1.heap.size W1 wr := hB15.trans (hBk.mono hB15.size)
                        have hsrk := row_below (row_below hsr hBa5) hBk
                        by_cases hltk : k < r.rhs.length
                        · have hkI : (k : Int) < r.rhs.length := by omega
                          obtain ⟨s, hsk⟩ : ∃ s, r.rhs[k]? = some s := ⟨r.rhs[k], by simp [hltk]⟩
                          have HSuc : Hid ((List.range (k + 1)).any (bdB so st r.rhs) = ((List.range k).any (bdB so st r.rhs) || bdB so st r.rhs k)) := by show _ = _; rw [List.range_succ, List.any_append]; simp
                          have H59 : Hid _ := fun (_ : Unit) => leads_any r sa sc k so gm N cm wr ((hK5.keep hBk).mono hszk) hltk (fun s hs => by have := hsyr s hs; omega) (Nat.lt_of_lt_of_le hg2 hB1k.size) (fun m h => (hB1k.cell (p := ⟨gm, m, none⟩) hg2).trans (getD_cell hrow m h))
                          rw [hla] at H59
                          cases hld : ldB so r.rhs k with
                          | false =>
                            have hbd : bdB so st r.rhs k = false := by unfold bdB; rw [hld]; rfl
                            rw [hld] at H59
                            rw [hbd, Bool.or_false] at HSuc
                            clear hbd
                            generalize (List.range k).any (bdB so st r.rhs) = f at *
                            go_wp2_with (go_at_call 59; refine (H59.out ()).mono ?_; rintro e w2 ⟨rfl, hb2⟩)
                            exact ⟨⟨k + 1, by omega, by go_num, by rw [HSuc.out], hBk.trans (hb2.mono hszk)⟩, by simp [intOf]; omega⟩
                          | true =>
                            obtain ⟨pre, s', post, he, hpl, h0, _⟩ := (ldB_iff so r.rhs k).1 hld
                            have hss : s' = s := by
                              rw [he, ← hpl] at hsk
                              simpa using hsk
                            subst hss
                            have hnt := hsyr s' (by rw [he]; simp)
                            obtain ⟨m, hmE⟩ : ∃ m : Nat, s'.nt = m := ⟨s'.nt.toNat, by omega⟩
                            have hmN : m < N := by omega
                            have hmI : (m : Int) < N := by omega
                            have hbd : bdB so st r.rhs k = !(st.getD m false) := by unfold bdB ntAt; rw [hld, hsk]; simp [hmE]
                            rw [hld] at H59
                            rw [hbd] at HSuc
                            obtain ⟨b', o', rfl, hb', _, z0, _⟩ := (hK5.keep hBk).cells k s' hsk
                            rw [hmE] at z0
                            have hcall : ∀ w2, Below wr.heap.size wr w2 → w2.cell? ⟨b', o' + k * 5, none⟩ = some (.int .i64 (m : Int)) ∧ w2.cell? ⟨gs, m, none⟩ = some (.bool (st.getD m false)) := fun w2 hb2 =>
                              ⟨(hb2.cell (p := ⟨b', o' + k * 5, none⟩) (Nat.lt_of_lt_of_le hb' hszk)).trans z0, getD_cell (row_below hsrk hb2) m hmN⟩
                            have hy1 : ∀ w2, Below wr.heap.size wr w2 → _ := fun w2 hb2 => (hb2.cell (Nat.lt_of_lt_of_le (by rw [hs5]; exact Nat.lt_succ_self _) hszk)).trans y1
                            have HC : Hid _ := hcall
                            have HY : Hid _ := hy1
                            clear hcall hy1 hbd hsk he hld
                            generalize st.getD m false = x at *
                            generalize (List.range k).any (bdB so st r.rhs) = f at *
                            cases x with
                            | true =>
                              go_wp2_with (go_at_call 59; refine (H59.out ()).mono ?_; rintro e w2 ⟨rfl, hb2⟩; obtain ⟨t0, t1⟩ := HC.out w2 hb2; have t2 := HY.out w2 hb2)
                              exact ⟨⟨k + 1, by omega, by go_num, by rw [HSuc.out]; simp, hBk.trans (hb2.mono hszk)⟩, by simp [intOf]; omega⟩
                            | false =>
                              go_wp2_with (go_at_call 59; refine (H59.out ()).mono ?_; rintro e w2 ⟨rfl, hb2⟩; obtain ⟨t0, t1⟩ := HC.out w2 hb2; have t2 := HY.out w2 hb2)
                              exact ⟨⟨k + 1, by omega, by go_num, by rw [HSuc.out]; simp, hBk.trans (hb2.mono hszk)⟩, by simp [intOf]; omega⟩
                        · obtain rfl : k = r.rhs.length := by omega
                          go_wp2
                          exact ⟨⟨i + 1, by omega, by go_num, by rw [HT3.out], hBa5.trans (hBk.mono hBa5.size)⟩, by simp [intOf]; omega⟩
                    · have HBd : Hid (badR so st a0 r = false) := by show _ = _; unfold badR; rw [decide_eq_false hla]; rfl
                      rw [HBd.out] at HT3
                      have hlaI : (r.lhs == (a0 : Int)) = false := by simpa using hla
                      go_wp2
                      clear e0 e1 q2 hW5
                      go_loopw [10, 13] (fun fv kv W => kv = .int .i64 0 ∧ fv = .bool true ∧ W = W5) (fun _ _ _ => 0)
                      case atStart => exact ⟨rfl, rfl, rfl⟩
                      case round =>
                        obtain ⟨rfl, rfl, rfl⟩ := hrel
                        by_cases h00 : (0 : Int) < r.rhs.length
                        · go_wp2
                          exact ⟨⟨i + 1, by omega, by go_num, by rw [HT3.out]; rfl, hBa5⟩, by simp [intOf]; omega⟩
                        · have h00' : decide ((0 : Int) < r.rhs.length) = false := by simpa using h00
                          go_wp2
                          exact ⟨⟨i + 1, by omega, by go_num, by rw [HT3.out]; rfl, hBa5⟩, by simp [intOf]; omega⟩
                · obtain rfl : i = G.rules.length := by omega
                  rw [List.take_length]
                  have hfz := hsr2.frozenAt a0
                  have hca := getD_cell hsr2 a0 hlta
                  rw [HX.out] at hca
                  cases hany : G.rules.any (badR so st a0) with
                  | true =>
                    have hst := HNo.out (by rw [HFr.out, hany]; rfl)
                    rw [hst] at HSw
                    clear hst
                    go_wp2
                    exact ⟨⟨a0 + 1, by omega, by go_num, by rw [HSw.out], by rw [HSw.out]; exact hsr2, hBi⟩, by simp [intOf]; omega⟩
                  | false =>
                    obtain ⟨hst, hct⟩ := HYes.out (by rw [HFr.out, hany]; rfl)
                    rw [hst] at HSw
                    have hrow2 := (hsr2.stored a0 (.bool true)).1
                    have HCt : Hid _ := hct
                    clear hst hct
                    go_wp2
                    exact ⟨⟨a0 + 1, by omega, by go_num, by rw [HSw.out, HCt.out]; congr 1; omega, by rw [HSw.out, boolsV_set]; exact hrow2, hBi.setCell (p := ⟨gs, a0, none⟩) hgs1 _⟩, by simp [intOf]; omega⟩
          · obtain rfl : a0 = N := by omega
            go_wp2
            exact ⟨⟨n + 1, by omega, by go_num, by rw [HSt.out], by rw [HSt.out]; exact hsr, hB⟩, by simp [intOf]; omega⟩
      · obtain rfl : n = N := by omega
        have HD : Hid _ := stk_done hm hOk
        have hcle := List.count_le_length (a := true) (l := stk n G.rules so n)
        rw [stk_len] at hcle
        generalize (stk n G.rules so n).count true = q at *
        go_wp2
        go_ret2
        refine ⟨⟨decide ((0 : Int) < (n : Int) - (q : Int)), by rw [← code_ok hok]; first | rfl | (simp; done), .inr ⟨hok, ?_⟩⟩, hB1.trans (hB.mono hB1.size)⟩
        rw [HNt.out, ← HD.out]
        simp only [decide_eq_true_eq]
        omega
end Go.Proofs.Ytopbibhpekjaeaa
