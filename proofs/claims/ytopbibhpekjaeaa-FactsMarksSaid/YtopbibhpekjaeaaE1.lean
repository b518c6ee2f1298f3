/- What is reached, by the document's own answer. -/
import Derived.Test.YtopbibhpekjaeaaE0
import Derived.Test.YtopbibhpekjaeaaR4
namespace Go.Proofs.Ytopbibhpekjaeaa
open Go.RowKit

def ReachIs (G : Gm) (l : List Bool) : Prop := (G.okB = false ∧ l = []) ∨ (G.okB = true ∧ l.length = G.nts.toNat ∧ ∀ m, l.getD m false = true ↔ Rch G.rules G.start.toNat m)
theorem rcU_stop {so : List Bool} {m : Nat} {l : List Ks} {k : Nat} (h : (rcU so m l k).getD m false = false) : ∀ d, rcU so m l (k + d) = rcU so m l k
  | 0 => rfl
  | d + 1 => by
    have ih := rcU_stop h d
    rw [← Nat.add_assoc, rcU, ih, h]
    split <;> simp
theorem rcU_step {so : List Bool} {m : Nat} {l : List Ks} {k : Nat} {s : Ks} (hs : l[k]? = some s) (h : (rcU so m l k).getD m false = true) : rcU so m l (k + 1) = if 0 ≤ s.nt then (rcU so m l k).set s.nt.toNat true else rcU so m l k := by
  rw [rcU, hs]
  simp only [h, Bool.true_and, decide_eq_true_eq]
set_option maxRecDepth 100000 in
set_option maxHeartbeats 8000000 in
theorem refReach_row (G : Gm) (a : Option Addr) (c : Nat) (w : World) (hR : RAt w w.heap.size a G.rules) :
    Calls Try.prog 24 #[.agg #[.int .i64 G.nts, .int .i64 G.start, .slice a G.rules.length c]] w fun e w' => (∃ v l, e = .returned (.tuple #[v, .int .i64 G.code]) ∧ w'.ownsRow w.heap.size 4 1 v l.length (boolsV l) ∧ ReachIs G l) ∧ Below w.heap.size w w' := by
  obtain ⟨W0, hW0⟩ : ∃ W0, w.alloc (.cells #[.int .i64 G.nts, .int .i64 G.start, .slice a G.rules.length c] 24) = W0 := ⟨_, rfl⟩
  have hs0 : W0.heap.size = w.heap.size + 1 := by rw [← hW0]; simp
  have hB0 : Below w.heap.size w W0 := by rw [← hW0]; exact (Below.refl _ _).alloc (Nat.le_refl _) _
  have gG : GB w.heap.size G a c W0 := ⟨by rw [← hW0]; exact cell_new 0 rfl, by rw [← hW0]; exact cell_new 1 rfl, by rw [← hW0]; exact cell_new 2 rfl, (hR.keep hB0).mono (by omega), by omega⟩
  have c0 := gG.c0
  have c1 := gG.c1
  have c2 := gG.c2
  have H15 : Hid _ := fun (_ : Unit) => refRight_any G a c W0 gG.rat
  cases hok : G.okB with
  | false =>
    rw [hok] at H15
    simp only [Bool.false_eq_true, if_false] at H15
    go_enter Try.func24, Try.ntmps24
    go_wp2_with (go_at_call 15; refine (H15.out ()).mono ?_)
    rintro e W1 ⟨rfl, hb1⟩
    go_wp2
    go_ret2
    exact ⟨⟨.slice none 0 0, [], by rw [← code_no hok]; rfl, World.ownsRow_nil _ _ _ _, .inl ⟨hok, rfl⟩⟩, below_of hB0 hb1⟩
  | true =>
    rw [hok] at H15
    simp only [if_true] at H15
    obtain ⟨N, S, hN, hS, hSN, hOk⟩ := ok_of hok
    have hn1 := hOk.n1
    have hn2 := hOk.n2
    have hlen := hOk.len
    have HNt : Hid (G.nts.toNat = N) := by show _ = _; rw [hN, Int.toNat_natCast]
    have HSt : Hid (G.start.toNat = S) := by show _ = _; rw [hS, Int.toNat_natCast]
    have HN : Hid (G.nts = (N : Int)) := hN
    have HS : Hid (G.start = (S : Int)) := hS
    clear hN hS
    go_enter Try.func24, Try.ntmps24
    go_wp2_with (go_at_call 15; refine (H15.out ()).mono ?_)
    rintro e W1 ⟨rfl, hb1⟩
    replace gG := gG.below hb1
    have hB1 := below_of hB0 hb1
    have d0 : W1.cell? ⟨w.heap.size, 0, none⟩ = some (.int .i64 (N : Int)) := by rw [← HN.out]; exact gG.c0
    have d1 : W1.cell? ⟨w.heap.size, 1, none⟩ = some (.int .i64 (S : Int)) := by rw [← HS.out]; exact gG.c1
    have d2 := gG.c2
    have hlt1 := gG.lt
    have hR1 := gG.rat
    have H47 : Hid _ := fun (_ : Unit) => none_any N hn2 W1
    clear c0 c1 c2 H15 hW0 gG hB0 hs0 hb1 hR
    go_wp2_with (go_at_call 47; refine (H47.out ()).mono ?_)
    rintro e W2 ⟨⟨v, rfl, hsr⟩, hb2⟩
    obtain ⟨gs, cs, rfl, hgs1, hgs2⟩ := row_at hsr (by omega)
    have f0 := (hb2.cell (p := ⟨w.heap.size, 0, none⟩) hlt1).trans d0
    have f1 := (hb2.cell (p := ⟨w.heap.size, 1, none⟩) hlt1).trans d1
    have hcS := getD_cell hsr S hSN
    have hfS := hsr.frozenAt S
    have hst := (hsr.stored S (.bool true)).1
    rw [← boolsV_set] at hst
    have hSI : (S : Int) < N := by omega
    have hB3 := hb2.setCell (p := ⟨gs, S, none⟩) hgs1 (.bool true)
    go_wp2
    clear f0 f1 hcS hfS hsr hb2 hgs2 H47 d1 hSI
    go_loopw [6] (fun nv W => ∃ n : Nat, n ≤ N ∧ nv = .int .i64 n ∧ W.ownsRow W1.heap.size 4 1 (.slice (some ⟨gs, 0, none⟩) N cs) N (boolsV (rcN N S G.rules n)) ∧ Below W1.heap.size W1 W) (fun nv _ => N - (intOf nv).toNat)
    case atStart => exact ⟨0, by omega, rfl, hst, hB3⟩
    case round =>
      clear hst hB3
      obtain ⟨n, hn, rfl, hsr, hB⟩ := hrel
      have f0 := (hB.cell (p := ⟨w.heap.size, 0, none⟩) hlt1).trans d0
      by_cases hltn : n < N
      · have hnI : (n : Int) < N := by omega
        have HE : Hid (rcN N S G.rules (n + 1) = rcL G.rules (rcN N S G.rules n) G.rules.length) := rfl
        have hl0 := rcN_len N S G.rules n
        generalize rcN N S G.rules n = st0 at *
        go_wp2
        clear f0
        go_loopw [7] (fun iv W => ∃ i : Nat, i ≤ G.rules.length ∧ iv = .int .i64 i ∧ W.ownsRow W1.heap.size 4 1 (.slice (some ⟨gs, 0, none⟩) N cs) N (boolsV (rcL G.rules st0 i)) ∧ Below W1.heap.size W1 W) (fun iv _ => G.rules.length - (intOf iv).toNat)
        case atStart => exact ⟨0, by omega, rfl, hsr, hB⟩
        case round =>
          clear hsr hB
          obtain ⟨i, hi, rfl, hsr, hB⟩ := hrel
          have f2 := (hB.cell (p := ⟨w.heap.size, 2, none⟩) hlt1).trans d2
          by_cases hlti : i < G.rules.length
          · obtain ⟨r, hr⟩ : ∃ r, G.rules[i]? = some r := ⟨G.rules[i], by simp [hlti]⟩
            obtain ⟨b, o, sa, sc, rfl, hb, hK, e0', e1'⟩ := hR1.cells i r hr
            have hiI : (i : Int) < G.rules.length := by omega
            have hrm := List.mem_of_getElem? hr
            have hlh := hOk.lhs r hrm
            have h80 := hOk.rhs r hrm
            have hsyr := hOk.sym r hrm
            obtain ⟨m, hmE⟩ : ∃ m : Nat, r.lhs = m := ⟨r.lhs.toNat, by omega⟩
            have hmN : m < N := by omega
            have hmI : (m : Int) < N := by omega
            rw [hmE] at e0'
            have HE2 : Hid (rcL G.rules st0 (i + 1) = rcU (rcL G.rules st0 i) m r.rhs r.rhs.length) := by
              show _ = _
              have e1 : rhsAt G.rules i = r.rhs := by unfold rhsAt; rw [hr]
              have e2 : lhsAt G.rules i = r.lhs := by unfold lhsAt; rw [hr]
              rw [rcL, e1, e2, hmE]; simp
            have hl1 : (rcL G.rules st0 i).length = N := by rw [rcL_len]; exact hl0
            generalize rcL G.rules st0 i = cur at *
            go_wp2
            clear f2
            go_loopw [8] (fun kv W => ∃ k : Nat, k ≤ r.rhs.length ∧ kv = .int .i64 k ∧ W.ownsRow W1.heap.size 4 1 (.slice (some ⟨gs, 0, none⟩) N cs) N (boolsV (rcU cur m r.rhs k)) ∧ Below W1.heap.size W1 W) (fun kv _ => r.rhs.length - (intOf kv).toNat)
            case atStart => exact ⟨0, by omega, rfl, hsr, hB⟩
            case round =>
              clear hsr hB
              obtain ⟨k, hk, rfl, hsr, hB⟩ := hrel
              have f2 := (hB.cell (p := ⟨w.heap.size, 2, none⟩) hlt1).trans d2
              have e0 := (hB.cell (p := ⟨b, o + i * 2, none⟩) hb).trans e0'
              have e1 := (hB.cell (p := ⟨b, o + i * 2 + 1, none⟩) hb).trans e1'
              by_cases hltk : k < r.rhs.length
              · have hkI : (k : Int) < r.rhs.length := by omega
                obtain ⟨s, hs⟩ : ∃ s, r.rhs[k]? = some s := ⟨r.rhs[k], by simp [hltk]⟩
                obtain ⟨b2, o2, rfl, hb2, _, k0, _⟩ := (hK.keep hB).cells k s hs
                have hss := hsyr s (List.mem_of_getElem? hs)
                have hcm := getD_cell hsr m hmN
                cases hq : (rcU cur m r.rhs k).getD m false with
                | false =>
                  have HEnd : Hid (rcU cur m r.rhs r.rhs.length = rcU cur m r.rhs k) := by
                    show _ = _
                    have := rcU_stop hq (r.rhs.length - k)
                    rwa [show k + (r.rhs.length - k) = r.rhs.length by omega] at this
                  rw [HEnd.out] at HE2
                  rw [hq] at hcm
                  clear hq
                  go_wp2
                  exact ⟨⟨i + 1, by omega, by go_num, by rw [HE2.out]; exact hsr, hB⟩, by simp [intOf]; omega⟩
                | true =>
                  have HStep : Hid _ := rcU_step hs hq
                  rw [hq] at hcm
                  clear hq hs
                  by_cases hneg : 0 ≤ s.nt
                  · obtain ⟨x, hx⟩ : ∃ x : Nat, s.nt = x := ⟨s.nt.toNat, by omega⟩
                    have hxN : x < N := by omega
                    have hxI : (x : Int) < N := by omega
                    rw [if_pos hneg, hx, Int.toNat_natCast] at HStep
                    rw [hx] at k0
                    have hcx := getD_cell hsr x hxN
                    have hfx := hsr.frozenAt x
                    have hst := (hsr.stored x (.bool true)).1
                    rw [← boolsV_set] at hst
                    clear hneg hx hss
                    go_wp2
                    exact ⟨⟨k + 1, by omega, by go_num, by rw [HStep.out]; exact hst, hB.setCell (p := ⟨gs, x, none⟩) hgs1 _⟩, by simp [intOf]; omega⟩
                  · have hneg' : decide (0 ≤ s.nt) = false := by simpa using hneg
                    rw [if_neg hneg] at HStep
                    go_wp2
                    exact ⟨⟨k + 1, by omega, by go_num, by rw [HStep.out]; exact hsr, hB⟩, by simp [intOf]; omega⟩
              · obtain rfl : k = r.rhs.length := by omega
                go_wp2
                exact ⟨⟨i + 1, by omega, by go_num, by rw [HE2.out]; exact hsr, hB⟩, by simp [intOf]; omega⟩
          · obtain rfl : i = G.rules.length := by omega
            go_wp2
            exact ⟨⟨n + 1, by omega, by go_num, by rw [HE.out]; exact hsr, hB⟩, by simp [intOf]; omega⟩
      · obtain rfl : n = N := by omega
        have HD : Hid _ := rcN_done hOk hSN
        go_wp2
        go_ret2
        exact ⟨⟨_, rcN n S G.rules n, by rw [← code_ok hok]; rfl, by rw [rcN_len]; exact row_mono hsr hB1.size, .inr ⟨hok, by rw [rcN_len, HNt.out], fun x => by rw [HSt.out]; exact HD.out x⟩⟩, hB1.trans (hB.mono hB1.size)⟩
end Go.Proofs.Ytopbibhpekjaeaa
