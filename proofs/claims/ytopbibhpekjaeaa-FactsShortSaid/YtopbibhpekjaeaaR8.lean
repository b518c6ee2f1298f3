/- The document's own productive rules of any grammar. -/
import Derived.Test.YtopbibhpekjaeaaR4
namespace Go.Proofs.Ytopbibhpekjaeaa
open Go.RowKit

set_option maxRecDepth 100000 in
set_option maxHeartbeats 8000000 in
theorem refTrim_row (G : Gm) (a : Option Addr) (c : Nat) (w : World) (hR : RAt w w.heap.size a G.rules) :
    Calls Try.prog 32 #[.agg #[.int .i64 G.nts, .int .i64 G.start, .slice a G.rules.length c]] w fun e w' => (∃ v l, e = .returned (.tuple #[v, .int .i64 G.code]) ∧ w'.ownsRow w.heap.size 3 1 v l.length (intsV l) ∧ TrimIs G l) ∧ Below w.heap.size w w' := by
  obtain ⟨i0, hinf, hz0, hz1, hz2⟩ := info_parts info3
  obtain ⟨W0, hW0⟩ : ∃ W0, w.alloc (.cells #[.int .i64 G.nts, .int .i64 G.start, .slice a G.rules.length c] 24) = W0 := ⟨_, rfl⟩
  have hs0 : W0.heap.size = w.heap.size + 1 := by rw [← hW0]; simp
  have hB0 : Below w.heap.size w W0 := by rw [← hW0]; exact (Below.refl _ _).alloc (Nat.le_refl _) _
  have gG : GB w.heap.size G a c W0 := ⟨by rw [← hW0]; exact cell_new 0 rfl, by rw [← hW0]; exact cell_new 1 rfl, by rw [← hW0]; exact cell_new 2 rfl, (hR.keep hB0).mono (by omega), by omega⟩
  have c0 := gG.c0
  have c1 := gG.c1
  have c2 := gG.c2
  have H22 : Hid _ := fun (_ : Unit) => refProductive_row G a c W0 gG.rat
  go_enter Try.func32, Try.ntmps32
  go_wp2_with (go_at_call 22; refine (H22.out ()).mono ?_)
  rintro e W1 ⟨⟨v, l, rfl, hrow, hI⟩, hb1⟩
  replace gG := gG.below hb1
  have hB1 := below_of hB0 hb1
  have d2 := gG.c2
  have hlt0 := gG.lt
  have hR1 := gG.rat
  clear c0 c1 c2 H22 hW0 gG hB0 hs0 hb1 hR
  rcases hI with ⟨hno, rfl⟩ | ⟨hok, hl, hm⟩
  · rw [← code_no hno]
    go_wp2
    go_ret2
    exact ⟨⟨.slice none 0 0, [], by rw [← code_no hno]; rfl, World.ownsRow_nil _ _ _ _, .inl ⟨hno, rfl⟩⟩, hB1⟩
  · rw [← code_ok hok]
    obtain ⟨N, S, hN, hS, _, hOk⟩ := ok_of hok
    have hn1 := hOk.n1
    have hlen := hOk.len
    have hlN : l.length = N := by rw [hl, hN, Int.toNat_natCast]
    have HLE : Hid (l.length = G.nts.toNat) := hl
    rw [hlN] at hrow
    obtain ⟨gm, cm, rfl, hg1, hg2⟩ := row_at hrow (by omega)
    have HLN : Hid (l.length = N) := hlN
    clear hN hS hl hlN
    go_wp2
    go_loopw [6, 7] (fun lv iv W => ∃ k : Nat, k ≤ G.rules.length ∧ iv = .int .i64 k ∧ W.ownsRow W1.heap.size 3 1 lv (trimL G.rules l k).length (intsV (trimL G.rules l k)) ∧ Below W1.heap.size W1 W) (fun _ iv _ => G.rules.length - (intOf iv).toNat)
    case atStart => exact ⟨0, by omega, rfl, World.ownsRow_nil _ _ _ _, Below.refl _ _⟩
    case round =>
      obtain ⟨k, hk, rfl, hlr, hB⟩ := hrel
      have hsz := hB.size
      have f2 := (hB.cell (p := ⟨w.heap.size, 2, none⟩) hlt0).trans d2
      by_cases hlt : k < G.rules.length
      · obtain ⟨r, hr⟩ : ∃ r, G.rules[k]? = some r := ⟨G.rules[k], by simp [hlt]⟩
        obtain ⟨b, o, sa, sc, rfl, hb, hK, e0', e1'⟩ := hR1.cells k r hr
        have e0 := (hB.cell (p := ⟨b, o + k * 2, none⟩) hb).trans e0'
        have e1 := (hB.cell (p := ⟨b, o + k * 2 + 1, none⟩) hb).trans e1'
        clear e0' e1'
        have hkI : (k : Int) < G.rules.length := by omega
        have hsyr := hOk.sym r (List.mem_of_getElem? hr)
        have H56 : Hid _ := fun (_ : Unit) => refAll_any r sa sc false l gm N cm wr ((hK.keep hB).mono hsz) (fun s hs => by have := hsyr s hs; omega) (by omega) (fun m h => (hB.cell (p := ⟨gm, m, none⟩) hg2).trans (getD_cell hrow m h))
        have HT : Hid (trimL G.rules l (k + 1) = trimL G.rules l k ++ (if r.rhs.all (symSo pP l) then [k] else [])) := by
          show _ = _; rw [trimL_succ]; simp [rhsAt, hr]
        have htl := trimL_len G.rules l k
        generalize trimL G.rules l k = xs at *
        have hpp : pOf false = pP := rfl
        rw [hpp] at H56
        cases hq : r.rhs.all (symSo pP l) with
        | false =>
          rw [hq] at H56 HT
          go_wp2_with (go_at_call 56; refine (H56.out ()).mono ?_; rintro e w2 ⟨rfl, hb2'⟩)
          refine ⟨⟨k + 1, by omega, by go_num, ?_, hB.trans (hb2'.mono hsz)⟩, by simp [intOf]; omega⟩
          rw [HT.out]
          simp only [Bool.false_eq_true, if_false, List.append_nil]
          exact row_below hlr hb2'
        | true =>
          rw [hq] at H56 HT
          simp only [if_true] at HT
          go_wp2_with (first | (go_at_call 56; refine (H56.out ()).mono ?_; rintro e w2 ⟨rfl, hb2'⟩; have hrow2 := row_below hlr hb2'; have hBn : Below W1.heap.size W1 w2 := hB.trans (hb2'.mono hsz); have hsn := hBn.size) | (at_builtin; refine wpList_append_own _ rfl _ _ 41 rfl W1.heap.size 3 i0 (.int .i64 0) 1 8 Try.underlying41 hinf hz0 hz1 hz2 rfl (by decide) _ _ _ rfl (hrow2.alloc _) ⟨w2.heap.size, 0, none⟩ 1 1 [.int .i64 ((k : Nat) : Int)] rfl rfl ?ca1 ?ca2 ?ca3 ?ca4 ?ca5 ?_))
          try case ca1 => exact cell_one_new _ _ _
          case ca2 => first | rfl | (intro u hu; simp at hu; subst hu; rfl)
          case ca3 => unfold maxLen; omega
          case ca4 => omega
          case ca5 => first | omega | (simp; omega)
          intro v' w3 hown' hgrow _
          have hb3 : Below W1.heap.size w2 w3 := ((Below.refl _ w2).alloc hsn (.cells #[.int .i64 ((k : Nat) : Int)] 3)).grown hgrow (by simp; omega) (fun q hq => (hrow2.lt q hq).1)
          obtain ⟨g', cap', rfl, _⟩ := row_at hown' (by omega)
          go_wp2
          go_roundw
          case rel => exact ⟨k + 1, by omega, by go_num, by rw [HT.out, intsV_snoc, List.length_append]; exact hown', hBn.trans hb3⟩
          case measure => simp [intOf]; omega
      · obtain rfl : k = G.rules.length := by omega
        go_wp2
        go_ret2
        exact ⟨⟨_, _, by rw [← code_ok hok]; rfl, row_mono hlr hB1.size, .inr ⟨hok, l, HLE.out, hm, rfl⟩⟩, hB1.trans (hB.mono hB1.size)⟩
end Go.Proofs.Ytopbibhpekjaeaa
