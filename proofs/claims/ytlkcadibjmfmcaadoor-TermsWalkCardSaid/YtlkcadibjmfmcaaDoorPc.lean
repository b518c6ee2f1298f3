/- A right term's text behind another one: appendTerm. -/
import Derived.Test.YtlkcadibjmfmcaaDoorPb
namespace Go.Proofs.YtlkcadibjmfmcaaDoor
open Go.RowKit Go.Shelf

set_option maxRecDepth 100000 in
set_option maxHeartbeats 8000000 in
theorem appendTerm_any (B f : Nat) : ∀ (N : Nat) (d : Tm), sz d ≤ N → AC B f d := by
  intro N
  induction N with
  | zero => intro d hN; rw [sz_eq] at hN; omega
  | succ N ih =>
  intro d hN ta tc sa sc n xs sv w hwl hlim hrow hB hT hk hn
  obtain ⟨i0, hinf, hz0, hz1, hz2⟩ := info_parts info5
  have hlen := hk.len
  have hIK : ∀ x ∈ d.kids, AC B f x := fun x hx => ih x (by
    obtain ⟨k, hk⟩ := List.mem_iff_getElem?.1 hx
    have h1 := szL_take hk
    have h2 := szL_take_le d.kids (k + 1)
    rw [sz_eq] at hN; omega)
  have hwk := wl_kids hwl
  have hte := txt_eq d
  have hoc : okC d.kind d.cons d.text.length d.kids.length = true := by rw [wl_eq] at hwl; simp only [Bool.and_eq_true] at hwl; exact hwl.1
  obtain ⟨w1, hw1⟩ : ∃ w1, w.alloc (.cells #[.int .i64 d.kind, .string d.cons, .slice ta d.text.length tc, .slice sa d.kids.length sc] 25) = w1 := ⟨_, rfl⟩
  have hB1 : Below w.heap.size w w1 := by rw [← hw1]; exact (Below.refl _ _).alloc (Nat.le_refl _) _
  have s1 : w1.heap.size = w.heap.size + 1 := by rw [← hw1]; simp
  have hob : w1.heap[w.heap.size]? = some (.cells #[.int .i64 d.kind, .string d.cons, .slice ta d.text.length tc, .slice sa d.kids.length sc] 25) := by rw [← hw1]; exact World.alloc_heap_new _ _
  have HCE : Hid (∀ W, KT B w1 W → W.cell? ⟨w.heap.size, 0, none⟩ = some (.int .i64 d.kind) ∧ W.cell? ⟨w.heap.size, 1, none⟩ = some (.string d.cons) ∧ W.cell? ⟨w.heap.size, 2, none⟩ = some (.slice ta d.text.length tc) ∧ W.cell? ⟨w.heap.size, 3, none⟩ = some (.slice sa d.kids.length sc)) := fun W h => ⟨h.cells hob 0 _ rfl, h.cells hob 1 _ rfl, h.cells hob 2 _ rfl, h.cells hob 3 _ rfl⟩
  have HKT : Hid (KT B w w1) := (KT.refl B w).below hB hB1
  obtain ⟨a0, a1, a2, a3⟩ := HCE.out w1 (KT.refl _ _)
  have hr1 := row_below hrow hB1
  have HKW : Hid (∀ W, KT B w1 W → MAt W B f sa d.kids) := fun W h => hk.keep (HKT.out.trans h).bel
  have HTW : Hid (BAt w1 B ta d.text) := hT.keep (fun b q hb => HKT.out.bel.cell (p := ⟨b, q, none⟩) hb)
  have HFN : Hid (∀ v' w' t, txt d = t → w'.ownsRow B 5 1 v' (n + t.length) (xs ++ Lib.byteCells t) → KT B w1 w' → APost B n xs (txt d) w (.returned v') w') := fun v' w' t ht hr hk => by
    have := HKT.out.trans hk
    exact ⟨v', rfl, by rw [ht]; exact hr, this.bel, this.kept⟩
  obtain ⟨va, vc, rfl⟩ := row_slice hrow
  have HR1 : Hid _ := fun (_ : Unit) => hr1
  have HB1 : Hid (B ≤ w1.heap.size) := by show _ ≤ _; omega
  clear hwl hk hT hrow hN ih hob hB1 hB s1
  rcases okC_kind hoc with hd | hd | hd | hd | hd
  · -- an application
    have hname := okC_one (by rw [hd] at hoc; exact hoc)
    have hg2 : (d.kind == 2) = false := by rw [hd]; rfl
    have hg3 : (d.kind == 3) = false := by rw [hd]; rfl
    have hg4 : (d.kind == 4) = false := by rw [hd]; rfl
    have hg5 : (d.kind == 5) = false := by rw [hd]; rfl
    rw [if_neg (by rw [hd]; decide), if_neg (by rw [hd]; decide), if_neg (by rw [hd]; decide), if_neg (by rw [hd]; decide)] at hte
    have ec : d.cons.data.toList.length = d.cons.size := Array.length_toList
    have hcs : n + d.cons.size ≤ 1000000 := by rw [hte] at hn; simp only [List.length_append, ec] at hn; omega
    have HTE : Hid _ := hte
    have HN : Hid _ := hn
    have HLM : Hid _ := hlim
    have HEC : Hid _ := ec
    have HIK : Hid _ := hIK
    have HWK : Hid _ := hwk
    clear hd hname hoc hte hn ec hlim hIK hwk
    go_enter Tryd.func48, Tryd.ntmps48
    go_wp2_with (at_builtin; refine Lib.wpList_append_own_string _ rfl _ _ 22 9 rfl B 5 i0 Tryd.underlying22 Tryd.underlying9 hinf hz0 hz1 hz2 _ _ _ rfl hr1 d.cons rfl ?c3 ?c4 ?c5 ?_)
    case c3 => unfold maxLen; omega
    case c4 => omega
    case c5 => exact HB1.out
    intro v2 w2 hown2 hgrow2 _
    have hk2 := app_kt (HR1.out ()) HB1.out (Below.refl _ _) hgrow2
    obtain ⟨b0, b1, b2, b3⟩ := HCE.out w2 hk2
    obtain ⟨va2, vc2, rfl⟩ := row_slice hown2
    have HK2 : Hid _ := hk2
    have HO2 : Hid (w2.ownsRow B 5 1 (.slice va2 (n + d.cons.size) vc2) (n + d.cons.size) (xs ++ Lib.byteCells d.cons.data.toList)) := by rw [Lib.strCells_eq] at hown2; exact hown2
    clear hown2 hgrow2 hk2 a0 a1 a2 a3 hr1
    by_cases hk0 : d.kids = []
    · have hl0 : ((d.kids.length : Nat) : Int) == 0 := by rw [hk0]; rfl
      have HF : Hid _ := HFN.out _ w2 d.cons.data.toList (by rw [HTE.out, if_pos (by rw [hk0]; rfl), List.append_nil]) (by rw [HEC.out]; exact HO2.out) HK2.out
      clear hk0
      go_wp2
      go_ret
      exact HF.out
    · have hl1 : 0 < d.kids.length := List.length_pos_iff.2 hk0
      have hl0 : (((d.kids.length : Nat) : Int) == 0) = false := by simp; omega
      have hle : (txt d) = d.cons.data.toList ++ ([40] ++ txtL true d.kids ++ [41]) := by rw [HTE.out, if_neg (by simpa using hk0)]
      have hlt : (txt d).length = d.cons.size + ((txtL true d.kids).length + 2) := by rw [hle]; simp only [List.length_append, HEC.out, List.length_cons, List.length_nil]; omega
      have HC : Hid _ := fun (_ : Unit) => appendKids_any B f d.kids HIK.out 40 41 sa sc (n + d.cons.size) (xs ++ Lib.byteCells d.cons.data.toList) (.slice va2 (n + d.cons.size) vc2) w2 HWK.out (by have := HLM.out; omega) HO2.out (by have := HK2.out.bel.size; have := HB1.out; omega) (HKW.out w2 HK2.out) (by have := HN.out; omega)
      have HLE : Hid _ := hle
      have HLT : Hid _ := hlt
      clear hk0 hl1 hle hlt
      go_wp2_with (go_at_call 64; refine (HC.out ()).mono ?_)
      first | rintro e w3 v3 rfl hr3 hb3 hok3 | rintro e w3 ⟨v3, rfl, hr3, hb3, hok3⟩
      have HF : Hid _ := HFN.out v3 w3 _ HLE.out (by rw [List.length_append, HEC.out, Lib.byteCells_append, ← Nat.add_assoc, ← List.append_assoc]; exact hr3) (HK2.out.trans ⟨hb3, hok3⟩)
      clear hr3 hb3 hok3
      go_wp2
      go_ret
      exact HF.out
  · -- a lexeme
    have hg2 : (d.kind == 2) = true := by rw [hd]; rfl
    rw [if_pos hd] at hte
    have hql : (quoteL (nums d.text)).length = qlen d.text := rfl
    have hqg := qlen_ge d.text
    have hqn : n + qlen d.text ≤ 1000000 := by rw [hte] at hn; exact hn
    have hql2 : qlen d.text ≤ 65536 := by rw [hte] at hlim; exact hlim
    have HQ : Hid (Calls Tryd.prog 63 #[.slice ta d.text.length tc] w1 fun e w'' => e = .returned (.string ⟨(quoteL (nums d.text)).toArray⟩) ∧ Below w1.heap.size w1 w'') := by
      have := quote_any (nums d.text) ta tc w1 (nums_lt _) (by rw [nums_len]; omega) (bat_row HTW.out HB1.out)
      rw [nums_len] at this; exact this
    have HS : Hid ((⟨(quoteL (nums d.text)).toArray⟩ : ByteArray).size = qlen d.text) := str_size _
    have HC : Hid (Lib.strCells ⟨(quoteL (nums d.text)).toArray⟩ = Lib.byteCells (quoteL (nums d.text))) := rfl
    have HTE : Hid _ := hte
    have HQC : Hid _ := fun (_ : Unit) => HQ.out
    clear hd hoc hte hn hlim hIK hwk HQ hql
    generalize (⟨(quoteL (nums d.text)).toArray⟩ : ByteArray) = qs at *
    generalize quoteL (nums d.text) = ql at *
    go_enter Tryd.func48, Tryd.ntmps48
    go_wp2_with (go_at_call 63; refine (HQC.out ()).mono ?_)
    rintro e w2 ⟨rfl, hb2⟩
    have hr2 := row_below (HR1.out ()) hb2
    have HR2 : Hid _ := fun (_ : Unit) => hr2
    have HB2 : Hid _ := hb2
    have hss := HS.out
    have hs2 := hb2.size
    go_wp2_with (at_builtin; refine Lib.wpList_append_own_string _ rfl _ _ 22 9 rfl B 5 i0 Tryd.underlying22 Tryd.underlying9 hinf hz0 hz1 hz2 _ _ _ rfl hr2 qs rfl ?c3 ?c4 ?c5 ?_)
    case c3 => unfold maxLen; omega
    case c4 => omega
    case c5 => have := HB1.out; omega
    intro v3 w3 hown3 hgrow3 _
    have hk3 := app_kt (HR2.out ()) (by have := HB1.out; omega) (Below.refl _ _) hgrow3
    have hk13 : KT B w1 w3 := ((KT.refl B w1).below HB1.out HB2.out).trans hk3
    rw [HC.out] at hown3
    have hl3 : qs.size = ql.length := by
      have h := congrArg List.length HC.out
      rw [Lib.strCells_eq, Lib.byteCells_length, Lib.byteCells_length] at h
      rw [← h]; exact Array.length_toList.symm
    have HF : Hid _ := HFN.out v3 w3 ql HTE.out (by rw [← hl3, HS.out]; exact hown3) hk13
    clear hown3 hgrow3 hk3 hk13 hr2 hb2 hl3
    go_wp2
    go_ret
    exact HF.out
  · -- a list
    have hg2 : (d.kind == 2) = false := by rw [hd]; rfl
    have hg3 : (d.kind == 3) = true := by rw [hd]; rfl
    rw [if_neg (by rw [hd]; decide), if_pos hd] at hte
    have hlt : (txt d).length = (txtL true d.kids).length + 2 := by rw [hte]; simp only [List.length_append, List.length_cons, List.length_nil]; omega
    have HC : Hid _ := fun (_ : Unit) => appendKids_any B f d.kids hIK 91 93 sa sc n xs (.slice va n vc) w1 hwk (by omega) hr1 HB1.out (HKW.out w1 (KT.refl _ _)) (by omega)
    have HTE : Hid _ := hte
    clear hd hoc hte hn hlim hIK hwk hlt hr1
    go_enter Tryd.func48, Tryd.ntmps48
    go_wp2_with (go_at_call 64; refine (HC.out ()).mono ?_)
    first | rintro e w3 v3 rfl hr3 hb3 hok3 | rintro e w3 ⟨v3, rfl, hr3, hb3, hok3⟩
    have HF : Hid _ := HFN.out v3 w3 _ HTE.out hr3 ⟨hb3, hok3⟩
    clear hr3 hb3 hok3
    go_wp2
    go_ret
    exact HF.out
  · -- nothing
    have hg2 : (d.kind == 2) = false := by rw [hd]; rfl
    have hg3 : (d.kind == 3) = false := by rw [hd]; rfl
    have hg4 : (d.kind == 4) = true := by rw [hd]; rfl
    rw [if_neg (by rw [hd]; decide), if_neg (by rw [hd]; decide), if_pos hd] at hte
    have HTE : Hid _ := hte
    have hn' : n ≤ 1000000 := by omega
    have hr2 := World.ownsRow.alloc (w := w1) hr1 (.cells #[.int .u8 45] 5)
    have hB1' := HB1.out
    clear hd hoc hte hn hlim hIK hwk
    go_enter Tryd.func48, Tryd.ntmps48
    go_wp2_with (at_builtin; refine wpList_append_own _ rfl _ _ 22 rfl B 5 i0 _ 1 1 Tryd.underlying22 hinf hz0 hz1 hz2 rfl (by decide) _ _ _ rfl hr2 ⟨w1.heap.size, 0, none⟩ 1 1 [.int .u8 45] rfl rfl (one_new _) (by intro u hu; simp at hu; subst hu; rfl) (by unfold maxLen; omega) (by omega) (by simp; omega) ?_)
    intro v3 w3 hown3 hgrow3 _
    have hk3 := app_kt (HR1.out ()) HB1.out ((Below.refl _ _).alloc (Nat.le_refl _) _) hgrow3
    have HF : Hid _ := HFN.out v3 w3 [45] HTE.out hown3 hk3
    clear hown3 hgrow3 hk3 hr2 hr1
    go_wp2
    go_ret
    exact HF.out
  · -- one that is there
    have hfive := okC_five (by rw [hd] at hoc; exact hoc)
    have hg2 : (d.kind == 2) = false := by rw [hd]; rfl
    have hg3 : (d.kind == 3) = false := by rw [hd]; rfl
    have hg4 : (d.kind == 4) = false := by rw [hd]; rfl
    have hg5 : (d.kind == 5) = true := by rw [hd]; rfl
    rw [if_neg (by rw [hd]; decide), if_neg (by rw [hd]; decide), if_neg (by rw [hd]; decide), if_pos hd] at hte
    obtain ⟨x, hx⟩ : ∃ x, d.kids = [x] := List.length_eq_one_iff.1 hfive.2.2
    have htx : txtL true d.kids = txt x := by rw [hx]; simp [txtL]
    have hlt : (txt d).length = (txt x).length + 1 := by rw [hte, htx]; simp
    have hx0 : d.kids[0]? = some x := by rw [hx]; rfl
    have hIx := hIK x (by rw [hx]; simp)
    have hwx := hwk x (by rw [hx]; simp)
    obtain ⟨b, o, hsa, hb, xa, xc, c0, c1, ⟨xta, xtc, c2, _, _, hxt⟩, c3, hxc, hxk⟩ := (HKW.out w1 (KT.refl _ _)).one hx0
    simp only [Nat.zero_mul, Nat.add_zero] at c0 c1 c2 c3
    rw [hfive.2.2] at a3
    subst hsa
    have HCK : Hid (∀ (n' : Nat) (xs' : List Value) (sv' : Value) (W : World), KT B w1 W → W.ownsRow B 5 1 sv' n' xs' → n' + (txt x).length ≤ 1000000 → Calls Tryd.prog 48 #[sv', .agg #[.int .i64 x.kind, .string x.cons, .slice xta x.text.length xtc, .slice xa x.kids.length xc]] W fun e w' => APost B n' xs' (txt x) W e w') := fun n' xs' sv' W hW hr' hn' => by
      have hcg : ∀ b q, b < B → W.cell? ⟨b, q, none⟩ = w1.cell? ⟨b, q, none⟩ := fun b q hb => hW.bel.cell (p := ⟨b, q, none⟩) hb
      exact hIx xta xtc xa xc n' xs' sv' W hwx (by omega) hr' (by have := hW.bel.size; have := HB1.out; omega) (hxt.keep hcg) (hxk.cong hcg) hn'
    have HTE : Hid (txt d = [63] ++ txt x) := by show _ = _; rw [hte, htx]
    have hn' : n + 1 + (txt x).length ≤ 1000000 := by omega
    have hn1 : n ≤ 1000000 := by omega
    have HN1 : Hid _ := hn'
    have HS : Hid (∀ W, KT B w1 W → W.cell? ⟨w.heap.size, 3, none⟩ = some (.slice (some ⟨b, o, none⟩) 1 sc) ∧ W.cell? ⟨b, o, none⟩ = some (.int .i64 x.kind) ∧ W.cell? ⟨b, o + 1, none⟩ = some (.string x.cons) ∧ W.cell? ⟨b, o + 2, none⟩ = some (.slice xta x.text.length xtc) ∧ W.cell? ⟨b, o + 3, none⟩ = some (.slice xa x.kids.length xc)) := fun W h => by
      have k : ∀ q, W.cell? ⟨b, q, none⟩ = w1.cell? ⟨b, q, none⟩ := fun q => h.bel.cell (p := ⟨b, q, none⟩) hb
      have q3 := (HCE.out W h).2.2.2
      rw [hfive.2.2] at q3
      exact ⟨q3, (k _).trans c0, (k _).trans c1, (k _).trans c2, (k _).trans c3⟩
    have HR2 : Hid ((w1.alloc (.cells #[.int .u8 63] 5)).drew.ownsRow B 5 1 (.slice va n vc) n xs) := World.ownsRow.drew (World.ownsRow.alloc (w := w1) hr1 _)
    have HNW : Hid (∀ (j : Nat) u, ([.int .u8 63] : List Value)[j]? = some u → (w1.alloc (.cells #[.int .u8 63] 5)).drew.cell? ((⟨w1.heap.size, 0, none⟩ : Addr).add j) = some u) := one_new (W := w1) 63
    have hba : Below w1.heap.size w1 (w1.alloc (.cells #[.int .u8 63] 5)).drew := by
      have h := (Below.refl w1.heap.size w1).alloc (Nat.le_refl _) (.cells #[.int .u8 63] 5)
      exact ⟨h.os, h.tape, h.output, h.size, h.block⟩
    have HK0 : Hid (KT B w1 w1.drew) := (KT.refl B w1).below HB1.out (Below.refl _ _).drew
    have HKA : Hid (KT B w1 (w1.alloc (.cells #[.int .u8 63] 5)).drew) := (KT.refl B w1).below HB1.out hba
    have HKG : Hid (∀ w9, (w1.alloc (.cells #[.int .u8 63] 5)).drew.grownBy w9 (Value.slice va n vc).ownBlock → KT B w1 w9) := fun w9 hg => app_kt (HR1.out ()) HB1.out hba hg
    have hB1' := HB1.out
    clear hd hoc hte hn hlim hIK hwk hx hx0 hIx hwx hlt htx hfive hxk hxt HCE HKW HTW hr1 hba
    go_enter Tryd.func48, Tryd.ntmps48
    go_wp2
    go_region_held3 (fun W => W.cell? ⟨w.heap.size, 3, none⟩ = some (.slice (some ⟨b, o, none⟩) 1 sc) ∧ W.cell? ⟨b, o, none⟩ = some (.int .i64 x.kind) ∧ W.cell? ⟨b, o + 1, none⟩ = some (.string x.cons) ∧ W.cell? ⟨b, o + 2, none⟩ = some (.slice xta x.text.length xtc) ∧ W.cell? ⟨b, o + 3, none⟩ = some (.slice xa x.kids.length xc)) (first | with_reducible exact HS.out _ HK0.out | with_reducible exact HS.out _ HKA.out | with_reducible exact HS.out _ hk9 | with_reducible exact HS.out _ hk10) (first
      | (refine step_append_lies _ (by rfl) _ _ _ (by rfl) B 5 i0 _ 1 1 Tryd.underlying22 hinf hz0 hz1 hz2 rfl (by omega) _ _ _ (by rfl) HR2.out ⟨w1.heap.size, 0, none⟩ 1 1 [.int .u8 63] (by rfl) (by rfl) HNW.out (by simp [Value.oneCell']) (by omega) (by unfold maxLen; omega) (by omega) (by simp; omega) (w1.heap.size + 1) (by simp) ?_; intro g cap w9 hown9 hgrow9 hat9 hlt9; have hk9 := HKG.out w9 hgrow9)
      | (go_at_call 48; refine (HCK.out _ _ _ w9 hk9 hown9 (by have := HN1.out; omega)).mono ?_; rintro e w10 ⟨v10, rfl, hr10, hb10, hok10⟩; have hk10 := hk9.trans ⟨hb10, hok10⟩))
    all_goals (
      have HF : Hid _ := HFN.out v10 w10 _ HTE.out (by rw [List.length_append, Lib.byteCells_append, ← List.append_assoc, ← Nat.add_assoc]; exact hr10) hk10
      go_wp2
      go_ret
      exact HF.out)
end Go.Proofs.YtlkcadibjmfmcaaDoor
