/- The law TermsTell, walked. -/
import Derived.Test.YtlkcadibjmfmcaaDoorGc
import Derived.Test.YtlkcadibjmfmcaaDoorLx
import Derived.BigQuiet
import Derived.Deep.Cut
import Derived.Deep.CutRange
import Derived.Deep.QuietTactic
namespace Go.Proofs.YtlkcadibjmfmcaaDoor
open Go.RowKit

/-- What lay there lies there still. -/
structure Kb (u W : World) : Prop where
  b : Below u.heap.size u W
theorem Kb.nx {u W W' : World} (hb : Below W.heap.size W W') (h : Kb u W) : Kb u W' := ⟨below_of h.b hb⟩
theorem Kb.drew {u W : World} (h : Kb u W) : Kb u W.drew := Kb.nx (show Below W.heap.size W W.drew from ⟨rfl, rfl, rfl, Nat.le_refl _, fun _ _ => rfl⟩) h
theorem Kb.facts {w w4 u W : World} {t : Tm} {ta : Option Addr} {tc : Nat} {sa : Option Addr} {sc : Nat} {oa : Option Addr} {oc : Nat} {ob : Option Addr} {od : Nat} (T : Kb u W) (h1 : To w t ta tc sa sc u) (h2 : To w4 t oa oc ob od u) : W.cell? ⟨w.heap.size, 0, none⟩ = some (.int .i64 t.kind) ∧ W.cell? ⟨w.heap.size, 1, none⟩ = some (.string t.cons) ∧ W.cell? ⟨w.heap.size, 2, none⟩ = some (.slice ta t.text.length tc) ∧ W.cell? ⟨w.heap.size, 3, none⟩ = some (.slice sa t.kids.length sc) ∧ W.cell? ⟨w4.heap.size, 0, none⟩ = some (.int .i64 t.kind) ∧ W.cell? ⟨w4.heap.size, 1, none⟩ = some (.string t.cons) ∧ W.cell? ⟨w4.heap.size, 2, none⟩ = some (.slice oa t.text.length oc) ∧ W.cell? ⟨w4.heap.size, 3, none⟩ = some (.slice ob t.kids.length od) := by
  obtain ⟨a0, a1, a2, a3⟩ := (h1.nx T.b).facts
  obtain ⟨b0, b1, b2, b3⟩ := (h2.nx T.b).facts
  exact ⟨a0, a1, a2, a3, b0, b1, b2, b3⟩
/-- The texts that are the caller's. -/
structure La (W : World) (U : Nat) (v : Value) (cs : List Value) (ts : List (List UInt8)) : Prop where
  row : W.ownsRow U 22 1 v ts.length cs
  lx : LX W (fun _ => True) U W.heap.size ts cs
theorem La.nx {W W' : World} {U : Nat} {v : Value} {cs : List Value} {ts : List (List UInt8)} (hb : Below W.heap.size W W') (h : La W U v cs ts) : La W' U v cs ts :=
  ⟨row_ab' h.row (fun g hg => hb.block g (h.row.lt g hg).2), h.lx.keep hb.size (fun g _ h2 _ => ⟨trivial, fun _ => hb.block g h2⟩)⟩
structure Lb (W : World) (U : Nat) (v : Value) (cs : List Value) (ts : List (List UInt8)) : Prop where
  row : W.ownsRow U 22 1 v ts.length cs
  lb : LB W U ts cs
  le : U ≤ W.heap.size
theorem Lb.nx {W W' : World} {U : Nat} {v : Value} {cs : List Value} {ts : List (List UInt8)} (hb : Below W.heap.size W W') (h : Lb W U v cs ts) : Lb W' U v cs ts :=
  ⟨row_ab' h.row (fun g hg => hb.block g (h.row.lt g hg).2), h.lb.below (hb.mono h.le), Nat.le_trans h.le hb.size⟩
/-- While texts are spoilt: the first ones are, the others are as they were. -/
structure Lc (u : World) (va vb : Value) (csa csb : List Value) (ts : List (List UInt8)) (k lo : Nat) (W : World) : Prop where
  bel : Below u.heap.size u W
  ra : W.ownsRow u.heap.size 22 1 va ts.length csa
  rb : W.ownsRow u.heap.size 22 1 vb ts.length csb
  lb : LB W u.heap.size ts csb
  lx : LX W (fun _ => True) lo W.heap.size (ts.drop k) (csa.drop k)
  lo' : u.heap.size ≤ lo
theorem Lc.drewN {u : World} {va vb : Value} {csa csb : List Value} {ts : List (List UInt8)} {k lo : Nat} {W : World} (h : Lc u va vb csa csb ts k lo W) (n : Nat) : Lc u va vb csa csb ts k lo (W.drewN n) := by
  have hb : Below W.heap.size W (W.drewN n) := Below.of_drewN W n
  exact ⟨below_of h.bel hb, row_ab' h.ra (fun _ _ => rfl), row_ab' h.rb (fun _ _ => rfl), h.lb.below (hb.mono h.bel.size), h.lx.keep (Nat.le_refl _) (fun _ _ _ _ => ⟨trivial, fun _ => rfl⟩), h.lo'⟩
/-- Bytes that may be written. -/
structure Cw (W : World) (g : Nat) (xa : Option Addr) (n : Nat) : Prop where
  tag : 0 < n → Tag W g 5
  can : ∀ j, j < n → ∃ o, xa = some ⟨g, o, none⟩ ∧ (W.cell? ⟨g, o + j, none⟩).isSome = true ∧ W.frozen? ⟨g, o + j, none⟩ = false
theorem Cw.drewN {W : World} {g n : Nat} {xa : Option Addr} (h : Cw W g xa n) (m : Nat) : Cw (W.drewN m) g xa n := ⟨h.tag, h.can⟩
theorem txx_cw {W : World} {g : Nat} {xa : Option Addr} {xc : Nat} {t : List UInt8} (h : Txx W (fun b => b = g) (.slice xa t.length xc) t) : Cw W g xa t.length ∧ BAt W (g + 1) xa t ∧ t.length ≤ 140737488355328 := by
  obtain ⟨xa', xc', e, h1, h2, h3⟩ := h
  cases e
  refine ⟨⟨fun h0 => ?_, fun j hj => ?_⟩, fun i c hi => ?_, h2⟩
  · obtain ⟨b, o, _, hb, ⟨hg, _⟩, _⟩ := h3 0 t[0] (List.getElem?_eq_getElem h0)
    have hb' : b = g := hb
    rw [← hb']; exact hg
  · obtain ⟨b, o, e, hb, ⟨_, hf⟩, hc⟩ := h3 j t[j] (List.getElem?_eq_getElem hj)
    have hb' : b = g := hb
    subst hb'
    exact ⟨o, e, by rw [hc]; rfl, hf _⟩
  · obtain ⟨b, o, e, hb, _, hc⟩ := h3 i c hi
    have hb' : b = g := hb
    exact ⟨b, o, e, by omega, hc⟩
theorem Lc.spoil {u : World} {va vb : Value} {csa csb : List Value} {ts : List (List UInt8)} {k g : Nat} {W : World} (h : Lc u va vb csa csb ts k (g + 1) W) (hg : u.heap.size ≤ g) (ht : Tag W g 5) (o : Nat) (z : Value) : Lc u va vb csa csb ts k (g + 1) (W.setCell ⟨g, o, none⟩ z) := by
  have hk : ∀ b, b ≠ g → (W.setCell ⟨g, o, none⟩ z).heap[b]? = W.heap[b]? := fun b hb => Below.heap_setCell W ⟨g, o, none⟩ z b hb
  have hr : ∀ {v : Value} {cs : List Value}, W.ownsRow u.heap.size 22 1 v ts.length cs → ∀ g', v.ownBlock = some g' → g' ≠ g := fun hr g' hg' e => by
    obtain ⟨cur, hc⟩ := row_cells' hr hg'
    obtain ⟨c', fz, ht⟩ := ht
    rw [e, ht] at hc
    cases hc
  have hB : Below u.heap.size W (W.setCell ⟨g, o, none⟩ z) := (Below.refl _ _).setCell (by show u.heap.size ≤ g; exact hg) _
  refine ⟨h.bel.trans hB, row_ab' h.ra (fun g' hg' => hk g' (hr h.ra g' hg')), row_ab' h.rb (fun g' hg' => hk g' (hr h.rb g' hg')), h.lb.below hB, h.lx.keep (by simp [World.setCell]) (fun g' h1 _ _ => ⟨trivial, fun _ => hk g' (by omega)⟩), h.lo'⟩
theorem Cw.spoil {W : World} {g n : Nat} {xa : Option Addr} (h : Cw W g xa n) (o : Nat) (z : Value) : Cw (W.setCell ⟨g, o, none⟩ z) g xa n := by
  refine ⟨fun h0 => ?_, fun j hj => ?_⟩
  · obtain ⟨cs, fz, ht⟩ := h.tag h0
    refine ⟨cs.setIfInBounds o z, fz, ?_⟩
    obtain ⟨hlt, hk⟩ := Array.getElem?_eq_some_iff.1 ht
    show (W.heap.modify g _)[g]? = _
    rw [Array.getElem?_eq_getElem (by rw [Array.size_modify]; exact hlt), Array.getElem_modify_self, hk]
    rfl
  · obtain ⟨o', e, h1, h2⟩ := h.can j hj
    refine ⟨o', e, ?_, by simpa using h2⟩
    by_cases ho : o' + j = o
    · subst ho
      obtain ⟨v, hv⟩ := Option.isSome_iff_exists.1 h1
      rw [World.cell?_setCell_same' _ _ _ (by rw [hv]; rfl)]
      rfl
    · rw [World.cell?_setCell_other _ _ _ _ (fun e => by cases e; exact ho rfl)]
      exact h1
set_option maxRecDepth 100000 in
set_option maxHeartbeats 40000000 in
theorem termsTell_walk (t : Tm) (ta : Option Addr) (tc : Nat) (sa : Option Addr) (sc : Nat) (w : World) (hka : TA w t ta tc sa sc) :
    Calls Tryd.prog 3 #[.agg #[.int .i64 t.kind, .string t.cons, .slice ta t.text.length tc, .slice sa t.kids.length sc]] w fun e w' => e = .returned (.bool true) ∧ Below w.heap.size w w' := by
  obtain ⟨w2, hw2⟩ : ∃ w2, w.alloc (.cells #[.int .i64 t.kind, .string t.cons, .slice ta t.text.length tc, .slice sa t.kids.length sc] 25) = w2 := ⟨_, rfl⟩
  have T0 := To.first hka w2 hw2
  obtain ⟨e0, e1, e2, e3⟩ := T0.facts
  have HT0 : Hid _ := T0
  clear hka T0
  have HALV : Hid (∀ W, Calls Tryd.prog 13 #[] W fun e w' => e = .returned (.bool true) ∧ Below W.heap.size W w') := fun W => alive_any W
  have HHA : Hid (∀ W, To w t ta tc sa sc W → Calls Tryd.prog 12 #[.agg #[.int .i64 t.kind, .string t.cons, .slice ta t.text.length tc, .slice sa t.kids.length sc]] W fun e w' => e = .returned (.bool (decide (1000 < wt t))) ∧ Below W.heap.size W w') := fun W h => heavy_t t ta tc sa sc W h.ka
  by_cases ha : 1000 < wt t
  · rw [decide_eq_true ha] at HHA
    clear ha
    go_enter Tryd.func3, Tryd.ntmps3
    go_wp2_with (go_at_call 12; refine (HHA.out _ HT0.out).mono ?_; rintro e w3 ⟨rfl, hb3⟩; have HT3 : Hid _ := HT0.out.nx hb3; clear hb3)
    refine (HALV.out _).mono ?_
    rintro e w4 ⟨rfl, hb4⟩
    have HT4 : Hid _ := HT3.out.nx hb4
    clear hb4
    go_wp2
    go_ret
    exact ⟨rfl, HT4.out.bel⟩
  rw [decide_eq_false ha] at HHA
  have hsz := sz_wt t
  have hsz6 : sz t ≤ 1000000 := by omega
  have HCP : Hid (∀ W, To w t ta tc sa sc W → Calls Tryd.prog 14 #[.agg #[.int .i64 t.kind, .string t.cons, .slice ta t.text.length tc, .slice sa t.kids.length sc]] W fun e w' => (∃ oa oc ob od, e = .returned (.agg #[.int .i64 t.kind, .string t.cons, .slice oa t.text.length oc, .slice ob t.kids.length od]) ∧ TA w' t oa oc ob od) ∧ Below W.heap.size W w') := fun W h => copy_t t ta tc sa sc W h.ka
  have HZ1 : Hid (∀ W (oa : Option Addr) (oc : Nat) (ob : Option Addr) (od : Nat), TA W t oa oc ob od → Calls Tryd.prog 15 #[.agg #[.int .i64 t.kind, .string t.cons, .slice oa t.text.length oc, .slice ob t.kids.length od]] W fun e w' => e = .returned (.tuple #[.int .i64 (sz t : Int), .int .i64 (dp t : Int)]) ∧ Below W.heap.size W w') := fun W oa oc ob od h => size_t t oa oc ob od W h (by omega)
  have HZ2 : Hid (∀ W, To w t ta tc sa sc W → Calls Tryd.prog 16 #[.agg #[.int .i64 t.kind, .string t.cons, .slice ta t.text.length tc, .slice sa t.kids.length sc]] W fun e w' => e = .returned (.tuple #[.int .i64 (sz t : Int), .int .i64 (dp t : Int)]) ∧ Below W.heap.size W w') := fun W h => refSize_t t ta tc sa sc W h.ka (by omega)
  have HG1 : Hid (∀ W (oa : Option Addr) (oc : Nat) (ob : Option Addr) (od : Nat), TA W t oa oc ob od → Calls Tryd.prog 19 #[.agg #[.int .i64 t.kind, .string t.cons, .slice oa t.text.length oc, .slice ob t.kids.length od]] W fun e w' => e = .returned (.bool (rightT t)) ∧ Below W.heap.size W w') := fun W oa oc ob od h => right_t t oa oc ob od W h (by omega)
  have HG2 : Hid (∀ W, To w t ta tc sa sc W → Calls Tryd.prog 20 #[.agg #[.int .i64 t.kind, .string t.cons, .slice ta t.text.length tc, .slice sa t.kids.length sc]] W fun e w' => e = .returned (.bool (rightT t)) ∧ Below W.heap.size W w') := fun W h => refRight_t t ta tc sa sc W h.ka (by omega)
  have HSM : Hid (∀ W (oa : Option Addr) (oc : Nat) (ob : Option Addr) (od : Nat), TA W t oa oc ob od → To w t ta tc sa sc W → Calls Tryd.prog 21 #[.agg #[.int .i64 t.kind, .string t.cons, .slice oa t.text.length oc, .slice ob t.kids.length od], .agg #[.int .i64 t.kind, .string t.cons, .slice ta t.text.length tc, .slice sa t.kids.length sc]] W fun e w' => e = .returned (.bool true) ∧ Below W.heap.size W w') := fun W oa oc ob od h1 h2 => by
    have := refSame_t t t oa oc ob od ta tc sa sc W h1 h2.ka
    rw [eqT_true rfl] at this
    exact this
  have hll : (lexs (pts t)).length ≤ 1000000 := by have := lexs_le (pts t); rw [pts_len] at this; omega
  have HLA : Hid (∀ u W (oa : Option Addr) (oc : Nat) (ob : Option Addr) (od : Nat), TA u t oa oc ob od → Kb u W → Calls Tryd.prog 17 #[.agg #[.int .i64 t.kind, .string t.cons, .slice oa t.text.length oc, .slice ob t.kids.length od]] W fun e w' => (∃ v cs, e = .returned v ∧ La w' u.heap.size v cs (lexs (pts t))) ∧ Below W.heap.size W w') := fun u W oa oc ob od h hW => by
    refine (lexemes_any t oa oc ob od W (h.nx hW.b) hsz6).mono ?_
    rintro e w' ⟨⟨v, cs, rfl, h1, h2⟩, hb⟩
    exact ⟨⟨v, cs, rfl, row_mono h1 hW.b.size, h2.low hW.b.size⟩, hb⟩
  have HLB : Hid (∀ u W, To w t ta tc sa sc u → Kb u W → Calls Tryd.prog 18 #[.agg #[.int .i64 t.kind, .string t.cons, .slice ta t.text.length tc, .slice sa t.kids.length sc]] W fun e w' => (∃ v cs, e = .returned v ∧ Lb w' u.heap.size v cs (lexs (pts t))) ∧ Below W.heap.size W w') := fun u W h hW => by
    refine (refLexemes_any t ta tc sa sc u.heap.size W hW.b.size (h.ka.tb.below hW.b) hsz6).mono ?_
    rintro e w' ⟨⟨v, cs, rfl, h1, h2⟩, hb⟩
    exact ⟨⟨v, cs, rfl, row_mono h1 hW.b.size, h2, Nat.le_trans hW.b.size hb.size⟩, hb⟩
  clear ha hsz hsz6
  generalize lexs (pts t) = ts at *
  generalize sz t = n1 at *
  generalize dp t = n2 at *
  generalize rightT t = qr at *
  go_enter Tryd.func3, Tryd.ntmps3
  go_wp2_with (go_at_call 12; refine (HHA.out _ HT0.out).mono ?_; rintro e w3 ⟨rfl, hb3⟩; have HT3 : Hid _ := HT0.out.nx hb3; clear hb3; clear e0 e1 e2 e3; obtain ⟨e0, e1, e2, e3⟩ := HT3.out.facts; refine hold_it ?_)
  unfold Held
  go_wp2_with (go_at_call 14; refine (HCP.out _ HT3.out).mono ?_; rintro e w4 ⟨⟨oa, oc, ob, od, rfl, ho4⟩, hb4⟩; have HT4 : Hid _ := HT3.out.nx hb4; clear hb4; clear e0 e1 e2 e3; obtain ⟨e0, e1, e2, e3⟩ := HT4.out.facts; refine hold_it ?_)
  unfold Held
  obtain ⟨w5, hw5⟩ : ∃ w5, w4.alloc (.cells #[.int .i64 t.kind, .string t.cons, .slice oa t.text.length oc, .slice ob t.kids.length od] 25) = w5 := ⟨_, rfl⟩
  have HO5 : Hid _ := To.first ho4 w5 hw5
  have HT5 : Hid _ := HT4.out.nx (by rw [← hw5]; exact (Below.refl _ _).alloc (Nat.le_refl _) _ : Below w4.heap.size w4 w5)
  obtain ⟨f0, f1, f2, f3⟩ := HO5.out.facts
  clear e0 e1 e2 e3; obtain ⟨e0, e1, e2, e3⟩ := HT5.out.facts
  clear ho4 HT4 HT3 HT0 hw2
  go_wp2_with (go_at_call 15; refine (HZ1.out _ _ _ _ _ HO5.out.ka).mono ?_; rintro e w6 ⟨rfl, hb6⟩; have HT6 : Hid _ := HT5.out.nx hb6; have HO6 : Hid _ := HO5.out.nx hb6; clear hb6 f0 f1 f2 f3; clear e0 e1 e2 e3; obtain ⟨e0, e1, e2, e3⟩ := HT6.out.facts; refine hold_it ?_)
  unfold Held
  clear HT5 HO5 hw5
  go_wp2_with (go_at_call 16; refine (HZ2.out _ HT6.out).mono ?_; rintro e u ⟨rfl, hb7⟩; have HTu : Hid _ := HT6.out.nx hb7; have HOu : Hid _ := HO6.out.nx hb7; clear hb7 e0 e1 e2 e3; refine hold_it ?_)
  unfold Held
  clear HT6 HO6
  go_wp2_with fail
  go_cut [8, 9] from 12 (fun s8 s9 wc => ∃ va csa vb csb, s8 = va ∧ s9 = vb ∧ La wc u.heap.size va csa ts ∧ Lb wc u.heap.size vb csb ts ∧ Kb u wc)
  case first =>
    have T : Kb u u := ⟨Below.refl _ _⟩
    have HL1 : Hid (∀ W, Kb u W → Calls Tryd.prog 17 #[.agg #[.int .i64 t.kind, .string t.cons, .slice oa t.text.length oc, .slice ob t.kids.length od]] W fun e w' => (∃ v cs, e = .returned v ∧ La w' u.heap.size v cs ts) ∧ Below W.heap.size W w') := fun W h => HLA.out u W oa oc ob od HOu.out.ka h
    have HL2 : Hid (∀ W, Kb u W → Calls Tryd.prog 18 #[.agg #[.int .i64 t.kind, .string t.cons, .slice ta t.text.length tc, .slice sa t.kids.length sc]] W fun e w' => (∃ v cs, e = .returned v ∧ Lb w' u.heap.size v cs ts) ∧ Below W.heap.size W w') := fun W h => HLB.out u W HTu.out h
    have TF : ∀ W, Kb u W → W.cell? ⟨w.heap.size, 0, none⟩ = some (.int .i64 t.kind) ∧ W.cell? ⟨w.heap.size, 1, none⟩ = some (.string t.cons) ∧ W.cell? ⟨w.heap.size, 2, none⟩ = some (.slice ta t.text.length tc) ∧ W.cell? ⟨w.heap.size, 3, none⟩ = some (.slice sa t.kids.length sc) ∧ W.cell? ⟨w4.heap.size, 0, none⟩ = some (.int .i64 t.kind) ∧ W.cell? ⟨w4.heap.size, 1, none⟩ = some (.string t.cons) ∧ W.cell? ⟨w4.heap.size, 2, none⟩ = some (.slice oa t.text.length oc) ∧ W.cell? ⟨w4.heap.size, 3, none⟩ = some (.slice ob t.kids.length od) := fun W T => T.facts HTu.out HOu.out
    clear HLA HLB HG1 HG2 HZ1 HZ2 HCP HHA HALV HSM
    go_region_held3 (fun W => W.cell? ⟨w.heap.size, 0, none⟩ = some (.int .i64 t.kind) ∧ W.cell? ⟨w.heap.size, 1, none⟩ = some (.string t.cons) ∧ W.cell? ⟨w.heap.size, 2, none⟩ = some (.slice ta t.text.length tc) ∧ W.cell? ⟨w.heap.size, 3, none⟩ = some (.slice sa t.kids.length sc) ∧ W.cell? ⟨w4.heap.size, 0, none⟩ = some (.int .i64 t.kind) ∧ W.cell? ⟨w4.heap.size, 1, none⟩ = some (.string t.cons) ∧ W.cell? ⟨w4.heap.size, 2, none⟩ = some (.slice oa t.text.length oc) ∧ W.cell? ⟨w4.heap.size, 3, none⟩ = some (.slice ob t.kids.length od)) (first | exact TF _ T | exact TF _ T.drew) (first
      | (go_at_call 17; refine (HL1.out _ (by first | exact T | exact T.drew)).mono ?_; rintro e wA ⟨⟨va, csa, rfl, hA⟩, hbA⟩; replace T : Kb u wA := (by first | exact Kb.nx hbA T | exact Kb.nx hbA T.drew))
      | (go_at_call 18; refine (HL2.out _ (by first | exact T | exact T.drew)).mono ?_; rintro e wB ⟨⟨vb, csb, rfl, hB⟩, hbB⟩; replace T : Kb u wB := (by first | exact Kb.nx hbB T | exact Kb.nx hbB T.drew)))
    all_goals go_wp2
    all_goals go_meet
    all_goals first
      | exact ⟨va, csa, vb, csb, rfl, rfl, hA.nx hbB, hB, T⟩
      | exact ⟨va, csa, vb, csb, rfl, rfl, hA, hB.nx hbA, T⟩
  case rest =>
    obtain ⟨va, csa, vb, csb, rfl, rfl, hA, hB, T⟩ := hcut
    obtain ⟨xa, xc, rfl⟩ := row_slice hA.row
    obtain ⟨ya, yc, rfl⟩ := row_slice hB.row
    have TF : ∀ W, Kb u W → W.cell? ⟨w.heap.size, 0, none⟩ = some (.int .i64 t.kind) ∧ W.cell? ⟨w.heap.size, 1, none⟩ = some (.string t.cons) ∧ W.cell? ⟨w.heap.size, 2, none⟩ = some (.slice ta t.text.length tc) ∧ W.cell? ⟨w.heap.size, 3, none⟩ = some (.slice sa t.kids.length sc) ∧ W.cell? ⟨w4.heap.size, 0, none⟩ = some (.int .i64 t.kind) ∧ W.cell? ⟨w4.heap.size, 1, none⟩ = some (.string t.cons) ∧ W.cell? ⟨w4.heap.size, 2, none⟩ = some (.slice oa t.text.length oc) ∧ W.cell? ⟨w4.heap.size, 3, none⟩ = some (.slice ob t.kids.length od) := fun W T => T.facts HTu.out HOu.out
    have HR1 : Hid (∀ W, Kb u W → Calls Tryd.prog 19 #[.agg #[.int .i64 t.kind, .string t.cons, .slice oa t.text.length oc, .slice ob t.kids.length od]] W fun e w' => e = .returned (.bool qr) ∧ Below W.heap.size W w') := fun W h => HG1.out W oa oc ob od (HOu.out.nx h.b).ka
    have HR2 : Hid (∀ W, Kb u W → Calls Tryd.prog 20 #[.agg #[.int .i64 t.kind, .string t.cons, .slice ta t.text.length tc, .slice sa t.kids.length sc]] W fun e w' => e = .returned (.bool qr) ∧ Below W.heap.size W w') := fun W h => HG2.out W (HTu.out.nx h.b)
    have g1 : (qr != qr) = false := by simp
    have g2 : ((n1 : Int) != (n1 : Int)) = false := by simp
    have g3 : ((n2 : Int) != (n2 : Int)) = false := by simp
    have g4 : ((ts.length : Int) != (ts.length : Int)) = false := by simp
    have HA : Hid _ := hA
    have HB : Hid _ := hB
    clear HLA HLB HG1 HG2 HZ1 HZ2 HCP HHA hA hB
    go_wp2_with fail
    go_cut [52] from 12 (fun s52 wc => s52 = .bool false ∧ La wc u.heap.size (.slice xa ts.length xc) csa ts ∧ Lb wc u.heap.size (.slice ya ts.length yc) csb ts ∧ Kb u wc)
    case first =>
      have HX : Hid (∀ W, Below wc.heap.size wc W → La W u.heap.size (.slice xa ts.length xc) csa ts ∧ Lb W u.heap.size (.slice ya ts.length yc) csb ts) := fun W h => ⟨HA.out.nx h, HB.out.nx h⟩
      have T2 : Kb wc wc := ⟨Below.refl _ _⟩
      have HT2 : Hid (∀ W, Kb wc W → Kb u W) := fun W h => ⟨below_of T.b h.b⟩
      have HTF : Hid _ := TF
      have TF2 : ∀ W, Kb wc W → W.cell? ⟨w.heap.size, 0, none⟩ = some (.int .i64 t.kind) ∧ W.cell? ⟨w.heap.size, 1, none⟩ = some (.string t.cons) ∧ W.cell? ⟨w.heap.size, 2, none⟩ = some (.slice ta t.text.length tc) ∧ W.cell? ⟨w.heap.size, 3, none⟩ = some (.slice sa t.kids.length sc) ∧ W.cell? ⟨w4.heap.size, 0, none⟩ = some (.int .i64 t.kind) ∧ W.cell? ⟨w4.heap.size, 1, none⟩ = some (.string t.cons) ∧ W.cell? ⟨w4.heap.size, 2, none⟩ = some (.slice oa t.text.length oc) ∧ W.cell? ⟨w4.heap.size, 3, none⟩ = some (.slice ob t.kids.length od) := fun W h => HTF.out W (HT2.out W h)
      have HR3 : Hid (∀ W, Kb wc W → Calls Tryd.prog 19 #[.agg #[.int .i64 t.kind, .string t.cons, .slice oa t.text.length oc, .slice ob t.kids.length od]] W fun e w' => e = .returned (.bool qr) ∧ Below W.heap.size W w') := fun W h => HR1.out W (HT2.out W h)
      have HR4 : Hid (∀ W, Kb wc W → Calls Tryd.prog 20 #[.agg #[.int .i64 t.kind, .string t.cons, .slice ta t.text.length tc, .slice sa t.kids.length sc]] W fun e w' => e = .returned (.bool qr) ∧ Below W.heap.size W w') := fun W h => HR2.out W (HT2.out W h)
      clear HR1 HR2 HA HB T TF HALV HSM HTF
      have T := T2
      clear T2
      go_region_held3 (fun W => W.cell? ⟨w.heap.size, 0, none⟩ = some (.int .i64 t.kind) ∧ W.cell? ⟨w.heap.size, 1, none⟩ = some (.string t.cons) ∧ W.cell? ⟨w.heap.size, 2, none⟩ = some (.slice ta t.text.length tc) ∧ W.cell? ⟨w.heap.size, 3, none⟩ = some (.slice sa t.kids.length sc) ∧ W.cell? ⟨w4.heap.size, 0, none⟩ = some (.int .i64 t.kind) ∧ W.cell? ⟨w4.heap.size, 1, none⟩ = some (.string t.cons) ∧ W.cell? ⟨w4.heap.size, 2, none⟩ = some (.slice oa t.text.length oc) ∧ W.cell? ⟨w4.heap.size, 3, none⟩ = some (.slice ob t.kids.length od)) (first | exact TF2 _ T | exact TF2 _ T.drew) (first
        | (go_at_call 19; refine (HR3.out _ (by first | exact T | exact T.drew)).mono ?_; rintro e wA ⟨rfl, hbA⟩; replace T : Kb wc wA := (by first | exact Kb.nx hbA T | exact Kb.nx hbA T.drew); clear hbA)
        | (go_at_call 20; refine (HR4.out _ (by first | exact T | exact T.drew)).mono ?_; rintro e wB ⟨rfl, hbB⟩; replace T : Kb wc wB := (by first | exact Kb.nx hbB T | exact Kb.nx hbB T.drew); clear hbB))
      all_goals go_wp2
      all_goals go_meet
      all_goals exact ⟨by simp, (HX.out _ T.b).1, (HX.out _ T.b).2, HT2.out _ T⟩
    case rest =>
      obtain ⟨rfl, hA, hB, T⟩ := hcut
      have HS0 : Hid (Lc u (.slice xa ts.length xc) (.slice ya ts.length yc) csa csb ts 0 u.heap.size wc) := ⟨T.b, hA.row, hB.row, hB.lb, hA.lx, Nat.le_refl _⟩
      clear HR1 HR2 HA HB hA hB T TF g1 g2 g3 g4
      go_wp2
      go_loopw [10, 11] (fun iv _ W => ∃ k lo : Nat, k ≤ ts.length ∧ iv = .int .i64 k ∧ Lc u (.slice xa ts.length xc) (.slice ya ts.length yc) csa csb ts k lo W) (fun iv _ _ => ts.length - (intOf iv).toNat)
      case atStart => exact ⟨0, u.heap.size, by omega, rfl, HS0.out⟩
      case round =>
        obtain ⟨k, lo, hkl, rfl, hL⟩ := hrel
        have hkb : (k : Int) ≤ 1000000 := by omega
        clear HS0
        by_cases hlt : k < ts.length
        · have hltI : (k : Int) < (ts.length : Int) := by omega
          obtain ⟨s, hs⟩ : ∃ s, ts[k]? = some s := ⟨ts[k], by simp [hlt]⟩
          have hdr : ts.drop k = s :: ts.drop (k + 1) := by
            rw [List.drop_eq_getElem_cons hlt]
            congr 1
            rw [List.getElem?_eq_getElem hlt] at hs
            simpa using hs
          have hlx := hL.lx
          rw [hdr] at hlx
          obtain ⟨v, ys, g, hcs, hg1, hg2, _, htx, hrest⟩ := hlx
          obtain ⟨za, zc, rfl, hzc, hzl, hzb⟩ : ∃ za zc, v = .slice za s.length zc ∧ s.length ≤ zc ∧ s.length ≤ 140737488355328 ∧ _ := htx
          have htx : Txx wr (fun b => b = g) (.slice za s.length zc) s := ⟨za, zc, rfl, hzc, hzl, hzb⟩
          obtain ⟨hcw, hbt, _⟩ := txx_cw htx
          have hck : csa[k]? = some (.slice za s.length zc) := by
            have := congrArg (fun l => l[0]?) hcs
            simpa using this
          have hys : ys = csa.drop (k + 1) := by
            have := congrArg List.tail hcs
            simpa using this.symm
          rw [hys] at hrest
          obtain ⟨pa, pc, hcb, _, _, hpb⟩ := hL.lb.at hs
          have hug : u.heap.size ≤ g := Nat.le_trans hL.lo' hg1
          obtain ⟨ga, hga⟩ : ∃ ga, xa = some ⟨ga, 0, none⟩ := by
            rcases hL.ra.2 with ⟨_, h0⟩ | ⟨ga, cap, cur, e, _⟩
            · omega
            · cases e; exact ⟨ga, rfl⟩
          obtain ⟨gb, hgb⟩ : ∃ gb, ya = some ⟨gb, 0, none⟩ := by
            rcases hL.rb.2 with ⟨_, h0⟩ | ⟨gb, cap, cur, e, _⟩
            · omega
            · cases e; exact ⟨gb, rfl⟩
          subst hga
          subst hgb
          have HCA : Hid (∀ W : World, W.ownsRow u.heap.size 22 1 (.slice (some ⟨ga, 0, none⟩) ts.length xc) ts.length csa → W.cell? ⟨ga, k, none⟩ = some (.slice za s.length zc)) := fun W h => (own_cell h hck).1
          have ca := HCA.out _ hL.ra
          have cb := (own_cell hL.rb hcb).1
          have cva := bat_conv (tc := zc) hbt
          have cvb := bat_conv (tc := pc) hpb
          have cvad := bat_conv (tc := zc) (W := wr.drew) (B := g + 1) (ta := za) (t := s) (hbt.keep (fun _ _ _ => rfl))
          have cvbd := bat_conv (tc := pc) (W := wr.drew) (B := u.heap.size) (ta := pa) (t := s) (hpb.keep (fun _ _ _ => rfl))
          have q5 : ((bstr s).toList == (bstr s).toList) = true := by simp
          have HL1 : Hid (Lc u (.slice (some ⟨ga, 0, none⟩) ts.length xc) (.slice (some ⟨gb, 0, none⟩) ts.length yc) csa csb ts (k + 1) (g + 1) wr) := ⟨hL.bel, hL.ra, hL.rb, hL.lb, hrest, by omega⟩
          have HCW : Hid _ := fun (_ : Unit) => hcw
          have HLT : Hid _ := hlt
          have HUG : Hid _ := hug
          have hsl : (s.length : Int) ≤ 140737488355328 := by omega
          clear hL hcs hys hck hrest hdr hs hbt hpb htx hcw hzb hcb hg1 hg2 hlt hug hzl hzc
          generalize bstr s = bs at *
          go_wp2
          go_region
          go_wp2
          go_loopw [11] (fun jv W => ∃ j : Nat, j ≤ s.length ∧ jv = .int .i64 j ∧ Lc u (.slice (some ⟨ga, 0, none⟩) ts.length xc) (.slice (some ⟨gb, 0, none⟩) ts.length yc) csa csb ts (k + 1) (g + 1) W ∧ Cw W g za s.length) (fun jv _ => s.length - (intOf jv).toNat)
          case atStart => exact ⟨0, by omega, rfl, by first | exact HL1.out.drewN _ | exact HL1.out.drewN 1 | exact HL1.out, by first | exact (HCW.out ()).drewN _ | exact (HCW.out ()).drewN 1 | exact HCW.out ()⟩
          case round =>
            obtain ⟨j, hjl, rfl, hL2, hcw2⟩ := hrel
            have ca2 := HCA.out _ hL2.ra
            have hjb : (j : Int) ≤ 140737488355328 := by omega
            clear HL1 HCW ca cb cva cvb cvad cvbd
            by_cases hj : j < s.length
            · have hjI : (j : Int) < (s.length : Int) := by omega
              obtain ⟨o, hzo, hsome, hfz⟩ := hcw2.can j hj
              obtain ⟨z0, hz0⟩ := Option.isSome_iff_exists.1 hsome
              have HN : Hid (Lc u (.slice (some ⟨ga, 0, none⟩) ts.length xc) (.slice (some ⟨gb, 0, none⟩) ts.length yc) csa csb ts (k + 1) (g + 1) (wr.setCell ⟨g, o + j, none⟩ (.int .u8 99)) ∧ Cw (wr.setCell ⟨g, o + j, none⟩ (.int .u8 99)) g za s.length) := ⟨hL2.spoil HUG.out (hcw2.tag (by omega)) _ _, hcw2.spoil _ _⟩
              have HJ : Hid _ := hj
              subst hzo
              clear hL2 hcw2 hsome hj
              go_wp2
              go_roundw
              case rel => exact ⟨j + 1, HJ.out, by go_num, HN.out.1, HN.out.2⟩
              case measure => simp [intOf]; have := HJ.out; omega
            · obtain rfl : j = s.length := by omega
              have hjI : ¬ (s.length : Int) < (s.length : Int) := by omega
              have HN : Hid _ := hL2
              clear hL2 hcw2 hj
              go_wp2
              go_roundw
              case rel => exact ⟨k + 1, g + 1, HLT.out, by go_num, HN.out⟩
              case measure => simp [intOf]; have := HLT.out; omega
        · obtain rfl : k = ts.length := by omega
          have hltI : ¬ (ts.length : Int) < (ts.length : Int) := by omega
          have HTw : Hid _ := HTu.out.nx hL.bel
          have HOw : Hid _ := HOu.out.nx hL.bel
          clear hL hlt
          go_wp2_with (go_at_call 13; refine (HALV.out _).mono ?_; rintro e w8 ⟨rfl, hb8⟩; have HT8 : Hid _ := HTw.out.nx hb8; have HO8 : Hid _ := HOw.out.nx hb8; clear hb8; refine hold_it ?_)
          unfold Held
          obtain ⟨e0, e1, e2, e3⟩ := HT8.out.facts
          obtain ⟨f0, f1, f2, f3⟩ := HO8.out.facts
          go_wp2_with (go_at_call 21; refine (HSM.out _ _ _ _ _ HO8.out.ka HT8.out).mono ?_; rintro e w9 ⟨rfl, hb9⟩; have HT9 : Hid _ := HT8.out.nx hb9; clear hb9)
          go_ret
          exact ⟨rfl, HT9.out.bel⟩
end Go.Proofs.YtlkcadibjmfmcaaDoor
