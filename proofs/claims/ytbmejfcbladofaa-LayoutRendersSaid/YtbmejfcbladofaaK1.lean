/- How the document's own way lays out: it comes to the same. -/
import Derived.Test.YtbmejfcbladofaaK0
namespace Go.Proofs.Ytbmejfcbladofaa
open Go.RowKit

/-- What laying out one thing more comes to. -/
def NF (L : List Dc) (p : Pg) (w' : Wr) (l r : List Th) : Prop := (w'.long = true → (fillA p (l ++ r)).long = true) ∧ (w'.long = false → ∃ q, RW q w' ∧ q.wd = p.wd ∧ L.drop w'.pos = tk r ∧ fillA p (l ++ r) = fillA q r)
theorem putP_wd (p : Pg) (l : List Th) (t : Th) : (putP p l t).1.wd = p.wd := by
  have ha : ∀ (l : List Th) (p : Pg), (wrAll p l).wd = p.wd := by
    intro l
    induction l with
    | nil => intro p; rfl
    | cons t l ih => intro p; exact (ih (wrP p t.flatS)).trans (wrP_wd p _).1
  cases t with
  | text s => exact (wrP_wd p s).1
  | line s i => exact (wrP_wd p (brkS i.toNat)).1
  | hard i => exact (wrP_wd p (brkS i.toNat)).1
  | group m =>
    show (openP p l m).1.wd = p.wd
    unfold openP
    split
    · exact ha _ _
    · rfl
theorem wrAll_wd (l : List Th) (p : Pg) : (wrAll p l).wd = p.wd := by
  induction l generalizing p with
  | nil => rfl
  | cons t l ih => exact (ih (wrP p t.flatS)).trans (wrP_wd p _).1
mutual
theorem nf_doc (L : List Dc) : ∀ (d : Dc) (i : Int) (m : Nat) (r : List Th) (p : Pg) (w : Wr), (∀ q ∈ pre d m, okP q = true) → 0 ≤ i → RW p w → L.drop w.pos = tk (thg d i ++ r) → NF L p (rlay L p.wd d w i false) (thg d i) r
  | .mk k t n l, i, m, r, p, w, hp, hi, hR, hL => by
    rw [pre] at hp
    have h0 := okP_okK (hp _ List.mem_cons_self)
    have hn := okP_n (hp _ List.mem_cons_self)
    have hn0' : 0 ≤ n := hn.2.1
    have hpl : ∀ q ∈ preL l (m + 1), okP q = true := fun q hq => hp q (List.mem_cons_of_mem _ hq)
    have hR1 : RW p { w with pos := w.pos + 1 } := ⟨hR.tx, hR.col, hR.br, hR.lp, hR.lw, hR.len⟩
    by_cases h1 : k = 1
    · subst h1
      obtain ⟨rfl, rfl, _⟩ := okK_leaf h0 (.inl rfl)
      have e : thg (.mk 1 t 0 []) i = [.text t] := by simp [thg, thgL]
      rw [e] at hL ⊢
      obtain ⟨g1, g2⟩ := drop_head (r := tk r) hL
      have e2 : rlay L p.wd (.mk 1 t 0 []) w i false = rput { w with pos := w.pos + 1 } t := by
        rw [rlay, if_pos (by simp)]
        unfold rleaf
        rw [g1]
        rfl
      rw [e2]
      have := rput_rw hR1 t
      have ef : fillA p ([.text t] ++ r) = fillA (wrP p t) r := fillA_cons _ _ hR.lp
      unfold NF
      rw [ef]
      refine ⟨fun hl => ?_, fun hl => ⟨_, this.2.1 hl, (wrP_wd p t).1, by rw [this.2.2]; exact g2, rfl⟩⟩
      have hw : (wrP p t).long = true := by rw [← this.1]; exact hl
      rw [fillA_long _ hw]; exact hw
    by_cases h2 : k = 2
    · subst h2
      obtain ⟨rfl, rfl, _⟩ := okK_leaf h0 (.inr (.inl rfl))
      have e : thg (.mk 2 t 0 []) i = [.line t i] := by simp [thg, thgL]
      rw [e] at hL ⊢
      obtain ⟨g1, g2⟩ := drop_head (r := tk r) hL
      have e2 : rlay L p.wd (.mk 2 t 0 []) w i false = rbrk { w with pos := w.pos + 1 } i.toNat := by
        rw [rlay, if_pos (by simp)]
        unfold rleaf
        rw [g1]
        rfl
      rw [e2]
      have := rbrk_rw hR1 i.toNat
      have ef : fillA p ([.line t i] ++ r) = fillA (brkP p i.toNat) r := fillA_cons _ _ hR.lp
      unfold NF
      rw [ef]
      refine ⟨fun hl => ?_, fun hl => ⟨_, this.2.1 hl, (wrP_wd p _).1, by rw [this.2.2]; exact g2, rfl⟩⟩
      have hw : (brkP p i.toNat).long = true := by rw [← this.1]; exact hl
      rw [fillA_long _ hw]; exact hw
    by_cases h3 : k = 3
    · subst h3
      obtain ⟨rfl, rfl, _⟩ := okK_leaf h0 (.inr (.inr rfl))
      have e : thg (.mk 3 t 0 []) i = [.hard i] := by simp [thg, thgL]
      rw [e] at hL ⊢
      obtain ⟨g1, g2⟩ := drop_head (r := tk r) hL
      have e2 : rlay L p.wd (.mk 3 t 0 []) w i false = rbrk { w with pos := w.pos + 1 } i.toNat := by
        rw [rlay, if_pos (by simp)]
        unfold rleaf
        rw [g1]
        rfl
      rw [e2]
      have := rbrk_rw hR1 i.toNat
      have ef : fillA p ([.hard i] ++ r) = fillA (brkP p i.toNat) r := fillA_cons _ _ hR.lp
      unfold NF
      rw [ef]
      refine ⟨fun hl => ?_, fun hl => ⟨_, this.2.1 hl, (wrP_wd p _).1, by rw [this.2.2]; exact g2, rfl⟩⟩
      have hw : (brkP p i.toNat).long = true := by rw [← this.1]; exact hl
      rw [fillA_long _ hw]; exact hw
    have hk3 : ¬ (k = 1 ∨ k = 2 ∨ k = 3) := by simp [h1, h2, h3]
    by_cases h5 : k = 5
    · subst h5
      have hn0 : n = 0 := by
        have h' : okC 5 t n l.length = true := h0
        exact okC_n0 h' (by decide)
      subst hn0
      have e : thg (.mk 5 t 0 l) i = .group (thgL l i).length :: thgL l i := by simp [thg]
      rw [e] at hL ⊢
      have hL' : L.drop w.pos = tk (thgL l i ++ r) := hL
      have hlen : (rlvL l).length = (tk (thgL l i)).length := by rw [tk_thgL l i (m + 1) hpl]
      have hf := fits_rw hR hL'
      have e2 : rlay L p.wd (.mk 5 t 0 l) w i false = (if rfits L p.wd w (rlvL l).length then rlayL L p.wd l w i true else rlayL L p.wd l { w with br := w.br + 1 } i false) := by rw [rlay, if_neg hk3, if_neg (by decide), if_pos (by simp)]
      rw [e2, hlen, ← hf]
      have ef : fillA p ((.group (thgL l i).length :: thgL l i) ++ r) = fillA (openP p (thgL l i ++ r) (thgL l i).length).1 (openP p (thgL l i ++ r) (thgL l i).length).2 := fillA_cons _ _ hR.lp
      unfold NF
      rw [ef]
      cases hfits : fitsP p (thgL l i ++ r) (thgL l i).length with
      | true =>
        have eo : openP p (thgL l i ++ r) (thgL l i).length = (wrAll p (thgL l i), r) := by
          unfold openP; rw [hfits]; simp
        rw [eo]
        simp only [if_true]
        have hnh : nH (thgL l i) = 0 := by
          unfold fitsP at hfits
          rw [List.drop_left, sr_h, sr_h, nH_app] at hfits
          simp at hfits; omega
        have := flat_list L p.wd l i (m + 1) r p w hpl hR hL' hnh
        refine ⟨fun hl => ?_, fun hl => ?_⟩
        · have hw : (wrAll p (thgL l i)).long = true := by rw [← this.1]; exact hl
          rw [fillA_long _ hw]; exact hw
        · obtain ⟨a, b⟩ := this.2 hl
          exact ⟨_, a, wrAll_wd _ _, b, rfl⟩
      | false =>
        have eo : openP p (thgL l i ++ r) (thgL l i).length = ({ p with br := p.br + 1 }, thgL l i ++ r) := by
          unfold openP; rw [hfits]; rfl
        rw [eo]
        simp only [Bool.false_eq_true, if_false]
        exact nf_list L l i (m + 1) r { p with br := p.br + 1 } { w with br := w.br + 1 } hpl hi ⟨hR.tx, hR.col, by show p.br + 1 = w.br + 1; rw [hR.br], hR.lp, hR.lw, hR.len⟩ hL'
    · have e : thg (.mk k t n l) i = thgL l (i + n) := by simp [thg, h1, h2, h3, h5]
      rw [e] at hL ⊢
      by_cases h4 : k = 4
      · have e2 : rlay L p.wd (.mk k t n l) w i false = rlayL L p.wd l w (i + n) false := by rw [rlay, if_neg hk3, if_pos h4]
        rw [e2]
        exact nf_list L l (i + n) (m + 1) r p w hpl (by omega) hR hL
      · have hn0 : n = 0 := by
          have h' : okC k t n l.length = true := h0
          exact okC_n0 h' h4
        subst hn0
        rw [Int.add_zero] at hL ⊢
        have e2 : rlay L p.wd (.mk k t 0 l) w i false = rlayL L p.wd l w i false := by rw [rlay, if_neg hk3, if_neg h4, if_neg (by simp [h5])]
        rw [e2]
        exact nf_list L l i (m + 1) r p w hpl hi hR hL
theorem nf_list (L : List Dc) : ∀ (l : List Dc) (i : Int) (m : Nat) (r : List Th) (p : Pg) (w : Wr), (∀ q ∈ preL l m, okP q = true) → 0 ≤ i → RW p w → L.drop w.pos = tk (thgL l i ++ r) → NF L p (rlayL L p.wd l w i false) (thgL l i) r
  | [], i, m, r, p, w, _, _, hR, hL => by
    rw [rlayL]
    have e : thgL [] i = [] := by simp [thgL]
    rw [e] at hL ⊢
    exact ⟨fun h => (by rw [hR.lw] at h; cases h), fun _ => ⟨p, hR, rfl, hL, rfl⟩⟩
  | d :: l, i, m, r, p, w, hp, hi, hR, hL => by
    rw [preL] at hp
    rw [thgL] at hL ⊢
    rw [List.append_assoc] at hL
    have a := nf_doc L d i m (thgL l i ++ r) p w (fun q h => hp q (List.mem_append_left _ h)) hi hR hL
    rw [rlayL, if_neg (by rw [hR.lw]; decide)]
    unfold NF at a ⊢
    rw [List.append_assoc]
    cases hl : (rlay L p.wd d w i false).long with
    | true =>
      rw [rlayL_long l hl]
      exact ⟨fun _ => a.1 hl, fun h => by rw [hl] at h; cases h⟩
    | false =>
      obtain ⟨q, hR2, hw2, hL2, hf⟩ := a.2 hl
      have b := nf_list L l i m r q _ (fun q h => hp q (List.mem_append_right _ h)) hi hR2 hL2
      rw [hw2] at b
      rw [hf]
      unfold NF at b
      refine ⟨b.1, fun h => ?_⟩
      obtain ⟨q', c1, c2, c3, c4⟩ := b.2 h
      exact ⟨q', c1, c2.trans hw2, c3, c4⟩
end
/-- The writer at the beginning. -/
def wr0 : Wr := ⟨0, [], 0, 0, false⟩
theorem ref_lay {d : Dc} (wd : Int) (h : rightD d = true) : (rlay (rlv d) (max wd 0) d wr0 0 false).long = (layP d wd).long ∧ ((layP d wd).long = false → (layP d wd).tx = (rlay (rlv d) (max wd 0) d wr0 0 false).out ∧ (layP d wd).br = (rlay (rlv d) (max wd 0) d wr0 0 false).br) := by
  obtain ⟨_, ho⟩ := right_ok h
  have hL : (rlv d).drop wr0.pos = tk (thg d 0 ++ []) := by
    rw [List.append_nil, tk_thg d 0 1 ho]; rfl
  have := nf_doc (rlv d) d 0 1 [] ⟨max wd 0, [], 0, 0, false⟩ wr0 ho (by omega) ⟨rfl, rfl, rfl, rfl, rfl, by simp⟩ hL
  unfold NF at this
  rw [List.append_nil] at this
  have e : fillA ⟨max wd 0, [], 0, 0, false⟩ (thg d 0) = layP d wd := rfl
  rw [e] at this
  cases hl : (rlay (rlv d) (max wd 0) d wr0 0 false).long with
  | true => rw [this.1 hl]; exact ⟨rfl, fun h => by cases h⟩
  | false =>
    obtain ⟨q, hR, _, _, hf⟩ := this.2 hl
    have eq : fillA q [] = q := rfl
    rw [hf, eq, hR.lp]
    exact ⟨rfl, fun _ => ⟨hR.tx, hR.br⟩⟩
end Go.Proofs.Ytbmejfcbladofaa
