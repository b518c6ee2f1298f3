/- Each word stands at the place that it says: plain. -/
import Derived.Test.YtbbmjnhbmcbehaaU2
import Derived.Test.YtbbmjnhbmcbehaaN6
namespace Go.Proofs.Ytbbmjnhbmcbehaa
open Go.RowKit

def inv (l : List UInt8) (p ln bg : Nat) : Prop := p ≤ l.length ∧ ln = lnOf (l.take p) ∧ bg ≤ p ∧ p - bg + 1 = coOf (l.take p)
theorem take_one {l : List UInt8} {p : Nat} {c : UInt8} {t : List UInt8} (h : l.drop p = c :: t) : l.take (p + 1) = l.take p ++ [c] ∧ l.drop (p + 1) = t ∧ p < l.length := by
  have hp : p < l.length := by
    rcases Nat.lt_or_ge p l.length with h' | h'
    · exact h'
    · rw [List.drop_eq_nil_of_le h'] at h; cases h
  rw [List.drop_eq_getElem_cons hp] at h
  have h1 : l[p] = c := by injection h
  have h2 : l.drop (p + 1) = t := by injection h
  exact ⟨by rw [List.take_succ_eq_append_getElem hp, h1], h2, hp⟩
theorem inv_nl {l : List UInt8} {p ln bg : Nat} {c : UInt8} {t : List UInt8} (h : inv l p ln bg) (hd : l.drop p = c :: t) (hc : c.toNat = 10) : inv l (p + 1) (ln + 1) (p + 1) := by
  obtain ⟨e1, _, e3⟩ := take_one hd
  have hc' : c = 10 := (u8_10 c).2 hc
  refine ⟨e3, ?_, Nat.le_refl _, ?_⟩
  · rw [e1, lnOf_snoc, if_pos hc', ← h.2.1]
  · rw [e1, coOf_snoc, if_pos hc']; omega
theorem inv_on {l : List UInt8} {p ln bg : Nat} {c : UInt8} {t : List UInt8} (h : inv l p ln bg) (hd : l.drop p = c :: t) (hc : c.toNat ≠ 10) : inv l (p + 1) ln bg := by
  obtain ⟨e1, _, e3⟩ := take_one hd
  have hc' : ¬ c = 10 := fun e => hc ((u8_10 c).1 e)
  obtain ⟨_, h2, h3, h4⟩ := h
  refine ⟨e3, ?_, by omega, ?_⟩
  · rw [e1, lnOf_snoc, if_neg hc', ← h2]
  · rw [e1, coOf_snoc, if_neg hc', ← h4]; omega
theorem skp_inv (l : List UInt8) : ∀ (rest : List UInt8) (r : Bool) (p ln bg : Nat), l.drop p = rest → inv l p ln bg → ∃ p' ln' bg', skp rest r p ln bg = (l.drop p', p', ln', bg') ∧ p ≤ p' ∧ inv l p' ln' bg'
  | [], r, p, ln, bg, hd, h => ⟨p, ln, bg, by rw [hd]; rfl, Nat.le_refl _, h⟩
  | c :: t, r, p, ln, bg, hd, h => by
    obtain ⟨_, e2, _⟩ := take_one hd
    rw [skp_cons]
    by_cases h10 : c.toNat = 10
    · rw [if_pos h10]
      obtain ⟨p', ln', bg', a, b, d⟩ := skp_inv l t false (p + 1) (ln + 1) (p + 1) e2 (inv_nl h hd h10)
      exact ⟨p', ln', bg', a, by omega, d⟩
    · rw [if_neg h10]
      have hn := inv_on h hd h10
      have on : ∀ r', ∃ p' ln' bg', skp t r' (p + 1) ln bg = (l.drop p', p', ln', bg') ∧ p ≤ p' ∧ inv l p' ln' bg' := fun r' => by
        obtain ⟨p', ln', bg', a, b, d⟩ := skp_inv l t r' (p + 1) ln bg e2 hn
        exact ⟨p', ln', bg', a, by omega, d⟩
      split
      · exact on true
      · split
        · exact on false
        · split
          · exact on true
          · exact ⟨p, ln, bg, by rw [hd], Nat.le_refl _, h⟩
theorem pass_inv (l : List UInt8) (p ln bg : Nat) : ∀ n, inv l p ln bg → no10 (l.drop p) n → p + n ≤ l.length → inv l (p + n) ln bg
  | 0, h, _, _ => h
  | n + 1, h, hn, hl => by
    have ih := pass_inv l p ln bg n h (fun i hi => hn i (by omega)) (by omega)
    have hd : l.drop (p + n) = l[p + n] :: l.drop (p + n + 1) := List.drop_eq_getElem_cons (by omega)
    have hc := hn n (by omega)
    rw [List.getD_eq_getElem?_getD, List.getElem?_drop, List.getElem?_eq_getElem (by omega)] at hc
    exact inv_on ih hd hc
/-- A word stands where it says, behind a place. -/
def stand (l : List UInt8) (e : Nat) (d : Wd) : Prop := e ≤ d.fro ∧ d.fro + d.text.length ≤ l.length ∧ (l.drop d.fro).take d.text.length = d.text ∧ d.line = lnOf (l.take d.fro) ∧ d.col = coOf (l.take d.fro) ∧ (d.text = [] ↔ d.kind = 7)
def chain (l : List UInt8) : Nat → List Wd → Prop
  | _, [] => True
  | e, d :: ds => stand l e d ∧ (d.kind = 7 ↔ ds = []) ∧ chain l (d.fro + d.text.length) ds
theorem scn_chain (l : List UInt8) : ∀ (f p ln bg : Nat) (acc : List Wd), (l.drop p).length < f → inv l p ln bg → (scn f (l.drop p) p ln bg acc).2.2 = 0 → ∃ ws, (scn f (l.drop p) p ln bg acc).1 = acc ++ ws ∧ ws ≠ [] ∧ chain l p ws
  | 0, p, ln, bg, acc, h, _, _ => by omega
  | f + 1, p, ln, bg, acc, hf, hi, h0 => by
    obtain ⟨p1, ln1, bg1, e1, e2, hi1⟩ := skp_inv l _ false p ln bg rfl hi
    rw [scn_step f, e1] at h0 ⊢
    simp only at h0 ⊢
    have hlen := rdw_len (l.drop p1)
    have hno := rdw_no10 (l.drop p1)
    generalize hq : rdw (l.drop p1) = q at *
    by_cases hc : q.code ≠ 0
    · rw [if_pos hc] at h0; exact absurd h0 hc
    rw [if_neg hc] at h0 ⊢
    have hc0 : q.code = 0 := by simpa using hc
    obtain ⟨l1, l2, l3⟩ := hlen hc0
    have hdl : (l.drop p1).length = l.length - p1 := List.length_drop
    obtain ⟨i1, i2, i3, i4⟩ := hi1
    have htl : ((l.drop p1).take q.len).length = q.len := by rw [List.length_take]; omega
    have hst : stand l p (mkWd (l.drop p1) q p1 ln1 bg1) := by
      refine ⟨e2, ?_, ?_, i2, i4, ?_⟩
      · show p1 + ((l.drop p1).take q.len).length ≤ _
        rw [htl]; omega
      · show (l.drop p1).take ((l.drop p1).take q.len).length = _
        rw [htl]; rfl
      · show (l.drop p1).take q.len = [] ↔ q.kind = 7
        constructor
        · intro h
          rw [h] at htl
          simp at htl
          rcases Nat.decEq q.kind 7 with h7 | h7
          · have := l2 h7; omega
          · exact h7
        · intro h; rw [l3.1 h]; simp
    by_cases h7 : q.kind = 7
    · rw [if_pos h7]
      exact ⟨_, rfl, by simp, hst, ⟨fun _ => rfl, fun _ => h7⟩, trivial⟩
    · rw [if_neg h7, List.drop_drop] at h0 ⊢
      have hpos := l2 h7
      have hinv := pass_inv l p1 ln1 bg1 q.len ⟨i1, i2, i3, i4⟩ (hno hc0) (by omega)
      obtain ⟨ws, g1, g2, g3⟩ := scn_chain l f (p1 + q.len) ln1 bg1 _ (by rw [List.length_drop] at *; omega) hinv h0
      refine ⟨mkWd (l.drop p1) q p1 ln1 bg1 :: ws, by rw [g1]; simp, by simp, hst, ⟨fun h => absurd h h7, fun h => absurd h g2⟩, ?_⟩
      show chain l (p1 + ((l.drop p1).take q.len).length) ws
      rw [htl]; exact g3
theorem words_stand (l : List UInt8) (hl : l.length ≤ 65536) (h0 : (scan l).2.2 = 0) : (scan l).1 ≠ [] ∧ chain l 0 (scan l).1 := by
  have e : scan l = scn (l.length + 1) l 0 1 0 [] := by unfold scan; rw [if_neg (by omega)]
  rw [e] at h0 ⊢
  obtain ⟨ws, a, b, c⟩ := scn_chain l (l.length + 1) 0 1 0 [] (by simp) ⟨Nat.zero_le _, rfl, Nat.le_refl _, rfl⟩ h0
  simp only [List.drop_zero, List.nil_append] at a
  rw [a]; exact ⟨b, c⟩
end Go.Proofs.Ytbbmjnhbmcbehaa
