/- Scans of texts: of two texts behind each other, of joined words: plain. -/
import Derived.Test.YtbbmjnhbmcbehaaP1
namespace Go.Proofs.Ytbbmjnhbmcbehaa
open Go.RowKit

/-- A word without its place. -/
def cw (d : Wd) : Nat × List UInt8 × List Nat × St × Nat := (d.kind, d.text, d.bytes, d.set, d.n)
theorem cw_mk (r : List UInt8) (q : RW) (p ln bg p2 ln2 bg2 : Nat) : cw (mkWd r q p ln bg) = cw (mkWd r q p2 ln2 bg2) := rfl
/-- What skipping leaves, and how far it goes, does not hang on the place. -/
theorem skp_any : ∀ (l : List UInt8) (r : Bool) (p ln bg p2 ln2 bg2 : Nat), (skp l r p ln bg).1 = (skp l r p2 ln2 bg2).1 ∧ (skp l r p ln bg).2.1 + p2 = (skp l r p2 ln2 bg2).2.1 + p
  | [], r, p, ln, bg, p2, ln2, bg2 => ⟨rfl, by simp [skp]; omega⟩
  | c :: l, r, p, ln, bg, p2, ln2, bg2 => by
    have h1 := skp_any l false (p + 1) (ln + 1) (p + 1) (p2 + 1) (ln2 + 1) (p2 + 1)
    have h2 := skp_any l true (p + 1) ln bg (p2 + 1) ln2 bg2
    have h3 := skp_any l false (p + 1) ln bg (p2 + 1) ln2 bg2
    unfold skp
    split
    · exact ⟨h1.1, by have := h1.2; omega⟩
    · split
      · exact ⟨h2.1, by have := h2.2; omega⟩
      · split
        · exact ⟨h3.1, by have := h3.2; omega⟩
        · split
          · exact ⟨h2.1, by have := h2.2; omega⟩
          · exact ⟨rfl, by simp only; omega⟩
/-- It leaves an end of the list, and counts its way. -/
theorem skp_len : ∀ (l : List UInt8) (r : Bool) (p ln bg : Nat), (skp l r p ln bg).2.1 + (skp l r p ln bg).1.length = p + l.length ∧ (skp l r p ln bg).1.length ≤ l.length
  | [], r, p, ln, bg => by simp [skp]
  | c :: l, r, p, ln, bg => by
    have h1 := skp_len l false (p + 1) (ln + 1) (p + 1)
    have h2 := skp_len l true (p + 1) ln bg
    have h3 := skp_len l false (p + 1) ln bg
    unfold skp
    simp only [List.length_cons]
    split
    · omega
    · split
      · omega
      · split
        · omega
        · split
          · omega
          · exact ⟨rfl, Nat.le_refl _⟩
theorem scn_step (f : Nat) (l : List UInt8) (p ln bg : Nat) (acc : List Wd) : scn (f + 1) l p ln bg acc =
    (if (rdw (skp l false p ln bg).1).code ≠ 0 then ([], (skp l false p ln bg).2.1 + (rdw (skp l false p ln bg).1).fat, (rdw (skp l false p ln bg).1).code)
    else if (rdw (skp l false p ln bg).1).kind = 7 then (acc ++ [mkWd (skp l false p ln bg).1 (rdw (skp l false p ln bg).1) (skp l false p ln bg).2.1 (skp l false p ln bg).2.2.1 (skp l false p ln bg).2.2.2], 0, 0)
    else scn f ((skp l false p ln bg).1.drop (rdw (skp l false p ln bg).1).len) ((skp l false p ln bg).2.1 + (rdw (skp l false p ln bg).1).len) (skp l false p ln bg).2.2.1 (skp l false p ln bg).2.2.2 (acc ++ [mkWd (skp l false p ln bg).1 (rdw (skp l false p ln bg).1) (skp l false p ln bg).2.1 (skp l false p ln bg).2.2.1 (skp l false p ln bg).2.2.2])) := rfl
/-- The words do not hang on the place, on the fuel, or on what came ahead. -/
theorem scn_same : ∀ (f f2 : Nat) (l : List UInt8) (p ln bg p2 ln2 bg2 : Nat) (acc acc2 : List Wd), l.length < f → l.length < f2 →
    (scn f l p ln bg acc).2.2 = (scn f2 l p2 ln2 bg2 acc2).2.2 ∧
    ((scn f l p ln bg acc).2.2 = 0 → (scn f l p ln bg acc).2.1 = 0 ∧ (scn f2 l p2 ln2 bg2 acc2).2.1 = 0 ∧ ∃ wa wb, (scn f l p ln bg acc).1 = acc ++ wa ∧ (scn f2 l p2 ln2 bg2 acc2).1 = acc2 ++ wb ∧ wa.map cw = wb.map cw ∧ wa ≠ []) ∧
    ((scn f l p ln bg acc).2.2 ≠ 0 → (scn f l p ln bg acc).2.1 + p2 = (scn f2 l p2 ln2 bg2 acc2).2.1 + p ∧ (scn f l p ln bg acc).1 = [] ∧ (scn f2 l p2 ln2 bg2 acc2).1 = [])
  | 0, _, l, p, ln, bg, p2, ln2, bg2, acc, acc2, h, _ => by omega
  | f + 1, 0, l, p, ln, bg, p2, ln2, bg2, acc, acc2, _, h => by omega
  | f + 1, f2 + 1, l, p, ln, bg, p2, ln2, bg2, acc, acc2, h1, h2 => by
    obtain ⟨ha, hb⟩ := skp_any l false p ln bg p2 ln2 bg2
    have hl := (skp_len l false p ln bg).2
    rw [scn_step f, scn_step f2, ← ha]
    generalize (skp l false p ln bg).1 = r at *
    generalize (skp l false p ln bg).2 = s at *
    generalize (skp l false p2 ln2 bg2).2 = s2 at *
    have hlen := rdw_len r
    generalize hq : rdw r = q at *
    by_cases hc : q.code ≠ 0
    · rw [if_pos hc, if_pos hc]
      exact ⟨rfl, fun h => absurd h hc, fun _ => ⟨by simp only; omega, rfl, rfl⟩⟩
    · rw [if_neg hc, if_neg hc]
      obtain ⟨l1, l2, l3⟩ := hlen (by simpa using hc)
      by_cases h7 : q.kind = 7
      · rw [if_pos h7, if_pos h7]
        exact ⟨rfl, fun _ => ⟨rfl, rfl, _, _, rfl, rfl, by simp [cw_mk r q s.1 s.2.1 s.2.2 s2.1 s2.2.1 s2.2.2], by simp⟩, fun h => absurd rfl h⟩
      · rw [if_neg h7, if_neg h7]
        have := l2 h7
        obtain ⟨i1, i2, i3⟩ := scn_same f f2 (r.drop q.len) (s.1 + q.len) s.2.1 s.2.2 (s2.1 + q.len) s2.2.1 s2.2.2 (acc ++ [mkWd r q s.1 s.2.1 s.2.2]) (acc2 ++ [mkWd r q s2.1 s2.2.1 s2.2.2]) (by rw [List.length_drop]; omega) (by rw [List.length_drop]; omega)
        refine ⟨i1, fun h => ?_, fun h => ?_⟩
        · obtain ⟨a1, a2, wa, wb, e1, e2, e3, e4⟩ := i2 h
          exact ⟨a1, a2, _, _, by rw [e1, List.append_assoc], by rw [e2, List.append_assoc], by simp only [List.map_append, List.map_cons, e3, cw_mk r q s.1 s.2.1 s.2.2 s2.1 s2.2.1 s2.2.2], by simp⟩
        · obtain ⟨a1, a2, a3⟩ := i3 h
          exact ⟨by omega, a2, a3⟩
end Go.Proofs.Ytbbmjnhbmcbehaa
