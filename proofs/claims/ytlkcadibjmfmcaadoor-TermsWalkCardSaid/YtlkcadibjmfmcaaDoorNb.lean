/- Is a part of a kind? -/
import Derived.Test.YtlkcadibjmfmcaaDoorNa
import Derived.Test.YtlkcadibjmfmcaaDoorC0
namespace Go.Proofs.YtlkcadibjmfmcaaDoor
open Go.RowKit

/-- What is asked of a part alone. -/
def okC (kd : Int) (c : ByteArray) (tl kl : Nat) : Bool :=
  if kd = 1 then nameB great c.data.toList && decide (tl = 0)
  else if ¬ c.size = 0 then false
  else if kd ≠ 2 ∧ 0 < tl then false
  else if kd = 3 then true
  else if kd = 2 ∨ kd = 4 then decide (kl = 0)
  else if kd = 5 then decide (kl = 1)
  else false
def okK (d : Tm) : Bool := okC d.kind d.cons d.text.length d.kids.length
set_option maxRecDepth 100000 in
set_option maxHeartbeats 4000000 in
theorem isOfKind_any (d : Tm) (B f b o : Nat) (w : World) (hB : B ≤ w.heap.size) (hd : TermAt w B f b o d) :
    Calls Tryd.prog 39 #[.pointer (some ⟨b, o, none⟩)] w fun e w' => e = .returned (.bool (okK d)) ∧ Below w.heap.size w w' := by
  obtain ⟨hlt, sa, sc, c0, c1, ⟨ta, tc, c2, _, _, _⟩, c3, _, _⟩ := hd
  have hbw : b < w.heap.size := by omega
  have HN : Hid _ := fun w => isName_any d.cons w
  unfold okK
  generalize d.kind = kd at *
  generalize d.cons = cn at *
  generalize d.text.length = tl at *
  generalize d.kids.length = kl at *
  by_cases h1 : kd = 1
  · subst h1
    have HE : Hid (okC 1 cn tl kl = (nameB great cn.data.toList && decide (tl = 0))) := rfl
    have HC : Hid (∀ W, Below w.heap.size w W → W.cell? ⟨b, o + 2, none⟩ = some (.slice ta tl tc)) := fun W hW => (hW.cell (p := ⟨b, o + 2, none⟩) hbw).trans c2
    generalize nameB great cn.data.toList = g at *
    cases g
    · go_enter Tryd.func39, Tryd.ntmps39
      go_wp2_with (go_at_call 57; refine (HN.out _).mono ?_; rintro e w' ⟨rfl, hb⟩)
      go_ret
      exact ⟨ret_bool (by rw [HE.out]; rfl), hb⟩
    · go_enter Tryd.func39, Tryd.ntmps39
      go_wp2_with (go_at_call 57; refine (HN.out _).mono ?_; rintro e w' ⟨rfl, hb⟩; have c2' := HC.out w' hb)
      go_ret
      exact ⟨ret_bool (by rw [HE.out, Bool.true_and, Bool.eq_iff_iff]; simp; try omega), hb⟩
  have g1 : (kd == 1) = false := by simpa using h1
  by_cases h0 : cn.size = 0
  · obtain rfl := str_empty cn h0
    clear h0 HN
    by_cases ht : kd ≠ 2 ∧ 0 < tl
    · have g2 : (kd != 2) = true := by simpa using ht.1
      have g3 : (0 : Int) < (tl : Int) := by omega
      have HE : Hid (okC kd ⟨#[]⟩ tl kl = false) := by show _ = _; unfold okC; simp [h1, ht]
      have h2 := ht.1
      clear ht
      go_enter Tryd.func39, Tryd.ntmps39
      go_wp2
      go_ret
      exact ⟨ret_bool (by rw [HE.out]), Below.refl _ _⟩
    · by_cases h2 : kd = 2
      · subst h2
        have HE : Hid (okC 2 ⟨#[]⟩ tl kl = decide (kl = 0)) := by show _ = _; unfold okC; simp; exact fun _ => rfl
        clear ht
        go_enter Tryd.func39, Tryd.ntmps39
        go_wp2
        all_goals (go_ret; exact ⟨ret_bool (by rw [HE.out, Bool.eq_iff_iff]; simp; try omega), Below.refl _ _⟩)
      · have h3 : tl = 0 := by by_cases h : tl = 0; exact h; exact absurd ⟨h2, by omega⟩ ht
        subst h3
        have g2 : (kd != 2) = true := by simpa using h2
        have g2' : (kd == 2) = false := by simpa using h2
        clear ht
        by_cases h3 : kd = 3
        · subst h3
          have HE : Hid (okC 3 ⟨#[]⟩ 0 kl = true) := by show _ = _; unfold okC; simp; rfl
          go_enter Tryd.func39, Tryd.ntmps39
          go_wp2
          go_ret
          exact ⟨ret_bool (by rw [HE.out]), Below.refl _ _⟩
        by_cases h4 : kd = 4
        · subst h4
          have HE : Hid (okC 4 ⟨#[]⟩ 0 kl = decide (kl = 0)) := by show _ = _; unfold okC; simp; exact fun _ => rfl
          go_enter Tryd.func39, Tryd.ntmps39
          go_wp2
          all_goals (go_ret; exact ⟨ret_bool (by rw [HE.out, Bool.eq_iff_iff]; simp; try omega), Below.refl _ _⟩)
        by_cases h5 : kd = 5
        · subst h5
          have HE : Hid (okC 5 ⟨#[]⟩ 0 kl = decide (kl = 1)) := by show _ = _; unfold okC; simp; exact fun _ => rfl
          go_enter Tryd.func39, Tryd.ntmps39
          go_wp2
          all_goals (go_ret; exact ⟨ret_bool (by rw [HE.out, Bool.eq_iff_iff]; simp; try omega), Below.refl _ _⟩)
        have g3 : (kd == 3) = false := by simpa using h3
        have g4 : (kd == 4) = false := by simpa using h4
        have g5 : (kd == 5) = false := by simpa using h5
        have HE : Hid (okC kd ⟨#[]⟩ 0 kl = false) := by show _ = _; unfold okC; simp [h1, h2, h3, h4, h5]
        go_enter Tryd.func39, Tryd.ntmps39
        go_wp2
        go_ret
        exact ⟨ret_bool (by rw [HE.out]), Below.refl _ _⟩
  · have hne := ne_empty cn h0
    have hne' : ¬ cn.toList = [] := by intro h; rw [h] at hne; cases hne
    have HE : Hid (okC kd cn tl kl = false) := by show _ = _; unfold okC; simp only [h1, h0, if_true, if_false, not_false_eq_true]
    clear h0 HN
    go_enter Tryd.func39, Tryd.ntmps39
    go_wp2
    go_ret
    exact ⟨ret_bool (by rw [HE.out]), Below.refl _ _⟩
end Go.Proofs.YtlkcadibjmfmcaaDoor
