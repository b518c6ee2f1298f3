/- The document's own way lays out. -/
import Derived.Test.YtbmejfcbladofaaM5
namespace Go.Proofs.Ytbmejfcbladofaa
open Go.RowKit

/-- A writer whose numbers are bounded. -/
structure WOk (s : Wr) : Prop where
  out : s.out.length ≤ 65536
  col : 0 ≤ s.col ∧ s.col ≤ 200000 + s.out.length
theorem rleaf_ok {L : List Dc} {s : Wr} (h : WOk s) {i : Nat} (hi : i ≤ 200000) (fl : Bool) : WOk (rleaf L s i fl) ∧ (rleaf L s i fl).pos ≤ s.pos + 1 ∧ (rleaf L s i fl).br = s.br := by
  unfold rleaf
  split
  · exact ⟨h, by omega, rfl⟩
  · have h1 : WOk { s with pos := s.pos + 1 } := ⟨h.out, h.col⟩
    split
    · refine ⟨⟨rput_len _ h1.out, rput_col _ h1.col⟩, ?_, ?_⟩
      · unfold rput; split <;> exact Nat.le_refl _
      · unfold rput; split <;> rfl
    · have h2 := rspc_ok i (rput_len ⟨#[10]⟩ h1.out) (rput_col ⟨#[10]⟩ h1.col)
      have hp : ∀ (n : Nat) (u : Wr), (rspc n u).pos = u.pos ∧ (rspc n u).br = u.br := by
        intro n
        induction n with
        | zero => intro u; exact ⟨rfl, rfl⟩
        | succ n ih =>
          intro u
          rw [rspc]
          split
          · exact ⟨rfl, rfl⟩
          · have := ih (rput u ⟨#[32]⟩)
            rw [this.1, this.2]
            unfold rput; split <;> exact ⟨rfl, rfl⟩
      have hq := hp i (rput { s with pos := s.pos + 1 } ⟨#[10]⟩)
      refine ⟨⟨h2.1, ⟨by show (0 : Int) ≤ i; omega, by show (i : Int) ≤ 200000 + ((rspc i _).out.length : Int); omega⟩⟩, ?_, ?_⟩
      · show (rspc i _).pos ≤ _
        rw [hq.1]; unfold rput; split <;> exact Nat.le_refl _
      · show (rspc i _).br = _
        rw [hq.2]; unfold rput; split <;> rfl
mutual
theorem rlay_ok (L : List Dc) (wd : Int) : ∀ (d : Dc) (m : Nat) (s : Wr) (i : Int) (fl : Bool), (∀ p ∈ pre d m, okP p = true) → 1 ≤ m → 0 ≤ i → i ≤ 1000 * (m - 1 : Nat) → WOk s → WOk (rlay L wd d s i fl) ∧ (rlay L wd d s i fl).pos ≤ s.pos + (rlv d).length ∧ (rlay L wd d s i fl).br ≤ s.br + cnt d
  | .mk k t n l, m, s, i, fl, hp, h1, hi0, hi1, hs => by
    rw [pre] at hp
    obtain ⟨hm, hn0, hn1⟩ := okP_n (hp _ List.mem_cons_self)
    simp only [Dc.n] at hn0 hn1
    simp only at hm
    have hpl : ∀ q ∈ preL l (m + 1), okP q = true := fun q hq => hp q (List.mem_cons_of_mem _ hq)
    rw [rlay, rlv, cnt]
    split
    · have := rleaf_ok hs (L := L) (i := i.toNat) (by omega) fl
      refine ⟨this.1, by simpa using this.2.1, by rw [this.2.2]; omega⟩
    split
    · have := rlayL_ok L wd l (m + 1) s (i + n) fl hpl (by omega) (by omega) (by omega) hs
      exact ⟨this.1, this.2.1, by omega⟩
    split
    · split
      · have := rlayL_ok L wd l (m + 1) s i true hpl (by omega) (by omega) (by omega) hs
        exact ⟨this.1, this.2.1, by omega⟩
      · have := rlayL_ok L wd l (m + 1) { s with br := s.br + 1 } i false hpl (by omega) (by omega) (by omega) ⟨hs.out, hs.col⟩
        exact ⟨this.1, this.2.1, by have := this.2.2; simp only at this; omega⟩
    · have := rlayL_ok L wd l (m + 1) s i fl hpl (by omega) (by omega) (by omega) hs
      exact ⟨this.1, this.2.1, by omega⟩
theorem rlayL_ok (L : List Dc) (wd : Int) : ∀ (l : List Dc) (m : Nat) (s : Wr) (i : Int) (fl : Bool), (∀ p ∈ preL l m, okP p = true) → 1 ≤ m → 0 ≤ i → i ≤ 1000 * (m - 1 : Nat) → WOk s → WOk (rlayL L wd l s i fl) ∧ (rlayL L wd l s i fl).pos ≤ s.pos + (rlvL l).length ∧ (rlayL L wd l s i fl).br ≤ s.br + cntL l
  | [], m, s, i, fl, _, _, _, _, hs => by rw [rlayL]; exact ⟨hs, by omega, by omega⟩
  | d :: l, m, s, i, fl, hp, h1, hi0, hi1, hs => by
    rw [preL] at hp
    rw [rlayL, rlvL, cntL, List.length_append]
    split
    · exact ⟨hs, by omega, by omega⟩
    · have a := rlay_ok L wd d m s i fl (fun q h => hp q (List.mem_append_left _ h)) h1 hi0 hi1 hs
      have b := rlayL_ok L wd l m _ i fl (fun q h => hp q (List.mem_append_right _ h)) h1 hi0 hi1 a.1
      exact ⟨b.1, by omega, by omega⟩
end
theorem rlayL_take {L : List Dc} {wd : Int} {l : List Dc} {k : Nat} {x : Dc} (h : l[k]? = some x) (s : Wr) (i : Int) (fl : Bool) : rlayL L wd (l.take (k + 1)) s i fl = if (rlayL L wd (l.take k) s i fl).long then rlayL L wd (l.take k) s i fl else rlay L wd x (rlayL L wd (l.take k) s i fl) i fl := by
  induction l generalizing k s with
  | nil => cases h
  | cons y l ih =>
    cases k with
    | zero =>
      simp at h; subst h
      rw [List.take_succ_cons, List.take_zero, List.take_zero, rlayL, rlayL, rlayL]
    | succ k =>
      simp at h
      rw [List.take_succ_cons, List.take_succ_cons, rlayL, rlayL]
      by_cases hs : s.long = true
      · rw [if_pos hs, if_pos hs, if_pos hs]
      · rw [if_neg hs, if_neg hs, ih h]
theorem rlayL_stop {L : List Dc} {wd : Int} {l : List Dc} {k : Nat} {s : Wr} {i : Int} {fl : Bool} (h : (rlayL L wd (l.take k) s i fl).long = true) : rlayL L wd l s i fl = rlayL L wd (l.take k) s i fl := by
  induction l generalizing k s with
  | nil => simp
  | cons y l ih =>
    cases k with
    | zero =>
      rw [List.take_zero, rlayL] at h ⊢
      rw [rlayL, if_pos h]
    | succ k =>
      rw [List.take_succ_cons, rlayL] at h ⊢
      rw [rlayL]
      by_cases hs : s.long = true
      · rw [if_pos hs, if_pos hs]
      · rw [if_neg hs] at h
        rw [if_neg hs, if_neg hs]
        exact ih h
end Go.Proofs.Ytbmejfcbladofaa
