/- In a width that is not below its flat text a document in a group is written flat: plain. -/
import Derived.Test.YtbmejfcbladofaaE2
namespace Go.Proofs.Ytbmejfcbladofaa
open Go.RowKit

def flL (l : List Th) : List UInt8 := l.flatMap fun t => t.flatS.data.toList
theorem flL_app (a b : List Th) : flL (a ++ b) = flL a ++ flL b := by simp [flL]
theorem flL_cons (t : Th) (l : List Th) : flL (t :: l) = t.flatS.data.toList ++ flL l := by simp [flL]
theorem flD_app (a b : List Dc) : flD (a ++ b) = flD a ++ flD b := by simp [flD]
theorem flD_cons (d : Dc) (l : List Dc) : flD (d :: l) = d.text.data.toList ++ flD l := by simp [flD]
theorem flL_len (l : List Th) : (flL l).length = flS l := by
  induction l with
  | nil => rfl
  | cons t l ih => rw [flL_cons, List.length_append, ih, flS]; simp
mutual
theorem thg_fl : ∀ (d : Dc) (i : Int) (m : Nat), (∀ p ∈ pre d m, okP p = true) → flL (thg d i) = flD (lfs ((pre d m).map (·.1)))
  | .mk k t n l, i, m, hp => by
    rw [pre] at hp
    have h0 := hp _ List.mem_cons_self
    have h := thgL_fl l (i + n) (m + 1) (fun p hp' => hp p (List.mem_cons_of_mem _ hp'))
    rw [pre, List.map_cons, lfs_cons, thg]
    show flL (if k = 1 then _ else _) = _
    split
    · rename_i hk; subst hk
      have e : isLf (.mk 1 t n l) = true := rfl
      rw [e, if_pos rfl, flL_cons, flD_cons, h]
      rfl
    split
    · rename_i hk; subst hk
      have e : isLf (.mk 2 t n l) = true := rfl
      rw [e, if_pos rfl, flL_cons, flD_cons, h]
      rfl
    split
    · rename_i hk; subst hk
      have e : isLf (.mk 3 t n l) = true := rfl
      have e3 : (Dc.mk 3 t n l).text.data.toList = [] := okP_hard h0 rfl
      rw [e, if_pos rfl, flL_cons, flD_cons, h, e3]
      rfl
    split
    · rename_i hk; subst hk
      have e : isLf (.mk 5 t n l) = false := rfl
      rw [e, if_neg (by decide), flL_cons, h]
      rfl
    · rename_i h1 h2 h3 _
      have e : isLf (.mk k t n l) = false := by simp [isLf, Dc.kind, h1, h2, h3]
      rw [e, if_neg (by decide), h]
theorem thgL_fl : ∀ (l : List Dc) (i : Int) (m : Nat), (∀ p ∈ preL l m, okP p = true) → flL (thgL l i) = flD (lfs ((preL l m).map (·.1)))
  | [], i, m, _ => by simp [thgL, preL, flL, flD, lfs]
  | d :: l, i, m, hp => by
    rw [preL] at hp
    have a := thg_fl d i m (fun p h => hp p (List.mem_append_left _ h))
    have b := thgL_fl l i m (fun p h => hp p (List.mem_append_right _ h))
    rw [thgL, preL, List.map_append, lfs_app, flL_app, flD_app, a, b]
end
theorem wrAll_flat {l : List Th} {p : Pg} (h : p.tx.length + flS l ≤ 65536) : (wrAll p l).long = p.long ∧ (wrAll p l).tx = p.tx ++ flL l ∧ (wrAll p l).br = p.br := by
  induction l generalizing p with
  | nil => exact ⟨rfl, by simp [flL]; rfl, rfl⟩
  | cons t l ih =>
    rw [flS] at h
    have e : wrAll p (t :: l) = wrAll (wrP p t.flatS) l := rfl
    have e1 : wrP p t.flatS = { p with tx := p.tx ++ t.flatS.data.toList, col := p.col + t.flatS.size } := by
      unfold wrP; rw [if_neg (by omega)]
    have e2 : (wrP p t.flatS).tx.length + flS l ≤ 65536 := by rw [e1]; simp; omega
    obtain ⟨h1, h2, h3⟩ := ih e2
    rw [e, h1, h2, h3, e1, flL_cons]
    exact ⟨rfl, by simp, rfl⟩
theorem hard_none {d : Dc} (h : hasHard (leavesD d) = false) : nH (thg d 0) = 0 := by
  rw [← (leaves_nK d).1]
  unfold hasHard at h
  unfold nK
  rw [List.countP_eq_zero]
  intro x hx
  have := List.any_eq_false.1 h x hx
  exact this
theorem flatC_zero {d : Dc} (h : flatC d = 0) : rightD d = true ∧ hasHard (leavesD d) = false := by
  unfold flatC at h
  cases hr : rightD d with
  | false => rw [hr] at h; simp at h
  | true =>
    cases hh : hasHard (leavesD d) with
    | false => exact ⟨rfl, rfl⟩
    | true => rw [hr, hh] at h; simp at h
theorem flatT_of {d : Dc} (h : flatC d = 0) : flatT d = ⟨(flL (thg d 0)).toArray⟩ := by
  obtain ⟨h1, h2⟩ := flatC_zero h
  obtain ⟨_, ho⟩ := right_ok h1
  unfold flatT
  rw [h1, h2, thg_fl d 0 1 ho]
  rfl
theorem flatC_cases (d : Dc) : flatC d = 0 ∨ flatC d = 4 ∨ flatC d = 140 := by
  unfold flatC
  split
  · split
    · exact .inr (.inl rfl)
    · exact .inl rfl
  · exact .inr (.inr rfl)
theorem grpD_thg (d : Dc) : thg (grpD d) 0 = .group (thg d 0).length :: thg d 0 := by simp [grpD, thg, thgL]
theorem grpD_wt (d : Dc) : wt (grpD d) = 1 + wt d := by
  have e0 : (⟨#[]⟩ : ByteArray).size = 0 := rfl
  simp [grpD, wt, wtL, e0]
theorem flatT_size {d : Dc} (h : flatC d = 0) (hw : wt d ≤ 700) : (flatT d).size = flS (thg d 0) ∧ (flatT d).size ≤ 11200 := by
  rw [flatT_of h]
  have e : (⟨(flL (thg d 0)).toArray⟩ : ByteArray).size = flS (thg d 0) := by
    show (flL (thg d 0)).toArray.size = _
    rw [List.size_toArray, flL_len]
  have := thg_flS d 0
  rw [e]
  exact ⟨rfl, by omega⟩
theorem flat_lay {d : Dc} {wd : Int} (h : flatC d = 0) (hg : rightD (grpD d) = true) (hw : wt d ≤ 700) (hwd : ((flatT d).size : Int) ≤ wd) : layT (grpD d) wd = flatT d ∧ layB (grpD d) wd = 0 ∧ layC (grpD d) wd = 0 := by
  obtain ⟨h1, h2⟩ := flatC_zero h
  have hn := hard_none h2
  obtain ⟨hs, hs2⟩ := flatT_size h hw
  have hfs : flS (thg d 0) ≤ 11200 := by omega
  have hp : layP (grpD d) wd = wrAll ⟨max wd 0, [], 0, 0, false⟩ (thg d 0) := by
    unfold layP
    rw [grpD_thg, List.length_cons, fillN]
    simp only [Bool.false_eq_true, if_false, putP]
    have hf : fitsP ⟨max wd 0, [], 0, 0, false⟩ (thg d 0) (thg d 0).length = true := by
      unfold fitsP
      rw [List.drop_length, sr_h, sr_h, hn]
      have e1 := (sr_le (thg d 0)).1
      rw [e1]
      have e2 : nH ([] : List Th) = 0 := rfl
      simp [sr, e2]
      omega
    have eo : openP ⟨max wd 0, [], 0, 0, false⟩ (thg d 0) (thg d 0).length = (wrAll ⟨max wd 0, [], 0, 0, false⟩ (thg d 0), []) := by
      unfold openP; rw [hf]; simp
    rw [eo]
    cases (thg d 0).length <;> rfl
  obtain ⟨w1, w2, w3⟩ := wrAll_flat (p := ⟨max wd 0, [], 0, 0, false⟩) (l := thg d 0) (by simp; omega)
  unfold layT layB layC
  rw [hg, hp, w1, w2, w3, flatT_of h]
  exact ⟨rfl, rfl, rfl⟩
end Go.Proofs.Ytbmejfcbladofaa
