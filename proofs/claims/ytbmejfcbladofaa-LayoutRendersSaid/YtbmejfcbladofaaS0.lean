/- A row in a row, a row of one, and a group of a text: plain. -/
import Derived.Test.YtbmejfcbladofaaX3
namespace Go.Proofs.Ytbmejfcbladofaa
open Go.RowKit

mutual
theorem pre_shift (k : Nat) : ∀ (d : Dc) (m : Nat), pre d (m + k) = (pre d m).map fun p => (p.1, p.2 + k)
  | .mk kd t n l, m => by
    have h := preL_shift k l (m + 1)
    rw [pre, pre, List.map_cons, ← h, show m + k + 1 = m + 1 + k by omega]
theorem preL_shift (k : Nat) : ∀ (l : List Dc) (m : Nat), preL l (m + k) = (preL l m).map fun p => (p.1, p.2 + k)
  | [], m => by simp [preL]
  | d :: l, m => by rw [preL, preL, List.map_append, ← pre_shift k d m, ← preL_shift k l m]
end
/-- A document that lies deeper in a right one is right. -/
theorem right_in {D d : Dc} {k : Nat} (h : rightD D = true) (hs : ∃ a b, pre D 1 = a ++ pre d (1 + k) ++ b) : rightD d = true := by
  obtain ⟨hl, ho⟩ := right_ok h
  obtain ⟨a, b, hs⟩ := hs
  rw [hs] at hl ho
  rw [pre_shift] at hl ho
  unfold rightD
  rw [Bool.and_eq_true, decide_eq_true_eq, List.all_eq_true]
  refine ⟨by simp at hl; omega, fun p hp => ?_⟩
  have := ho (p.1, p.2 + k) (List.mem_append_left _ (List.mem_append_right _ (List.mem_map.2 ⟨p, hp, rfl⟩)))
  unfold okP at this ⊢
  simp only [Bool.and_eq_true, decide_eq_true_eq] at this ⊢
  exact ⟨by omega, this.2⟩
def catN : Dc := .mk 6 ⟨#[]⟩ 0 []
def catD (d : Dc) : Dc := .mk 6 ⟨#[]⟩ 0 [d]
def oneD (d : Dc) : Dc := .mk 6 ⟨#[]⟩ 0 [catN, catD d]
def wordD (t : ByteArray) : Dc := .mk 1 t 0 []
def grpD (d : Dc) : Dc := .mk 5 ⟨#[]⟩ 0 [d]
theorem one_thg (d : Dc) : thg (oneD d) 0 = thg d 0 := by
  simp [oneD, catN, catD, thg, thgL]
theorem one_pre (d : Dc) : pre (oneD d) 1 = [(oneD d, 1), (catN, 2), (catD d, 2)] ++ pre d 3 := by
  simp [oneD, catN, catD, pre, preL]
theorem one_right {d : Dc} (h : rightD (oneD d) = true) : rightD d = true := right_in (k := 2) h ⟨[(oneD d, 1), (catN, 2), (catD d, 2)], [], by rw [one_pre, List.append_nil]⟩
theorem one_wt (d : Dc) : wt (oneD d) = 3 + wt d := by
  have e0 : (⟨#[]⟩ : ByteArray).size = 0 := rfl
  simp [oneD, catN, catD, wt, wtL, e0]; omega
theorem one_lay {d : Dc} (h : rightD (oneD d) = true) (wd : Int) : layT (oneD d) wd = layT d wd ∧ layC (oneD d) wd = layC d wd := by
  have h2 := one_right h
  have hp : layP (oneD d) wd = layP d wd := by unfold layP; rw [one_thg]
  unfold layT layC
  rw [h, h2, hp]
  exact ⟨rfl, rfl⟩
theorem grp_right (t : ByteArray) : rightD (grpD (wordD t)) = rightD (wordD t) := by
  unfold rightD
  simp [grpD, wordD, pre, preL, okP, okK, okC, Dc.kind, Dc.text, Dc.n, Dc.kids]
theorem wrP_tx (p : Pg) (b : Nat) (s : ByteArray) : (wrP { p with br := b } s).tx = (wrP p s).tx ∧ (wrP { p with br := b } s).long = (wrP p s).long := by
  unfold wrP
  simp only
  split <;> exact ⟨rfl, rfl⟩
theorem word_thg (t : ByteArray) : thg (wordD t) 0 = [.text t] := by simp [wordD, thg, thgL]
theorem grp_thg (t : ByteArray) : thg (grpD (wordD t)) 0 = [.group 1, .text t] := by simp [grpD, wordD, thg, thgL]
theorem grp_lay (t : ByteArray) (wd : Int) : layT (grpD (wordD t)) wd = layT (wordD t) wd ∧ layC (grpD (wordD t)) wd = layC (wordD t) wd := by
  have hp : (layP (grpD (wordD t)) wd).tx = (layP (wordD t) wd).tx ∧ (layP (grpD (wordD t)) wd).long = (layP (wordD t) wd).long := by
    unfold layP
    rw [grp_thg, word_thg]
    obtain ⟨p, hp⟩ : ∃ p : Pg, (⟨max wd 0, [], 0, 0, false⟩ : Pg) = p := ⟨_, rfl⟩
    have hl : p.long = false := by rw [← hp]
    rw [hp]
    have e1 : (fillN 1 p [.text t]).1 = wrP p t := by simp [fillN, hl, putP]
    show (fillN 2 p [.group 1, .text t]).1.tx = (fillN 1 p [.text t]).1.tx ∧ (fillN 2 p [.group 1, .text t]).1.long = (fillN 1 p [.text t]).1.long
    rw [e1]
    have e2 : fillN 2 p [.group 1, .text t] = fillN 1 (openP p [.text t] 1).1 (openP p [.text t] 1).2 := by simp [fillN, hl, putP]
    rw [e2]
    unfold openP
    split
    · exact ⟨rfl, rfl⟩
    · have e3 : (fillN 1 { p with br := p.br + 1 } [.text t]).1 = wrP { p with br := p.br + 1 } t := by simp [fillN, hl, putP]
      rw [e3]
      exact wrP_tx p _ t
  unfold layT layC
  rw [grp_right, hp.1, hp.2]
  exact ⟨rfl, rfl⟩
end Go.Proofs.Ytbmejfcbladofaa
