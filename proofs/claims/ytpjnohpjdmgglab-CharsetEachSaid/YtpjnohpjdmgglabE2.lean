/- Plain facts on the bytes of a set, rising, and their beginnings. -/
import Derived.Test.YtpjnohpjdmgglabE1
namespace Go.Proofs.Ytpjnohpjdmgglab
open Go.RowKit Go.Shelf

theorem upTo_pre (s : St) : ∀ (j k : Nat), ∃ t, upTo s (k + j) = upTo s k ++ t
  | 0, k => ⟨[], by simp⟩
  | j + 1, k => by
    obtain ⟨t, ht⟩ := upTo_pre s j k
    cases hh : s.has (k + j) with
    | true => exact ⟨t ++ [Fin.ofNat 256 (k + j)], by rw [← Nat.add_assoc, upTo_yes hh, ht, List.append_assoc]⟩
    | false => exact ⟨t, by rw [← Nat.add_assoc, upTo_no hh, ht]⟩
theorem upTo_beg (s : St) (k : Nat) (hk : k ≤ 256) : Beg (upTo s 256) (upTo s k) := by
  obtain ⟨t, ht⟩ := upTo_pre s (256 - k) k
  rw [show k + (256 - k) = 256 by omega] at ht
  unfold Beg
  rw [ht]; simp
theorem upTo_mem (s : St) : ∀ k, k ≤ 256 → ∀ x ∈ upTo s k, x.val < k
  | 0, _, x, h => by simp [upTo] at h
  | k + 1, hk, x, h => by
    have ih := upTo_mem s k (by omega)
    have hv : (Fin.ofNat 256 k).val = k := by simp [Fin.ofNat]; omega
    cases hh : s.has k with
    | true =>
      rw [upTo_yes hh] at h
      rcases List.mem_append.1 h with h | h
      · have := ih x h; omega
      · simp at h; subst h; rw [hv]; omega
    | false => rw [upTo_no hh] at h; have := ih x h; omega
theorem upTo_sorted (s : St) : ∀ k, k ≤ 256 → (upTo s k).Pairwise (fun a b => a.val < b.val)
  | 0, _ => by simp [upTo]
  | k + 1, hk => by
    have ih := upTo_sorted s k (by omega)
    have hv : (Fin.ofNat 256 k).val = k := by simp [Fin.ofNat]; omega
    cases hh : s.has k with
    | true =>
      rw [upTo_yes hh, List.pairwise_append]
      refine ⟨ih, by simp, fun x hx y hy => ?_⟩
      simp at hy; subst hy
      rw [hv]; exact upTo_mem s k (by omega) x hx
    | false => rw [upTo_no hh]; exact ih
theorem sorted_get {L : List (Fin 256)} (h : L.Pairwise (fun a b => a.val < b.val)) (i : Nat) (hi : i + 1 < L.length) : (L.getD i 0).val < (L.getD (i + 1) 0).val := by
  rw [List.getD_eq_getElem?_getD, List.getD_eq_getElem?_getD, List.getElem?_eq_getElem (by omega), List.getElem?_eq_getElem hi]
  exact List.pairwise_iff_getElem.1 h i (i + 1) (by omega) hi (by omega)
theorem beg_snoc {L pre : List (Fin 256)} {x : Fin 256} (h : Beg L pre) (hl : pre.length < L.length) (hx : L.getD pre.length 0 = x) : Beg L (pre ++ [x]) := by
  unfold Beg at *
  rw [List.length_append, List.length_singleton, List.take_add_one, ← h]
  rw [List.getD_eq_getElem?_getD, List.getElem?_eq_getElem hl] at hx
  rw [List.getElem?_eq_getElem hl]
  simp at hx ⊢
  exact hx.symm
theorem beg_get {L pre : List (Fin 256)} {x : Fin 256} (h : Beg L (pre ++ [x])) : pre.length < L.length ∧ L.getD pre.length 0 = x := by
  unfold Beg at h
  have hl := congrArg List.length h
  simp only [List.length_append, List.length_singleton, List.length_take] at hl
  have hlt : pre.length < L.length := by omega
  refine ⟨hlt, ?_⟩
  have hg := congrArg (fun l => l[pre.length]?) h
  simp only [List.length_append, List.length_singleton] at hg
  rw [List.getElem?_append_right (Nat.le_refl _), Nat.sub_self, List.getElem?_take, if_pos (by omega)] at hg
  rw [List.getD_eq_getElem?_getD, ← hg]; rfl
theorem row_cells {L : List (Fin 256)} {cur : Array Value} (ht : List.take (L.length * 1) cur.toList = bcells L) (i : Nat) (hi : i < L.length) : cur[i]? = some (.int .u8 ((L.getD i 0).val : Int)) := by
  rw [Nat.mul_one] at ht
  have := congrArg (fun l => l[i]?) ht
  simp only [List.getElem?_take, if_pos hi] at this
  rw [← Array.getElem?_toList, this]
  unfold bcells
  rw [List.getElem?_map, List.getD_eq_getElem?_getD, List.getElem?_eq_getElem hi]
  rfl
end Go.Proofs.Ytpjnohpjdmgglab
