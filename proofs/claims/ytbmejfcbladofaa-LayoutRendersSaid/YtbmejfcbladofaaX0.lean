/- Right documents of bounded weight can be borne by a page. -/
import Derived.Test.YtbmejfcbladofaaV6
import Derived.Test.YtbmejfcbladofaaW0
namespace Go.Proofs.Ytbmejfcbladofaa
open Go.RowKit

/-- The bytes of things' flat texts. -/
def flS : List Th → Nat | [] => 0 | t :: l => t.flatS.size + flS l
theorem flS_app (a b : List Th) : flS (a ++ b) = flS a + flS b := by
  induction a with
  | nil => simp [flS]
  | cons x a ih => rw [List.cons_append, flS, flS, ih]; omega
theorem flS_drop (l : List Th) (n : Nat) : flS (l.drop n) ≤ flS l := by
  induction l generalizing n with
  | nil => simp
  | cons x l ih =>
    cases n with
    | zero => simp
    | succ n => rw [List.drop_succ_cons, flS]; have := ih n; omega
theorem flS_mem {l : List Th} {t : Th} (h : t ∈ l) : t.flatS.size ≤ flS l := by
  induction l with
  | nil => cases h
  | cons x l ih =>
    rw [flS]
    rcases List.mem_cons.1 h with rfl | h
    · omega
    · have := ih h; omega
theorem sr_le (l : List Th) : (sr l).b = flS l ∧ (sr l).n ≤ flS l ∧ (sr l).h ≤ l.length := by
  induction l with
  | nil => exact ⟨rfl, Nat.le_refl _, Nat.le_refl _⟩
  | cons t l ih =>
    rw [sr, flS, List.length_cons]
    cases t <;> simp only [Th.from, Th.flatS] <;> (try rw [show (⟨#[]⟩ : ByteArray).size = 0 from rfl]) <;> omega
def GrpOk (l : List Th) : Prop := ∀ (j m : Nat), l[j]? = some (.group m) → j + 1 + m ≤ l.length
theorem GrpOk.app {a b : List Th} (ha : GrpOk a) (hb : GrpOk b) : GrpOk (a ++ b) := by
  intro j m h
  rw [List.length_append]
  rcases Nat.lt_or_ge j a.length with hj | hj
  · rw [List.getElem?_append_left hj] at h
    have := ha j m h; omega
  · rw [List.getElem?_append_right hj] at h
    have := hb _ m h; omega
theorem GrpOk.cons {t : Th} {l : List Th} (h : GrpOk l) (ht : ∀ m, t = .group m → m ≤ l.length) : GrpOk (t :: l) := by
  intro j m hj
  rw [List.length_cons]
  cases j with
  | zero => simp at hj; have := ht m hj; omega
  | succ j => simp at hj; have := h j m hj; omega
theorem GrpOk.nil : GrpOk [] := fun j m h => by cases h
mutual
theorem thg_grp : ∀ (d : Dc) (i : Int), GrpOk (thg d i)
  | .mk k t n l, i => by
    have h := thgL_grp l (i + n)
    rw [thg]
    show GrpOk (if k = 1 then _ else _)
    split
    · exact h.cons fun m e => by cases e
    split
    · exact h.cons fun m e => by cases e
    split
    · exact h.cons fun m e => by cases e
    split
    · exact h.cons fun m e => by cases e; exact Nat.le_refl _
    · exact h
theorem thgL_grp : ∀ (l : List Dc) (i : Int), GrpOk (thgL l i)
  | [], _ => by rw [thgL]; exact GrpOk.nil
  | d :: l, i => by rw [thgL]; exact (thg_grp d i).app (thgL_grp l i)
end
mutual
theorem thg_flS : ∀ (d : Dc) (i : Int), flS (thg d i) + 1 ≤ 16 * wt d
  | .mk k t n l, i => by
    have h := thgL_flS l (i + n)
    rw [thg, wt]
    have e : t.size ≤ 16 * (t.size / 16) + 15 := by omega
    show flS (if k = 1 then _ else _) + 1 ≤ _
    have e0 : (⟨#[]⟩ : ByteArray).size = 0 := rfl
    split
    · rw [flS]; simp only [Th.flatS]; omega
    split
    · rw [flS]; simp only [Th.flatS]; omega
    split
    · rw [flS]; simp only [Th.flatS]; omega
    split
    · rw [flS]; simp only [Th.flatS]; omega
    · omega
theorem thgL_flS : ∀ (l : List Dc) (i : Int), flS (thgL l i) ≤ 16 * wtL l
  | [], _ => by simp [thgL, flS]
  | d :: l, i => by
    have h1 := thg_flS d i
    have h2 := thgL_flS l i
    rw [thgL, wtL, flS_app]; omega
end
theorem okP_n {p : Dc × Nat} (h : okP p = true) : p.2 ≤ 200 ∧ 0 ≤ p.1.n ∧ p.1.n ≤ 1000 := by
  unfold okP okK okC at h
  rw [Bool.and_eq_true, decide_eq_true_eq] at h
  refine ⟨h.1, ?_⟩
  have h2 := h.2
  revert h2
  repeat' split
  all_goals simp
  all_goals omega
mutual
theorem thg_ind : ∀ (d : Dc) (i : Int) (m : Nat), (∀ p ∈ pre d m, okP p = true) → 1 ≤ m → 0 ≤ i → i ≤ 1000 * (m - 1 : Nat) → ∀ t ∈ thg d i, 0 ≤ t.ind ∧ t.ind ≤ 200000
  | .mk k t n l, i, m, hp, h1, hi0, hi1 => by
    rw [pre] at hp
    obtain ⟨hm, hn0, hn1⟩ := okP_n (hp _ List.mem_cons_self)
    simp only [Dc.n] at hn0 hn1
    simp only at hm
    have h := thgL_ind l (i + n) (m + 1) (fun p hp' => hp p (List.mem_cons_of_mem _ hp')) (by omega) (by omega) (by omega)
    have e : ∀ (x : Th), (0 ≤ x.ind ∧ x.ind ≤ 200000) → ∀ y ∈ x :: thgL l (i + n), 0 ≤ y.ind ∧ y.ind ≤ 200000 := fun x hx y hy => by
      rcases List.mem_cons.1 hy with rfl | hy
      · exact hx
      · exact h y hy
    rw [thg]
    show ∀ y ∈ (if k = 1 then _ else _ : List Th), _
    split
    · exact e _ (by simp only [Th.ind]; omega)
    split
    · exact e _ (by simp only [Th.ind]; omega)
    split
    · exact e _ (by simp only [Th.ind]; omega)
    split
    · exact e _ (by simp only [Th.ind]; omega)
    · exact h
theorem thgL_ind : ∀ (l : List Dc) (i : Int) (m : Nat), (∀ p ∈ preL l m, okP p = true) → 1 ≤ m → 0 ≤ i → i ≤ 1000 * (m - 1 : Nat) → ∀ t ∈ thgL l i, 0 ≤ t.ind ∧ t.ind ≤ 200000
  | [], i, m, _, _, _, _ => by rw [thgL]; simp
  | d :: l, i, m, hp, h1, hi0, hi1 => by
    rw [preL] at hp
    have a := thg_ind d i m (fun p h => hp p (List.mem_append_left _ h)) h1 hi0 hi1
    have b := thgL_ind l i m (fun p h => hp p (List.mem_append_right _ h)) h1 hi0 hi1
    rw [thgL]
    intro t ht
    rcases List.mem_append.1 ht with h | h
    · exact a t h
    · exact b t h
end
theorem okL_right {d : Dc} (h : rightD d = true) (hw : wt d ≤ 1000000) : OkL (thg d 0) ∧ (thg d 0).length ≤ 1000000 := by
  obtain ⟨hl, ho⟩ := right_ok h
  have hf := thg_flS d 0
  have hlen := thg_len d 0 1
  refine ⟨⟨fun t ht => ?_, thg_ind d 0 1 ho (by omega) (by omega) (by omega), thg_grp d 0, fun j => ?_⟩, by omega⟩
  · have := flS_mem ht; omega
  · have h1 := sr_le ((thg d 0).drop j)
    have h2 := flS_drop (thg d 0) j
    have h3 : ((thg d 0).drop j).length ≤ (thg d 0).length := by rw [List.length_drop]; omega
    omega
end Go.Proofs.Ytbmejfcbladofaa
