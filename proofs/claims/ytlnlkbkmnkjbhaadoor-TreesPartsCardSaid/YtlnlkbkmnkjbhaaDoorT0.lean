/- A tree's text, plain: which trees have one, what it is, how long it is. -/
import Derived.Test.YtlnlkbkmnkjbhaaDoorY0
import Derived.Lib.ItoaNum
namespace Go.Proofs.YtlnlkbkmnkjbhaaDoor
open Go.RowKit

/-- A leaf without kids, or a node with a rule of at most six digits. -/
def isPl (d : Tr) : Bool := if d.rule = -1 then d.kids.isEmpty else d.byte == 0 && decide (0 ≤ d.rule) && decide (d.rule ≤ 999999)
mutual
/-- A plain tree. -/
def pl : Tr → Bool | .mk r b l => if r = -1 then l.isEmpty else (b == 0 && decide (0 ≤ r) && decide (r ≤ 999999)) && plL l
def plL : List Tr → Bool | [] => true | d :: l => pl d && plL l
end
def hexs : List UInt8 := [48, 49, 50, 51, 52, 53, 54, 55, 56, 57, 97, 98, 99, 100, 101, 102]
def hexd (n : Nat) : UInt8 := hexs.getD n 0
mutual
/-- A plain tree's text. -/
def txt : Tr → List UInt8 | .mk r b l => if r = -1 then [120, hexd (b.toNat / 16), hexd (b.toNat % 16)] else Lib.itoa r ++ 40 :: txtL true l ++ [41]
/-- The texts of trees in a row, one blank between them. -/
def txtL : Bool → List Tr → List UInt8 | _, [] => [] | first, d :: l => (if first then [] else [32]) ++ txt d ++ txtL false l
end
theorem pl_leaf {d : Tr} (h : d.rule = -1) : pl d = d.kids.isEmpty := by cases d; simp only [Tr.rule] at h; simp [pl, Tr.kids, h]
theorem pl_node {d : Tr} (h : d.rule ≠ -1) : pl d = (isPl d && plL d.kids) := by cases d; simp only [Tr.rule] at h; simp [pl, isPl, Tr.rule, Tr.byte, Tr.kids, h]; rfl
theorem txt_leaf {d : Tr} (h : d.rule = -1) : txt d = [120, hexd (d.byte.toNat / 16), hexd (d.byte.toNat % 16)] := by cases d; simp only [Tr.rule] at h; simp [txt, Tr.byte, h]
theorem txt_node {d : Tr} (h : d.rule ≠ -1) : txt d = Lib.itoa d.rule ++ 40 :: txtL true d.kids ++ [41] := by cases d; simp only [Tr.rule] at h; simp [txt, Tr.rule, Tr.kids, h]
theorem plL_all (l : List Tr) : plL l = l.all pl := by
  induction l with
  | nil => rfl
  | cons d l ih => simp [plL, ih]
theorem dpL_le_iff (l : List Tr) (k : Nat) : dpL l ≤ k ↔ ∀ d ∈ l, dp d ≤ k := by
  induction l with
  | nil => simp [dpL]
  | cons d l ih => rw [dpL]; simp only [List.mem_cons, forall_eq_or_imp, ← ih]; omega
mutual
/-- Plain, and no deeper: of all its parts. -/
theorem pl_pre : ∀ (d : Tr) (m n : Nat), 1 ≤ m → ((∀ p ∈ pre d m, p.2 ≤ n ∧ isPl p.1 = true) ↔ (pl d = true ∧ m - 1 + dp d ≤ n))
  | .mk r b l, m, n, h => by
    rw [pre, dp]
    simp only [List.mem_cons, forall_eq_or_imp]
    rw [plL_pre l (m + 1) n (by omega)]
    by_cases hr : r = -1
    · rw [pl_leaf (d := .mk r b l) hr]
      simp only [isPl, Tr.rule, hr, if_true, Tr.kids]
      cases l with
      | nil => simp [plL, dpL]; omega
      | cons d l => simp
    · rw [pl_node (d := .mk r b l) hr]
      simp only [Tr.kids, Bool.and_eq_true]
      have := dpL_le_iff l (n - m)
      constructor
      · rintro ⟨⟨h1, h2⟩, h3, h4⟩
        refine ⟨⟨h2, h3⟩, ?_⟩
        have h5 : dpL l ≤ n - m := this.2 (fun d hd => by have := h4 d hd; omega)
        omega
      · rintro ⟨⟨h1, h2⟩, h3⟩
        have h5 : dpL l ≤ n - m := by omega
        refine ⟨⟨by omega, h1⟩, h2, fun d hd => ?_⟩
        have := this.1 h5 d hd
        omega
theorem plL_pre : ∀ (l : List Tr) (m n : Nat), 1 ≤ m → ((∀ p ∈ preL l m, p.2 ≤ n ∧ isPl p.1 = true) ↔ (plL l = true ∧ ∀ d ∈ l, m - 1 + dp d ≤ n))
  | [], m, n, h => by simp [preL, plL]
  | d :: l, m, n, h => by
    rw [preL, plL]
    simp only [List.mem_append, List.mem_cons, forall_eq_or_imp, Bool.and_eq_true]
    have h1 := pl_pre d m n h
    have h2 := plL_pre l m n h
    constructor
    · intro hh
      have a := h1.1 (fun p hp => hh p (.inl hp))
      have b := h2.1 (fun p hp => hh p (.inr hp))
      exact ⟨⟨a.1, b.1⟩, a.2, b.2⟩
    · rintro ⟨⟨a, b⟩, c, e⟩ p hp
      rcases hp with hp | hp
      · exact h1.2 ⟨a, c⟩ p hp
      · exact h2.2 ⟨b, e⟩ p hp
end
theorem decDigits_len : ∀ (k u : Nat), u < 10 ^ (k + 1) → (Lib.decDigits u).length ≤ k + 1 := by
  intro k
  induction k with
  | zero => intro u h; rw [Lib.decDigits, dif_pos (by simpa using h)]; simp
  | succ k ih =>
    intro u h
    rw [Lib.decDigits]
    split
    · simp
    · have := ih (u / 10) (by rw [Nat.pow_succ] at h; omega)
      rw [List.length_append]; simp; omega
theorem itoa_nat {r : Int} (h : 0 ≤ r) : Lib.itoa r = Lib.decDigits r.toNat := by unfold Lib.itoa; rw [if_neg (by omega)]
theorem itoa_len {r : Int} (h0 : 0 ≤ r) (h : r ≤ 999999) : (Lib.itoa r).length ≤ 6 := by
  rw [itoa_nat h0]; exact decDigits_len 5 r.toNat (by omega)
/-- How many bytes of the text are a part's own. -/
def tsz (d : Tr) : Nat := if d.rule = -1 then 3 else (Lib.itoa d.rule).length + 2 + (d.kids.length - 1)
def tsum (l : List (Tr × Nat)) : Nat := (l.map fun p => tsz p.1).sum
theorem tsum_append (a b : List (Tr × Nat)) : tsum (a ++ b) = tsum a + tsum b := by simp [tsum]
mutual
theorem tsum_pre : ∀ (d : Tr) (m : Nat), pl d = true → tsum (pre d m) = (txt d).length
  | .mk r b l, m, h => by
    by_cases hr : r = -1
    · rw [pl_leaf (d := .mk r b l) hr] at h
      have hl : l = [] := by simpa [Tr.kids] using h
      subst hl
      rw [txt_leaf (d := .mk r b []) hr]
      simp [pre, preL, tsum, tsz, Tr.rule, hr]
    · rw [pl_node (d := .mk r b l) hr] at h
      simp only [Bool.and_eq_true, Tr.kids] at h
      have h1 := tsumL_pre l (m + 1) h.2
      have e : tsum ((.mk r b l, m) :: preL l (m + 1)) = tsz (.mk r b l) + tsum (preL l (m + 1)) := by simp [tsum]
      rw [pre, txt_node (d := .mk r b l) hr, e]
      simp only [tsz, Tr.rule, Tr.kids, hr, if_false, List.length_append, List.length_cons, List.length_nil]
      omega
theorem tsumL_pre : ∀ (l : List Tr) (m : Nat), plL l = true → tsum (preL l m) + (l.length - 1) = (txtL true l).length
  | [], m, h => by simp [preL, tsum, txtL]
  | d :: l, m, h => by
    rw [plL] at h
    simp only [Bool.and_eq_true] at h
    have h1 := tsum_pre d m h.1
    have h2 := tsumL2_pre l m h.2
    rw [preL, txtL, tsum_append, h1]
    simp only [List.length_append, List.length_cons, if_true, List.length_nil]
    omega
theorem tsumL2_pre : ∀ (l : List Tr) (m : Nat), plL l = true → tsum (preL l m) + l.length = (txtL false l).length
  | [], m, h => by simp [preL, tsum, txtL]
  | d :: l, m, h => by
    rw [plL] at h
    simp only [Bool.and_eq_true] at h
    have h1 := tsum_pre d m h.1
    have h2 := tsumL2_pre l m h.2
    rw [preL, txtL, tsum_append, h1]
    simp only [List.length_append, List.length_cons]
    simp
    omega
end
mutual
theorem txt_le : ∀ d : Tr, pl d = true → (txt d).length + 1 ≤ 10 * sz d
  | .mk r b l, h => by
    by_cases hr : r = -1
    · rw [txt_leaf (d := .mk r b l) hr, sz]; simp; omega
    · rw [pl_node (d := .mk r b l) hr] at h
      simp only [Bool.and_eq_true, Tr.kids, isPl, Tr.rule, hr, if_false] at h
      have h1 := txtL_le l true h.2
      have h2 := itoa_len (of_decide_eq_true h.1.1.2) (of_decide_eq_true h.1.2)
      rw [txt_node (d := .mk r b l) hr, sz]
      simp only [List.length_append, List.length_cons, List.length_nil, Tr.rule, Tr.kids]
      omega
theorem txtL_le : ∀ (l : List Tr) (b : Bool), plL l = true → (txtL b l).length ≤ 10 * szL l
  | [], b, h => by simp [txtL]
  | d :: l, b, h => by
    rw [plL] at h
    simp only [Bool.and_eq_true] at h
    have h1 := txt_le d h.1
    have h2 := txtL_le l false h.2
    rw [txtL, szL]
    simp only [List.length_append]
    have : (if b = true then ([] : List UInt8) else [32]).length ≤ 1 := by cases b <;> simp
    omega
end
theorem txtL_snoc : ∀ (l : List Tr) (d : Tr) (b : Bool), txtL b (l ++ [d]) = txtL b l ++ (if b && l.isEmpty then [] else [32]) ++ txt d
  | [], d, b => by cases b <;> simp [txtL]
  | x :: l, d, b => by rw [List.cons_append, txtL, txtL, txtL_snoc l d false]; simp
end Go.Proofs.YtlnlkbkmnkjbhaaDoor
