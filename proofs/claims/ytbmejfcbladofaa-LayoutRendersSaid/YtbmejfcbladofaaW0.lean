/- How great a document is. -/
import Derived.Test.YtbmejfcbladofaaT2
namespace Go.Proofs.Ytbmejfcbladofaa
open Go.RowKit

mutual
/-- The weight that a guard asks for. -/
def wt : Dc → Nat | .mk _ t _ l => 1 + t.size / 16 + wtL l
def wtL : List Dc → Nat | [] => 0 | d :: l => wt d + wtL l
end
theorem wt_eq (d : Dc) : wt d = 1 + d.text.size / 16 + wtL d.kids := by cases d; rw [wt]; rfl
mutual
/-- Each text of a document is one of a machine. -/
def TxD : Dc → Prop | .mk _ t _ l => t.size ≤ 140737488355328 ∧ TxL l
def TxL : List Dc → Prop | [] => True | d :: l => TxD d ∧ TxL l
end
theorem TxD.text {d : Dc} (h : TxD d) : d.text.size ≤ 140737488355328 := by cases d; rw [TxD] at h; exact h.1
theorem TxD.kids {d : Dc} (h : TxD d) : TxL d.kids := by cases d; rw [TxD] at h; exact h.2
theorem TxD.mk {d : Dc} (h1 : d.text.size ≤ 140737488355328) (h2 : TxL d.kids) : TxD d := by cases d; rw [TxD]; exact ⟨h1, h2⟩
theorem TxL.mem {l : List Dc} (h : TxL l) {d : Dc} (hd : d ∈ l) : TxD d := by
  induction l with
  | nil => cases hd
  | cons x l ih =>
    rw [TxL] at h
    rcases List.mem_cons.1 hd with rfl | hd
    · exact h.1
    · exact ih h.2 hd
theorem TxL.of {l : List Dc} (h : ∀ d ∈ l, TxD d) : TxL l := by
  induction l with
  | nil => rw [TxL]; trivial
  | cons x l ih => rw [TxL]; exact ⟨h x (by simp), ih fun d hd => h d (by simp [hd])⟩
theorem wtL_take {l : List Dc} {k : Nat} {d : Dc} (h : l[k]? = some d) : wtL (l.take (k + 1)) = wtL (l.take k) + wt d := by
  induction l generalizing k with
  | nil => cases h
  | cons x l ih =>
    cases k with
    | zero => simp at h; subst h; simp [wtL]
    | succ k =>
      simp at h
      rw [List.take_succ_cons, List.take_succ_cons, wtL, wtL, ih h, Nat.add_assoc]
theorem wtL_take_le (l : List Dc) (k : Nat) : wtL (l.take k) ≤ wtL l := by
  induction l generalizing k with
  | nil => simp
  | cons x l ih =>
    cases k with
    | zero => simp [wtL]
    | succ k => rw [List.take_succ_cons, wtL, wtL]; have := ih k; omega
mutual
theorem pre_wt : ∀ (d : Dc) (m : Nat), (pre d m).length ≤ wt d
  | .mk k t n l, m => by
    have := preL_wt l (m + 1)
    rw [pre, wt, List.length_cons]; omega
theorem preL_wt : ∀ (l : List Dc) (m : Nat), (preL l m).length ≤ wtL l
  | [], _ => by simp [preL]
  | d :: l, m => by
    have h1 := pre_wt d m
    have h2 := preL_wt l m
    rw [preL, wtL, List.length_append]; omega
end
end Go.Proofs.Ytbmejfcbladofaa
