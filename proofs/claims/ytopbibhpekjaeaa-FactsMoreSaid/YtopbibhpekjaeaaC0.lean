/- The nonterminals that can be all of a nonterminal's text. -/
import Derived.Test.YtopbibhpekjaeaaN2
namespace Go.Proofs.Ytopbibhpekjaeaa
open Go.RowKit

/-- What stays while a table's row is appended to: a box that holds the row's number, one that holds what is put there, and the table's cell. -/
structure US2 (p z q x y : Nat) (v : Value) (W : World) : Prop where
  bx : W.cell? ⟨p, 0, none⟩ = some (.int .i64 (x : Int))
  bz : W.cell? ⟨z, 0, none⟩ = some (.int .i64 (y : Int))
  tb : W.cell? ⟨q, x, none⟩ = some v
  fz : W.frozen? ⟨q, x, none⟩ = false
  l1 : p < W.heap.size
  l2 : q < W.heap.size
  l3 : z < W.heap.size
section
variable {p z q x y : Nat} {v : Value} {W W' : World}
theorem US2.drew (h : US2 p z q x y v W) : US2 p z q x y v W.drew := ⟨h.bx, h.bz, h.tb, h.fz, h.l1, h.l2, h.l3⟩
theorem US2.below (h : US2 p z q x y v W) (hb : Below W.heap.size W W') : US2 p z q x y v W' :=
  ⟨(hb.cell (p := ⟨p, 0, none⟩) h.l1).trans h.bx, (hb.cell (p := ⟨z, 0, none⟩) h.l3).trans h.bz, (hb.cell (p := ⟨q, x, none⟩) h.l2).trans h.tb, (hb.frozen (p := ⟨q, x, none⟩) h.l2).trans h.fz, Nat.lt_of_lt_of_le h.l1 hb.size, Nat.lt_of_lt_of_le h.l2 hb.size, Nat.lt_of_lt_of_le h.l3 hb.size⟩
theorem US2.alloc (h : US2 p z q x y v W) (o : Obj) : US2 p z q x y v (W.alloc o) := h.below ((Below.refl _ _).alloc (Nat.le_refl _) o)
theorem US2.grown {row : Option Nat} (h : US2 p z q x y v W) (hg : W.grownBy W' row) (h1 : row ≠ some p) (h2 : row ≠ some q) (h3 : row ≠ some z) : US2 p z q x y v W' :=
  ⟨hg.cell h.bx (fun e => h1 e.symm), hg.cell h.bz (fun e => h3 e.symm), hg.cell h.tb (fun e => h2 e.symm), (World.frozen?_of_block (hg.block q h.l2 (fun e => h2 e.symm))).trans h.fz, Nat.lt_of_lt_of_le h.l1 hg.size, Nat.lt_of_lt_of_le h.l2 hg.size, Nat.lt_of_lt_of_le h.l3 hg.size⟩
end
def fullOf (so : List Bool) (l : List Ks) : Nat := (l.filter fun s => !(symSo pN so s)).length
def lone (so : List Bool) (f : Nat) (s : Ks) : Bool := decide (0 ≤ s.nt) && (decide (f = 0) || (decide (f = 1) && !(symSo pN so s)))
def loneOf (so : List Bool) (f : Nat) (l : List Ks) : List Nat := (l.filter (lone so f)).map fun s => s.nt.toNat
def lhsAt (rs : List Rl) (k : Nat) : Int := match rs[k]? with | some r => r.lhs | none => -1
/-- The steps of n, by the first k rules. -/
def loneL (rs : List Rl) (so : List Bool) (n : Nat) : Nat → List Nat
  | 0 => []
  | k + 1 => loneL rs so n k ++ (if lhsAt rs k = (n : Int) then loneOf so (fullOf so (rhsAt rs k)) (rhsAt rs k) else [])
theorem fullOf_succ {so : List Bool} {l : List Ks} {j : Nat} {s : Ks} (h : l[j]? = some s) : fullOf so (l.take (j + 1)) = fullOf so (l.take j) + (if symSo pN so s then 0 else 1) := by
  unfold fullOf; rw [List.take_add_one, h, List.filter_append, List.length_append]
  cases hq : symSo pN so s <;> simp [hq]
theorem fullOf_le (so : List Bool) (l : List Ks) : fullOf so l ≤ l.length := List.length_filter_le _ _
theorem loneOf_succ {so : List Bool} {l : List Ks} {j f : Nat} {s : Ks} (h : l[j]? = some s) : loneOf so f (l.take (j + 1)) = loneOf so f (l.take j) ++ (if lone so f s then [s.nt.toNat] else []) := by
  unfold loneOf; rw [List.take_add_one, h, List.filter_append, List.map_append]
  cases hq : lone so f s <;> simp [hq]
theorem loneOf_len (so : List Bool) (f : Nat) (l : List Ks) : (loneOf so f l).length ≤ l.length := by
  unfold loneOf; rw [List.length_map]; exact List.length_filter_le _ _
theorem loneL_len (rs : List Rl) (so : List Bool) (n : Nat) (h : ∀ r ∈ rs, r.rhs.length ≤ 80) : ∀ k, (loneL rs so n k).length ≤ 80 * k
  | 0 => by simp [loneL]
  | k + 1 => by
    have := loneL_len rs so n h k
    have h2 : (rhsAt rs k).length ≤ 80 := by
      unfold rhsAt; split
      · rename_i r hr; exact h r (List.mem_of_getElem? hr)
      · simp
    have h3 := loneOf_len so (fullOf so (rhsAt rs k)) (rhsAt rs k)
    simp only [loneL, List.length_append]
    split
    · omega
    · simp; omega
theorem loneL_step (rs : List Rl) (so : List Bool) (k j m f : Nat) {r : Rl} {s : Ks} (hs : r.rhs[j]? = some s) (hm : r.lhs = (m : Int)) (hl : lone so f s = true) :
    (fun n : Nat => loneL rs so n k ++ (if r.lhs = (n : Int) then loneOf so f (r.rhs.take (j + 1)) else [])) = (fun n => if n = m then (loneL rs so n k ++ (if r.lhs = (n : Int) then loneOf so f (r.rhs.take j) else [])) ++ [s.nt.toNat] else loneL rs so n k ++ (if r.lhs = (n : Int) then loneOf so f (r.rhs.take j) else [])) := by
  funext n
  rw [loneOf_succ hs, hl]
  by_cases h : n = m
  · subst h
    rw [if_pos hm, if_pos rfl, if_pos hm, if_pos rfl, List.append_assoc]
  · have h' : ¬ r.lhs = (n : Int) := by omega
    rw [if_neg h, if_neg h', if_neg h']
theorem loneL_skip (rs : List Rl) (so : List Bool) (k j f : Nat) {r : Rl} {s : Ks} (hs : r.rhs[j]? = some s) (hl : lone so f s = false) :
    (fun n : Nat => loneL rs so n k ++ (if r.lhs = (n : Int) then loneOf so f (r.rhs.take (j + 1)) else [])) = (fun n => loneL rs so n k ++ (if r.lhs = (n : Int) then loneOf so f (r.rhs.take j) else [])) := by
  funext n
  rw [loneOf_succ hs, hl]
  simp
end Go.Proofs.Ytopbibhpekjaeaa
