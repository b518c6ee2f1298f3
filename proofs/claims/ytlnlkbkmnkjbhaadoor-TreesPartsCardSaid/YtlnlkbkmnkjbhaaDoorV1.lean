/- A tree's parts, each with how many bytes it yields by itself. -/
import Derived.Test.YtlnlkbkmnkjbhaaDoorU5
import Derived.Test.YtlnlkbkmnkjbhaaDoorA1
namespace Go.Proofs.YtlnlkbkmnkjbhaaDoor
open Go.RowKit Go.Shelf

/-- The leaf whose kids are gone through, if the next part lies so deep. -/
def lcut (k m : Nat) : Nat := if m ≤ k then 0 else k
def lstp (k : Nat) (p : Tr × Nat) : Nat := if lcut k p.2 = 0 ∧ p.1.rule = -1 then p.2 else lcut k p.2
def lown (k : Nat) (p : Tr × Nat) : Nat := if lcut k p.2 = 0 ∧ p.1.rule = -1 then 1 else 0
/-- Parts with their bytes. -/
def marks : Nat → List (Tr × Nat) → List (Tr × Nat × Nat)
  | _, [] => []
  | k, p :: l => (p.1, p.2, lown k p) :: marks (lstp k p) l
structure Qx where
  b : Nat
  o : Nat
  deep : Nat
  bytes : Nat
  doc : Tr
def Qx.enc (x : Qx) : Array Value := #[.agg #[.pointer (some ⟨x.b, x.o, none⟩), .int .i64 (x.deep : Int), .int .i64 (x.bytes : Int)]]
def Qx.say (x : Qx) : Tr × Nat × Nat := (x.doc, x.deep, x.bytes)
def qof (k : Nat) (x : Px) : Qx := ⟨x.b, x.o, x.deep, lown k x.say, x.doc⟩
def qsOf : Nat → List Px → List Qx
  | _, [] => []
  | k, x :: l => qof k x :: qsOf (lstp k x.say) l
def lfs (k : Nat) (l : List Px) : Nat := l.foldl (fun k x => lstp k x.say) k
theorem lfs_snoc (k : Nat) (l : List Px) (x : Px) : lfs k (l ++ [x]) = lstp (lfs k l) x.say := by simp [lfs]
theorem qsOf_snoc : ∀ (k : Nat) (l : List Px) (x : Px), qsOf k (l ++ [x]) = qsOf k l ++ [qof (lfs k l) x]
  | k, [], x => by simp [qsOf, lfs]
  | k, y :: l, x => by simp [qsOf, lfs, qsOf_snoc (lstp k y.say) l x]
theorem qsOf_say : ∀ (k : Nat) (l : List Px), (qsOf k l).map Qx.say = marks k (l.map Px.say)
  | k, [] => rfl
  | k, x :: l => by
    rw [qsOf, List.map_cons, List.map_cons, marks, qsOf_say (lstp k x.say) l]; rfl
theorem qsOf_len (k : Nat) (l : List Px) : (qsOf k l).length = l.length := by
  induction l generalizing k with
  | nil => rfl
  | cons x l ih => simp [qsOf, ih]
theorem marks_append : ∀ (k : Nat) (l r : List (Tr × Nat)), ∃ k', marks k (l ++ r) = marks k l ++ marks k' r
  | k, [], r => ⟨k, rfl⟩
  | k, p :: l, r => by
    obtain ⟨k', h⟩ := marks_append (lstp k p) l r
    exact ⟨k', by simp [marks, h]⟩
theorem qsOf_told {w : World} {U : Nat → Prop} {f : Nat} : ∀ {k : Nat} {l : List Px}, ToldU w U f l → ∀ q ∈ qsOf k l, TreeIn w U f q.b q.o q.doc
  | k, [], _, q, hq => by cases hq
  | k, x :: l, h, q, hq => by
    rcases List.mem_cons.1 hq with rfl | hq
    · exact h x (by simp)
    · exact qsOf_told (fun y hy => h y (List.mem_cons_of_mem _ hy)) q hq
/-- The first ones of a tree's marked parts, and one of them. -/
def QFirsts (d : Tr) (l : List Qx) (x : Qx) : Prop := ∃ r, l.map Qx.say ++ x.say :: r = marks 0 (pre d 1)
theorem Firsts.q {d : Tr} {l : List Px} {x : Px} (h : Firsts d l x) : QFirsts d (qsOf 0 l) (qof (lfs 0 l) x) := by
  obtain ⟨r, hr⟩ := h
  have h2 : (l ++ [x]).map Px.say ++ r = pre d 1 := by rw [← hr]; simp
  obtain ⟨k', hk⟩ := marks_append 0 ((l ++ [x]).map Px.say) r
  refine ⟨marks k' r, ?_⟩
  rw [← h2, hk, ← qsOf_say, qsOf_snoc]
  simp
theorem lfs_le (N : Nat) : ∀ (k : Nat) (l : List Px), k ≤ N → (∀ x ∈ l, x.deep ≤ N) → lfs k l ≤ N
  | k, [], h, _ => h
  | k, x :: l, h, hl => by
    have h1 := hl x (by simp)
    refine lfs_le N _ l ?_ (fun y hy => hl y (List.mem_cons_of_mem _ hy))
    show lstp k x.say ≤ N
    have e : x.say.2 = x.deep := rfl
    unfold lstp lcut
    rw [e]
    repeat' split
    all_goals omega
theorem lown_one {k m : Nat} {d : Tr} (h1 : lcut k m = 0) (h2 : d.rule = -1) : lown k (d, m) = 1 ∧ lstp k (d, m) = m := by simp [lown, lstp, h1, h2]
theorem lown_no {k m : Nat} {d : Tr} (h : ¬ (lcut k m = 0 ∧ d.rule = -1)) : lown k (d, m) = 0 ∧ lstp k (d, m) = lcut k m := by simp only [lown, lstp]; exact ⟨if_neg h, if_neg h⟩
theorem round_wide {a b : Nat} {P : Program} {l l' f : Nat} {tmps : Array Value} {assign body : Code} {w : World} {R : Ending → World → Prop} (h : RoundIn Fence.wide a P l f tmps assign body w R) : RoundIn (Fence.wide.inRound l') b P l f tmps assign body w R :=
  ⟨h.1, fun c cs _ => h.2 c cs (room_wide _)⟩
set_option maxHeartbeats 400000 in
theorem tparts_any (d : Tr) (sv : Value) (w : World) : Calls Tryd.prog 46 #[.agg #[.int .i64 d.rule, .int .u8 (d.byte.toNat : Int), sv]] w fun e w' => e = .returned (.func (.func 68) #[] #[.pointer (some ⟨w.heap.size, 0, none⟩)]) ∧ w' = w.alloc (.cells #[.int .i64 d.rule, .int .u8 (d.byte.toNat : Int), sv] 27) := by
  have hmf : ∀ (fn : Fn) (first cap : Array Value) (w : World), (Instr.makeFunc fn first cap).run Tryd.prog w = .ok (.func fn first cap) w := fun _ _ _ _ => rfl
  go_enter Tryd.func46, Tryd.ntmps46
  go_wp2
  go_ret
  exact ⟨rfl, rfl⟩
end Go.Proofs.YtlnlkbkmnkjbhaaDoor
