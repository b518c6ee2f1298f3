/- The things of a document: plain, and in memory. -/
import Derived.Test.YtbmejfcbladofaaI6
import Derived.Deep.AppendLies
namespace Go.Proofs.Ytbmejfcbladofaa
open Go.RowKit

inductive Th where
  | text (s : ByteArray)
  | line (s : ByteArray) (i : Int)
  | hard (i : Int)
  | group (n : Nat)
def Th.val : Th → Value
  | .text s => .iface 93 (.string s)
  | .line s i => .iface 95 (.agg #[.string s, .int .i64 i])
  | .hard i => .iface 97 (.agg #[.int .i64 i])
  | .group n => .iface 99 (.agg #[.int .i64 (n : Int)])
def thsV (l : List Th) : List Value := l.map Th.val
mutual
/-- The things of a document, in their order. -/
def thg : Dc → Int → List Th
  | .mk k t n l, i =>
    let r := thgL l (i + n)
    if k = 1 then .text t :: r else if k = 2 then .line t i :: r else if k = 3 then .hard i :: r else if k = 5 then .group r.length :: r else r
def thgL : List Dc → Int → List Th
  | [], _ => []
  | d :: l, i => thg d i ++ thgL l i
end
theorem thg_eq (d : Dc) (i : Int) : thg d i = if d.kind = 1 then .text d.text :: thgL d.kids (i + d.n) else if d.kind = 2 then .line d.text i :: thgL d.kids (i + d.n) else if d.kind = 3 then .hard i :: thgL d.kids (i + d.n) else if d.kind = 5 then .group (thgL d.kids (i + d.n)).length :: thgL d.kids (i + d.n) else thgL d.kids (i + d.n) := by
  cases d; rw [thg]; rfl
theorem thgL_take {l : List Dc} {k : Nat} {d : Dc} (h : l[k]? = some d) (i : Int) : thgL (l.take (k + 1)) i = thgL (l.take k) i ++ thg d i := by
  induction l generalizing k with
  | nil => cases h
  | cons x l ih =>
    cases k with
    | zero => simp at h; subst h; simp [thgL]
    | succ k =>
      simp at h
      rw [List.take_succ_cons, List.take_succ_cons, thgL, thgL, ih h, List.append_assoc]
theorem pre_len_pos (d : Dc) (m : Nat) : 1 ≤ (pre d m).length := by rw [pre_eq]; simp
mutual
theorem thg_len : ∀ (d : Dc) (i : Int) (m : Nat), (thg d i).length ≤ (pre d m).length
  | .mk k t n l, i, m => by
    have h := thgL_len l (i + n) (m + 1)
    rw [thg, pre]
    rw [List.length_cons]
    show (if k = 1 then _ else _ : List Th).length ≤ _
    split
    · rw [List.length_cons]; omega
    split
    · rw [List.length_cons]; omega
    split
    · rw [List.length_cons]; omega
    split
    · rw [List.length_cons]; omega
    · omega
theorem thgL_len : ∀ (l : List Dc) (i : Int) (m : Nat), (thgL l i).length ≤ (preL l m).length
  | [], _, _ => by simp [thgL]
  | d :: l, i, m => by
    have h1 := thg_len d i m
    have h2 := thgL_len l i m
    rw [thgL, preL, List.length_append, List.length_append]; omega
end
theorem preL_mem {l : List Dc} {d : Dc} (h : d ∈ l) {m : Nat} {p : Dc × Nat} (hp : p ∈ pre d m) : p ∈ preL l m := by
  induction l with
  | nil => cases h
  | cons x l ih =>
    rw [preL, List.mem_append]
    rcases List.mem_cons.1 h with rfl | h
    · exact .inl hp
    · exact .inr (ih h)
theorem preL_take_len {l : List Dc} {k : Nat} {d : Dc} (h : l[k]? = some d) (m : Nat) : (preL (l.take k) m).length + (pre d m).length ≤ (preL l m).length := by
  induction l generalizing k with
  | nil => cases h
  | cons x l ih =>
    cases k with
    | zero => simp at h; subst h; simp [preL]
    | succ k =>
      simp at h
      have := ih h
      rw [List.take_succ_cons, preL, preL, List.length_append, List.length_append]; omega
theorem info88 : (Try.prog.info? 88).map (fun i => (i.zero, i.size, i.bytes)) = some (some .nilIface, 1, 16) := by kernel_rfl
theorem thsV_len (l : List Th) : (thsV l).length = l.length := by simp [thsV]
theorem th_one (t : Th) : t.val.oneCell' = true := by cases t <;> rfl
theorem thsV_app (a b : List Th) : thsV (a ++ b) = thsV a ++ thsV b := by simp [thsV]
/-- What adding things leaves: the box of the list at LB, whose list lies in a row from lo on; of what lay before, only these two are turned. -/
structure AddS (lo LB FB : Nat) (v : Value) (ts : List Th) (W : World) : Prop where
  lb : Boxed W LB 65 v
  fb : Boxed W FB 92 (.func (.func 45) #[] #[.pointer (some ⟨LB, 0, none⟩), .pointer (some ⟨FB, 0, none⟩)])
  row : W.ownsRow lo 88 1 v ts.length (thsV ts)
  ne : LB ≠ FB
  lol : lo ≤ LB
  lof : lo ≤ FB
  nl : v.ownBlock ≠ some LB
  nf : v.ownBlock ≠ some FB
/-- Only the list's box and row are turned. -/
structure Turn (LB : Nat) (v v' : Value) (W W' : World) : Prop where
  os : W'.os = W.os
  tape : W'.tape = W.tape
  output : W'.output = W.output
  size : W.heap.size ≤ W'.heap.size
  keep : ∀ b, b < W.heap.size → b ≠ LB → v.ownBlock ≠ some b → W'.heap[b]? = W.heap[b]?
  own : ∀ b, v'.ownBlock = some b → v.ownBlock = some b ∨ W.heap.size ≤ b
theorem Turn.refl (LB : Nat) (v : Value) (W : World) : Turn LB v v W W := ⟨rfl, rfl, rfl, Nat.le_refl _, fun _ _ _ _ => rfl, fun _ h => .inl h⟩
theorem Turn.trans {LB : Nat} {v v' v'' : Value} {X Y Z : World} (h : Turn LB v v' X Y) (k : Turn LB v' v'' Y Z) : Turn LB v v'' X Z := by
  have hs := h.size
  refine ⟨k.os.trans h.os, k.tape.trans h.tape, k.output.trans h.output, Nat.le_trans h.size k.size, fun b hb h1 h2 => (k.keep b (by omega) h1 (fun e => ?_)).trans (h.keep b hb h1 h2), fun b hb => ?_⟩
  · rcases h.own b e with h' | h'
    · exact h2 h'
    · omega
  · rcases k.own b hb with h' | h'
    · exact h.own b h'
    · exact .inr (by omega)
theorem Turn.of_below {LB : Nat} {v : Value} {X Y : World} (h : Below X.heap.size X Y) : Turn LB v v X Y := ⟨h.os, h.tape, h.output, h.size, fun b hb _ _ => h.block b hb, fun _ h => .inl h⟩
theorem AddS.below {lo LB FB : Nat} {v : Value} {ts : List Th} {W W' : World} (h : AddS lo LB FB v ts W) (hb : Below W.heap.size W W') : AddS lo LB FB v ts W' := by
  refine ⟨(hb.block LB h.lb.lt).trans h.lb, (hb.block FB h.fb.lt).trans h.fb, ⟨h.row.1, ?_⟩, h.ne, h.lol, h.lof, h.nl, h.nf⟩
  rcases h.row.2 with h0 | ⟨g, cap, cur, rfl, hbg, hg, rest⟩
  · exact .inl h0
  · exact .inr ⟨g, cap, cur, rfl, hbg, (hb.block g (Array.getElem?_eq_some_iff.1 hg).1).trans hg, rest⟩
/-- One thing more, stored into the box. -/
theorem AddS.push {lo LB FB : Nat} {v : Value} {ts : List Th} {W Wm w1 : World} (h : AddS lo LB FB v ts W) (hm : Below W.heap.size W Wm) (t : Th) {g cap : Nat} (hg : Wm.grownBy w1 v.ownBlock) (hown : w1.ownsRow lo 88 1 (.slice (some ⟨g, 0, none⟩) (ts.length + 1) cap) (ts.length + 1) (thsV ts ++ [t.val])) (hat : v.ownBlock = some g ∨ g = Wm.heap.size) :
    AddS lo LB FB (.slice (some ⟨g, 0, none⟩) (ts.length + 1) cap) (ts ++ [t]) (w1.setCell ⟨LB, 0, none⟩ (.slice (some ⟨g, 0, none⟩) (ts.length + 1) cap)) ∧ Turn LB v (.slice (some ⟨g, 0, none⟩) (ts.length + 1) cap) W (w1.setCell ⟨LB, 0, none⟩ (.slice (some ⟨g, 0, none⟩) (ts.length + 1) cap)) := by
  have hl := h.lb.lt
  have hf := h.fb.lt
  have hsm := hm.size
  have hgs := hg.size
  have hw1 : ∀ b, b < W.heap.size → v.ownBlock ≠ some b → w1.heap[b]? = W.heap[b]? := fun b hb hne => (hg.block b (by omega) (fun e => hne e.symm)).trans (hm.block b hb)
  have hgL : g ≠ LB := fun e => by
    rcases hat with h' | h'
    · exact h.nl (by rw [← e]; exact h')
    · omega
  have hgF : g ≠ FB := fun e => by
    rcases hat with h' | h'
    · exact h.nf (by rw [← e]; exact h')
    · omega
  have hb1 : Boxed w1 LB 65 v := (hw1 LB hl h.nl).trans h.lb
  refine ⟨⟨box_set hb1 _, (Below.heap_setCell _ _ _ _ (fun e => h.ne e.symm)).trans ((hw1 FB hf h.nf).trans h.fb), ?_, h.ne, h.lol, h.lof, fun e => hgL (by simpa [Value.ownBlock] using e), fun e => hgF (by simpa [Value.ownBlock] using e)⟩, ?_⟩
  · rw [thsV_app, List.length_append]
    refine ⟨hown.1, ?_⟩
    rcases hown.2 with ⟨h0, _⟩ | ⟨g', cap', cur, hv, hbg, hg', rest⟩
    · cases h0
    · cases hv
      exact .inr ⟨g, cap, cur, rfl, hbg, (Below.heap_setCell _ _ _ _ hgL).trans hg', rest⟩
  · refine ⟨hg.os.trans hm.os, hg.tape.trans hm.tape, hg.output.trans hm.output, by simp [World.setCell]; omega, fun b hb h1 h2 => (Below.heap_setCell _ _ _ _ h1).trans (hw1 b hb h2), fun b hb => ?_⟩
    have : g = b := by simpa [Value.ownBlock] using hb
    rcases hat with h' | h'
    · exact .inl (by rw [← this]; exact h')
    · exact .inr (by omega)
theorem AddS.fix {lo LB FB g n cap : Nat} {ts r : List Th} {W : World} (h : AddS lo LB FB (.slice (some ⟨g, 0, none⟩) n cap) (ts ++ [Th.group 0] ++ r) W) (hn : n = (ts ++ [Th.group 0] ++ r).length) (L : Nat) :
    AddS lo LB FB (.slice (some ⟨g, 0, none⟩) n cap) (ts ++ (Th.group L :: r)) (W.setCell ⟨g, ts.length, none⟩ (Th.group L).val) ∧ Turn LB (.slice (some ⟨g, 0, none⟩) n cap) (.slice (some ⟨g, 0, none⟩) n cap) W (W.setCell ⟨g, ts.length, none⟩ (Th.group L).val) := by
  have hr := h.row
  rw [← hn] at hr
  have hst := hr.stored ts.length (Th.group L).val
  have hgL : g ≠ LB := fun e => h.nl (by rw [← e]; rfl)
  have hgF : g ≠ FB := fun e => h.nf (by rw [← e]; rfl)
  refine ⟨⟨(Below.heap_setCell W ⟨g, ts.length, none⟩ _ LB (fun e => hgL e.symm)).trans h.lb, (Below.heap_setCell W ⟨g, ts.length, none⟩ _ FB (fun e => hgF e.symm)).trans h.fb, ?_, h.ne, h.lol, h.lof, h.nl, h.nf⟩, ⟨hst.2.os, hst.2.tape, hst.2.output, hst.2.size, fun b hb _ h2 => hst.2.block b hb (fun e => h2 (by cases e; rfl)), fun _ h => .inl h⟩⟩
  have e1 : (ts ++ (Th.group L :: r)).length = n := by rw [hn]; simp
  have e2 : (thsV (ts ++ [Th.group 0] ++ r)).set ts.length (Th.group L).val = thsV (ts ++ (Th.group L :: r)) := by
    simp [thsV]
  rw [e1, ← e2]
  exact hst.1
theorem Turn.dat {lo LB f : Nat} {v v' : Value} {W W' : World} (h : Turn LB v v' W W') (h1 : lo ≤ LB) (h2 : ∀ b, v.ownBlock = some b → lo ≤ b) (h3 : lo ≤ W.heap.size) {a : Option Addr} {l : List Dc} (hd : DAt W lo f a l) : DAt W' lo f a l :=
  hd.cong fun b q hb => World.cell?_of_block (a := ⟨b, q, none⟩) (h.keep b (by omega) (by omega) (fun e => by have := h2 b e; omega))
/-- The box and the row where others were turned that are neither. -/
theorem AddS.row_lt {lo LB FB : Nat} {v : Value} {ts : List Th} {W : World} (h : AddS lo LB FB v ts W) : ∀ b, v.ownBlock = some b → lo ≤ b ∧ b < W.heap.size := fun b hb => h.row.lt b hb
end Go.Proofs.Ytbmejfcbladofaa
