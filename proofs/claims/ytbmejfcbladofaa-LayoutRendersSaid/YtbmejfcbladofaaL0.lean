/- The leaves of a document. -/
import Derived.Test.YtbmejfcbladofaaI7
import Derived.Test.YtbmejfcbladofaaW0
import Derived.Deep.AppendLies
namespace Go.Proofs.Ytbmejfcbladofaa
open Go.RowKit Go.Shelf

attribute [local go_sem] Oper.semAt_some

def isLf (d : Dc) : Bool := decide (d.kind = 1) || decide (d.kind = 2) || decide (d.kind = 3)
def lfC (d : Dc) : List Value := [.int .i64 d.kind, .string d.text, .int .i64 d.n, .slice none 0 0]
def lfV (l : List Dc) : List Value := l.flatMap lfC
def lfs (l : List Dc) : List Dc := l.filter isLf
theorem lfV_app (a b : List Dc) : lfV (a ++ b) = lfV a ++ lfV b := by simp [lfV]
theorem lfV_len (l : List Dc) : (lfV l).length = l.length * 4 := by
  induction l with
  | nil => rfl
  | cons x l ih =>
    have : lfV (x :: l) = lfC x ++ lfV l := by simp [lfV]
    rw [this, List.length_append, ih, List.length_cons]
    show 4 + _ = _
    omega
theorem lfs_snoc_yes {l : List Dc} {x : Dc} (h : isLf x = true) : lfs (l ++ [x]) = lfs l ++ [x] := by simp [lfs, h]
theorem lfs_snoc_no {l : List Dc} {x : Dc} (h : isLf x = false) : lfs (l ++ [x]) = lfs l := by simp [lfs, h]
def leavesD (d : Dc) : List Dc := lfs ((pre d 1).map (·.1))
set_option maxRecDepth 100000 in
set_option maxHeartbeats 1000000 in
theorem isLeaf_any (d : Dc) (B f b o : Nat) (w : World) (hd : DocAt w B f b o d) :
    Calls Try.prog 32 #[.pointer (some ⟨b, o, none⟩)] w fun e w' => e = .returned (.bool (isLf d)) ∧ w' = w := by
  obtain ⟨_, sa, sc, c0, c1, c2, c3, _, _⟩ := hd
  unfold isLf
  generalize d.kind = kd at *
  clear c1 c2 c3
  by_cases h1 : kd = 1
  · subst h1
    go_enter Try.func32, Try.ntmps32
    go_wp2
    go_ret
    exact ⟨by simp, rfl⟩
  by_cases h2 : kd = 2
  · subst h2
    go_enter Try.func32, Try.ntmps32
    go_wp2
    go_ret
    exact ⟨by simp, rfl⟩
  have e1 : (kd == 1) = false := by simpa using h1
  have e2 : (kd == 2) = false := by simpa using h2
  have E : Hid (decide (kd = 1) = false ∧ decide (kd = 2) = false) := ⟨by simpa using h1, by simpa using h2⟩
  clear h1 h2
  go_enter Try.func32, Try.ntmps32
  go_wp2
  go_ret
  rw [E.out.1, E.out.2]
  refine ⟨ret_bool ?_, rfl⟩
  rw [Bool.eq_iff_iff]
  simp
/-- While one goes through: the leaves that have come lie in a row of one's own. -/
structure LI (w wd : World) (A : Nat → Prop) (xs : List Px) (W : World) : Prop where
  ex : ∃ v, Boxed W (w.heap.size + 1) 22 v ∧ W.ownsRow (w.heap.size + 2) 24 4 v (lfs (xs.map Px.doc)).length (lfV (lfs (xs.map Px.doc))) ∧ ∀ b, v.ownBlock = some b → ¬ A b
  ab : ∀ b, A b → w.heap.size + 2 ≤ b ∧ b < W.heap.size
  bel : Below (w.heap.size + 1) wd W
theorem row_keep {W W' : World} {lo : Nat} {e : TypeId} {z : Nat} {v : Value} {n : Nat} {xs : List Value} (h : W.ownsRow lo e z v n xs) (hk : ∀ b, v.ownBlock = some b → W'.heap[b]? = W.heap[b]?) : W'.ownsRow lo e z v n xs := by
  refine ⟨h.1, ?_⟩
  rcases h.2 with h0 | ⟨g, cap, cur, hv, hbg, hg, rest⟩
  · exact .inl h0
  · exact .inr ⟨g, cap, cur, hv, hbg, (hk g (by rw [hv]; rfl)).trans hg, rest⟩
theorem row_base {W : World} {lo lo' : Nat} {e : TypeId} {z : Nat} {v : Value} {n : Nat} {xs : List Value} (hl : lo' ≤ lo) (h : W.ownsRow lo e z v n xs) : W.ownsRow lo' e z v n xs := by
  refine ⟨h.1, ?_⟩
  rcases h.2 with h0 | ⟨g, cap, cur, hv, hbg, rest⟩
  · exact .inl h0
  · exact .inr ⟨g, cap, cur, hv, Nat.le_trans hl hbg, rest⟩
theorem LI.stays (w wd : World) : Stays (LI w wd) := by
  intro A A' xs X Y h hi ha
  obtain ⟨v, hb, hr, hn⟩ := h.ex
  have hl := box_lt hb
  have hk : ∀ b, ¬ A b → b < X.heap.size → Y.heap[b]? = X.heap[b]? := fun b hA hx => hi.keep b hx hA
  have hlow : ∀ b, b < w.heap.size + 2 → ¬ A b := fun b hb hA => by have := (h.ab b hA).1; omega
  refine ⟨⟨v, (hk _ (hlow _ (by omega)) hl).trans hb, row_keep hr (fun b e => hk b (hn b e) (hr.lt b e).2), fun b e hA' => ?_⟩, fun b hb => ?_, ⟨hi.os.trans h.bel.os, hi.tape.trans h.bel.tape, hi.output.trans h.bel.output, Nat.le_trans h.bel.size hi.size, fun b hb => (hk b (hlow b (by omega)) (by omega)).trans (h.bel.block b hb)⟩⟩
  · rcases ha b hA' with h' | h'
    · exact hn b e h'
    · have := (hr.lt b e).2; omega
  · rcases ha b hb with h' | h'
    · have := h.ab b h'; have := hi.size; omega
    · omega
theorem LI.noMind (w wd : World) {B : Nat} (hB : w.heap.size + 2 ≤ B) : NoMind B (LI w wd) := by
  intro A xs W l o o' h hl ho hc
  obtain ⟨v, hb, hr, hn⟩ := h.ex
  have hk : ∀ b, b ≠ l → (W.putObj l o').heap[b]? = W.heap[b]? := fun b hb => World.putObj_heap_other hb
  refine ⟨⟨v, (hk _ (by omega)).trans hb, row_keep hr (fun b e => hk b (fun el => ?_)), hn⟩, fun b hA => by simpa using h.ab b hA, ⟨h.bel.os, h.bel.tape, h.bel.output, by simpa using h.bel.size, fun b hb => (hk b (by omega)).trans (h.bel.block b hb)⟩⟩
  subst el
  rcases hr.2 with ⟨h0, _⟩ | ⟨g, cap, cur, hv, hbg, hg, rest⟩
  · rw [h0] at e; simp [Value.ownBlock] at e
  · rw [hv] at e
    have : g = b := by simpa [Value.ownBlock] using e
    rw [this, ho] at hg
    cases hg
    simp [Obj.isCells] at hc
theorem info24 : (Try.prog.info? 24).map (fun i => (i.zero, i.size, i.bytes)) = some (some (.agg #[.int .i64 0, .string ⟨#[]⟩, .int .i64 0, .slice none 0 0]), 4, 56) := by kernel_rfl
theorem own_cell {W : World} {lo : Nat} {e : TypeId} {z g m cap : Nat} {xs : List Value} (h : W.ownsRow lo e z (.slice (some ⟨g, 0, none⟩) m cap) m xs) {j : Nat} {u : Value} (hj : xs[j]? = some u) : W.cell? ⟨g, j, none⟩ = some u ∧ W.frozen? ⟨g, j, none⟩ = false := by
  rcases h.2 with ⟨h0, _⟩ | ⟨g', cap', cur, hv, _, hg, _, _, _, ht⟩
  · cases h0
  · cases hv
    have hjl := (List.getElem?_eq_some_iff.1 hj).1
    have h1 : (cur.toList.take (m * z))[j]? = some u := by rw [ht]; exact hj
    have h2 : j < (cur.toList.take (m * z)).length := by rw [ht]; exact hjl
    rw [List.getElem?_take_of_lt (by rw [List.length_take] at h2; omega), Array.getElem?_toList] at h1
    exact blk_cell hg h1
theorem set_app4 {l : List Value} {m : Nat} (hm : l.length = m) (a b c d k t n s : Value) : ((((l ++ [a, b, c, d]).set m k).set (m + 1) t).set (m + 2) n).set (m + 3) s = l ++ [k, t, n, s] := by
  subst hm
  have e : ∀ (j : Nat) (r : List Value) (u : Value), (l ++ r).set (l.length + j) u = l ++ r.set j u := fun j r u => by
    rw [List.set_append_right _ _ (by omega)]; congr 2; omega
  have e0 := e 0 [a, b, c, d] k
  rw [Nat.add_zero] at e0
  rw [e0, e, e, e]
  rfl
/-- The new leaf is laid into its place. -/
theorem lf_push {w9 : World} {lo g cap n : Nat} {ls : List Dc} (x : Dc) (h : w9.ownsRow lo 24 4 (.slice (some ⟨g, 0, none⟩) (n + 1) cap) (n + 1) (lfV ls ++ [.int .i64 0, .string ⟨#[]⟩, .int .i64 0, .slice none 0 0])) (hn : n = ls.length) :
    ((((w9.setCell ⟨g, n * 4, none⟩ (.int .i64 x.kind)).setCell ⟨g, n * 4 + 1, none⟩ (.string x.text)).setCell ⟨g, n * 4 + 2, none⟩ (.int .i64 x.n)).setCell ⟨g, n * 4 + 3, none⟩ (.slice none 0 0)).ownsRow lo 24 4 (.slice (some ⟨g, 0, none⟩) (n + 1) cap) (n + 1) (lfV (ls ++ [x])) ∧ w9.grownBy ((((w9.setCell ⟨g, n * 4, none⟩ (.int .i64 x.kind)).setCell ⟨g, n * 4 + 1, none⟩ (.string x.text)).setCell ⟨g, n * 4 + 2, none⟩ (.int .i64 x.n)).setCell ⟨g, n * 4 + 3, none⟩ (.slice none 0 0)) (some g) := by
  have h1 := h.stored (n * 4) (.int .i64 x.kind)
  have h2 := h1.1.stored (n * 4 + 1) (.string x.text)
  have h3 := h2.1.stored (n * 4 + 2) (.int .i64 x.n)
  have h4 := h3.1.stored (n * 4 + 3) (.slice none 0 0)
  have hl : (lfV ls).length = n * 4 := by rw [lfV_len, hn]
  have e := set_app4 hl (.int .i64 0) (.string ⟨#[]⟩) (.int .i64 0) (.slice none 0 0) (.int .i64 x.kind) (.string x.text) (.int .i64 x.n) (.slice none 0 0)
  have e2 : lfV (ls ++ [x]) = lfV ls ++ [.int .i64 x.kind, .string x.text, .int .i64 x.n, .slice none 0 0] := by rw [lfV_app]; simp [lfV, lfC]
  refine ⟨by rw [e2, ← e]; exact h4.1, ?_⟩
  have hgr : ∀ {X Y Z : World}, X.grownBy Y (some g) → Y.grownBy Z (some g) → X.grownBy Z (some g) := fun a b => ⟨b.os.trans a.os, b.tape.trans a.tape, b.output.trans a.output, Nat.le_trans a.size b.size, fun k hk hne => (b.block k (Nat.lt_of_lt_of_le hk a.size) hne).trans (a.block k hk hne)⟩
  exact hgr (hgr (hgr (grown_set _ _ _ _) (grown_set _ _ _ _)) (grown_set _ _ _ _)) (grown_set _ _ _ _)
def zDoc : Obj := .cells #[.int .i64 0, .string ⟨#[]⟩, .int .i64 0, .slice none 0 0] 24
def set4 (W : World) (g n : Nat) (x : Dc) : World := (((W.setCell ⟨g, n * 4, none⟩ (.int .i64 x.kind)).setCell ⟨g, n * 4 + 1, none⟩ (.string x.text)).setCell ⟨g, n * 4 + 2, none⟩ (.int .i64 x.n)).setCell ⟨g, n * 4 + 3, none⟩ (.slice none 0 0)
theorem set4_other (W : World) (g n : Nat) (x : Dc) {b : Nat} (h : b ≠ g) : (set4 W g n x).heap[b]? = W.heap[b]? := by
  unfold set4
  exact (Below.heap_setCell _ _ _ b h).trans ((Below.heap_setCell _ _ _ b h).trans ((Below.heap_setCell _ _ _ b h).trans (Below.heap_setCell _ _ _ b h)))
theorem set4_same (W : World) (g n : Nat) (x : Dc) : (set4 W g n x).os = W.os ∧ (set4 W g n x).tape = W.tape ∧ (set4 W g n x).output = W.output ∧ (set4 W g n x).heap.size = W.heap.size := ⟨rfl, rfl, rfl, by simp [set4, World.setCell]⟩
/-- One leaf more. -/
theorem LI.next {w wd W0 w9 W' : World} {A : Nat → Prop} {xs : List Px} {x : Px} {v : Value} {g cap B : Nat} (hbox : Boxed W0 (w.heap.size + 1) 22 v) (hrow : W0.ownsRow (w.heap.size + 2) 24 4 v (lfs (xs.map Px.doc)).length (lfV (lfs (xs.map Px.doc)))) (hnA : ∀ b, v.ownBlock = some b → ¬ A b) (hab : ∀ b, A b → w.heap.size + 2 ≤ b ∧ b < W0.heap.size) (hbel : Below (w.heap.size + 1) wd W0) (hlf : isLf x.doc = true)
    (hown9 : w9.ownsRow (w.heap.size + 2) 24 4 (.slice (some ⟨g, 0, none⟩) ((lfs (xs.map Px.doc)).length + 1) cap) ((lfs (xs.map Px.doc)).length + 1) (lfV (lfs (xs.map Px.doc)) ++ [.int .i64 0, .string ⟨#[]⟩, .int .i64 0, .slice none 0 0])) (hgrow : (W0.alloc zDoc).drew.grownBy w9 v.ownBlock) (hat : v.ownBlock = some g ∨ g = W0.heap.size + 1)
    (hW' : W' = (set4 w9 g (lfs (xs.map Px.doc)).length x.doc).setCell ⟨w.heap.size + 1, 0, none⟩ (.slice (some ⟨g, 0, none⟩) ((lfs (xs.map Px.doc)).length + 1) cap) ∨ W' = set4 (w9.setCell ⟨w.heap.size + 1, 0, none⟩ (.slice (some ⟨g, 0, none⟩) ((lfs (xs.map Px.doc)).length + 1) cap)) g (lfs (xs.map Px.doc)).length x.doc) :
    KeepsFrom B W0 W' ∧ Keep (w.heap.size + 1) A W0 W' ∧ LI w wd A (xs ++ [x]) W' := by
  have hls : lfs ((xs ++ [x]).map Px.doc) = lfs (xs.map Px.doc) ++ [x.doc] := by rw [List.map_append, List.map_cons, List.map_nil, lfs_snoc_yes hlf]
  obtain ⟨ls, hl⟩ : ∃ ls, lfs (xs.map Px.doc) = ls := ⟨_, rfl⟩
  rw [hl] at hrow hown9 hW' hls
  have hLB := box_lt hbox
  have hgs : W0.heap.size + 1 ≤ w9.heap.size := by have := hgrow.size; simpa using this
  have hglo : w.heap.size + 2 ≤ g := by
    rcases hat with h | h
    · exact (hrow.lt g h).1
    · omega
  have hgne : g ≠ w.heap.size + 1 := by omega
  have hX : ∀ b, b < W0.heap.size → (W0.alloc zDoc).drew.heap[b]? = W0.heap[b]? := fun b hb => Below.heap_alloc W0 zDoc b hb
  have h9 : ∀ b, b < W0.heap.size → v.ownBlock ≠ some b → w9.heap[b]? = W0.heap[b]? := fun b hb hne => (hgrow.block b (by show b < (W0.alloc zDoc).heap.size; simp; omega) (fun e => hne e.symm)).trans (hX b hb)
  have hgnew : ∀ b, b < W0.heap.size → v.ownBlock ≠ some b → b ≠ g := fun b hb hne e => by
    rcases hat with h | h
    · exact hne (by rw [e]; exact h)
    · omega
  have hbox9 : Boxed w9 (w.heap.size + 1) 22 v := (h9 _ hLB (fun e => by have := (hrow.lt _ e).1; omega)).trans hbox
  have main : (∀ b, b ≠ g → b ≠ w.heap.size + 1 → W'.heap[b]? = w9.heap[b]?) ∧ Boxed W' (w.heap.size + 1) 22 (.slice (some ⟨g, 0, none⟩) (ls.length + 1) cap) ∧ W'.ownsRow (w.heap.size + 2) 24 4 (.slice (some ⟨g, 0, none⟩) (ls.length + 1) cap) (ls.length + 1) (lfV (ls ++ [x.doc])) ∧ W'.os = w9.os ∧ W'.tape = w9.tape ∧ W'.output = w9.output ∧ W'.heap.size = w9.heap.size := by
    have hnb : ∀ b, (Value.slice (some ⟨g, 0, none⟩) (ls.length + 1) cap).ownBlock = some b → b ≠ w.heap.size + 1 := fun b e => by
      have : g = b := by simpa [Value.ownBlock] using e
      omega
    rcases hW' with hW' | hW'
    · have hp1 : (set4 w9 g ls.length x.doc).ownsRow (w.heap.size + 2) 24 4 (.slice (some ⟨g, 0, none⟩) (ls.length + 1) cap) (ls.length + 1) (lfV (ls ++ [x.doc])) := (lf_push x.doc hown9 rfl).1
      have hbx : Boxed (set4 w9 g ls.length x.doc) (w.heap.size + 1) 22 v := (set4_other _ _ _ _ (fun e => hgne e.symm)).trans hbox9
      have ho4 : ∀ b, b ≠ g → (set4 w9 g ls.length x.doc).heap[b]? = w9.heap[b]? := fun b h => set4_other _ _ _ _ h
      have hm4 := set4_same w9 g ls.length x.doc
      generalize set4 w9 g ls.length x.doc = V at *
      subst hW'
      exact ⟨fun b h1 h2 => (Below.heap_setCell V ⟨w.heap.size + 1, 0, none⟩ _ b h2).trans (ho4 b h1), box_set hbx _, row_keep hp1 (fun b e => Below.heap_setCell V ⟨w.heap.size + 1, 0, none⟩ _ b (hnb b e)), hm4.1, hm4.2.1, hm4.2.2.1, by rw [← hm4.2.2.2]; simp [World.setCell]⟩
    · have hr1 : (w9.setCell ⟨w.heap.size + 1, 0, none⟩ (.slice (some ⟨g, 0, none⟩) (ls.length + 1) cap)).ownsRow (w.heap.size + 2) 24 4 (.slice (some ⟨g, 0, none⟩) (ls.length + 1) cap) (ls.length + 1) (lfV ls ++ [.int .i64 0, .string ⟨#[]⟩, .int .i64 0, .slice none 0 0]) := row_keep hown9 (fun b e => Below.heap_setCell w9 ⟨w.heap.size + 1, 0, none⟩ _ b (hnb b e))
      have hbx := box_set hbox9 (.slice (some ⟨g, 0, none⟩) (ls.length + 1) cap)
      have hV : (∀ b, b ≠ w.heap.size + 1 → (w9.setCell ⟨w.heap.size + 1, 0, none⟩ (.slice (some ⟨g, 0, none⟩) (ls.length + 1) cap)).heap[b]? = w9.heap[b]?) ∧ (w9.setCell ⟨w.heap.size + 1, 0, none⟩ (.slice (some ⟨g, 0, none⟩) (ls.length + 1) cap)).os = w9.os ∧ (w9.setCell ⟨w.heap.size + 1, 0, none⟩ (.slice (some ⟨g, 0, none⟩) (ls.length + 1) cap)).tape = w9.tape ∧ (w9.setCell ⟨w.heap.size + 1, 0, none⟩ (.slice (some ⟨g, 0, none⟩) (ls.length + 1) cap)).output = w9.output ∧ (w9.setCell ⟨w.heap.size + 1, 0, none⟩ (.slice (some ⟨g, 0, none⟩) (ls.length + 1) cap)).heap.size = w9.heap.size := ⟨fun b h => Below.heap_setCell w9 ⟨w.heap.size + 1, 0, none⟩ _ b h, rfl, rfl, rfl, by simp [World.setCell]⟩
      generalize w9.setCell ⟨w.heap.size + 1, 0, none⟩ (.slice (some ⟨g, 0, none⟩) (ls.length + 1) cap) = V at *
      have hp1 : (set4 V g ls.length x.doc).ownsRow (w.heap.size + 2) 24 4 (.slice (some ⟨g, 0, none⟩) (ls.length + 1) cap) (ls.length + 1) (lfV (ls ++ [x.doc])) := (lf_push x.doc hr1 rfl).1
      have hm4 := set4_same V g ls.length x.doc
      subst hW'
      exact ⟨fun b h1 h2 => (set4_other _ _ _ _ h1).trans (hV.1 b h2), (set4_other _ _ _ _ (fun e => hgne e.symm)).trans hbx, hp1, hm4.1.trans hV.2.1, hm4.2.1.trans hV.2.2.1, hm4.2.2.1.trans hV.2.2.2.1, hm4.2.2.2.trans hV.2.2.2.2⟩
  obtain ⟨hk, hb', hr', ho, ht, hu, hs⟩ := main
  have hos : W'.os = W0.os := ho.trans hgrow.os
  have htp : W'.tape = W0.tape := ht.trans hgrow.tape
  have hou : W'.output = W0.output := hu.trans hgrow.output
  have hold : ∀ b, b < W0.heap.size → v.ownBlock ≠ some b → b ≠ w.heap.size + 1 → W'.heap[b]? = W0.heap[b]? := fun b h1 h2 h3 => (hk b (hgnew b h1 h2) h3).trans (h9 b h1 h2)
  have hlow : Below (w.heap.size + 1) W0 W' := ⟨hos, htp, hou, by omega, fun b hb => hold b (by omega) (fun e => by have := (hrow.lt b e).1; omega) (by omega)⟩
  refine ⟨⟨by omega, fun k o _ hk' hc => ?_⟩, ⟨hlow, fun b hA hlt => hold b hlt (fun e => hnA b e hA) (by have := (hab b hA).1; omega)⟩, ⟨⟨_, hb', by rw [hls]; simpa using hr', fun b e hA => ?_⟩, fun b hA => ⟨(hab b hA).1, by have := (hab b hA).2; omega⟩, hbel.trans hlow⟩⟩
  · have hkl := (Array.getElem?_eq_some_iff.1 hk').1
    refine (hold k hkl (fun e => ?_) (fun e => ?_)).trans hk'
    · rcases hrow.2 with ⟨h0, _⟩ | ⟨g', cap', cur, hv, _, hg, _⟩
      · rw [h0] at e; simp [Value.ownBlock] at e
      · rw [hv] at e
        have : g' = k := by simpa [Value.ownBlock] using e
        rw [this, hk'] at hg
        cases hg
        simp [Obj.isCells] at hc
    · rw [e] at hk'
      have hbx : W0.heap[w.heap.size + 1]? = _ := hbox
      rw [hk'] at hbx
      cases hbx
      simp [Obj.isCells] at hc
  · have e' : g = b := by simpa [Value.ownBlock] using e
    subst e'
    rcases hat with h | h
    · exact hnA g h hA
    · have := (hab g hA).2; omega
end Go.Proofs.Ytbmejfcbladofaa
