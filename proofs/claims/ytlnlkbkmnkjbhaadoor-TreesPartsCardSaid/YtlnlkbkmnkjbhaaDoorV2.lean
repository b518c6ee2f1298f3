/- The iterator over a tree's parts with their bytes keeps its promise. -/
import Derived.Test.YtlnlkbkmnkjbhaaDoorV1
namespace Go.Proofs.YtlnlkbkmnkjbhaaDoor
open Go.RowKit Go.Shelf

attribute [local go_sem] Oper.semAt_some

/-- While one goes through the parts within the iterator: what is so of the marked ones; the leaf; the caller's round. -/
structure MI (W : World) (U : Nat → Prop) (l : Nat) (J : (Nat → Prop) → List Qx → World → Prop) (A : Nat → Prop) (xs : List Px) (X : World) : Prop where
  j : J (fun b => A b ∨ (W.heap.size ≤ b ∧ b < W.heap.size + 6)) (qsOf 0 xs) X
  leaf : Boxed X (W.heap.size + 1) 3 (.int .i64 (lfs 0 xs : Int))
  yld : Boxed X W.heap.size 109 (.func (.yield l) #[] #[])
  ab : ∀ b, A b → W.heap.size + 2 ≤ b
  keep : Ab U W X
  dx : ∀ x ∈ xs, x.deep ≤ 1000000000000
  sz : W.heap.size + 6 ≤ X.heap.size
def MX (W : World) (Jx : (Nat → Prop) → List Qx → World → Prop) : Code → (Nat → Prop) → List Px → World → Prop :=
  fun c A xs X => c = .ret ∧ Jx (fun b => A b ∨ (W.heap.size ≤ b ∧ b < W.heap.size + 6)) (qsOf 0 xs) X
section
variable {W : World} {U : Nat → Prop} {l : Nat} {J Jx : (Nat → Prop) → List Qx → World → Prop}
theorem iter_or {A O : Nat → Prop} {X Y : World} (h : Iter A X Y) : Iter (fun b => A b ∨ O b) X Y := ⟨h.os, h.tape, h.output, h.size, fun b hb hA => h.keep b hb (fun h' => hA (.inl h'))⟩
theorem adds_or {A A' O : Nat → Prop} {X Y : World} (h : Adds A A' X Y) : Adds (fun b => A b ∨ O b) (fun b => A' b ∨ O b) X Y := fun b hb => by
  rcases hb with hb | hb
  · rcases h b hb with h | h
    · exact .inl (.inl h)
    · exact .inr h
  · exact .inl (.inr hb)
theorem MI.stays (hJ : Stays J) (hU : ∀ b, U b → b < W.heap.size) : Stays (MI W U l J) := by
  intro A A' xs X Y h hi ha
  have h1 := box_lt h.leaf
  have h2 := box_lt h.yld
  have hk : ∀ b, b < W.heap.size + 2 → b < X.heap.size → Y.heap[b]? = X.heap[b]? := fun b hb hx => hi.keep b hx (fun hA => by have := h.ab b hA; omega)
  refine ⟨hJ _ _ _ _ _ h.j (iter_or hi) (adds_or ha), (hk _ (by omega) h1).trans h.leaf, (hk _ (by omega) h2).trans h.yld, fun b hb => ?_, ⟨hi.os.trans h.keep.os, hi.tape.trans h.keep.tape, hi.output.trans h.keep.output, Nat.le_trans h.keep.size hi.size, fun b hb => ?_⟩, h.dx, Nat.le_trans h.sz hi.size⟩
  · rcases ha b hb with h' | h'
    · exact h.ab b h'
    · omega
  · have := hU b hb
    have := h.keep.size
    exact (hk b (by omega) (by omega)).trans (h.keep.block b hb)
theorem MX.stays (hJ : Stays Jx) (c : Code) : Stays (MX W Jx c) := fun _ _ _ _ _ h hi ha => ⟨h.1, hJ _ _ _ _ _ h.2 (iter_or hi) (adds_or ha)⟩
theorem iter_put {O : Nat → Prop} {X : World} {k : Nat} (o : Obj) (h : O k) : Iter O X (X.putObj k o) := ⟨rfl, rfl, rfl, by simp, fun b _ hO => World.putObj_heap_other (fun e => hO (e ▸ h))⟩
theorem adds_same {A : Nat → Prop} {X Y : World} : Adds A A X Y := fun _ h => .inl h
theorem MI.noMind (hJ : Stays J) (hU : ∀ b, U b → b < W.heap.size) {A0 : Nat → Prop} : NoMindAt (W.heap.size + 4) A0 (MI W U l J) := by
  intro A xs X o' h hA hlt
  have hk : ∀ b, b < W.heap.size + 5 → (X.putObj (W.heap.size + 4 + 1) o').heap[b]? = X.heap[b]? := fun b hb => World.putObj_heap_other (by omega)
  exact ⟨hJ _ _ _ _ _ h.j (iter_put o' (.inr (by omega))) adds_same, (hk _ (by omega)).trans h.leaf, (hk _ (by omega)).trans h.yld, h.ab, ⟨h.keep.os, h.keep.tape, h.keep.output, by simpa using h.keep.size, fun b hb => (hk b (by have := hU b hb; omega)).trans (h.keep.block b hb)⟩, h.dx, by simpa using h.sz⟩
theorem MX.noMind (hJ : Stays Jx) {A0 : Nat → Prop} (c : Code) : NoMindAt (W.heap.size + 4) A0 (MX W Jx c) := fun _ _ _ o' h _ _ => ⟨h.1, hJ _ _ _ _ _ h.2 (iter_put o' (.inr (by omega))) adds_same⟩
end
theorem grown_box {X X4 : World} {L B : Nat} {t : TypeId} {v : Value} (h : X.grownBy X4 (some L)) (hb : Boxed X B t v) (hne : B ≠ L) : Boxed X4 B t v := (h.block B (box_lt hb) (fun e => hne (by cases e; rfl))).trans hb
theorem pre_deep {d : Tr} {p : Tr × Nat} (h : p ∈ pre d 1) : p.2 ≤ (pre d 1).length := by
  have key : ∀ (l : List (Tr × Nat)) (a : Nat), p ∈ l → p.2 ≤ l.foldl (fun m q => max m q.2) a := by
    intro l
    induction l with
    | nil => intro a h; cases h
    | cons q l ih =>
      intro a h
      rcases List.mem_cons.1 h with rfl | h
      · have mono : ∀ (l : List (Tr × Nat)) (a : Nat), a ≤ l.foldl (fun m q => max m q.2) a := by
          intro l
          induction l with
          | nil => intro a; exact Nat.le_refl _
          | cons q l ih => intro a; exact Nat.le_trans (Nat.le_max_left _ _) (ih _)
        exact Nat.le_trans (Nat.le_max_right _ _) (mono l _)
      · exact ih _ h
  have h1 := key _ 0 h
  have h2 : (pre d 1).foldl (fun m q => max m q.2) 0 = dp d := mx_pre d
  have h3 := dp_le d
  rw [h2] at h1
  rw [pre_len]; omega
theorem Firsts.deep {d : Tr} {l : List Px} {x : Px} (h : Firsts d l x) : x.deep ≤ (pre d 1).length := by
  obtain ⟨r, hr⟩ := h
  exact pre_deep (p := x.say) (by rw [← hr]; simp)
section
variable {W : World} {U : Nat → Prop} {l : Nat} {J Jx : (Nat → Prop) → List Qx → World → Prop} {A : Nat → Prop} {xs : List Px} {x : Px} {X X4 W' : World}
theorem MI.mid (hJ : Stays J) (h : MI W U l J A xs X) (hg : X.grownBy X4 (some (W.heap.size + 1))) : J (fun b => A b ∨ (W.heap.size ≤ b ∧ b < W.heap.size + 6)) (qsOf 0 xs) X4 :=
  hJ _ _ _ _ _ h.j ⟨hg.os, hg.tape, hg.output, hg.size, fun b hb hA => hg.block b hb (fun e => hA (.inr (by cases e; omega)))⟩ adds_same
theorem MI.two (h : MI W U l J A xs X) (hU : ∀ b, U b → b < W.heap.size) (hg : X.grownBy X4 (some (W.heap.size + 1))) (hK : KeepU U (fun b => A b ∨ (W.heap.size ≤ b ∧ b < W.heap.size + 6)) X4 W') : Two (W.heap.size + 4) X W' ∧ KeepU U A X W' := by
  have hs := hg.size
  have hks := h.keep.size
  have hlt := h.sz
  have own : ∀ b, W.heap.size ≤ b → b < W.heap.size + 6 → b ≠ W.heap.size + 1 → W'.heap[b]? = X.heap[b]? := fun b h1 h2 h3 => (hK.2 b (.inr ⟨h1, h2⟩) (by omega)).trans (hg.block b (by omega) (fun e => h3 (by cases e; rfl)))
  refine ⟨⟨own _ (by omega) (by omega) (by omega), own _ (by omega) (by omega) (by omega)⟩, ⟨hK.1.os.trans hg.os, hK.1.tape.trans hg.tape, hK.1.output.trans hg.output, Nat.le_trans hs hK.1.size, fun b hb => ?_⟩, fun b hb hlt' => ?_⟩
  · have := hU b hb
    exact (hK.1.block b hb).trans (hg.block b (by omega) (fun e => by cases e; omega))
  · have := h.ab b hb
    exact (hK.2 b (.inl hb) (by omega)).trans (hg.block b hlt' (fun e => by cases e; omega))
theorem MI.next (h : MI W U l J A xs X) (hU : ∀ b, U b → b < W.heap.size) (hg : X.grownBy X4 (some (W.heap.size + 1))) (hx : x.deep ≤ 1000000000000) (hb : Boxed X4 (W.heap.size + 1) 3 (.int .i64 (lstp (lfs 0 xs) x.say : Int)))
    (hJ : J (fun b => A b ∨ (W.heap.size ≤ b ∧ b < W.heap.size + 6)) (qsOf 0 xs ++ [qof (lfs 0 xs) x]) W') (hK : KeepU U (fun b => A b ∨ (W.heap.size ≤ b ∧ b < W.heap.size + 6)) X4 W') : MI W U l J A (xs ++ [x]) W' := by
  have hs := hg.size
  have h2 := (h.two hU hg hK).2
  have hlt := h.sz
  refine ⟨by rw [qsOf_snoc]; exact hJ, by rw [lfs_snoc]; exact (hK.2 _ (.inr ⟨by omega, by omega⟩) (by omega)).trans hb, (hK.2 _ (.inr ⟨by omega, by omega⟩) (by omega)).trans (grown_box hg h.yld (by omega)), h.ab, h.keep.trans h2.1, fun y hy => ?_, Nat.le_trans hlt h2.1.size⟩
  rcases List.mem_append.1 hy with hy | hy
  · exact h.dx y hy
  · simp at hy; subst hy; exact hx
end
theorem grown_alloc {X : World} (o : Obj) (r : Option Nat) : X.grownBy (X.alloc o) r := by
  have h := (Below.refl X.heap.size X).alloc (Nat.le_refl _) o
  exact ⟨h.os, h.tape, h.output, h.size, fun b hb _ => h.block b hb⟩
theorem grown_tr {X Y Z : World} {r : Option Nat} (h : X.grownBy Y r) (k : Y.grownBy Z r) : X.grownBy Z r :=
  ⟨k.os.trans h.os, k.tape.trans h.tape, k.output.trans h.output, Nat.le_trans h.size k.size, fun b hb hne => (k.block b (Nat.lt_of_lt_of_le hb h.size) hne).trans (h.block b hb hne)⟩
theorem grown_of_below {X Y : World} (h : Below X.heap.size X Y) (r : Option Nat) : X.grownBy Y r := ⟨h.os, h.tape, h.output, h.size, fun b hb _ => h.block b hb⟩
/-- A store into a block that is new. -/
theorem grown_fresh {X Y : World} {r : Option Nat} {b o : Nat} (h : X.grownBy Y r) (hb : X.heap.size ≤ b) (u : Value) : X.grownBy (Y.setCell ⟨b, o, none⟩ u) r := by
  have hg := grown_set Y b o u
  exact ⟨hg.os.trans h.os, hg.tape.trans h.tape, hg.output.trans h.output, Nat.le_trans h.size hg.size, fun k hk hne => (hg.block k (Nat.lt_of_lt_of_le hk h.size) (fun e => by cases e; omega)).trans (h.block k hk hne)⟩
set_option maxRecDepth 100000 in
set_option maxHeartbeats 4000000 in
theorem tparts_in (n : Nat) (hn : 5 ≤ n) (l tb : Nat) (U : Nat → Prop) (f : Nat) (d : Tr) (J Jx : (Nat → Prop) → List Qx → World → Prop) (W : World) (hU : ∀ b, U b → b < W.heap.size) (hJ : Stays J) (hJx : Stays Jx) (hd : TreeIn W U f tb 0 d) (hlen : (pre d 1).length ≤ 1000000000000)
    (hY : ∀ A pre x W1, J A pre W1 → pre.length < 1000000000000 → (TreeIn W U f x.b x.o x.doc ∧ QFirsts d pre x) → YieldAt Fence.wide (n - 1) Tryd.prog l (Qx.enc x) W1 fun e W' =>
      (e = .returned (.bool true) ∧ J A (pre ++ [x]) W' ∧ KeepU U A W1 W') ∨ (e = .returned (.bool false) ∧ Jx A (pre ++ [x]) W' ∧ (True → KeepU U A W1 W')))
    (h0 : J (fun _ => False) [] W) :
    CallsIn Fence.wide n Tryd.prog 68 #[.func (.yield l) #[] #[], .pointer (some ⟨tb, 0, none⟩)] W fun e W' => (∃ v, e = .returned v) ∧
      ((∃ A xs, (xs.map Qx.say = marks 0 (pre d 1) ∧ ∀ q ∈ xs, TreeIn W U f q.b q.o q.doc) ∧ J A xs W') ∨ (∃ A xs, ((∃ r, xs.map Qx.say ++ r = marks 0 (pre d 1)) ∧ ∀ q ∈ xs, TreeIn W U f q.b q.o q.doc) ∧ Jx A xs W')) := by
  refine callsIn_of_wp_marks Tryd.func68 rfl trivial ?_ rfl
  simp only [Tryd.ntmps68, List.size_toArray, List.length_cons, List.length_nil, Nat.reduceAdd, Nat.reduceSub, Array.replicate_succ, Array.replicate_zero, List.push_toArray, List.append_toArray, List.nil_append, List.cons_append]
  gi_wp2_with (refine ⟨trivial, fun _ => (by omega), ?_⟩; gi_at_call 67; refine (callsIn_wide.2 (parts_any _ _)).mono ?_; rintro e w' ⟨rfl, rfl⟩)
  have bY := ((Boxed.new W 109 (.func (.yield l) #[] #[])).alloc (.cells #[.int .i64 0] 3)).alloc (.cells #[.pointer (some ⟨tb, 0, none⟩)] 77) |>.alloc (.cells #[.func (.func 45) #[] #[]] 104)
  have bL := ((Boxed.new (W.alloc (.cells #[.func (.yield l) #[] #[]] 109)) 3 (.int .i64 0)).alloc (.cells #[.pointer (some ⟨tb, 0, none⟩)] 77)).alloc (.cells #[.func (.func 45) #[] #[]] 104)
  have b1 := (Boxed.new ((W.alloc (.cells #[.func (.yield l) #[] #[]] 109)).alloc (.cells #[.int .i64 0] 3)) 77 (.pointer (some ⟨tb, 0, none⟩))).alloc (.cells #[.func (.func 45) #[] #[]] 104)
  have b2 := Boxed.new (((W.alloc (.cells #[.func (.yield l) #[] #[]] 109)).alloc (.cells #[.int .i64 0] 3)).alloc (.cells #[.pointer (some ⟨tb, 0, none⟩)] 77)) 104 (.func (.func 45) #[] #[])
  obtain ⟨w4, hw4⟩ : ∃ w4, (((W.alloc (.cells #[.func (.yield l) #[] #[]] 109)).alloc (.cells #[.int .i64 0] 3)).alloc (.cells #[.pointer (some ⟨tb, 0, none⟩)] 77)).alloc (.cells #[.func (.func 45) #[] #[]] 104) = w4 := ⟨_, rfl⟩
  have s4 : w4.heap.size = W.heap.size + 4 := by rw [← hw4]; simp
  have hB4 : Below W.heap.size W w4 := by rw [← hw4]; exact ((((Below.refl _ _).alloc (Nat.le_refl _) _).alloc (by simp) _).alloc (by simp; omega) _).alloc (by simp; omega) _
  simp only [World.size_alloc] at bL b1 b2
  rw [hw4] at bY bL b1 b2
  rw [hw4]
  have hA4 : Ab U W w4 := Ab.of_below hB4 hU
  have hd4 : TreeIn w4 U f tb 0 d := hd.keep hA4
  clear hw4
  refine range_law_g (kx := False) (F := Fence.wide) rfl (fun _ => by omega) (gf := 84) (lb := #[.pointer (some ⟨W.heap.size + 1 + 1, 0, none⟩), .pointer (some ⟨W.heap.size + 1 + 1 + 1, 0, none⟩)]) rfl trivial (enters_of Tryd.func84 (by kernel_rfl) rfl)
    (parts_sequ (n - 1) (by omega) (W.heap.size + 1 + 1) (W.heap.size + 1 + 1 + 1) U f tb 0 d w4 (fun b hb => by have := hU b hb; omega) hd4 hlen (by omega) (by omega) b1.cell b2.cell) (fun b hb => by have := hU b hb; omega) (fun b hb => by rcases hb with rfl | rfl <;> omega) (Below.refl _ _) (fun _ => rfl)
    (MI W U l J) (MX W Jx) (MI.stays hJ hU) (by rw [s4]; exact MI.noMind hJ hU) (MX.stays hJx) (fun c => by rw [s4]; exact MX.noMind hJx c)
    (fun W1 hb1 hs1 => ?start)
    (fun x => { tmps := #[.func (.yield l) #[] #[], .pointer (some ⟨tb, 0, none⟩), .pointer (some ⟨W.heap.size, 0, none⟩), .pointer (some ⟨W.heap.size + 1, 0, none⟩), .pointer (some ⟨x.b, x.o, none⟩), .int .i64 (x.deep : Int), undef, .func (.func 84) #[] #[.pointer (some ⟨W.heap.size + 1 + 1, 0, none⟩), .pointer (some ⟨W.heap.size + 1 + 1 + 1, 0, none⟩)], .pointer (some ⟨x.b, x.o, none⟩), .int .i64 (x.deep : Int), undef, undef, undef, undef, undef, undef, undef, undef, undef, undef, undef, undef, undef, undef, undef, undef, undef, undef, undef, undef], defers := [] }) ?assign ?body ?done ?stop
  case start =>
    have hbw : Below W.heap.size W W1 := hB4.trans (hb1.mono (by omega))
    refine ⟨hJ _ _ _ _ _ h0 (Iter.of_below hbw) (fun b hb => .inr ?_), (hb1.block _ (by omega)).trans bL, (hb1.block _ (by omega)).trans bY, fun b hb => ?_, Ab.of_below hbw hU, fun x hx => (by cases hx), by omega⟩
    · rcases hb with (rfl | rfl) | hb <;> omega
    · rcases hb with rfl | rfl <;> omega
  case assign =>
    intro l' x X K hK
    unfold Px.enc
    gi_wp2
    exact hK
  case body =>
    intro l' A xs x X hI hlt hx hA
    have hsz := hI.sz
    have cl := hI.leaf.cell
    have fl := hI.leaf.frozen
    have cy := hI.yld.cell
    have hxd : x.deep ≤ 1000000000000 := Nat.le_trans hx.2.deep hlen
    have hkd : lfs 0 xs ≤ 1000000000000 := lfs_le _ 0 xs (by omega) hI.dx
    have hks := hI.keep.size
    have hxX := (hx.1.back (hB4) (fun b hb => hU b hb)).keep hI.keep
    obtain ⟨hub, sa, sc, c0, c1, c2, hsc, hkk⟩ := hxX
    have hbX := hU _ hub
    obtain ⟨X1, hX1⟩ : ∃ X1, X.alloc (.cells #[.pointer (some ⟨x.b, x.o, none⟩), .int .i64 (x.deep : Int), .int .i64 0] 79) = X1 := ⟨_, rfl⟩
    have s1 : X1.heap.size = X.heap.size + 1 := by rw [← hX1]; simp
    have g1 : X.grownBy X1 (some (W.heap.size + 1)) := by rw [← hX1]; exact grown_alloc _ _
    have p0 : X1.cell? ⟨X.heap.size, 0, none⟩ = some (.pointer (some ⟨x.b, x.o, none⟩)) := by rw [← hX1]; exact cell_new 0 rfl
    have p1 : X1.cell? ⟨X.heap.size, 1, none⟩ = some (.int .i64 (x.deep : Int)) := by rw [← hX1]; exact cell_new 1 rfl
    have p2 : X1.cell? ⟨X.heap.size, 2, none⟩ = some (.int .i64 0) := by rw [← hX1]; exact cell_new 2 rfl
    have bL1 : Boxed X1 (W.heap.size + 1) 3 (.int .i64 (lfs 0 xs : Int)) := by rw [← hX1]; exact hI.leaf.alloc _
    have HI : Hid _ := hI
    have HX1 : Hid _ := hX1
    clear hX1
    have HY : Hid _ := hY
    have pf : X1.frozen? ⟨X.heap.size, 2, none⟩ = false := by rw [← HX1.out]; exact World.frozen?_alloc_new _ _ _ _
    have cl1 := bL1.cell
    have fl1 := bL1.frozen
    rw [← HX1.out] at cl1 fl1
    have hn2 : 1 ≤ n - 1 - 1 := by omega
    clear hI hY hd4 b1 b2 bY bL hd
    by_cases hm : x.deep ≤ lfs 0 xs
    · have hc0 : lcut (lfs 0 xs) x.deep = 0 := by unfold lcut; rw [if_pos hm]
      have hmI : ((x.deep : Int) ≤ (lfs 0 xs : Int)) := by omega
      have bL2 : Boxed (X1.setCell ⟨W.heap.size + 1, 0, none⟩ (.int .i64 0)) (W.heap.size + 1) 3 (.int .i64 0) := box_set bL1 _
      have g2 : X.grownBy (X1.setCell ⟨W.heap.size + 1, 0, none⟩ (.int .i64 0)) (some (W.heap.size + 1)) := grown_tr g1 (grown_set _ _ _ _)
      have hne2 : W.heap.size + 1 ≠ X.heap.size := by omega
      replace p0 := (World.cell?_setCell_far X1 ⟨W.heap.size + 1, 0, none⟩ ⟨X.heap.size, 0, none⟩ (.int .i64 0) hne2).trans p0
      replace p1 := (World.cell?_setCell_far X1 ⟨W.heap.size + 1, 0, none⟩ ⟨X.heap.size, 1, none⟩ (.int .i64 0) hne2).trans p1
      replace p2 := (World.cell?_setCell_far X1 ⟨W.heap.size + 1, 0, none⟩ ⟨X.heap.size, 2, none⟩ (.int .i64 0) hne2).trans p2
      replace pf : (X1.setCell ⟨W.heap.size + 1, 0, none⟩ (.int .i64 0)).frozen? ⟨X.heap.size, 2, none⟩ = false := by simpa using pf
      have s2 : (X1.setCell ⟨W.heap.size + 1, 0, none⟩ (.int .i64 0)).heap.size = X.heap.size + 1 := by simp [World.setCell, s1]
      clear g1 bL1
      have d0 : (X1.setCell ⟨W.heap.size + 1, 0, none⟩ (.int .i64 0)).cell? ⟨x.b, x.o, none⟩ = some (.int .i64 x.doc.rule) := (g2.cell_far ⟨x.b, x.o, none⟩ (by show x.b < _; omega) (fun e => by simp at e; omega)).trans c0
      have d1 : (X1.setCell ⟨W.heap.size + 1, 0, none⟩ (.int .i64 0)).cell? ⟨x.b, x.o + 1, none⟩ = some (.int .u8 (x.doc.byte.toNat : Int)) := (g2.cell_far ⟨x.b, x.o + 1, none⟩ (by show x.b < _; omega) (fun e => by simp at e; omega)).trans c1
      have d2 : (X1.setCell ⟨W.heap.size + 1, 0, none⟩ (.int .i64 0)).cell? ⟨x.b, x.o + 2, none⟩ = some (.slice sa x.doc.kids.length sc) := (g2.cell_far ⟨x.b, x.o + 2, none⟩ (by show x.b < _; omega) (fun e => by simp at e; omega)).trans c2
      have HLF : Hid _ := fun (_ : Unit) => isLeaf_any x.doc (.slice sa x.doc.kids.length sc) (X1.setCell ⟨W.heap.size + 1, 0, none⟩ (.int .i64 0))
      have cl2 := bL2.cell
      have fl2 := bL2.frozen
      have HB2 : Hid _ := fun (_ : Unit) => bL2
      have HG2 : Hid _ := fun (_ : Unit) => g2
      have HP : Hid _ := And.intro p0 (And.intro p1 (And.intro p2 pf))
      clear bL2 g2 c0 c1 c2 cl fl p0 p1 p2 pf
      rw [← HX1.out] at d0 d1 d2 HLF cl2 fl2
      by_cases hr : x.doc.rule = -1
      · have hre : (x.doc.rule == -1) = true := by simpa using hr
        have hkk := lown_one (k := lfs 0 xs) (m := x.deep) (d := x.doc) hc0 hr
        rw [hre] at HLF
        have HR : Hid _ := hr
        clear hre hr
        gi_wp2_with (refine ⟨trivial, ?_⟩; gi_at_call 69; refine (CallsIn.inRound l' (callsIn_wide.2 (HLF.out ()))).mono ?_)
        first | rintro e w3 rfl hb3 | rintro e w3 ⟨rfl, hb3⟩
        rw [HX1.out] at hb3
        have hs3 := hb3.size
        have bL3 : Boxed w3 (W.heap.size + 1) 3 (.int .i64 0) := (hb3.block _ (by omega)).trans (HB2.out ())
        have g3 : X.grownBy w3 (some (W.heap.size + 1)) := grown_tr (HG2.out ()) (grown_of_below hb3 _)
        have r0 := (hb3.cell (p := ⟨X.heap.size, 0, none⟩) (by show X.heap.size < _; omega)).trans HP.out.1
        have r1 := (hb3.cell (p := ⟨X.heap.size, 1, none⟩) (by show X.heap.size < _; omega)).trans HP.out.2.1
        have r2 := (hb3.cell (p := ⟨X.heap.size, 2, none⟩) (by show X.heap.size < _; omega)).trans HP.out.2.2.1
        have rf := (hb3.frozen (p := ⟨X.heap.size, 2, none⟩) (by show X.heap.size < _; omega)).trans HP.out.2.2.2
        have cl3 := bL3.cell
        have fl3 := bL3.frozen
        have bL4 : Boxed ((w3.setCell ⟨W.heap.size + 1, 0, none⟩ (.int .i64 (x.deep : Int))).setCell ⟨X.heap.size, 2, none⟩ (.int .i64 1)) (W.heap.size + 1) 3 (.int .i64 (lstp (lfs 0 xs) x.say : Int)) := by
          have h1 := box_set bL3 (.int .i64 (x.deep : Int))
          have h2 := (Below.heap_setCell (w3.setCell ⟨W.heap.size + 1, 0, none⟩ (.int .i64 (x.deep : Int))) ⟨X.heap.size, 2, none⟩ (.int .i64 1) (W.heap.size + 1) (by show W.heap.size + 1 ≠ X.heap.size; omega)).trans h1
          rw [show lstp (lfs 0 xs) x.say = x.deep from hkk.2]; exact h2
        have g4 : X.grownBy ((w3.setCell ⟨W.heap.size + 1, 0, none⟩ (.int .i64 (x.deep : Int))).setCell ⟨X.heap.size, 2, none⟩ (.int .i64 1)) (some (W.heap.size + 1)) := grown_fresh (grown_tr g3 (grown_set _ _ _ _)) (Nat.le_refl _) _
        have hne4 : W.heap.size + 1 ≠ X.heap.size := by omega
        have q0 : ((w3.setCell ⟨W.heap.size + 1, 0, none⟩ (.int .i64 (x.deep : Int))).setCell ⟨X.heap.size, 2, none⟩ (.int .i64 1)).cell? ⟨X.heap.size, 0, none⟩ = some (.pointer (some ⟨x.b, x.o, none⟩)) := (World.cell?_setCell_other _ _ _ _ (by simp)).trans ((World.cell?_setCell_far _ _ _ _ hne4).trans r0)
        have q1 : ((w3.setCell ⟨W.heap.size + 1, 0, none⟩ (.int .i64 (x.deep : Int))).setCell ⟨X.heap.size, 2, none⟩ (.int .i64 1)).cell? ⟨X.heap.size, 1, none⟩ = some (.int .i64 (x.deep : Int)) := (World.cell?_setCell_other _ _ _ _ (by simp)).trans ((World.cell?_setCell_far _ _ _ _ hne4).trans r1)
        have q2 : ((w3.setCell ⟨W.heap.size + 1, 0, none⟩ (.int .i64 (x.deep : Int))).setCell ⟨X.heap.size, 2, none⟩ (.int .i64 1)).cell? ⟨X.heap.size, 2, none⟩ = some (.int .i64 1) := World.cell?_setCell_same' _ _ _ (by rw [World.cell?_setCell_far _ _ _ _ hne4, r2]; rfl)
        have cy4 := (grown_box g4 HI.out.yld (by omega)).cell
        have eo : lown (lfs 0 xs) x.say = 1 := hkk.1
        have hj4 := HI.out.mid hJ g4
        obtain ⟨fn, tmps, assign, body, hy0, hR⟩ := HY.out _ _ (qof (lfs 0 xs) x) ((w3.setCell ⟨W.heap.size + 1, 0, none⟩ (.int .i64 (x.deep : Int))).setCell ⟨X.heap.size, 2, none⟩ (.int .i64 1)) hj4 (by rw [qsOf_len]; exact hlt) ⟨hx.1.back hB4 (fun b hb => hU b hb), hx.2.q⟩
        have hy : (Instr.yield l #[.agg #[.pointer (some ⟨x.b, x.o, none⟩), .int .i64 (x.deep : Int), .int .i64 1]]).run Tryd.prog ((w3.setCell ⟨W.heap.size + 1, 0, none⟩ (.int .i64 (x.deep : Int))).setCell ⟨X.heap.size, 2, none⟩ (.int .i64 1)) = .ok (.round l fn tmps assign body) ((w3.setCell ⟨W.heap.size + 1, 0, none⟩ (.int .i64 (x.deep : Int))).setCell ⟨X.heap.size, 2, none⟩ (.int .i64 1)) := by
          have := hy0; unfold Qx.enc qof at this; rw [eo] at this; exact this
        have HG4 : Hid _ := fun (_ : Unit) => g4
        have HB4 : Hid _ := fun (_ : Unit) => bL4
        clear hy0 eo hj4 g4 bL4
        gi_wp2
        refine round_wide (hR.mono ?_)
        rintro e W5 (⟨rfl, hJ5, hK5⟩ | ⟨rfl, hJ5, hK5⟩)
        · have HF := HI.out.two hU (HG4.out ()) hK5
          have HN := HI.out.next hU (HG4.out ()) hxd (HB4.out ()) hJ5 hK5
          have HH : Hid _ := And.intro HF.1 (And.intro HF.2 HN)
          clear HF HN hJ5 hK5 HG4 HB4 hR hy
          gi_wp2
          rw [s4]; exact HH.out
        · have HF := HI.out.two hU (HG4.out ()) (hK5 trivial)
          have HH : Hid (Two (W.heap.size + 4) X W5 ∧ MX W Jx .ret A (xs ++ [x]) W5 ∧ (False → KeepU U A X W5)) := ⟨HF.1, ⟨rfl, by rw [qsOf_snoc]; exact hJ5⟩, fun h => h.elim⟩
          clear HF hJ5 hK5 HG4 HB4 hR hy
          gi_wp2
          rw [s4]; exact HH.out
      · have hre : (x.doc.rule == -1) = false := by simpa using hr
        have hkk := lown_no (k := lfs 0 xs) (m := x.deep) (d := x.doc) (fun h => hr h.2)
        rw [hre] at HLF
        have HR : Hid _ := hr
        clear hre hr
        gi_wp2_with (refine ⟨trivial, ?_⟩; gi_at_call 69; refine (CallsIn.inRound l' (callsIn_wide.2 (HLF.out ()))).mono ?_)
        first | rintro e w3 rfl hb3 | rintro e w3 ⟨rfl, hb3⟩
        rw [HX1.out] at hb3
        have hs3 := hb3.size
        have bL3 : Boxed w3 (W.heap.size + 1) 3 (.int .i64 0) := (hb3.block _ (by omega)).trans (HB2.out ())
        have g3 : X.grownBy w3 (some (W.heap.size + 1)) := grown_tr (HG2.out ()) (grown_of_below hb3 _)
        have r0 := (hb3.cell (p := ⟨X.heap.size, 0, none⟩) (by show X.heap.size < _; omega)).trans HP.out.1
        have r1 := (hb3.cell (p := ⟨X.heap.size, 1, none⟩) (by show X.heap.size < _; omega)).trans HP.out.2.1
        have r2 := (hb3.cell (p := ⟨X.heap.size, 2, none⟩) (by show X.heap.size < _; omega)).trans HP.out.2.2.1
        have rf := (hb3.frozen (p := ⟨X.heap.size, 2, none⟩) (by show X.heap.size < _; omega)).trans HP.out.2.2.2
        have cl3 := bL3.cell
        have fl3 := bL3.frozen
        have bL4 : Boxed w3 (W.heap.size + 1) 3 (.int .i64 (lstp (lfs 0 xs) x.say : Int)) := by
          rw [show lstp (lfs 0 xs) x.say = 0 from hkk.2.trans hc0]; exact bL3
        have g4 := g3
        have cy4 := (grown_box g4 HI.out.yld (by omega)).cell
        have eo : lown (lfs 0 xs) x.say = 0 := hkk.1
        have hj4 := HI.out.mid hJ g4
        obtain ⟨fn, tmps, assign, body, hy0, hR⟩ := HY.out _ _ (qof (lfs 0 xs) x) w3 hj4 (by rw [qsOf_len]; exact hlt) ⟨hx.1.back hB4 (fun b hb => hU b hb), hx.2.q⟩
        have hy : (Instr.yield l #[.agg #[.pointer (some ⟨x.b, x.o, none⟩), .int .i64 (x.deep : Int), .int .i64 0]]).run Tryd.prog w3 = .ok (.round l fn tmps assign body) w3 := by
          have := hy0; unfold Qx.enc qof at this; rw [eo] at this; exact this
        have HG4 : Hid _ := fun (_ : Unit) => g4
        have HB4 : Hid _ := fun (_ : Unit) => bL4
        clear hy0 eo hj4 g4 bL4
        gi_wp2
        refine round_wide (hR.mono ?_)
        rintro e W5 (⟨rfl, hJ5, hK5⟩ | ⟨rfl, hJ5, hK5⟩)
        · have HF := HI.out.two hU (HG4.out ()) hK5
          have HN := HI.out.next hU (HG4.out ()) hxd (HB4.out ()) hJ5 hK5
          have HH : Hid _ := And.intro HF.1 (And.intro HF.2 HN)
          clear HF HN hJ5 hK5 HG4 HB4 hR hy
          gi_wp2
          rw [s4]; exact HH.out
        · have HF := HI.out.two hU (HG4.out ()) (hK5 trivial)
          have HH : Hid (Two (W.heap.size + 4) X W5 ∧ MX W Jx .ret A (xs ++ [x]) W5 ∧ (False → KeepU U A X W5)) := ⟨HF.1, ⟨rfl, by rw [qsOf_snoc]; exact hJ5⟩, fun h => h.elim⟩
          clear HF hJ5 hK5 HG4 HB4 hR hy
          gi_wp2
          rw [s4]; exact HH.out
    · have hmI : ¬ ((x.deep : Int) ≤ (lfs 0 xs : Int)) := by omega
      have hcut : lcut (lfs 0 xs) x.deep = lfs 0 xs := by unfold lcut; rw [if_neg hm]
      have s2 : X1.heap.size = X.heap.size + 1 := s1
      by_cases h0k : lfs 0 xs = 0
      · have hc0 : lcut (lfs 0 xs) x.deep = 0 := hcut.trans h0k
        have bL2 : Boxed X1 (W.heap.size + 1) 3 (.int .i64 0) := by have := bL1; rw [h0k] at this; exact this
        have g2 := g1
        have hz : ((lfs 0 xs : Int) == 0) = true := by simp [h0k]
        have HK0 : Hid _ := h0k
        clear g1 bL1 h0k hcut
        have d0 : X1.cell? ⟨x.b, x.o, none⟩ = some (.int .i64 x.doc.rule) := (g2.cell_far ⟨x.b, x.o, none⟩ (by show x.b < _; omega) (fun e => by simp at e; omega)).trans c0
        have d1 : X1.cell? ⟨x.b, x.o + 1, none⟩ = some (.int .u8 (x.doc.byte.toNat : Int)) := (g2.cell_far ⟨x.b, x.o + 1, none⟩ (by show x.b < _; omega) (fun e => by simp at e; omega)).trans c1
        have d2 : X1.cell? ⟨x.b, x.o + 2, none⟩ = some (.slice sa x.doc.kids.length sc) := (g2.cell_far ⟨x.b, x.o + 2, none⟩ (by show x.b < _; omega) (fun e => by simp at e; omega)).trans c2
        have HLF : Hid _ := fun (_ : Unit) => isLeaf_any x.doc (.slice sa x.doc.kids.length sc) X1
        have cl2 := bL2.cell
        have fl2 := bL2.frozen
        have HB2 : Hid _ := fun (_ : Unit) => bL2
        have HG2 : Hid _ := fun (_ : Unit) => g2
        have HP : Hid _ := And.intro p0 (And.intro p1 (And.intro p2 pf))
        clear bL2 g2 c0 c1 c2 cl fl p0 p1 p2 pf
        clear cl2 fl2
        rw [← HX1.out] at d0 d1 d2 HLF
        by_cases hr : x.doc.rule = -1
        · have hre : (x.doc.rule == -1) = true := by simpa using hr
          have hkk := lown_one (k := lfs 0 xs) (m := x.deep) (d := x.doc) hc0 hr
          rw [hre] at HLF
          have HR : Hid _ := hr
          clear hre hr
          gi_wp2_with (refine ⟨trivial, ?_⟩; gi_at_call 69; refine (CallsIn.inRound l' (callsIn_wide.2 (HLF.out ()))).mono ?_)
          first | rintro e w3 rfl hb3 | rintro e w3 ⟨rfl, hb3⟩
          rw [HX1.out] at hb3
          try rw [← s2] at hb3
          have hs3 := hb3.size
          have bL3 : Boxed w3 (W.heap.size + 1) 3 (.int .i64 0) := (hb3.block _ (by omega)).trans (HB2.out ())
          have g3 : X.grownBy w3 (some (W.heap.size + 1)) := grown_tr (HG2.out ()) (grown_of_below hb3 _)
          have r0 := (hb3.cell (p := ⟨X.heap.size, 0, none⟩) (by show X.heap.size < _; omega)).trans HP.out.1
          have r1 := (hb3.cell (p := ⟨X.heap.size, 1, none⟩) (by show X.heap.size < _; omega)).trans HP.out.2.1
          have r2 := (hb3.cell (p := ⟨X.heap.size, 2, none⟩) (by show X.heap.size < _; omega)).trans HP.out.2.2.1
          have rf := (hb3.frozen (p := ⟨X.heap.size, 2, none⟩) (by show X.heap.size < _; omega)).trans HP.out.2.2.2
          have cl3 := bL3.cell
          have fl3 := bL3.frozen
          have bL4 : Boxed ((w3.setCell ⟨W.heap.size + 1, 0, none⟩ (.int .i64 (x.deep : Int))).setCell ⟨X.heap.size, 2, none⟩ (.int .i64 1)) (W.heap.size + 1) 3 (.int .i64 (lstp (lfs 0 xs) x.say : Int)) := by
            have h1 := box_set bL3 (.int .i64 (x.deep : Int))
            have h2 := (Below.heap_setCell (w3.setCell ⟨W.heap.size + 1, 0, none⟩ (.int .i64 (x.deep : Int))) ⟨X.heap.size, 2, none⟩ (.int .i64 1) (W.heap.size + 1) (by show W.heap.size + 1 ≠ X.heap.size; omega)).trans h1
            rw [show lstp (lfs 0 xs) x.say = x.deep from hkk.2]; exact h2
          have g4 : X.grownBy ((w3.setCell ⟨W.heap.size + 1, 0, none⟩ (.int .i64 (x.deep : Int))).setCell ⟨X.heap.size, 2, none⟩ (.int .i64 1)) (some (W.heap.size + 1)) := grown_fresh (grown_tr g3 (grown_set _ _ _ _)) (Nat.le_refl _) _
          have hne4 : W.heap.size + 1 ≠ X.heap.size := by omega
          have q0 : ((w3.setCell ⟨W.heap.size + 1, 0, none⟩ (.int .i64 (x.deep : Int))).setCell ⟨X.heap.size, 2, none⟩ (.int .i64 1)).cell? ⟨X.heap.size, 0, none⟩ = some (.pointer (some ⟨x.b, x.o, none⟩)) := (World.cell?_setCell_other _ _ _ _ (by simp)).trans ((World.cell?_setCell_far _ _ _ _ hne4).trans r0)
          have q1 : ((w3.setCell ⟨W.heap.size + 1, 0, none⟩ (.int .i64 (x.deep : Int))).setCell ⟨X.heap.size, 2, none⟩ (.int .i64 1)).cell? ⟨X.heap.size, 1, none⟩ = some (.int .i64 (x.deep : Int)) := (World.cell?_setCell_other _ _ _ _ (by simp)).trans ((World.cell?_setCell_far _ _ _ _ hne4).trans r1)
          have q2 : ((w3.setCell ⟨W.heap.size + 1, 0, none⟩ (.int .i64 (x.deep : Int))).setCell ⟨X.heap.size, 2, none⟩ (.int .i64 1)).cell? ⟨X.heap.size, 2, none⟩ = some (.int .i64 1) := World.cell?_setCell_same' _ _ _ (by rw [World.cell?_setCell_far _ _ _ _ hne4, r2]; rfl)
          have cy4 := (grown_box g4 HI.out.yld (by omega)).cell
          have eo : lown (lfs 0 xs) x.say = 1 := hkk.1
          have hj4 := HI.out.mid hJ g4
          obtain ⟨fn, tmps, assign, body, hy0, hR⟩ := HY.out _ _ (qof (lfs 0 xs) x) ((w3.setCell ⟨W.heap.size + 1, 0, none⟩ (.int .i64 (x.deep : Int))).setCell ⟨X.heap.size, 2, none⟩ (.int .i64 1)) hj4 (by rw [qsOf_len]; exact hlt) ⟨hx.1.back hB4 (fun b hb => hU b hb), hx.2.q⟩
          have hy : (Instr.yield l #[.agg #[.pointer (some ⟨x.b, x.o, none⟩), .int .i64 (x.deep : Int), .int .i64 1]]).run Tryd.prog ((w3.setCell ⟨W.heap.size + 1, 0, none⟩ (.int .i64 (x.deep : Int))).setCell ⟨X.heap.size, 2, none⟩ (.int .i64 1)) = .ok (.round l fn tmps assign body) ((w3.setCell ⟨W.heap.size + 1, 0, none⟩ (.int .i64 (x.deep : Int))).setCell ⟨X.heap.size, 2, none⟩ (.int .i64 1)) := by
            have := hy0; unfold Qx.enc qof at this; rw [eo] at this; exact this
          have HG4 : Hid _ := fun (_ : Unit) => g4
          have HB4 : Hid _ := fun (_ : Unit) => bL4
          clear hy0 eo hj4 g4 bL4
          gi_wp2
          refine round_wide (hR.mono ?_)
          rintro e W5 (⟨rfl, hJ5, hK5⟩ | ⟨rfl, hJ5, hK5⟩)
          · have HF := HI.out.two hU (HG4.out ()) hK5
            have HN := HI.out.next hU (HG4.out ()) hxd (HB4.out ()) hJ5 hK5
            have HH : Hid _ := And.intro HF.1 (And.intro HF.2 HN)
            clear HF HN hJ5 hK5 HG4 HB4 hR hy
            gi_wp2
            rw [s4]; exact HH.out
          · have HF := HI.out.two hU (HG4.out ()) (hK5 trivial)
            have HH : Hid (Two (W.heap.size + 4) X W5 ∧ MX W Jx .ret A (xs ++ [x]) W5 ∧ (False → KeepU U A X W5)) := ⟨HF.1, ⟨rfl, by rw [qsOf_snoc]; exact hJ5⟩, fun h => h.elim⟩
            clear HF hJ5 hK5 HG4 HB4 hR hy
            gi_wp2
            rw [s4]; exact HH.out
        · have hre : (x.doc.rule == -1) = false := by simpa using hr
          have hkk := lown_no (k := lfs 0 xs) (m := x.deep) (d := x.doc) (fun h => hr h.2)
          rw [hre] at HLF
          have HR : Hid _ := hr
          clear hre hr
          gi_wp2_with (refine ⟨trivial, ?_⟩; gi_at_call 69; refine (CallsIn.inRound l' (callsIn_wide.2 (HLF.out ()))).mono ?_)
          first | rintro e w3 rfl hb3 | rintro e w3 ⟨rfl, hb3⟩
          rw [HX1.out] at hb3
          try rw [← s2] at hb3
          have hs3 := hb3.size
          have bL3 : Boxed w3 (W.heap.size + 1) 3 (.int .i64 0) := (hb3.block _ (by omega)).trans (HB2.out ())
          have g3 : X.grownBy w3 (some (W.heap.size + 1)) := grown_tr (HG2.out ()) (grown_of_below hb3 _)
          have r0 := (hb3.cell (p := ⟨X.heap.size, 0, none⟩) (by show X.heap.size < _; omega)).trans HP.out.1
          have r1 := (hb3.cell (p := ⟨X.heap.size, 1, none⟩) (by show X.heap.size < _; omega)).trans HP.out.2.1
          have r2 := (hb3.cell (p := ⟨X.heap.size, 2, none⟩) (by show X.heap.size < _; omega)).trans HP.out.2.2.1
          have rf := (hb3.frozen (p := ⟨X.heap.size, 2, none⟩) (by show X.heap.size < _; omega)).trans HP.out.2.2.2
          have cl3 := bL3.cell
          have fl3 := bL3.frozen
          have bL4 : Boxed w3 (W.heap.size + 1) 3 (.int .i64 (lstp (lfs 0 xs) x.say : Int)) := by
            rw [show lstp (lfs 0 xs) x.say = 0 from hkk.2.trans hc0]; exact bL3
          have g4 := g3
          have cy4 := (grown_box g4 HI.out.yld (by omega)).cell
          have eo : lown (lfs 0 xs) x.say = 0 := hkk.1
          have hj4 := HI.out.mid hJ g4
          obtain ⟨fn, tmps, assign, body, hy0, hR⟩ := HY.out _ _ (qof (lfs 0 xs) x) w3 hj4 (by rw [qsOf_len]; exact hlt) ⟨hx.1.back hB4 (fun b hb => hU b hb), hx.2.q⟩
          have hy : (Instr.yield l #[.agg #[.pointer (some ⟨x.b, x.o, none⟩), .int .i64 (x.deep : Int), .int .i64 0]]).run Tryd.prog w3 = .ok (.round l fn tmps assign body) w3 := by
            have := hy0; unfold Qx.enc qof at this; rw [eo] at this; exact this
          have HG4 : Hid _ := fun (_ : Unit) => g4
          have HB4 : Hid _ := fun (_ : Unit) => bL4
          clear hy0 eo hj4 g4 bL4
          gi_wp2
          refine round_wide (hR.mono ?_)
          rintro e W5 (⟨rfl, hJ5, hK5⟩ | ⟨rfl, hJ5, hK5⟩)
          · have HF := HI.out.two hU (HG4.out ()) hK5
            have HN := HI.out.next hU (HG4.out ()) hxd (HB4.out ()) hJ5 hK5
            have HH : Hid _ := And.intro HF.1 (And.intro HF.2 HN)
            clear HF HN hJ5 hK5 HG4 HB4 hR hy
            gi_wp2
            rw [s4]; exact HH.out
          · have HF := HI.out.two hU (HG4.out ()) (hK5 trivial)
            have HH : Hid (Two (W.heap.size + 4) X W5 ∧ MX W Jx .ret A (xs ++ [x]) W5 ∧ (False → KeepU U A X W5)) := ⟨HF.1, ⟨rfl, by rw [qsOf_snoc]; exact hJ5⟩, fun h => h.elim⟩
            clear HF hJ5 hK5 HG4 HB4 hR hy
            gi_wp2
            rw [s4]; exact HH.out
      · have hz : ((lfs 0 xs : Int) == 0) = false := by simp [h0k]
        have hkk := lown_no (k := lfs 0 xs) (m := x.deep) (d := x.doc) (fun h => h0k (hcut ▸ h.1))
        clear cl fl c0 c1 c2
        have bL4 : Boxed X1 (W.heap.size + 1) 3 (.int .i64 (lstp (lfs 0 xs) x.say : Int)) := by
          rw [show lstp (lfs 0 xs) x.say = lfs 0 xs from hkk.2.trans hcut]; exact bL1
        have g4 := g1
        clear g1 bL1
        have cy4 := (grown_box g4 HI.out.yld (by omega)).cell
        have eo : lown (lfs 0 xs) x.say = 0 := hkk.1
        have hj4 := HI.out.mid hJ g4
        obtain ⟨fn, tmps, assign, body, hy0, hR⟩ := HY.out _ _ (qof (lfs 0 xs) x) X1 hj4 (by rw [qsOf_len]; exact hlt) ⟨hx.1.back hB4 (fun b hb => hU b hb), hx.2.q⟩
        have hy : (Instr.yield l #[.agg #[.pointer (some ⟨x.b, x.o, none⟩), .int .i64 (x.deep : Int), .int .i64 0]]).run Tryd.prog X1 = .ok (.round l fn tmps assign body) X1 := by
          have := hy0; unfold Qx.enc qof at this; rw [eo] at this; exact this
        have HG4 : Hid _ := fun (_ : Unit) => g4
        have HB4 : Hid _ := fun (_ : Unit) => bL4
        clear hy0 eo hj4 g4 bL4
        gi_wp2
        refine ⟨trivial, ?_⟩
        rw [HX1.out]
        clear cl1 fl1
        gi_wp2
        refine round_wide (hR.mono ?_)
        rintro e W5 (⟨rfl, hJ5, hK5⟩ | ⟨rfl, hJ5, hK5⟩)
        · have HF := HI.out.two hU (HG4.out ()) hK5
          have HN := HI.out.next hU (HG4.out ()) hxd (HB4.out ()) hJ5 hK5
          have HH : Hid _ := And.intro HF.1 (And.intro HF.2 HN)
          clear HF HN hJ5 hK5 HG4 HB4 hR hy
          gi_wp2
          rw [s4]; exact HH.out
        · have HF := HI.out.two hU (HG4.out ()) (hK5 trivial)
          have HH : Hid (Two (W.heap.size + 4) X W5 ∧ MX W Jx .ret A (xs ++ [x]) W5 ∧ (False → KeepU U A X W5)) := ⟨HF.1, ⟨rfl, by rw [qsOf_snoc]; exact hJ5⟩, fun h => h.elim⟩
          clear HF hJ5 hK5 HG4 HB4 hR hy
          gi_wp2
          rw [s4]; exact HH.out
  case done =>
    rintro D A xs X hD ⟨hS, hT⟩ hI hK
    have hj := hJ _ _ _ _ _ hI.j (iter_put (k := D) (.deferred none) (.inr (by omega))) adds_same
    have HF : Hid ((∃ A xs, (xs.map Qx.say = marks 0 (pre d 1) ∧ ∀ q ∈ xs, TreeIn W U f q.b q.o q.doc) ∧ J A xs (X.putObj D (.deferred none))) ∨ (∃ A xs, ((∃ r, xs.map Qx.say ++ r = marks 0 (pre d 1)) ∧ ∀ q ∈ xs, TreeIn W U f q.b q.o q.doc) ∧ Jx A xs (X.putObj D (.deferred none)))) :=
      .inl ⟨_, _, ⟨by rw [qsOf_say, hS], qsOf_told (fun y hy => (hT y hy).back hB4 hU)⟩, hj⟩
    clear hj hI hS hT hd4 hd hY h0
    gi_wp2
    refine ⟨by simp, .inl ⟨_, _, rfl, run_takeDeferred hK, ?_⟩⟩
    exact ⟨.tuple #[], by simp [results, Tryd.results68, go_sem], ⟨_, rfl⟩, HF.out⟩
  case stop =>
    rintro D c A xs X hD ⟨hS, hT⟩ ⟨rfl, hX⟩ hK
    have hj := hJx _ _ _ _ _ hX (iter_put (k := D) (.deferred none) (.inr (by omega))) adds_same
    have HF : Hid ((∃ A xs, (xs.map Qx.say = marks 0 (pre d 1) ∧ ∀ q ∈ xs, TreeIn W U f q.b q.o q.doc) ∧ J A xs (X.putObj D (.deferred none))) ∨ (∃ A xs, ((∃ r, xs.map Qx.say ++ r = marks 0 (pre d 1)) ∧ ∀ q ∈ xs, TreeIn W U f q.b q.o q.doc) ∧ Jx A xs (X.putObj D (.deferred none)))) := by
      obtain ⟨r, hr⟩ := hS
      obtain ⟨k', hk'⟩ := marks_append 0 (xs.map Px.say) r
      exact .inr ⟨_, _, ⟨⟨marks k' r, by rw [qsOf_say, ← hr, hk']⟩, qsOf_told (fun y hy => (hT y hy).back hB4 hU)⟩, hj⟩
    clear hj hX hS hT hd4 hd hY h0
    gi_wp2
    refine ⟨by simp, .inl ⟨_, _, rfl, run_takeDeferred hK, ?_⟩⟩
    exact ⟨.tuple #[], by simp [results, Tryd.results68, go_sem], ⟨_, rfl⟩, HF.out⟩
/-- What the iterator promises. -/
theorem tparts_seq (n : Nat) (hn : 5 ≤ n) (tb : Nat) (U : Nat → Prop) (f : Nat) (d : Tr) (w : World) (hU : ∀ b, U b → b < w.heap.size) (hd : TreeIn w U f tb 0 d) (hlen : (pre d 1).length ≤ 1000000000000) :
    SeqG True Fence.wide n Tryd.prog 68 #[.pointer (some ⟨tb, 0, none⟩)] Qx.enc U (fun _ => False) (fun l x => TreeIn w U f x.b x.o x.doc ∧ QFirsts d l x) (fun xs => xs.map Qx.say = marks 0 (pre d 1) ∧ ∀ q ∈ xs, TreeIn w U f q.b q.o q.doc) (fun xs => (∃ r, xs.map Qx.say ++ r = marks 0 (pre d 1)) ∧ ∀ q ∈ xs, TreeIn w U f q.b q.o q.doc) 1000000000000 w := by
  intro l J Jx W hW hJ hJx hY h0
  have hsz := hW.size
  refine (tparts_in n hn l tb U f d J Jx W (fun b hb => Nat.lt_of_lt_of_le (hU b hb) hsz) hJ hJx (hd.keep (Ab.of_below hW hU)) hlen (fun A pre x W1 hj hl hx => hY A pre x W1 hj hl ⟨hx.1.back hW hU, hx.2⟩) h0).mono ?_
  rintro e W' ⟨hv, ⟨A, xs, ⟨he, ht⟩, hj⟩ | ⟨A, xs, ⟨he, ht⟩, hj⟩⟩
  · exact ⟨hv, .inl ⟨A, xs, ⟨he, fun x hx => (ht x hx).back hW hU⟩, hj⟩⟩
  · exact ⟨hv, .inr ⟨A, xs, ⟨he, fun x hx => (ht x hx).back hW hU⟩, hj⟩⟩
end Go.Proofs.YtlnlkbkmnkjbhaaDoor
