/- How many parts a term has, and how deep it is: kin.Size. -/
import Derived.Test.YtlkcadibjmfmcaaDoorI5
import Derived.BigQuiet
import Derived.Deep.QuietTactic
namespace Go.Proofs.YtlkcadibjmfmcaaDoor
open Go.RowKit Go.Shelf

attribute [local go_sem] Oper.semAt_some

theorem cell_new {w : World} {cs : Array Value} {t : TypeId} {v : Value} (k : Nat) (h : cs[k]? = some v) : (w.alloc (.cells cs t)).cell? ⟨w.heap.size, k, none⟩ = some v := by
  rw [World.cell?_alloc_at _ _ _ _ rfl]; simpa using h
theorem grown_set (W : World) (b o : Nat) (u : Value) : W.grownBy (W.setCell ⟨b, o, none⟩ u) (some b) := ⟨rfl, rfl, rfl, by simp [World.setCell], fun k _ hne => Below.heap_setCell W ⟨b, o, none⟩ u k (fun e => hne (by rw [e]))⟩
theorem box_set {W : World} {B : Nat} {t : TypeId} {v : Value} (h : Boxed W B t v) (u : Value) : Boxed (W.setCell ⟨B, 0, none⟩ u) B t u := by
  have := heap_setCell_same W B 0 #[v] t u h
  simpa [Boxed] using this
theorem box_other {W : World} {B b : Nat} {t : TypeId} {v : Value} (h : Boxed W B t v) (u : Value) (hne : B ≠ b) : Boxed (W.setCell ⟨b, 0, none⟩ u) B t v := (Below.heap_setCell W ⟨b, 0, none⟩ u B hne).trans h
/-- A value that is a text. -/
def Txt (w : World) (B : Nat) (v : Value) (t : List UInt8) : Prop := ∃ ta tc, v = .slice ta t.length tc ∧ t.length ≤ tc ∧ t.length ≤ 140737488355328 ∧ BAt w B ta t
theorem Txt.keep {w w' : World} {B : Nat} {v : Value} {t : List UInt8} (h : Txt w B v t) (hb : Below B w w') : Txt w' B v t := by
  obtain ⟨ta, tc, h1, h2, h3, h4⟩ := h
  exact ⟨ta, tc, h1, h2, h3, h4.keep (fun b q hlt => hb.cell (p := ⟨b, q, none⟩) hlt)⟩
theorem Txt.mono {w : World} {B B' : Nat} {v : Value} {t : List UInt8} (h : Txt w B v t) (hb : B ≤ B') : Txt w B' v t := by
  obtain ⟨ta, tc, h1, h2, h3, h4⟩ := h
  exact ⟨ta, tc, h1, h2, h3, h4.mono hb⟩
theorem Txt.cell {w : World} {B B' : Nat} {v : Value} {t : List UInt8} (h : Txt w B v t) (hB : B ≤ B') {p : Addr} (hp : w.cell? p = some v) : TxC w B' p t := by
  obtain ⟨ta, tc, rfl, h2, h3, h4⟩ := h
  exact ⟨ta, tc, hp, h2, h3, h4.mono hB⟩
/-- The greatest depth among parts. -/
def mx (l : List (Tm × Nat)) : Nat := l.foldl (fun m p => max m p.2) 0
theorem mx_snoc (l : List (Tm × Nat)) (p : Tm × Nat) : mx (l ++ [p]) = max (mx l) p.2 := by simp [mx]
/-- While one goes through: so many have come, and that is the deepest of them. -/
structure ZI (w wd : World) (A : Nat → Prop) (xs : List Px) (W : World) : Prop where
  cnt : Boxed W (w.heap.size + 1) 3 (.int .i64 (xs.length : Int))
  top : Boxed W (w.heap.size + 1 + 1) 3 (.int .i64 (mx (xs.map Px.say) : Int))
  ab : ∀ b, A b → w.heap.size + 3 ≤ b
  bel : Below (w.heap.size + 1) wd W
theorem ZI.stays (w wd : World) : Stays (ZI w wd) := by
  intro A A' xs X Y h hi ha
  have hl := box_lt h.cnt
  have hlr := box_lt h.top
  have hk : ∀ b, b < w.heap.size + 3 → b < X.heap.size → Y.heap[b]? = X.heap[b]? := fun b hb hx => hi.keep b hx (fun hA => by have := h.ab b hA; omega)
  refine ⟨(hk _ (by omega) hl).trans h.cnt, (hk _ (by omega) hlr).trans h.top, fun b hb => ?_, ⟨hi.os.trans h.bel.os, hi.tape.trans h.bel.tape, hi.output.trans h.bel.output, Nat.le_trans h.bel.size hi.size, fun b hb => (hk b (by omega) (by omega)).trans (h.bel.block b hb)⟩⟩
  rcases ha b hb with h' | h'
  · exact h.ab b h'
  · omega
theorem ZI.noMind (w wd : World) {B : Nat} (hB : w.heap.size + 3 ≤ B) : NoMind B (ZI w wd) := by
  intro A xs W l o o' h hl _ _
  have hk : ∀ b, b < w.heap.size + 3 → (W.putObj l o').heap[b]? = W.heap[b]? := fun b hb => World.putObj_heap_other (by omega)
  exact ⟨(hk _ (by omega)).trans h.cnt, (hk _ (by omega)).trans h.top, h.ab, ⟨h.bel.os, h.bel.tape, h.bel.output, by simpa using h.bel.size, fun b hb => (hk b (by omega)).trans (h.bel.block b hb)⟩⟩
/-- No round ends before its time. -/
def ZX : Code → (Nat → Prop) → List Px → World → Prop := fun _ _ _ _ => False

set_option maxRecDepth 100000 in
set_option maxHeartbeats 4000000 in
theorem kinSize_any (d : Tm) (tv : Value) (sa : Option Addr) (sc f : Nat) (w : World) (htv : Txt w w.heap.size tv d.text) (hk : MAt w w.heap.size f sa d.kids) (hsc : d.kids.length ≤ sc) (hlen : (pre d 1).length ≤ 1000000000000) :
    Calls Tryd.prog 35 #[.agg #[.int .i64 d.kind, .string d.cons, tv, .slice sa d.kids.length sc], .func (.func 36) #[] #[]] w fun e w' => e = .returned (.tuple #[.int .i64 ((pre d 1).length : Int), .int .i64 (mx (pre d 1) : Int)]) ∧ Below w.heap.size w w' := by
  refine (callsIn_wide (n := 3)).1 ?_
  refine callsIn_of_wp_marks Tryd.func35 rfl trivial ?_ rfl
  simp only [Tryd.ntmps35, List.size_toArray, List.length_cons, List.length_nil, Nat.reduceAdd, Nat.reduceSub, Array.replicate_succ, Array.replicate_zero, List.push_toArray, List.append_toArray, List.nil_append, List.cons_append]
  obtain ⟨w1, hw1⟩ : ∃ w1, w.alloc (.cells #[.int .i64 d.kind, .string d.cons, tv, .slice sa d.kids.length sc] 25) = w1 := ⟨_, rfl⟩
  have s1 : w1.heap.size = w.heap.size + 1 := by rw [← hw1]; simp
  have hB1 : Below w.heap.size w w1 := by rw [← hw1]; exact (Below.refl _ _).alloc (Nat.le_refl _) _
  have hd1 : TermAt w1 (w.heap.size + 1) f w.heap.size 0 d := ⟨by omega, sa, sc, by rw [← hw1]; exact cell_new 0 rfl, by rw [← hw1]; exact cell_new 1 rfl, (htv.keep hB1).cell (by omega) (by rw [← hw1]; exact cell_new 2 rfl), by rw [← hw1]; exact cell_new 3 rfl, hsc, (hk.keep hB1).mono (by omega)⟩
  gi_wp2_with (refine ⟨trivial, ?_⟩; gi_at_call 37; refine (callsIn_wide.2 (parts_any _ _)).mono ?_; rintro e w' ⟨rfl, rfl⟩)
  have bC := (((Boxed.new w1 3 (.int .i64 0)).alloc (.cells #[.int .i64 0] 3)).alloc (.cells #[.pointer (some ⟨w.heap.size, 0, none⟩)] 62)).alloc (.cells #[.func (.func 36) #[] #[]] 81)
  have bT := ((Boxed.new (w1.alloc (.cells #[.int .i64 0] 3)) 3 (.int .i64 0)).alloc (.cells #[.pointer (some ⟨w.heap.size, 0, none⟩)] 62)).alloc (.cells #[.func (.func 36) #[] #[]] 81)
  have b1 := (Boxed.new ((w1.alloc (.cells #[.int .i64 0] 3)).alloc (.cells #[.int .i64 0] 3)) 62 (.pointer (some ⟨w.heap.size, 0, none⟩))).alloc (.cells #[.func (.func 36) #[] #[]] 81)
  have b2 := Boxed.new (((w1.alloc (.cells #[.int .i64 0] 3)).alloc (.cells #[.int .i64 0] 3)).alloc (.cells #[.pointer (some ⟨w.heap.size, 0, none⟩)] 62)) 81 (.func (.func 36) #[] #[])
  obtain ⟨w5, hw5⟩ : ∃ w5, (((w1.alloc (.cells #[.int .i64 0] 3)).alloc (.cells #[.int .i64 0] 3)).alloc (.cells #[.pointer (some ⟨w.heap.size, 0, none⟩)] 62)).alloc (.cells #[.func (.func 36) #[] #[]] 81) = w5 := ⟨_, rfl⟩
  have s5 : w5.heap.size = w.heap.size + 5 := by rw [← hw5]; simp [s1]
  have hB5 : Below w1.heap.size w1 w5 := by rw [← hw5]; exact ((((Below.refl _ _).alloc (Nat.le_refl _) _).alloc (by simp) _).alloc (by simp; omega) _).alloc (by simp; omega) _
  simp only [World.size_alloc, s1] at bC bT b1 b2
  rw [hw5] at bC bT b1 b2
  rw [hw5]
  have hd5 : TermAt w5 (w.heap.size + 1) f w.heap.size 0 d := hd1.keep (by rw [← s1]; exact hB5)
  have hBw : Below w.heap.size w w5 := hB1.trans (hB5.mono (by omega))
  clear hw5 hd1 hB5 hB1 hw1
  refine range_law (F := Fence.wide) rfl (by omega) (gf := 56) (lb := #[.pointer (some ⟨w.heap.size + 1 + 1 + 1, 0, none⟩), .pointer (some ⟨w.heap.size + 1 + 1 + 1 + 1, 0, none⟩)]) rfl trivial (enters_of Tryd.func56 (by kernel_rfl) rfl)
    (parts_seq (3 - 1) (by omega) (w.heap.size + 1 + 1 + 1) (w.heap.size + 1 + 1 + 1 + 1) (w.heap.size + 1) f w.heap.size 0 d w5 (by omega) hd5 hlen (by omega) (by omega) b1.cell b2.cell) (by omega) (fun b hb => by rcases hb with rfl | rfl <;> omega) (Below.refl _ _) (fun _ => rfl)
    (ZI w w5) ZX (ZI.stays w w5) (ZI.noMind w w5 (by omega)) (fun _ _ _ _ _ _ h => h.elim) (fun _ _ _ _ _ _ _ h => h.elim)
    ⟨bC, bT, fun b hb => (by rcases hb with rfl | rfl <;> omega), Below.refl _ _⟩
    (fun x => { tmps := #[.agg #[.int .i64 d.kind, .string d.cons, tv, .slice sa d.kids.length sc], .func (.func 36) #[] #[], .pointer (some ⟨w.heap.size, 0, none⟩), undef, .int .i64 0, .int .i64 0, .pointer (some ⟨w.heap.size + 1, 0, none⟩), .pointer (some ⟨w.heap.size + 1 + 1, 0, none⟩), undef, .int .i64 (x.deep : Int), .func (.func 36) #[] #[], .func (.func 56) #[] #[.pointer (some ⟨w.heap.size + 1 + 1 + 1, 0, none⟩), .pointer (some ⟨w.heap.size + 1 + 1 + 1 + 1, 0, none⟩)], .pointer (some ⟨x.b, x.o, none⟩), .int .i64 (x.deep : Int), undef, undef, undef, undef, undef, undef, undef], defers := [] }) ?assign ?body ?done ?stop
  case assign =>
    intro l x W K hK
    unfold Px.enc
    gi_wp2
    exact hK
  case body =>
    intro l A xs x W hI hlt hx hA
    have cc := hI.cnt.cell
    have cf := hI.cnt.frozen
    obtain ⟨W2, hW2⟩ : ∃ W2, W.setCell ⟨w.heap.size + 1, 0, none⟩ (.int .i64 ((xs.length : Int) + 1)) = W2 := ⟨_, rfl⟩
    have hbel2 : Below (w.heap.size + 1) w5 W2 := by rw [← hW2]; exact hI.bel.setCell (Nat.le_refl _) _
    have bC2 : Boxed W2 (w.heap.size + 1) 3 (.int .i64 ((xs.length : Int) + 1)) := by rw [← hW2]; exact box_set hI.cnt _
    have bT2 : Boxed W2 (w.heap.size + 1 + 1) 3 (.int .i64 (mx (xs.map Px.say) : Int)) := by rw [← hW2]; exact box_other hI.top _ (by omega)
    have hg2 : W.grownBy W2 (some (w.heap.size + 1)) := by rw [← hW2]; exact grown_set _ _ _ _
    have ct := bT2.cell
    have tf := bT2.frozen
    have hmid : ∀ b, A b → w.heap.size + 3 ≤ b := hI.ab
    have hb2 : Below (w.heap.size + 1) W W2 := by rw [← hW2]; exact (Below.refl (w.heap.size + 1) W).setCell (p := ⟨w.heap.size + 1, 0, none⟩) (Nat.le_refl (w.heap.size + 1)) _
    have HRI : Hid (∀ W3 m, m = ((mx ((xs ++ [x]).map Px.say) : Nat) : Int) → W3 = W2.setCell ⟨w.heap.size + 1 + 1, 0, none⟩ (.int .i64 m) → KeepsFrom (w.heap.size + 5) W W3 ∧ Keep (w.heap.size + 1) A W W3 ∧ ZI w w5 A (xs ++ [x]) W3) := fun W3 m hm hW3 => by
      subst hW3
      subst hm
      have hg3 := grown_set W2 (w.heap.size + 1 + 1) 0 (.int .i64 ((mx ((xs ++ [x]).map Px.say) : Nat) : Int))
      have hb3 : Below (w.heap.size + 1) W2 (W2.setCell ⟨w.heap.size + 1 + 1, 0, none⟩ (.int .i64 ((mx ((xs ++ [x]).map Px.say) : Nat) : Int))) := (Below.refl _ _).setCell (by show _ ≤ w.heap.size + 1 + 1; omega) _
      have hs2 := hg2.size
      refine ⟨(KeepsFrom.of_grownBy hg2 (fun j hj => by cases hj; omega)).trans (KeepsFrom.of_grownBy hg3 (fun j hj => by cases hj; omega)), ⟨hb2.trans hb3, fun b hb hlt' => (hg3.block b (by omega) (fun e => by cases e; have := hmid _ hb; omega)).trans (hg2.block b hlt' (fun e => by cases e; have := hmid _ hb; omega))⟩, ?_, box_set bT2 _, hmid, hbel2.trans hb3⟩
      rw [List.length_append]
      push_cast
      exact box_other bC2 _ (by omega)
    have hmx : mx ((xs ++ [x]).map Px.say) = max (mx (xs.map Px.say)) x.deep := by rw [List.map_append]; exact mx_snoc _ _
    rw [hmx] at HRI
    clear hb2 hbel2 bC2 bT2 hg2 hx hI hmid hA hmx
    generalize mx (xs.map Px.say) = m at *
    gi_wp2
    all_goals (refine HRI.out _ _ ?_ rfl; omega)
  case done =>
    rintro D A xs W hD ⟨hS, _⟩ hI hK
    have cc := hI.cnt.cell
    have ct := hI.top.cell
    have hl : (pre d 1).length = xs.length := by rw [← hS]; simp
    rw [hS] at ct
    rw [← hl] at cc
    have HB : Hid (∀ nq, Below w.heap.size w ((W.drewN nq).putObj D (.deferred none))) := fun nq => by
      have h1 := hBw.trans (hI.bel.mono (by omega))
      exact ⟨h1.os, h1.tape, h1.output, by simpa using h1.size, fun b hb => (World.putObj_heap_other (by omega)).trans (h1.block b hb)⟩
    have HK : Hid (∀ nq, (W.drewN nq).heap[D]? = some (.deferred (some []))) := fun nq => hK
    clear hI hS hK hl bC bT b1 b2 hd5
    gi_wp2
    gi_quiet (fail)
    gi_wp2
    refine ⟨by simp, .inl ⟨_, _, rfl, run_takeDeferred (HK.out nq), ?_⟩⟩
    exact ⟨_, by simp [results, Tryd.results35, go_sem], rfl, HB.out nq⟩
  case stop =>
    rintro D c A xs W hD ⟨hS, _⟩ hX hK
    exact hX.elim
end Go.Proofs.YtlkcadibjmfmcaaDoor
