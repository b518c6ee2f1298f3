/- A region in a round is a region, where nothing is deferred. -/
import Derived.Test.YtbmejfcbladofaaV2
namespace Go.Proofs.Ytbmejfcbladofaa
open Go.RowKit Go.Shelf

def noDefer (ops : Array Oper) : Bool := ops.toList.all fun o => match o.op with | .defer _ => false | _ => true
theorem noDefer_spec {ops : Array Oper} (h : noDefer ops = true) : ∀ (j : Nat) (o : Oper) c, ops[j]? = some o → o.op ≠ .defer c := by
  intro j o c hj he
  unfold noDefer at h
  have := List.all_eq_true.1 h o (by simpa using Array.mem_of_getElem? hj)
  rw [he] at this
  cases this
section
variable {F : Fence} {n : Nat} {P : Program} {ops : Array Oper} {Q : Exit → Act → World → Prop}
theorem upon_round (l : Nat) (o : Oper) (a : Act) (K : Act → World → Prop) (r : Result Next) : o.uponIn (F.inRound l) n P a K Q r = o.uponIn F n P a K Q r := by
  rcases r with ⟨x, w⟩ | ⟨x, w⟩
  · cases x <;> rfl
  · cases x <;> rfl
theorem wp_round (l : Nat) (o : Oper) (a : Act) (w : World) (K : Act → World → Prop) (h : ∀ c, o.op ≠ .defer c) : o.wpIn (F.inRound l) n P a w K Q = o.wpIn F n P a w K Q := by
  unfold Oper.wpIn
  rw [upon_round, Oper.semAt_eq _ _ _ h, Oper.semAt_eq _ _ _ h]
  rfl
theorem op_round (l : Nat) (hops : ∀ (j : Nat) (o : Oper) c, ops[j]? = some o → o.op ≠ .defer c) (i : Nat) (K : Act → World → Prop) (a : Act) (w : World) : wpOpIn (F.inRound l) n P ops Q i K a w = wpOpIn F n P ops Q i K a w := by
  unfold wpOpIn
  cases ho : ops[i]? with
  | none => rfl
  | some o => simp only [wp_round l o a w K (fun c => hops i o c ho)]; rfl
theorem any_round (l : Nat) {md : Region.Mode} (hops : ∀ (j : Nat) (o : Oper) c, ops[j]? = some o → o.op ≠ .defer c) : ∀ (fuel : Nat) (listed : Array Bool) (a : Act) (w : World), wpAnyIn F n P md ops Q fuel listed a w → wpAnyIn (F.inRound l) n P md ops Q fuel listed a w := by
  intro fuel
  induction fuel with
  | zero => intro listed a w h; exact h
  | succ fuel ih =>
    intro listed a w h
    refine ⟨h.1, fun i hi => ?_⟩
    rw [op_round l hops]
    exact wpOpIn_mono (fun a' w' h' => ih _ a' w' h') (h.2 i hi)
theorem region_round (l id : Nat) {a : Act} {w : World} (hm : P.follows .mixedOrders = true) (hops : ∀ (j : Nat) (o : Oper) c, ops[j]? = some o → o.op ≠ .defer c)
    (h : wpAnyIn F n P .any ops Q ops.size (Array.replicate ops.size false) a { w with drawn := w.drawn + 1 }) : (Code.region id ops true).wpIn (F.inRound l) n P Q a w :=
  wpIn_region_any hm (any_round l hops _ _ _ _ h)
end
theorem set3 (cur : Array Value) (i : Nat) (b n h : Value) (hs : i * 3 + 2 < cur.size) : (((cur.setIfInBounds (i * 3) b).setIfInBounds (i * 3 + 1) n).setIfInBounds (i * 3 + 2) h)[i * 3]? = some b ∧ (((cur.setIfInBounds (i * 3) b).setIfInBounds (i * 3 + 1) n).setIfInBounds (i * 3 + 2) h)[i * 3 + 1]? = some n ∧ (((cur.setIfInBounds (i * 3) b).setIfInBounds (i * 3 + 1) n).setIfInBounds (i * 3 + 2) h)[i * 3 + 2]? = some h ∧ ∀ q, (i + 1) * 3 ≤ q → (((cur.setIfInBounds (i * 3) b).setIfInBounds (i * 3 + 1) n).setIfInBounds (i * 3 + 2) h)[q]? = cur[q]? := by
  have h1 : i * 3 < cur.size := by omega
  have h2 : i * 3 + 1 < cur.size := by omega
  refine ⟨by simp [h1], by simp [h2], by simp [hs], fun q hq => ?_⟩
  rw [Array.getElem?_setIfInBounds_ne (by omega), Array.getElem?_setIfInBounds_ne (by omega), Array.getElem?_setIfInBounds_ne (by omega)]
theorem NI.next {w : World} {l : List Th} {sb fb : Nat} {A : Nat → Prop} {xs : List (Nat × Th)} {W : World} (h : NI w l sb fb A xs W) (i : Nat) (t : Th) (hx : xs.length + i + 1 = l.length) (w' : World) (hb : Below W.heap.size W w') (hs : sb < fb) (hw : w.heap.size ≤ sb) (B : Nat) (hB : fb < B) (W' : World)
    (hW' : ((w'.setCell ⟨sb, i * 3, none⟩ (.int .i64 ((sr (l.drop i)).b : Int))).setCell ⟨sb, i * 3 + 1, none⟩ (.int .i64 ((sr (l.drop i)).n : Int))).setCell ⟨sb, i * 3 + 2, none⟩ (.int .i64 ((sr (l.drop i)).h : Int)) = W') :
    KeepsFrom B W W' ∧ Keep w.heap.size A W W' ∧ NI w l sb fb A (xs ++ [(i, t)]) W' := by
  obtain ⟨cur, h1, h2, h3⟩ := h.row
  have hsl := (Array.getElem?_eq_some_iff.1 h1).1
  have hfl := box_lt h.bx
  have hk : ∀ b, b ≠ sb → W'.heap[b]? = w'.heap[b]? := fun b hne => by
    rw [← hW']
    exact ((Below.heap_setCell _ ⟨sb, i * 3 + 2, none⟩ _ b hne).trans (Below.heap_setCell _ ⟨sb, i * 3 + 1, none⟩ _ b hne)).trans (Below.heap_setCell _ ⟨sb, i * 3, none⟩ _ b hne)
  have hsz : W'.heap.size = w'.heap.size := by rw [← hW']; simp [World.setCell]
  have hblk := blk_set (blk_set (blk_set ((hb.block sb hsl).trans h1) (i * 3) (.int .i64 ((sr (l.drop i)).b : Int))) (i * 3 + 1) (.int .i64 ((sr (l.drop i)).n : Int))) (i * 3 + 2) (.int .i64 ((sr (l.drop i)).h : Int))
  rw [hW'] at hblk
  have hos : W'.os = W.os ∧ W'.tape = W.tape ∧ W'.output = W.output := by rw [← hW']; exact ⟨hb.os, hb.tape, hb.output⟩
  have hg : W.grownBy W' (some sb) := ⟨hos.1, hos.2.1, hos.2.2, by rw [hsz]; exact hb.size, fun k hk1 hne => (hk k (fun e => hne (by rw [e]))).trans (hb.block k hk1)⟩
  have hbel : Below w.heap.size W W' := ⟨hos.1, hos.2.1, hos.2.2, by rw [hsz]; exact hb.size, fun k hk1 => (hk k (by omega)).trans (hb.block k (by omega))⟩
  obtain ⟨s0, s1, s2, s3⟩ := set3 cur i (.int .i64 ((sr (l.drop i)).b : Int)) (.int .i64 ((sr (l.drop i)).n : Int)) (.int .i64 ((sr (l.drop i)).h : Int)) (by omega)
  refine ⟨KeepsFrom.of_grownBy hg (fun j hj => by cases hj; omega), ⟨hbel, fun b hA hlt => hg.block b hlt (fun e => by cases e; have := h.ab _ hA; omega)⟩, ⟨(hk fb (by omega)).trans ((hb.block fb hfl).trans h.bx), ⟨_, hblk, by simpa using h2, fun j hj hj2 => ?_⟩, by simp; omega, h.ab, h.bel.trans hbel⟩⟩
  simp only [List.length_append, List.length_cons, List.length_nil] at hj2
  by_cases e : j = i
  · subst e; exact ⟨s0, s1, s2⟩
  · rw [s3 _ (by omega), s3 _ (by omega), s3 _ (by omega)]
    exact h3 j hj (by omega)
end Go.Proofs.Ytbmejfcbladofaa
