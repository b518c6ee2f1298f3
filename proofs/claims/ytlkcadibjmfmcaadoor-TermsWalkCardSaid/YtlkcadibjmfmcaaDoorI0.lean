/- Going through what an iterator tells that keeps lists of its own: what it promises, and the law for who goes through. -/
import Derived.RangeFuncNested
namespace Go.Proofs.YtlkcadibjmfmcaaDoor
open Go.RowKit

/-- The world is as it was, but for the blocks of A and new ones. -/
structure Iter (A : Nat → Prop) (W W' : World) : Prop where
  os : W'.os = W.os
  tape : W'.tape = W.tape
  output : W'.output = W.output
  size : W.heap.size ≤ W'.heap.size
  keep : ∀ b, b < W.heap.size → ¬ A b → W'.heap[b]? = W.heap[b]?
theorem Iter.refl (A : Nat → Prop) (W : World) : Iter A W W := ⟨rfl, rfl, rfl, Nat.le_refl _, fun _ _ _ => rfl⟩
theorem Iter.of_below {A : Nat → Prop} {W W' : World} (h : Below W.heap.size W W') : Iter A W W' := ⟨h.os, h.tape, h.output, h.size, fun b hb _ => h.block b hb⟩
theorem Iter.of_grown {A : Nat → Prop} {W W' : World} {row : Option Nat} (h : W.grownBy W' row) (hr : ∀ b, row = some b → A b) : Iter A W W' := ⟨h.os, h.tape, h.output, h.size, fun b hb hA => h.block b hb (fun e => hA (hr b e.symm))⟩
/-- What is in A' was in A, or is new. -/
def Adds (A A' : Nat → Prop) (X Y : World) : Prop := ∀ b, A' b → A b ∨ (X.heap.size ≤ b ∧ b < Y.heap.size)
/-- What is so stays so, whatever is done to the blocks of A. -/
def Stays {β : Type} (J : (Nat → Prop) → β → World → Prop) : Prop := ∀ A A' s X Y, J A s X → Iter A X Y → Adds A A' X Y → J A' s Y
/-- What a round that goes on keeps: what lies below n₀, and the blocks of A. -/
def Keep (n₀ : Nat) (A : Nat → Prop) (W W' : World) : Prop := Below n₀ W W' ∧ ∀ b, A b → b < W.heap.size → W'.heap[b]? = W.heap[b]?
theorem Keep.trans {n₀ : Nat} {A : Nat → Prop} {X Y Z : World} (h : Keep n₀ A X Y) (k : Keep n₀ A Y Z) : Keep n₀ A X Z :=
  ⟨h.1.trans k.1, fun b hA hb => (k.2 b hA (Nat.lt_of_lt_of_le hb h.1.size)).trans (h.2 b hA hb)⟩
theorem Keep.put {n₀ : Nat} {A : Nat → Prop} {W : World} {l : Nat} (o : Obj) (h0 : n₀ ≤ l) (hA : ¬ A l) : Keep n₀ A W (W.putObj l o) :=
  ⟨⟨rfl, rfl, rfl, by simp, fun k hk => World.putObj_heap_other (by omega)⟩, fun b hb _ => World.putObj_heap_other (fun e => hA (e ▸ hb))⟩
/-- The promise of an iterator that turns blocks of its own alone. -/
def SeqI {α : Type} (F : Fence) (n : Nat) (P : Program) (g : Nat) (lb : Array Value) (encs : α → Array Value) (n₀ : Nat) (A0 : Nat → Prop) (T : α → Prop) (S Sp : List α → Prop) (N : Nat) (w : World) : Prop :=
  ∀ (l : Nat) (J Jx : (Nat → Prop) → List α → World → Prop) (W : World), Below w.heap.size w W → Stays J → Stays Jx →
    (∀ A pre x W1, J A pre W1 → pre.length < N → T x → YieldAt F (n - 1) P l (encs x) W1 fun e W' =>
      (e = .returned (.bool true) ∧ J A (pre ++ [x]) W' ∧ Keep n₀ A W1 W') ∨ (e = .returned (.bool false) ∧ Jx A (pre ++ [x]) W')) →
    J A0 [] W →
    CallsIn F n P g (#[.func (.yield l) #[] #[]] ++ lb) W fun e W' => (∃ v, e = .returned v) ∧ ((∃ A xs, S xs ∧ J A xs W') ∨ (∃ A pre, Sp pre ∧ Jx A pre W'))
/-- How a round may end. -/
def RPost {α : Type} (B n₀ : Nat) (I : (Nat → Prop) → List α → World → Prop) (Ix : Code → (Nat → Prop) → List α → World → Prop) (A : Nat → Prop) (xs : List α) (W : World) : Exit → Act → World → Prop
  | .normal, _, W' => KeepsFrom B W W' ∧ Keep n₀ A W W' ∧ I A xs W'
  | .ret, _, W' => KeepsFrom B W W' ∧ Ix .ret A xs W'
  | .exit id, _, W' => KeepsFrom B W W' ∧ Ix (.exit id) A xs W'
  | .goto t, _, W' => KeepsFrom B W W' ∧ Ix (.goto t) A xs W'
  | .panic _, _, _ => False
  | .outgrown, _, _ => False
/-- What is so does not mind a turn of a block from B on that holds no cells. -/
def NoMind {β : Type} (B : Nat) (J : (Nat → Prop) → β → World → Prop) : Prop := ∀ A s W l o o', J A s W → B ≤ l → W.heap[l]? = some o → o.isCells = false → J A s (W.putObj l o')

theorem range_law {α : Type} {F : Fence} {n : Nat} {P : Program} {g : Operand} {ps : Array Tmp} {assign body : Code} {Q : Exit → Act → World → Prop} {a : Act} {w : World}
    (hro : F.round = none) (h1 : 1 ≤ n) {gf : Nat} {lb : Array Value} (hg : a.eval g = .func (.func gf) #[] lb) (hFg : F.fn gf) (eg : ∀ args w, (callFunc gf args).run P w = .ok (.enter gf args) w)
    {encs : α → Array Value} {n₀ : Nat} {A0 : Nat → Prop} {T : α → Prop} {S Sp : List α → Prop} {N : Nat} {w0 : World} (hseq : SeqI F (n - 1) P gf lb encs n₀ A0 T S Sp N w0) (hn0 : n₀ ≤ w.heap.size) (hA0 : ∀ b, A0 b → b < w.heap.size) (hb0 : Below w0.heap.size w0 w) (hps : ∀ x, (encs x).size = ps.size)
    (I : (Nat → Prop) → List α → World → Prop) (Ix : Code → (Nat → Prop) → List α → World → Prop) (hI : Stays I) (hIo : NoMind w.heap.size I) (hIx : ∀ c, Stays (Ix c)) (hIxo : ∀ c, NoMind w.heap.size (Ix c)) (h0 : I A0 [] w) (a₁ : α → Act)
    (hassign : ∀ (l : Nat) (x : α) (W : World) (K : Act → World → Prop), K (a₁ x) W →
      assign.wpIn (F.inRound l) (n - 1 - 1) P (Exit.then K (fun _ _ _ => False)) { tmps := (ps.zip (encs x)).foldl (fun t (p, v) => t.setIfInBounds p v) a.tmps, defers := [] } W)
    (hbody : ∀ (l : Nat) (A : Nat → Prop) (pre : List α) (x : α) (W : World), I A pre W → pre.length < N → T x → (∀ b, A b → A0 b ∨ w.heap.size + 2 ≤ b) → body.wpIn (F.inRound l) (n - 1 - 1) P (RPost w.heap.size n₀ I Ix A (pre ++ [x]) W) (a₁ x) W)
    (hdone : ∀ (D : Nat) (A : Nat → Prop) (xs : List α) (W : World), w.heap.size ≤ D → S xs → I A xs W → W.heap[D]? = some (.deferred (some [])) → Q .normal { a with defers := { target := .collected D, args := #[] } :: a.defers } W)
    (hstop : ∀ (D : Nat) (c : Code) (A : Nat → Prop) (pre : List α) (W : World), w.heap.size ≤ D → Sp pre → Ix c A pre W → W.heap[D]? = some (.deferred (some [])) → c.wpIn F n P Q { a with defers := { target := .collected D, args := #[] } :: a.defers } W) :
    (Code.rangeFunc g ps assign body).wpIn F n P Q a w := by
  refine wpIn_rangeFunc fun fn hfn => ?_
  rw [hro]
  obtain ⟨B, hB⟩ : ∃ B, w.heap.size = B := ⟨_, rfl⟩
  obtain ⟨rd, hrd⟩ : ∃ rd : Loop, rd = { state := .ready, pending := none, fn, tmps := a.tmps, params := ps, assign, body, defers := B } := ⟨_, rfl⟩
  obtain ⟨W1, hW1⟩ : ∃ W1, (w.alloc (.deferred (some []))).alloc (.loop rd) = W1 := ⟨_, rfl⟩
  have hs1 : W1.heap.size = B + 2 := by rw [← hW1, ← hB]; simp
  have hB1 : Below w.heap.size w W1 := by rw [← hW1]; exact ((Below.refl _ w).alloc (Nat.le_refl _) _).alloc (by simp) _
  have hl1 : W1.heap[B + 1]? = some (.loop rd) := by
    have := World.alloc_heap_new (w.alloc (.deferred (some []))) (.loop rd)
    rw [hW1] at this; simpa [hB] using this
  have hk1 : W1.heap[B]? = some (.deferred (some [])) := by
    have := World.alloc_heap_new w (.deferred (some []))
    rw [hB] at this
    rw [← hW1]
    exact (Below.heap_alloc _ _ _ (by simp [hB])).trans this
  have he := run_enterLoop_outer (P := P) (w := w) fn a.tmps ps assign body
  rw [hB, ← hrd, hW1] at he
  refine ⟨B + 1, [{ target := .collected B, args := #[] }], W1, { target := .fn (.func gf) lb, args := #[.func (.yield (B + 1)) #[] #[]] }, W1, gf, #[.func (.yield (B + 1)) #[] #[]] ++ lb, W1, he, by simp only [resolve, hg]; simp [go_sem], fun f' hf' => by simp [Target.leads] at hf'; subst hf'; exact hFg, by simp [invoke, go_sem, eg], fun _ => h1, ?_⟩
  have hno : ∀ A : Nat → Prop, (∀ b, A b → A0 b ∨ B + 2 ≤ b) → ¬ A (B + 1) ∧ ¬ A B := fun A hA => ⟨fun h => by
    rcases hA _ h with h | h
    · have := hA0 _ h; omega
    · omega, fun h => by
    rcases hA _ h with h | h
    · have := hA0 _ h; omega
    · omega⟩
  have hst : ∀ {A A' : Nat → Prop} {X Y : World} {o o2 : Obj}, Iter A X Y → Adds A A' X Y → (∀ b, A b → A0 b ∨ B + 2 ≤ b) → X.heap[B + 1]? = some o → X.heap[B]? = some o2 → (∀ b, A' b → A0 b ∨ B + 2 ≤ b) ∧ Y.heap[B + 1]? = some o ∧ Y.heap[B]? = some o2 := by
    intro A A' X Y o o2 hi ha hA ho ho2
    have hlt := (Array.getElem?_eq_some_iff.1 ho).1
    refine ⟨fun b hb => ?_, (hi.keep _ hlt (hno A hA).1).trans ho, (hi.keep _ (by omega) (hno A hA).2).trans ho2⟩
    rcases ha b hb with h | h
    · exact hA b h
    · exact .inr (by omega)
  refine (hseq (B + 1) (fun A s W => I A s W ∧ (∀ b, A b → A0 b ∨ B + 2 ≤ b) ∧ W.heap[B + 1]? = some (.loop rd) ∧ W.heap[B]? = some (.deferred (some [])))
    (fun A s W => ∃ c, Ix c A s W ∧ (∀ b, A b → A0 b ∨ B + 2 ≤ b) ∧ W.heap[B + 1]? = some (.loop { rd with state := .done, pending := some c }) ∧ W.heap[B]? = some (.deferred (some []))) W1 (hb0.trans (hB1.mono hb0.size))
    (fun A A' s X Y hJ hi ha => ⟨hI A A' s X Y hJ.1 hi ha, hst hi ha hJ.2.1 hJ.2.2.1 hJ.2.2.2⟩)
    (fun A A' s X Y ⟨c, hJ⟩ hi ha => ⟨c, hIx c A A' s X Y hJ.1 hi ha, hst hi ha hJ.2.1 hJ.2.2.1 hJ.2.2.2⟩) ?_ ⟨hI _ _ _ _ _ h0 (Iter.of_below hB1) (fun _ h => .inl h), fun _ h => .inl h, hl1, hk1⟩).mono ?_
  · rintro A pre x W ⟨hi, hA, hl, hk⟩ hlen hTx
    have hlt := (Array.getElem?_eq_some_iff.1 hl).1
    have hnA := (hno A hA).1
    have hy := run_yield (P := P) (args := encs x) hl (by rw [hrd]; exact hps x)
    rw [hrd] at hy
    obtain ⟨W2, hW2⟩ : ∃ W2, W.putObj (B + 1) (.loop { rd with state := .busy }) = W2 := ⟨_, rfl⟩
    have hl2 : W2.heap[B + 1]? = some (.loop { rd with state := .busy }) := by rw [← hW2]; exact World.putObj_heap_same hlt
    have hk2 : W2.heap[B]? = some (.deferred (some [])) := by rw [← hW2]; exact (World.putObj_heap_other (by omega)).trans hk
    have hK2 : Keep n₀ A W W2 := by rw [← hW2]; exact Keep.put _ (by omega) hnA
    have hi2 : I A pre W2 := by rw [← hW2]; exact hIo A pre W (B + 1) _ _ hi (by omega) hl rfl
    have hbr := run_beginRound (P := P) hl (by rw [hrd])
    rw [hW2] at hbr
    refine ⟨fn, _, assign, body, hy, roundIn_of_wpIn hfn (hassign _ x W _ ⟨W2, hbr, wpIn_mono (hbody _ A pre x W2 hi2 hlen hTx (by rw [hB]; exact hA)) ?_⟩)⟩
    have hend : ∀ (jump : Option Code) (W3 : World), KeepsFrom w.heap.size W2 W3 → ∃ W4, (Instr.endRound (B + 1) jump).run P W3 = .ok (.bool jump.isNone) W4 ∧ W4 = W3.putObj (B + 1) (.loop { rd with state := if jump.isNone then .ready else .done, pending := jump }) ∧ W3.heap[B + 1]? = some (.loop { rd with state := .busy }) ∧ W4.heap[B + 1]? = some (.loop { rd with state := if jump.isNone then .ready else .done, pending := jump }) ∧ W4.heap[B]? = some (.deferred (some [])) := by
      intro jump W3 h3
      have hl3 := h3.same _ _ (by omega) hl2 rfl
      have hk3 := h3.same _ _ (by omega) hk2 rfl
      exact ⟨_, run_endRound (P := P) jump hl3, rfl, hl3, World.putObj_heap_same (Array.getElem?_eq_some_iff.1 hl3).1, (World.putObj_heap_other (by omega)).trans hk3⟩
    have hstp : ∀ (c : Code) (W3 : World), KeepsFrom w.heap.size W2 W3 → Ix c A (pre ++ [x]) W3 → ∃ W4, (Instr.endRound (B + 1) (some c)).run P W3 = .ok (.bool false) W4 ∧ ∃ c', Ix c' A (pre ++ [x]) W4 ∧ (∀ b, A b → A0 b ∨ B + 2 ≤ b) ∧ W4.heap[B + 1]? = some (.loop { rd with state := .done, pending := some c' }) ∧ W4.heap[B]? = some (.deferred (some [])) := by
      intro c W3 h3 hx
      obtain ⟨W4, hr, rfl, hl3, hl4, hk4⟩ := hend (some c) W3 h3
      exact ⟨_, hr, c, hIxo c A _ W3 (B + 1) _ _ hx (by omega) hl3 rfl, hA, hl4, hk4⟩
    rintro e a3 W3 hp
    cases e with
    | normal =>
      obtain ⟨h3, hK3, hi3⟩ := hp
      obtain ⟨W4, hr, rfl, hl3, hl4, hk4⟩ := hend none W3 h3
      refine ⟨_, _, hr, .inl ⟨rfl, ⟨hIo A _ W3 (B + 1) _ _ hi3 (by omega) hl3 rfl, hA, ?_, hk4⟩, (hK2.trans hK3).trans (Keep.put _ (by omega) hnA)⟩⟩
      rw [hl4, hrd]; rfl
    | ret =>
      obtain ⟨W4, hr, hx⟩ := hstp .ret W3 hp.1 hp.2
      exact ⟨_, _, hr, .inr ⟨rfl, hx⟩⟩
    | exit id =>
      obtain ⟨W4, hr, hx⟩ := hstp (.exit id) W3 hp.1 hp.2
      exact ⟨_, _, hr, .inr ⟨rfl, hx⟩⟩
    | goto t =>
      obtain ⟨W4, hr, hx⟩ := hstp (.goto t) W3 hp.1 hp.2
      exact ⟨_, _, hr, .inr ⟨rfl, hx⟩⟩
    | panic _ => exact hp.elim
    | outgrown => exact hp.elim
  · rintro e W2 ⟨⟨v, rfl⟩, ⟨A, xs, hS, hi, hA, hl, hk⟩ | ⟨A, pre, hSp, c, hx, hA, hl, hk⟩⟩
    · have hr : (Instr.endLoop (B + 1)).run P W2 = .ok none (W2.putObj (B + 1) (.loop { rd with state := .exhausted })) := by
        have := run_endLoop (P := P) hl (by rw [hrd]; simp)
        rw [this, hrd]
      exact ⟨none, _, hr, hdone B A xs _ (by omega) hS (hIo A xs W2 (B + 1) _ _ hi (by omega) hl rfl) ((World.putObj_heap_other (by omega)).trans hk)⟩
    · exact ⟨some c, _, run_endLoop (P := P) hl (by simp), hstop B c A pre _ (by omega) hSp (hIxo c A pre W2 (B + 1) _ _ hx (by omega) hl rfl) ((World.putObj_heap_other (by omega)).trans hk)⟩
end Go.Proofs.YtlkcadibjmfmcaaDoor
