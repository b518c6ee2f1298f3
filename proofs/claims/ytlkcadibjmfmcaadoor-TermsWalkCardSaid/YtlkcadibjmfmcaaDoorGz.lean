/- U0, U1, Uw, U2, U3, U5, Kg, Ow, Ga, Gb, Rb, Gc, Wc, Wk, Wl, Gh in one. -/
import Derived.Test.YtlkcadibjmfmcaaDoorI0
import Derived.Test.YtlkcadibjmfmcaaDoorI3
import Derived.Test.YtlkcadibjmfmcaaDoorC0
import Derived.Test.YtlkcadibjmfmcaaDoorI5
import Derived.Test.YtlkcadibjmfmcaaDoorKf
import Derived.Test.YtlkcadibjmfmcaaDoorAa
import Derived.Test.YtlkcadibjmfmcaaDoorRa
import Derived.Test.YtlkcadibjmfmcaaDoorWa
import Derived.Sort.CutIn
/- Going through what an iterator tells that may itself go through another one: rounds that stop may be asked to keep its blocks too. -/
namespace Go.Proofs.YtlkcadibjmfmcaaDoor
open Go.RowKit

/-- The world is as it was, as far as the blocks of U go. -/
structure Ab (U : Nat → Prop) (W W' : World) : Prop where
  os : W'.os = W.os
  tape : W'.tape = W.tape
  output : W'.output = W.output
  size : W.heap.size ≤ W'.heap.size
  block : ∀ b, U b → W'.heap[b]? = W.heap[b]?
theorem Ab.refl (U : Nat → Prop) (W : World) : Ab U W W := ⟨rfl, rfl, rfl, Nat.le_refl _, fun _ _ => rfl⟩
theorem Ab.trans {U : Nat → Prop} {X Y Z : World} (h : Ab U X Y) (k : Ab U Y Z) : Ab U X Z := ⟨k.os.trans h.os, k.tape.trans h.tape, k.output.trans h.output, Nat.le_trans h.size k.size, fun b hb => (k.block b hb).trans (h.block b hb)⟩
theorem Ab.mono {U U' : Nat → Prop} {X Y : World} (h : Ab U X Y) (hU : ∀ b, U' b → U b) : Ab U' X Y := ⟨h.os, h.tape, h.output, h.size, fun b hb => h.block b (hU b hb)⟩
theorem Ab.cell {U : Nat → Prop} {X Y : World} (h : Ab U X Y) {p : Addr} (hp : U p.block) : Y.cell? p = X.cell? p := World.cell?_of_block (h.block _ hp)
theorem Ab.of_below {n : Nat} {U : Nat → Prop} {X Y : World} (h : Below n X Y) (hU : ∀ b, U b → b < n) : Ab U X Y := ⟨h.os, h.tape, h.output, h.size, fun b hb => h.block b (hU b hb)⟩
theorem Ab.below {n : Nat} {X Y : World} (h : Ab (fun b => b < n) X Y) : Below n X Y := ⟨h.os, h.tape, h.output, h.size, fun b hb => h.block b hb⟩
/-- What a round that goes on keeps: the blocks of U, and those of A. -/
def KeepU (U : Nat → Prop) (A : Nat → Prop) (W W' : World) : Prop := Ab U W W' ∧ ∀ b, A b → b < W.heap.size → W'.heap[b]? = W.heap[b]?
theorem KeepU.trans {U : Nat → Prop} {A : Nat → Prop} {X Y Z : World} (h : KeepU U A X Y) (k : KeepU U A Y Z) : KeepU U A X Z :=
  ⟨h.1.trans k.1, fun b hA hb => (k.2 b hA (Nat.lt_of_lt_of_le hb h.1.size)).trans (h.2 b hA hb)⟩
theorem KeepU.put {U : Nat → Prop} {A : Nat → Prop} {W : World} {l : Nat} (o : Obj) (h0 : ¬ U l) (hA : ¬ A l) : KeepU U A W (W.putObj l o) :=
  ⟨⟨rfl, rfl, rfl, by simp, fun k hk => World.putObj_heap_other (fun e => h0 (e ▸ hk))⟩, fun b hb _ => World.putObj_heap_other (fun e => hA (e ▸ hb))⟩
/-- The promise of an iterator that turns blocks of its own alone; where kx is so, a round that stops keeps them too. -/
def SeqG {α : Type} (kx : Prop) (F : Fence) (n : Nat) (P : Program) (g : Nat) (lb : Array Value) (encs : α → Array Value) (U A0 : Nat → Prop) (T : List α → α → Prop) (S Sp : List α → Prop) (N : Nat) (w : World) : Prop :=
  ∀ (l : Nat) (J Jx : (Nat → Prop) → List α → World → Prop) (W : World), Below w.heap.size w W → Stays J → Stays Jx →
    (∀ A pre x W1, J A pre W1 → pre.length < N → T pre x → YieldAt F (n - 1) P l (encs x) W1 fun e W' =>
      (e = .returned (.bool true) ∧ J A (pre ++ [x]) W' ∧ KeepU U A W1 W') ∨ (e = .returned (.bool false) ∧ Jx A (pre ++ [x]) W' ∧ (kx → KeepU U A W1 W'))) →
    J A0 [] W →
    CallsIn F n P g (#[.func (.yield l) #[] #[]] ++ lb) W fun e W' => (∃ v, e = .returned v) ∧ ((∃ A xs, S xs ∧ J A xs W') ∨ (∃ A pre, Sp pre ∧ Jx A pre W'))
/-- Two blocks are as they were. -/
def Two (B : Nat) (W W' : World) : Prop := W'.heap[B]? = W.heap[B]? ∧ W'.heap[B + 1]? = W.heap[B + 1]?
theorem Two.refl (B : Nat) (W : World) : Two B W W := ⟨rfl, rfl⟩
theorem Two.trans {B : Nat} {X Y Z : World} (h : Two B X Y) (k : Two B Y Z) : Two B X Z := ⟨k.1.trans h.1, k.2.trans h.2⟩
/-- How a round may end. -/
def RPostG {α : Type} (kx : Prop) (B : Nat) (U : Nat → Prop) (I : (Nat → Prop) → List α → World → Prop) (Ix : Code → (Nat → Prop) → List α → World → Prop) (A : Nat → Prop) (xs : List α) (W : World) : Exit → Act → World → Prop
  | .normal, _, W' => Two B W W' ∧ KeepU U A W W' ∧ I A xs W'
  | .ret, _, W' => Two B W W' ∧ Ix .ret A xs W' ∧ (kx → KeepU U A W W')
  | .exit id, _, W' => Two B W W' ∧ Ix (.exit id) A xs W' ∧ (kx → KeepU U A W W')
  | .goto t, _, W' => Two B W W' ∧ Ix (.goto t) A xs W' ∧ (kx → KeepU U A W W')
  | .panic _, _, _ => False
  | .outgrown, _, _ => False
/-- What is so does not mind a turn of the loop's own record. -/
def NoMindAt {β : Type} (B : Nat) (A0 : Nat → Prop) (J : (Nat → Prop) → β → World → Prop) : Prop := ∀ A s W o', J A s W → (∀ b, A b → A0 b ∨ B + 2 ≤ b) → B + 1 < W.heap.size → J A s (W.putObj (B + 1) o')
theorem range_law_g {α : Type} {kx : Prop} {F : Fence} {n : Nat} {P : Program} {g : Operand} {ps : Array Tmp} {assign body : Code} {Q : Exit → Act → World → Prop} {a : Act} {w : World}
    (hro : F.round = none) (h1 : F.depth.isSome = true → 1 ≤ n) {gf : Nat} {lb : Array Value} (hg : a.eval g = .func (.func gf) #[] lb) (hFg : F.fn gf) (eg : ∀ args w, (callFunc gf args).run P w = .ok (.enter gf args) w)
    {encs : α → Array Value} {U A0 : Nat → Prop} {T : List α → α → Prop} {S Sp : List α → Prop} {N : Nat} {w0 : World} (hseq : SeqG kx F (n - 1) P gf lb encs U A0 T S Sp N w0) (hU : ∀ b, U b → b < w.heap.size) (hA0 : ∀ b, A0 b → b < w.heap.size) (hb0 : Below w0.heap.size w0 w) (hps : ∀ x, (encs x).size = ps.size)
    (I : (Nat → Prop) → List α → World → Prop) (Ix : Code → (Nat → Prop) → List α → World → Prop) (hI : Stays I) (hIo : NoMindAt w.heap.size A0 I) (hIx : ∀ c, Stays (Ix c)) (hIxo : ∀ c, NoMindAt w.heap.size A0 (Ix c)) (h0 : ∀ W1, Below w.heap.size w W1 → W1.heap.size = w.heap.size + 2 → I A0 [] W1) (a₁ : α → Act)
    (hassign : ∀ (l : Nat) (x : α) (W : World) (K : Act → World → Prop), K (a₁ x) W →
      assign.wpIn (F.inRound l) (n - 1 - 1) P (Exit.then K (fun _ _ _ => False)) { tmps := (ps.zip (encs x)).foldl (fun t (p, v) => t.setIfInBounds p v) a.tmps, defers := [] } W)
    (hbody : ∀ (l : Nat) (A : Nat → Prop) (pre : List α) (x : α) (W : World), I A pre W → pre.length < N → T pre x → (∀ b, A b → A0 b ∨ w.heap.size + 2 ≤ b) → body.wpIn (F.inRound l) (n - 1 - 1) P (RPostG kx w.heap.size U I Ix A (pre ++ [x]) W) (a₁ x) W)
    (hdone : ∀ (D : Nat) (A : Nat → Prop) (xs : List α) (W : World), D = w.heap.size → S xs → I A xs W → W.heap[D]? = some (.deferred (some [])) → Q .normal { a with defers := { target := .collected D, args := #[] } :: a.defers } W)
    (hstop : ∀ (D : Nat) (c : Code) (A : Nat → Prop) (pre : List α) (W : World), D = w.heap.size → Sp pre → Ix c A pre W → W.heap[D]? = some (.deferred (some [])) → c.wpIn F n P Q { a with defers := { target := .collected D, args := #[] } :: a.defers } W) :
    (Code.rangeFunc g ps assign body).wpIn F n P Q a w := by
  refine wpIn_rangeFunc fun fn hfn => ?_
  rw [hro]
  obtain ⟨B, hB⟩ : ∃ B, w.heap.size = B := ⟨_, rfl⟩
  obtain ⟨rd, hrd⟩ : ∃ rd : Loop, rd = { state := .ready, pending := none, fn, tmps := a.tmps, params := ps, assign, body, defers := B } := ⟨_, rfl⟩
  obtain ⟨W1, hW1⟩ : ∃ W1, (w.alloc (.deferred (some []))).alloc (.loop rd) = W1 := ⟨_, rfl⟩
  have hs1 : W1.heap.size = B + 2 := by rw [← hW1, ← hB]; simp
  have hB1 : Below w.heap.size w W1 := by rw [← hW1]; exact ((Below.refl _ w).alloc (Nat.le_refl _) _).alloc (by simp) _
  have hl1 : W1.heap[B + 1]? = some (.loop rd) := by
    have := World.alloc_heap_new (w.alloc (.deferred (some []))) (.loop rd)
    rw [hW1] at this; simpa [hB] using this
  have hk1 : W1.heap[B]? = some (.deferred (some [])) := by
    have := World.alloc_heap_new w (.deferred (some []))
    rw [hB] at this
    rw [← hW1]
    exact (Below.heap_alloc _ _ _ (by simp [hB])).trans this
  have he := run_enterLoop_outer (P := P) (w := w) fn a.tmps ps assign body
  rw [hB, ← hrd, hW1] at he
  refine ⟨B + 1, [{ target := .collected B, args := #[] }], W1, { target := .fn (.func gf) lb, args := #[.func (.yield (B + 1)) #[] #[]] }, W1, gf, #[.func (.yield (B + 1)) #[] #[]] ++ lb, W1, he, by simp only [resolve, hg]; simp [go_sem], fun f' hf' => by simp [Target.leads] at hf'; subst hf'; exact hFg, by simp [invoke, go_sem, eg], h1, ?_⟩
  have hno : ∀ A : Nat → Prop, (∀ b, A b → A0 b ∨ B + 2 ≤ b) → ¬ A (B + 1) ∧ ¬ A B := fun A hA => ⟨fun h => by
    rcases hA _ h with h | h
    · have := hA0 _ h; omega
    · omega, fun h => by
    rcases hA _ h with h | h
    · have := hA0 _ h; omega
    · omega⟩
  have hst : ∀ {A A' : Nat → Prop} {X Y : World} {o o2 : Obj}, Iter A X Y → Adds A A' X Y → (∀ b, A b → A0 b ∨ B + 2 ≤ b) → X.heap[B + 1]? = some o → X.heap[B]? = some o2 → (∀ b, A' b → A0 b ∨ B + 2 ≤ b) ∧ Y.heap[B + 1]? = some o ∧ Y.heap[B]? = some o2 := by
    intro A A' X Y o o2 hi ha hA ho ho2
    have hlt := (Array.getElem?_eq_some_iff.1 ho).1
    refine ⟨fun b hb => ?_, (hi.keep _ hlt (hno A hA).1).trans ho, (hi.keep _ (by omega) (hno A hA).2).trans ho2⟩
    rcases ha b hb with h | h
    · exact hA b h
    · exact .inr (by omega)
  refine (hseq (B + 1) (fun A s W => I A s W ∧ (∀ b, A b → A0 b ∨ B + 2 ≤ b) ∧ W.heap[B + 1]? = some (.loop rd) ∧ W.heap[B]? = some (.deferred (some [])))
    (fun A s W => ∃ c, Ix c A s W ∧ (∀ b, A b → A0 b ∨ B + 2 ≤ b) ∧ W.heap[B + 1]? = some (.loop { rd with state := .done, pending := some c }) ∧ W.heap[B]? = some (.deferred (some []))) W1 (hb0.trans (hB1.mono hb0.size))
    (fun A A' s X Y hJ hi ha => ⟨hI A A' s X Y hJ.1 hi ha, hst hi ha hJ.2.1 hJ.2.2.1 hJ.2.2.2⟩)
    (fun A A' s X Y ⟨c, hJ⟩ hi ha => ⟨c, hIx c A A' s X Y hJ.1 hi ha, hst hi ha hJ.2.1 hJ.2.2.1 hJ.2.2.2⟩) ?_ ⟨h0 W1 hB1 (by rw [hs1, hB]), fun _ h => .inl h, hl1, hk1⟩).mono ?_
  · rintro A pre x W ⟨hi, hA, hl, hk⟩ hlen hTx
    have hlt := (Array.getElem?_eq_some_iff.1 hl).1
    have hnA := (hno A hA).1
    have hnU : ¬ U (B + 1) := fun h => by have := hU _ h; omega
    have hy := run_yield (P := P) (args := encs x) hl (by rw [hrd]; exact hps x)
    rw [hrd] at hy
    obtain ⟨W2, hW2⟩ : ∃ W2, W.putObj (B + 1) (.loop { rd with state := .busy }) = W2 := ⟨_, rfl⟩
    have hl2 : W2.heap[B + 1]? = some (.loop { rd with state := .busy }) := by rw [← hW2]; exact World.putObj_heap_same hlt
    have hk2 : W2.heap[B]? = some (.deferred (some [])) := by rw [← hW2]; exact (World.putObj_heap_other (by omega)).trans hk
    have hK2 : KeepU U A W W2 := by rw [← hW2]; exact KeepU.put _ hnU hnA
    have hi2 : I A pre W2 := by rw [← hW2]; exact (by have := hIo A pre W (.loop { rd with state := .busy }) hi (by rw [hB]; exact hA) (by rw [hB]; exact hlt); rw [hB] at this; exact this)
    have hbr := run_beginRound (P := P) hl (by rw [hrd])
    rw [hW2] at hbr
    refine ⟨fn, _, assign, body, hy, roundIn_of_wpIn hfn (hassign _ x W _ ⟨W2, hbr, wpIn_mono (hbody _ A pre x W2 hi2 hlen hTx (by rw [hB]; exact hA)) ?_⟩)⟩
    have hend : ∀ (jump : Option Code) (W3 : World), Two B W2 W3 → ∃ W4, (Instr.endRound (B + 1) jump).run P W3 = .ok (.bool jump.isNone) W4 ∧ W4 = W3.putObj (B + 1) (.loop { rd with state := if jump.isNone then .ready else .done, pending := jump }) ∧ W3.heap[B + 1]? = some (.loop { rd with state := .busy }) ∧ W4.heap[B + 1]? = some (.loop { rd with state := if jump.isNone then .ready else .done, pending := jump }) ∧ W4.heap[B]? = some (.deferred (some [])) := by
      intro jump W3 h3
      have hl3 := h3.2.trans hl2
      have hk3 := h3.1.trans hk2
      exact ⟨_, run_endRound (P := P) jump hl3, rfl, hl3, World.putObj_heap_same (Array.getElem?_eq_some_iff.1 hl3).1, (World.putObj_heap_other (by omega)).trans hk3⟩
    have hstp : ∀ (c : Code) (W3 : World), Two B W2 W3 → Ix c A (pre ++ [x]) W3 → ∃ W4, (Instr.endRound (B + 1) (some c)).run P W3 = .ok (.bool false) W4 ∧ ∃ c', Ix c' A (pre ++ [x]) W4 ∧ (∀ b, A b → A0 b ∨ B + 2 ≤ b) ∧ W4.heap[B + 1]? = some (.loop { rd with state := .done, pending := some c' }) ∧ W4.heap[B]? = some (.deferred (some [])) := by
      intro c W3 h3 hx
      obtain ⟨W4, hr, rfl, hl3, hl4, hk4⟩ := hend (some c) W3 h3
      exact ⟨_, hr, c, (by have := hIxo c A _ W3 (.loop { rd with state := .done, pending := some c }) hx (by rw [hB]; exact hA) (by rw [hB]; exact (Array.getElem?_eq_some_iff.1 hl3).1); rw [hB] at this; exact this), hA, hl4, hk4⟩
    rintro e a3 W3 hp
    cases e with
    | normal =>
      rw [hB] at hp
      obtain ⟨h3, hK3, hi3⟩ := hp
      obtain ⟨W4, hr, rfl, hl3, hl4, hk4⟩ := hend none W3 h3
      refine ⟨_, _, hr, .inl ⟨rfl, ⟨(by have := hIo A _ W3 (.loop { rd with state := .ready, pending := none }) hi3 (by rw [hB]; exact hA) (by rw [hB]; exact (Array.getElem?_eq_some_iff.1 hl3).1); rw [hB] at this; exact this), hA, ?_, hk4⟩, (hK2.trans hK3).trans (KeepU.put _ hnU hnA)⟩⟩
      rw [hl4, hrd]; rfl
    | ret =>
      rw [hB] at hp
      obtain ⟨h3, hx3, hK3⟩ := hp
      obtain ⟨W4, hr, hx⟩ := hstp .ret W3 h3 hx3
      have e4 : W4 = W3.putObj (B + 1) (.loop { rd with state := .done, pending := some .ret }) := by
        obtain ⟨W5, hr5, e5, _⟩ := hend (some .ret) W3 h3
        have : W4 = W5 := by rw [hr] at hr5; injection hr5
        rw [this, e5]; rfl
      exact ⟨_, _, hr, .inr ⟨rfl, hx, fun hkx => by rw [e4]; exact (hK2.trans (hK3 hkx)).trans (KeepU.put _ hnU hnA)⟩⟩
    | exit id =>
      rw [hB] at hp
      obtain ⟨h3, hx3, hK3⟩ := hp
      obtain ⟨W4, hr, hx⟩ := hstp (.exit id) W3 h3 hx3
      have e4 : W4 = W3.putObj (B + 1) (.loop { rd with state := .done, pending := some (.exit id) }) := by
        obtain ⟨W5, hr5, e5, _⟩ := hend (some (.exit id)) W3 h3
        have : W4 = W5 := by rw [hr] at hr5; injection hr5
        rw [this, e5]; rfl
      exact ⟨_, _, hr, .inr ⟨rfl, hx, fun hkx => by rw [e4]; exact (hK2.trans (hK3 hkx)).trans (KeepU.put _ hnU hnA)⟩⟩
    | goto t =>
      rw [hB] at hp
      obtain ⟨h3, hx3, hK3⟩ := hp
      obtain ⟨W4, hr, hx⟩ := hstp (.goto t) W3 h3 hx3
      have e4 : W4 = W3.putObj (B + 1) (.loop { rd with state := .done, pending := some (.goto t) }) := by
        obtain ⟨W5, hr5, e5, _⟩ := hend (some (.goto t)) W3 h3
        have : W4 = W5 := by rw [hr] at hr5; injection hr5
        rw [this, e5]; rfl
      exact ⟨_, _, hr, .inr ⟨rfl, hx, fun hkx => by rw [e4]; exact (hK2.trans (hK3 hkx)).trans (KeepU.put _ hnU hnA)⟩⟩
    | panic _ => exact hp.elim
    | outgrown => exact hp.elim
  · rintro e W2 ⟨⟨v, rfl⟩, ⟨A, xs, hS, hi, hA, hl, hk⟩ | ⟨A, pre, hSp, c, hx, hA, hl, hk⟩⟩
    · have hr : (Instr.endLoop (B + 1)).run P W2 = .ok none (W2.putObj (B + 1) (.loop { rd with state := .exhausted })) := by
        have := run_endLoop (P := P) hl (by rw [hrd]; simp)
        rw [this, hrd]
      exact ⟨none, _, hr, hdone B A xs _ (by omega) hS (by have := hIo A xs W2 (.loop { rd with state := .exhausted }) hi (by rw [hB]; exact hA) (by rw [hB]; exact (Array.getElem?_eq_some_iff.1 hl).1); rw [hB] at this; exact this) ((World.putObj_heap_other (by omega)).trans hk)⟩
    · exact ⟨some c, _, run_endLoop (P := P) hl (by simp), hstop B c A pre _ (by omega) hSp (by have := hIxo c A pre W2 (.loop { rd with state := .exhausted, pending := some c }) hx (by rw [hB]; exact hA) (by rw [hB]; exact (Array.getElem?_eq_some_iff.1 hl).1); rw [hB] at this; exact this) ((World.putObj_heap_other (by omega)).trans hk)⟩
end Go.Proofs.YtlkcadibjmfmcaaDoor

/- Going through what an iterator tells, where what is told is laid into a variable that is made anew. -/
namespace Go.Proofs.YtlkcadibjmfmcaaDoor
open Go.RowKit

theorem range_law_h {α : Type} {kx : Prop} {F : Fence} {n : Nat} {P : Program} {g : Operand} {ps : Array Tmp} {assign body : Code} {Q : Exit → Act → World → Prop} {a : Act} {w : World}
    (hro : F.round = none) (h1 : F.depth.isSome = true → 1 ≤ n) {gf : Nat} {lb : Array Value} (hg : a.eval g = .func (.func gf) #[] lb) (hFg : F.fn gf) (eg : ∀ args w, (callFunc gf args).run P w = .ok (.enter gf args) w)
    {encs : α → Array Value} {U A0 : Nat → Prop} {T : List α → α → Prop} {S Sp : List α → Prop} {N : Nat} {w0 : World} (hseq : SeqG kx F (n - 1) P gf lb encs U A0 T S Sp N w0) (hU : ∀ b, U b → b < w.heap.size) (hA0 : ∀ b, A0 b → b < w.heap.size) (hb0 : Below w0.heap.size w0 w) (hps : ∀ x, (encs x).size = ps.size)
    (I : (Nat → Prop) → List α → World → Prop) (Ix : Code → (Nat → Prop) → List α → World → Prop) (hI : Stays I) (hIo : NoMindAt w.heap.size A0 I) (hIx : ∀ c, Stays (Ix c)) (hIxo : ∀ c, NoMindAt w.heap.size A0 (Ix c)) (h0 : ∀ W1, Below w.heap.size w W1 → W1.heap.size = w.heap.size + 2 → I A0 [] W1) (Ax : α → Act → World → Prop) (hAx : ∀ x a' W o', Ax x a' W → w.heap.size + 1 < W.heap.size → Ax x a' (W.putObj (w.heap.size + 1) o'))
    (hassign : ∀ (l : Nat) (A : Nat → Prop) (pre : List α) (x : α) (W : World) (K : Act → World → Prop), I A pre W → pre.length < N → T pre x → (∀ b, A b → A0 b ∨ w.heap.size + 2 ≤ b) → (∀ a' W', Two w.heap.size W W' → KeepU U A W W' → I A pre W' → Ax x a' W' → K a' W') →
      assign.wpIn (F.inRound l) (n - 1 - 1) P (Exit.then K (fun _ _ _ => False)) { tmps := (ps.zip (encs x)).foldl (fun t (p, v) => t.setIfInBounds p v) a.tmps, defers := [] } W)
    (hbody : ∀ (l : Nat) (A : Nat → Prop) (pre : List α) (x : α) (a' : Act) (W : World), I A pre W → Ax x a' W → pre.length < N → T pre x → (∀ b, A b → A0 b ∨ w.heap.size + 2 ≤ b) → body.wpIn (F.inRound l) (n - 1 - 1) P (RPostG kx w.heap.size U I Ix A (pre ++ [x]) W) a' W)
    (hdone : ∀ (D : Nat) (A : Nat → Prop) (xs : List α) (W : World), D = w.heap.size → S xs → I A xs W → W.heap[D]? = some (.deferred (some [])) → Q .normal { a with defers := { target := .collected D, args := #[] } :: a.defers } W)
    (hstop : ∀ (D : Nat) (c : Code) (A : Nat → Prop) (pre : List α) (W : World), D = w.heap.size → Sp pre → Ix c A pre W → W.heap[D]? = some (.deferred (some [])) → c.wpIn F n P Q { a with defers := { target := .collected D, args := #[] } :: a.defers } W) :
    (Code.rangeFunc g ps assign body).wpIn F n P Q a w := by
  refine wpIn_rangeFunc fun fn hfn => ?_
  rw [hro]
  obtain ⟨B, hB⟩ : ∃ B, w.heap.size = B := ⟨_, rfl⟩
  obtain ⟨rd, hrd⟩ : ∃ rd : Loop, rd = { state := .ready, pending := none, fn, tmps := a.tmps, params := ps, assign, body, defers := B } := ⟨_, rfl⟩
  obtain ⟨W1, hW1⟩ : ∃ W1, (w.alloc (.deferred (some []))).alloc (.loop rd) = W1 := ⟨_, rfl⟩
  have hs1 : W1.heap.size = B + 2 := by rw [← hW1, ← hB]; simp
  have hB1 : Below w.heap.size w W1 := by rw [← hW1]; exact ((Below.refl _ w).alloc (Nat.le_refl _) _).alloc (by simp) _
  have hl1 : W1.heap[B + 1]? = some (.loop rd) := by
    have := World.alloc_heap_new (w.alloc (.deferred (some []))) (.loop rd)
    rw [hW1] at this; simpa [hB] using this
  have hk1 : W1.heap[B]? = some (.deferred (some [])) := by
    have := World.alloc_heap_new w (.deferred (some []))
    rw [hB] at this
    rw [← hW1]
    exact (Below.heap_alloc _ _ _ (by simp [hB])).trans this
  have he := run_enterLoop_outer (P := P) (w := w) fn a.tmps ps assign body
  rw [hB, ← hrd, hW1] at he
  refine ⟨B + 1, [{ target := .collected B, args := #[] }], W1, { target := .fn (.func gf) lb, args := #[.func (.yield (B + 1)) #[] #[]] }, W1, gf, #[.func (.yield (B + 1)) #[] #[]] ++ lb, W1, he, by simp only [resolve, hg]; simp [go_sem], fun f' hf' => by simp [Target.leads] at hf'; subst hf'; exact hFg, by simp [invoke, go_sem, eg], h1, ?_⟩
  have hno : ∀ A : Nat → Prop, (∀ b, A b → A0 b ∨ B + 2 ≤ b) → ¬ A (B + 1) ∧ ¬ A B := fun A hA => ⟨fun h => by
    rcases hA _ h with h | h
    · have := hA0 _ h; omega
    · omega, fun h => by
    rcases hA _ h with h | h
    · have := hA0 _ h; omega
    · omega⟩
  have hst : ∀ {A A' : Nat → Prop} {X Y : World} {o o2 : Obj}, Iter A X Y → Adds A A' X Y → (∀ b, A b → A0 b ∨ B + 2 ≤ b) → X.heap[B + 1]? = some o → X.heap[B]? = some o2 → (∀ b, A' b → A0 b ∨ B + 2 ≤ b) ∧ Y.heap[B + 1]? = some o ∧ Y.heap[B]? = some o2 := by
    intro A A' X Y o o2 hi ha hA ho ho2
    have hlt := (Array.getElem?_eq_some_iff.1 ho).1
    refine ⟨fun b hb => ?_, (hi.keep _ hlt (hno A hA).1).trans ho, (hi.keep _ (by omega) (hno A hA).2).trans ho2⟩
    rcases ha b hb with h | h
    · exact hA b h
    · exact .inr (by omega)
  refine (hseq (B + 1) (fun A s W => I A s W ∧ (∀ b, A b → A0 b ∨ B + 2 ≤ b) ∧ W.heap[B + 1]? = some (.loop rd) ∧ W.heap[B]? = some (.deferred (some [])))
    (fun A s W => ∃ c, Ix c A s W ∧ (∀ b, A b → A0 b ∨ B + 2 ≤ b) ∧ W.heap[B + 1]? = some (.loop { rd with state := .done, pending := some c }) ∧ W.heap[B]? = some (.deferred (some []))) W1 (hb0.trans (hB1.mono hb0.size))
    (fun A A' s X Y hJ hi ha => ⟨hI A A' s X Y hJ.1 hi ha, hst hi ha hJ.2.1 hJ.2.2.1 hJ.2.2.2⟩)
    (fun A A' s X Y ⟨c, hJ⟩ hi ha => ⟨c, hIx c A A' s X Y hJ.1 hi ha, hst hi ha hJ.2.1 hJ.2.2.1 hJ.2.2.2⟩) ?_ ⟨h0 W1 hB1 (by rw [hs1, hB]), fun _ h => .inl h, hl1, hk1⟩).mono ?_
  · rintro A pre x W ⟨hi, hA, hl, hk⟩ hlen hTx
    have hnA := (hno A hA).1
    have hnU : ¬ U (B + 1) := fun h => by have := hU _ h; omega
    have hy := run_yield (P := P) (args := encs x) hl (by rw [hrd]; exact hps x)
    rw [hrd] at hy
    refine ⟨fn, _, assign, body, hy, roundIn_of_wpIn hfn (hassign _ A pre x W _ hi hlen hTx (by rw [hB]; exact hA) (fun a' Y h2Y hKY hiY haY => ?_))⟩
    rw [hB] at h2Y
    have hlY := h2Y.2.trans hl
    have hkY := h2Y.1.trans hk
    have hlt := (Array.getElem?_eq_some_iff.1 hlY).1
    obtain ⟨W2, hW2⟩ : ∃ W2, Y.putObj (B + 1) (.loop { rd with state := .busy }) = W2 := ⟨_, rfl⟩
    have hl2 : W2.heap[B + 1]? = some (.loop { rd with state := .busy }) := by rw [← hW2]; exact World.putObj_heap_same hlt
    have hk2 : W2.heap[B]? = some (.deferred (some [])) := by rw [← hW2]; exact (World.putObj_heap_other (by omega)).trans hkY
    have hK2 : KeepU U A W W2 := by rw [← hW2]; exact hKY.trans (KeepU.put _ hnU hnA)
    have hi2 : I A pre W2 := by rw [← hW2]; exact (by have := hIo A pre Y (.loop { rd with state := .busy }) hiY (by rw [hB]; exact hA) (by rw [hB]; exact hlt); rw [hB] at this; exact this)
    have ha2 : Ax x a' W2 := by rw [← hW2]; exact (by have := hAx x a' Y (.loop { rd with state := .busy }) haY (by rw [hB]; exact hlt); rw [hB] at this; exact this)
    have hbr := run_beginRound (P := P) hlY (by rw [hrd])
    rw [hW2] at hbr
    refine ⟨W2, hbr, wpIn_mono (hbody _ A pre x a' W2 hi2 ha2 hlen hTx (by rw [hB]; exact hA)) ?_⟩
    have hend : ∀ (jump : Option Code) (W3 : World), Two B W2 W3 → ∃ W4, (Instr.endRound (B + 1) jump).run P W3 = .ok (.bool jump.isNone) W4 ∧ W4 = W3.putObj (B + 1) (.loop { rd with state := if jump.isNone then .ready else .done, pending := jump }) ∧ W3.heap[B + 1]? = some (.loop { rd with state := .busy }) ∧ W4.heap[B + 1]? = some (.loop { rd with state := if jump.isNone then .ready else .done, pending := jump }) ∧ W4.heap[B]? = some (.deferred (some [])) := by
      intro jump W3 h3
      have hl3 := h3.2.trans hl2
      have hk3 := h3.1.trans hk2
      exact ⟨_, run_endRound (P := P) jump hl3, rfl, hl3, World.putObj_heap_same (Array.getElem?_eq_some_iff.1 hl3).1, (World.putObj_heap_other (by omega)).trans hk3⟩
    have hstp : ∀ (c : Code) (W3 : World), Two B W2 W3 → Ix c A (pre ++ [x]) W3 → ∃ W4, (Instr.endRound (B + 1) (some c)).run P W3 = .ok (.bool false) W4 ∧ ∃ c', Ix c' A (pre ++ [x]) W4 ∧ (∀ b, A b → A0 b ∨ B + 2 ≤ b) ∧ W4.heap[B + 1]? = some (.loop { rd with state := .done, pending := some c' }) ∧ W4.heap[B]? = some (.deferred (some [])) := by
      intro c W3 h3 hx
      obtain ⟨W4, hr, rfl, hl3, hl4, hk4⟩ := hend (some c) W3 h3
      exact ⟨_, hr, c, (by have := hIxo c A _ W3 (.loop { rd with state := .done, pending := some c }) hx (by rw [hB]; exact hA) (by rw [hB]; exact (Array.getElem?_eq_some_iff.1 hl3).1); rw [hB] at this; exact this), hA, hl4, hk4⟩
    rintro e a3 W3 hp
    cases e with
    | normal =>
      rw [hB] at hp
      obtain ⟨h3, hK3, hi3⟩ := hp
      obtain ⟨W4, hr, rfl, hl3, hl4, hk4⟩ := hend none W3 h3
      refine ⟨_, _, hr, .inl ⟨rfl, ⟨(by have := hIo A _ W3 (.loop { rd with state := .ready, pending := none }) hi3 (by rw [hB]; exact hA) (by rw [hB]; exact (Array.getElem?_eq_some_iff.1 hl3).1); rw [hB] at this; exact this), hA, ?_, hk4⟩, (hK2.trans hK3).trans (KeepU.put _ hnU hnA)⟩⟩
      rw [hl4, hrd]; rfl
    | ret =>
      rw [hB] at hp
      obtain ⟨h3, hx3, hK3⟩ := hp
      obtain ⟨W4, hr, hx⟩ := hstp .ret W3 h3 hx3
      have e4 : W4 = W3.putObj (B + 1) (.loop { rd with state := .done, pending := some .ret }) := by
        obtain ⟨W5, hr5, e5, _⟩ := hend (some .ret) W3 h3
        have : W4 = W5 := by rw [hr] at hr5; injection hr5
        rw [this, e5]; rfl
      exact ⟨_, _, hr, .inr ⟨rfl, hx, fun hkx => by rw [e4]; exact (hK2.trans (hK3 hkx)).trans (KeepU.put _ hnU hnA)⟩⟩
    | exit id =>
      rw [hB] at hp
      obtain ⟨h3, hx3, hK3⟩ := hp
      obtain ⟨W4, hr, hx⟩ := hstp (.exit id) W3 h3 hx3
      have e4 : W4 = W3.putObj (B + 1) (.loop { rd with state := .done, pending := some (.exit id) }) := by
        obtain ⟨W5, hr5, e5, _⟩ := hend (some (.exit id)) W3 h3
        have : W4 = W5 := by rw [hr] at hr5; injection hr5
        rw [this, e5]; rfl
      exact ⟨_, _, hr, .inr ⟨rfl, hx, fun hkx => by rw [e4]; exact (hK2.trans (hK3 hkx)).trans (KeepU.put _ hnU hnA)⟩⟩
    | goto t =>
      rw [hB] at hp
      obtain ⟨h3, hx3, hK3⟩ := hp
      obtain ⟨W4, hr, hx⟩ := hstp (.goto t) W3 h3 hx3
      have e4 : W4 = W3.putObj (B + 1) (.loop { rd with state := .done, pending := some (.goto t) }) := by
        obtain ⟨W5, hr5, e5, _⟩ := hend (some (.goto t)) W3 h3
        have : W4 = W5 := by rw [hr] at hr5; injection hr5
        rw [this, e5]; rfl
      exact ⟨_, _, hr, .inr ⟨rfl, hx, fun hkx => by rw [e4]; exact (hK2.trans (hK3 hkx)).trans (KeepU.put _ hnU hnA)⟩⟩
    | panic _ => exact hp.elim
    | outgrown => exact hp.elim
  · rintro e W2 ⟨⟨v, rfl⟩, ⟨A, xs, hS, hi, hA, hl, hk⟩ | ⟨A, pre, hSp, c, hx, hA, hl, hk⟩⟩
    · have hr : (Instr.endLoop (B + 1)).run P W2 = .ok none (W2.putObj (B + 1) (.loop { rd with state := .exhausted })) := by
        have := run_endLoop (P := P) hl (by rw [hrd]; simp)
        rw [this, hrd]
      exact ⟨none, _, hr, hdone B A xs _ (by omega) hS (by have := hIo A xs W2 (.loop { rd with state := .exhausted }) hi (by rw [hB]; exact hA) (by rw [hB]; exact (Array.getElem?_eq_some_iff.1 hl).1); rw [hB] at this; exact this) ((World.putObj_heap_other (by omega)).trans hk)⟩
    · exact ⟨some c, _, run_endLoop (P := P) hl (by simp), hstop B c A pre _ (by omega) hSp (by have := hIxo c A pre W2 (.loop { rd with state := .exhausted, pending := some c }) hx (by rw [hB]; exact hA) (by rw [hB]; exact (Array.getElem?_eq_some_iff.1 hl).1); rw [hB] at this; exact this) ((World.putObj_heap_other (by omega)).trans hk)⟩
end Go.Proofs.YtlkcadibjmfmcaaDoor

/- Going through what an iterator tells, where what is told lies in memory that the iterator makes, and is laid into a variable that is made anew. -/
namespace Go.Proofs.YtlkcadibjmfmcaaDoor
open Go.RowKit

/-- The promise of an iterator that tells what lies in memory that it makes. -/
def SeqW {α : Type} (kx : Prop) (F : Fence) (n : Nat) (P : Program) (g : Nat) (lb : Array Value) (encs : α → Array Value) (U A0 : Nat → Prop) (T0 : List α → α → Prop) (T : Nat → α → World → Prop) (S Sp : List α → Prop) (N : Nat) (w : World) : Prop :=
  ∀ (l : Nat) (J Jx : (Nat → Prop) → List α → World → Prop) (W : World), Below w.heap.size w W → Stays J → Stays Jx →
    (∀ A pre x W1, J A pre W1 → pre.length < N → T0 pre x → T W.heap.size x W1 → YieldAt F (n - 1) P l (encs x) W1 fun e W' =>
      (e = .returned (.bool true) ∧ J A (pre ++ [x]) W' ∧ KeepU U A W1 W') ∨ (e = .returned (.bool false) ∧ Jx A (pre ++ [x]) W' ∧ (kx → KeepU U A W1 W'))) →
    J A0 [] W →
    CallsIn F n P g (#[.func (.yield l) #[] #[]] ++ lb) W fun e W' => (∃ v, e = .returned v) ∧ ((∃ A xs, S xs ∧ J A xs W') ∨ (∃ A pre, Sp pre ∧ Jx A pre W'))
theorem range_law_w {α : Type} {kx : Prop} {F : Fence} {n : Nat} {P : Program} {g : Operand} {ps : Array Tmp} {assign body : Code} {Q : Exit → Act → World → Prop} {a : Act} {w : World}
    (hro : F.round = none) (h1 : F.depth.isSome = true → 1 ≤ n) {gf : Nat} {lb : Array Value} (hg : a.eval g = .func (.func gf) #[] lb) (hFg : F.fn gf) (eg : ∀ args w, (callFunc gf args).run P w = .ok (.enter gf args) w)
    {encs : α → Array Value} {U A0 : Nat → Prop} {T0 : List α → α → Prop} {T : Nat → α → World → Prop} {S Sp : List α → Prop} {N : Nat} {w0 : World} (hseq : SeqW kx F (n - 1) P gf lb encs U A0 T0 T S Sp N w0) (hU : ∀ b, U b → b < w.heap.size) (hA0 : ∀ b, A0 b → b < w.heap.size) (hb0 : Below w0.heap.size w0 w) (hps : ∀ x, (encs x).size = ps.size)
    (I : (Nat → Prop) → List α → World → Prop) (Ix : Code → (Nat → Prop) → List α → World → Prop) (hI : Stays I) (hIo : NoMindAt w.heap.size A0 I) (hIx : ∀ c, Stays (Ix c)) (hIxo : ∀ c, NoMindAt w.heap.size A0 (Ix c)) (h0 : ∀ W1, Below w.heap.size w W1 → W1.heap.size = w.heap.size + 2 → I A0 [] W1) (Ax : α → Act → World → Prop) (hAx : ∀ x a' W o', Ax x a' W → w.heap.size + 1 < W.heap.size → Ax x a' (W.putObj (w.heap.size + 1) o'))
    (hassign : ∀ (l : Nat) (A : Nat → Prop) (pre : List α) (x : α) (W : World) (K : Act → World → Prop), I A pre W → pre.length < N → T0 pre x → T (w.heap.size + 2) x W → (∀ b, A b → A0 b ∨ w.heap.size + 2 ≤ b) → (∀ a' W', Two w.heap.size W W' → KeepU U A W W' → I A pre W' → Ax x a' W' → K a' W') →
      assign.wpIn (F.inRound l) (n - 1 - 1) P (Exit.then K (fun _ _ _ => False)) { tmps := (ps.zip (encs x)).foldl (fun t (p, v) => t.setIfInBounds p v) a.tmps, defers := [] } W)
    (hbody : ∀ (l : Nat) (A : Nat → Prop) (pre : List α) (x : α) (a' : Act) (W : World), I A pre W → Ax x a' W → pre.length < N → T0 pre x → (∀ b, A b → A0 b ∨ w.heap.size + 2 ≤ b) → body.wpIn (F.inRound l) (n - 1 - 1) P (RPostG kx w.heap.size U I Ix A (pre ++ [x]) W) a' W)
    (hdone : ∀ (D : Nat) (A : Nat → Prop) (xs : List α) (W : World), D = w.heap.size → S xs → I A xs W → W.heap[D]? = some (.deferred (some [])) → Q .normal { a with defers := { target := .collected D, args := #[] } :: a.defers } W)
    (hstop : ∀ (D : Nat) (c : Code) (A : Nat → Prop) (pre : List α) (W : World), D = w.heap.size → Sp pre → Ix c A pre W → W.heap[D]? = some (.deferred (some [])) → c.wpIn F n P Q { a with defers := { target := .collected D, args := #[] } :: a.defers } W) :
    (Code.rangeFunc g ps assign body).wpIn F n P Q a w := by
  refine wpIn_rangeFunc fun fn hfn => ?_
  rw [hro]
  obtain ⟨B, hB⟩ : ∃ B, w.heap.size = B := ⟨_, rfl⟩
  obtain ⟨rd, hrd⟩ : ∃ rd : Loop, rd = { state := .ready, pending := none, fn, tmps := a.tmps, params := ps, assign, body, defers := B } := ⟨_, rfl⟩
  obtain ⟨W1, hW1⟩ : ∃ W1, (w.alloc (.deferred (some []))).alloc (.loop rd) = W1 := ⟨_, rfl⟩
  have hs1 : W1.heap.size = B + 2 := by rw [← hW1, ← hB]; simp
  have hB1 : Below w.heap.size w W1 := by rw [← hW1]; exact ((Below.refl _ w).alloc (Nat.le_refl _) _).alloc (by simp) _
  have hl1 : W1.heap[B + 1]? = some (.loop rd) := by
    have := World.alloc_heap_new (w.alloc (.deferred (some []))) (.loop rd)
    rw [hW1] at this; simpa [hB] using this
  have hk1 : W1.heap[B]? = some (.deferred (some [])) := by
    have := World.alloc_heap_new w (.deferred (some []))
    rw [hB] at this
    rw [← hW1]
    exact (Below.heap_alloc _ _ _ (by simp [hB])).trans this
  have he := run_enterLoop_outer (P := P) (w := w) fn a.tmps ps assign body
  rw [hB, ← hrd, hW1] at he
  refine ⟨B + 1, [{ target := .collected B, args := #[] }], W1, { target := .fn (.func gf) lb, args := #[.func (.yield (B + 1)) #[] #[]] }, W1, gf, #[.func (.yield (B + 1)) #[] #[]] ++ lb, W1, he, by simp only [resolve, hg]; simp [go_sem], fun f' hf' => by simp [Target.leads] at hf'; subst hf'; exact hFg, by simp [invoke, go_sem, eg], h1, ?_⟩
  have hno : ∀ A : Nat → Prop, (∀ b, A b → A0 b ∨ B + 2 ≤ b) → ¬ A (B + 1) ∧ ¬ A B := fun A hA => ⟨fun h => by
    rcases hA _ h with h | h
    · have := hA0 _ h; omega
    · omega, fun h => by
    rcases hA _ h with h | h
    · have := hA0 _ h; omega
    · omega⟩
  have hst : ∀ {A A' : Nat → Prop} {X Y : World} {o o2 : Obj}, Iter A X Y → Adds A A' X Y → (∀ b, A b → A0 b ∨ B + 2 ≤ b) → X.heap[B + 1]? = some o → X.heap[B]? = some o2 → (∀ b, A' b → A0 b ∨ B + 2 ≤ b) ∧ Y.heap[B + 1]? = some o ∧ Y.heap[B]? = some o2 := by
    intro A A' X Y o o2 hi ha hA ho ho2
    have hlt := (Array.getElem?_eq_some_iff.1 ho).1
    refine ⟨fun b hb => ?_, (hi.keep _ hlt (hno A hA).1).trans ho, (hi.keep _ (by omega) (hno A hA).2).trans ho2⟩
    rcases ha b hb with h | h
    · exact hA b h
    · exact .inr (by omega)
  refine (hseq (B + 1) (fun A s W => I A s W ∧ (∀ b, A b → A0 b ∨ B + 2 ≤ b) ∧ W.heap[B + 1]? = some (.loop rd) ∧ W.heap[B]? = some (.deferred (some [])))
    (fun A s W => ∃ c, Ix c A s W ∧ (∀ b, A b → A0 b ∨ B + 2 ≤ b) ∧ W.heap[B + 1]? = some (.loop { rd with state := .done, pending := some c }) ∧ W.heap[B]? = some (.deferred (some []))) W1 (hb0.trans (hB1.mono hb0.size))
    (fun A A' s X Y hJ hi ha => ⟨hI A A' s X Y hJ.1 hi ha, hst hi ha hJ.2.1 hJ.2.2.1 hJ.2.2.2⟩)
    (fun A A' s X Y ⟨c, hJ⟩ hi ha => ⟨c, hIx c A A' s X Y hJ.1 hi ha, hst hi ha hJ.2.1 hJ.2.2.1 hJ.2.2.2⟩) ?_ ⟨h0 W1 hB1 (by rw [hs1, hB]), fun _ h => .inl h, hl1, hk1⟩).mono ?_
  · rintro A pre x W ⟨hi, hA, hl, hk⟩ hlen hTx hTw
    have hnA := (hno A hA).1
    have hnU : ¬ U (B + 1) := fun h => by have := hU _ h; omega
    have hy := run_yield (P := P) (args := encs x) hl (by rw [hrd]; exact hps x)
    rw [hrd] at hy
    refine ⟨fn, _, assign, body, hy, roundIn_of_wpIn hfn (hassign _ A pre x W _ hi hlen hTx (by have h := hTw; rw [hs1] at h; rw [hB]; exact h) (by rw [hB]; exact hA) (fun a' Y h2Y hKY hiY haY => ?_))⟩
    rw [hB] at h2Y
    have hlY := h2Y.2.trans hl
    have hkY := h2Y.1.trans hk
    have hlt := (Array.getElem?_eq_some_iff.1 hlY).1
    obtain ⟨W2, hW2⟩ : ∃ W2, Y.putObj (B + 1) (.loop { rd with state := .busy }) = W2 := ⟨_, rfl⟩
    have hl2 : W2.heap[B + 1]? = some (.loop { rd with state := .busy }) := by rw [← hW2]; exact World.putObj_heap_same hlt
    have hk2 : W2.heap[B]? = some (.deferred (some [])) := by rw [← hW2]; exact (World.putObj_heap_other (by omega)).trans hkY
    have hK2 : KeepU U A W W2 := by rw [← hW2]; exact hKY.trans (KeepU.put _ hnU hnA)
    have hi2 : I A pre W2 := by rw [← hW2]; exact (by have := hIo A pre Y (.loop { rd with state := .busy }) hiY (by rw [hB]; exact hA) (by rw [hB]; exact hlt); rw [hB] at this; exact this)
    have ha2 : Ax x a' W2 := by rw [← hW2]; exact (by have := hAx x a' Y (.loop { rd with state := .busy }) haY (by rw [hB]; exact hlt); rw [hB] at this; exact this)
    have hbr := run_beginRound (P := P) hlY (by rw [hrd])
    rw [hW2] at hbr
    refine ⟨W2, hbr, wpIn_mono (hbody _ A pre x a' W2 hi2 ha2 hlen hTx (by rw [hB]; exact hA)) ?_⟩
    have hend : ∀ (jump : Option Code) (W3 : World), Two B W2 W3 → ∃ W4, (Instr.endRound (B + 1) jump).run P W3 = .ok (.bool jump.isNone) W4 ∧ W4 = W3.putObj (B + 1) (.loop { rd with state := if jump.isNone then .ready else .done, pending := jump }) ∧ W3.heap[B + 1]? = some (.loop { rd with state := .busy }) ∧ W4.heap[B + 1]? = some (.loop { rd with state := if jump.isNone then .ready else .done, pending := jump }) ∧ W4.heap[B]? = some (.deferred (some [])) := by
      intro jump W3 h3
      have hl3 := h3.2.trans hl2
      have hk3 := h3.1.trans hk2
      exact ⟨_, run_endRound (P := P) jump hl3, rfl, hl3, World.putObj_heap_same (Array.getElem?_eq_some_iff.1 hl3).1, (World.putObj_heap_other (by omega)).trans hk3⟩
    have hstp : ∀ (c : Code) (W3 : World), Two B W2 W3 → Ix c A (pre ++ [x]) W3 → ∃ W4, (Instr.endRound (B + 1) (some c)).run P W3 = .ok (.bool false) W4 ∧ ∃ c', Ix c' A (pre ++ [x]) W4 ∧ (∀ b, A b → A0 b ∨ B + 2 ≤ b) ∧ W4.heap[B + 1]? = some (.loop { rd with state := .done, pending := some c' }) ∧ W4.heap[B]? = some (.deferred (some [])) := by
      intro c W3 h3 hx
      obtain ⟨W4, hr, rfl, hl3, hl4, hk4⟩ := hend (some c) W3 h3
      exact ⟨_, hr, c, (by have := hIxo c A _ W3 (.loop { rd with state := .done, pending := some c }) hx (by rw [hB]; exact hA) (by rw [hB]; exact (Array.getElem?_eq_some_iff.1 hl3).1); rw [hB] at this; exact this), hA, hl4, hk4⟩
    rintro e a3 W3 hp
    cases e with
    | normal =>
      rw [hB] at hp
      obtain ⟨h3, hK3, hi3⟩ := hp
      obtain ⟨W4, hr, rfl, hl3, hl4, hk4⟩ := hend none W3 h3
      refine ⟨_, _, hr, .inl ⟨rfl, ⟨(by have := hIo A _ W3 (.loop { rd with state := .ready, pending := none }) hi3 (by rw [hB]; exact hA) (by rw [hB]; exact (Array.getElem?_eq_some_iff.1 hl3).1); rw [hB] at this; exact this), hA, ?_, hk4⟩, (hK2.trans hK3).trans (KeepU.put _ hnU hnA)⟩⟩
      rw [hl4, hrd]; rfl
    | ret =>
      rw [hB] at hp
      obtain ⟨h3, hx3, hK3⟩ := hp
      obtain ⟨W4, hr, hx⟩ := hstp .ret W3 h3 hx3
      have e4 : W4 = W3.putObj (B + 1) (.loop { rd with state := .done, pending := some .ret }) := by
        obtain ⟨W5, hr5, e5, _⟩ := hend (some .ret) W3 h3
        have : W4 = W5 := by rw [hr] at hr5; injection hr5
        rw [this, e5]; rfl
      exact ⟨_, _, hr, .inr ⟨rfl, hx, fun hkx => by rw [e4]; exact (hK2.trans (hK3 hkx)).trans (KeepU.put _ hnU hnA)⟩⟩
    | exit id =>
      rw [hB] at hp
      obtain ⟨h3, hx3, hK3⟩ := hp
      obtain ⟨W4, hr, hx⟩ := hstp (.exit id) W3 h3 hx3
      have e4 : W4 = W3.putObj (B + 1) (.loop { rd with state := .done, pending := some (.exit id) }) := by
        obtain ⟨W5, hr5, e5, _⟩ := hend (some (.exit id)) W3 h3
        have : W4 = W5 := by rw [hr] at hr5; injection hr5
        rw [this, e5]; rfl
      exact ⟨_, _, hr, .inr ⟨rfl, hx, fun hkx => by rw [e4]; exact (hK2.trans (hK3 hkx)).trans (KeepU.put _ hnU hnA)⟩⟩
    | goto t =>
      rw [hB] at hp
      obtain ⟨h3, hx3, hK3⟩ := hp
      obtain ⟨W4, hr, hx⟩ := hstp (.goto t) W3 h3 hx3
      have e4 : W4 = W3.putObj (B + 1) (.loop { rd with state := .done, pending := some (.goto t) }) := by
        obtain ⟨W5, hr5, e5, _⟩ := hend (some (.goto t)) W3 h3
        have : W4 = W5 := by rw [hr] at hr5; injection hr5
        rw [this, e5]; rfl
      exact ⟨_, _, hr, .inr ⟨rfl, hx, fun hkx => by rw [e4]; exact (hK2.trans (hK3 hkx)).trans (KeepU.put _ hnU hnA)⟩⟩
    | panic _ => exact hp.elim
    | outgrown => exact hp.elim
  · rintro e W2 ⟨⟨v, rfl⟩, ⟨A, xs, hS, hi, hA, hl, hk⟩ | ⟨A, pre, hSp, c, hx, hA, hl, hk⟩⟩
    · have hr : (Instr.endLoop (B + 1)).run P W2 = .ok none (W2.putObj (B + 1) (.loop { rd with state := .exhausted })) := by
        have := run_endLoop (P := P) hl (by rw [hrd]; simp)
        rw [this, hrd]
      exact ⟨none, _, hr, hdone B A xs _ (by omega) hS (by have := hIo A xs W2 (.loop { rd with state := .exhausted }) hi (by rw [hB]; exact hA) (by rw [hB]; exact (Array.getElem?_eq_some_iff.1 hl).1); rw [hB] at this; exact this) ((World.putObj_heap_other (by omega)).trans hk)⟩
    · exact ⟨some c, _, run_endLoop (P := P) hl (by simp), hstop B c A pre _ (by omega) hSp (by have := hIxo c A pre W2 (.loop { rd with state := .exhausted, pending := some c }) hx (by rw [hB]; exact hA) (by rw [hB]; exact (Array.getElem?_eq_some_iff.1 hl).1); rw [hB] at this; exact this) ((World.putObj_heap_other (by omega)).trans hk)⟩
end Go.Proofs.YtlkcadibjmfmcaaDoor

/- The rows of terms that are still to come, in memory: the terms lie in a set of blocks. -/
namespace Go.Proofs.YtlkcadibjmfmcaaDoor
open Go.RowKit

/-- A cell that holds a text whose bytes lie in blocks of U. -/
def TxU (w : World) (U : Nat → Prop) (p : Addr) (t : List UInt8) : Prop := ∃ ta tc, w.cell? p = some (.slice ta t.length tc) ∧ t.length ≤ tc ∧ t.length ≤ 140737488355328 ∧ ∀ i c, t[i]? = some c → ∃ b o, ta = some ⟨b, o, none⟩ ∧ U b ∧ w.cell? ⟨b, o + i, none⟩ = some (.int .u8 (c.toNat : Int))
theorem TxU.keep {w w' : World} {U : Nat → Prop} {b o : Nat} {t : List UInt8} (h : TxU w U ⟨b, o, none⟩ t) (hb : U b) (hk : ∀ b, U b → ∀ q, w'.cell? ⟨b, q, none⟩ = w.cell? ⟨b, q, none⟩) : TxU w' U ⟨b, o, none⟩ t := by
  obtain ⟨ta, tc, h1, h2, h3, h4⟩ := h
  refine ⟨ta, tc, (hk b hb o).trans h1, h2, h3, fun i c hi => ?_⟩
  obtain ⟨b', o', e, hu, hc⟩ := h4 i c hi
  exact ⟨b', o', e, hu, (hk b' hu _).trans hc⟩
/-- Terms in a row, all that they are made of in blocks of U. -/
def MIn (w : World) (U : Nat → Prop) : Nat → Option Addr → List Tm → Prop
  | 0, _, l => l = []
  | f + 1, a, l => l.length * 72 ≤ 140737488355328 ∧ ∀ j d, l[j]? = some d → ∃ b o, a = some ⟨b, o, none⟩ ∧ U b ∧ ∃ sa sc, w.cell? ⟨b, o + j * 4, none⟩ = some (.int .i64 d.kind) ∧ w.cell? ⟨b, o + j * 4 + 1, none⟩ = some (.string d.cons) ∧ TxU w U ⟨b, o + j * 4 + 2, none⟩ d.text ∧ w.cell? ⟨b, o + j * 4 + 3, none⟩ = some (.slice sa d.kids.length sc) ∧ d.kids.length ≤ sc ∧ MIn w U f sa d.kids
/-- A term at an address, all that it is made of in blocks of U. -/
def TermIn (w : World) (U : Nat → Prop) (f b o : Nat) (d : Tm) : Prop := U b ∧ ∃ sa sc, w.cell? ⟨b, o, none⟩ = some (.int .i64 d.kind) ∧ w.cell? ⟨b, o + 1, none⟩ = some (.string d.cons) ∧ TxU w U ⟨b, o + 2, none⟩ d.text ∧ w.cell? ⟨b, o + 3, none⟩ = some (.slice sa d.kids.length sc) ∧ d.kids.length ≤ sc ∧ MIn w U f sa d.kids
theorem MIn.keep {w w' : World} {U : Nat → Prop} (hk : ∀ b, U b → ∀ q, w'.cell? ⟨b, q, none⟩ = w.cell? ⟨b, q, none⟩) : ∀ {f : Nat} {a : Option Addr} {l : List Tm}, MIn w U f a l → MIn w' U f a l
  | 0, _, _, h => h
  | f + 1, a, l, h => by
    refine ⟨h.1, fun j d hj => ?_⟩
    obtain ⟨b, o, e, hu, sa, sc, c0, c1, c2, c3, hc, hd⟩ := h.2 j d hj
    exact ⟨b, o, e, hu, sa, sc, (hk b hu _).trans c0, (hk b hu _).trans c1, c2.keep hu hk, (hk b hu _).trans c3, hc, hd.keep hk⟩
theorem MIn.up {w : World} {U : Nat → Prop} : ∀ {f : Nat} {a : Option Addr} {l : List Tm}, MIn w U f a l → MIn w U (f + 1) a l
  | 0, a, l, h => by
    have h' : l = [] := h
    subst h'
    exact ⟨by decide, fun j d hj => by cases hj⟩
  | f + 1, a, l, h => by
    refine ⟨h.1, fun j d hj => ?_⟩
    obtain ⟨b, o, e, hlt, sa, sc, c0, c1, c2, c3, hc, hk⟩ := h.2 j d hj
    exact ⟨b, o, e, hlt, sa, sc, c0, c1, c2, c3, hc, hk.up⟩
theorem MIn.wide {w : World} {U U' : Nat → Prop} (hU : ∀ b, U b → U' b) : ∀ {f : Nat} {a : Option Addr} {l : List Tm}, MIn w U f a l → MIn w U' f a l
  | 0, _, _, h => h
  | f + 1, a, l, h => by
    refine ⟨h.1, fun j d hj => ?_⟩
    obtain ⟨b, o, e, hu, sa, sc, c0, c1, ⟨ta, tc, t1, t2, t3, t4⟩, c3, hc, hd⟩ := h.2 j d hj
    refine ⟨b, o, e, hU b hu, sa, sc, c0, c1, ⟨ta, tc, t1, t2, t3, fun i c hi => ?_⟩, c3, hc, hd.wide hU⟩
    obtain ⟨b', o', e', hu', hc'⟩ := t4 i c hi
    exact ⟨b', o', e', hU b' hu', hc'⟩
theorem MIn.ab {w w' : World} {U : Nat → Prop} (hb : Ab U w w') {f : Nat} {a : Option Addr} {l : List Tm} (h : MIn w U f a l) : MIn w' U f a l := h.keep (fun b hu q => hb.cell (p := ⟨b, q, none⟩) hu)
theorem TermIn.keepc {w w' : World} {U : Nat → Prop} {f b o : Nat} {d : Tm} (h : TermIn w U f b o d) (k : ∀ b, U b → ∀ q, w'.cell? ⟨b, q, none⟩ = w.cell? ⟨b, q, none⟩) : TermIn w' U f b o d := by
  obtain ⟨hlt, sa, sc, c0, c1, c2, c3, hc, hk⟩ := h
  exact ⟨hlt, sa, sc, (k b hlt _).trans c0, (k b hlt _).trans c1, c2.keep hlt k, (k b hlt _).trans c3, hc, hk.keep k⟩
theorem TermIn.keep {w w' : World} {U : Nat → Prop} {f b o : Nat} {d : Tm} (h : TermIn w U f b o d) (hb : Ab U w w') : TermIn w' U f b o d := h.keepc (fun b hu q => hb.cell (p := ⟨b, q, none⟩) hu)
theorem MIn.one {w : World} {U : Nat → Prop} {f : Nat} {a : Option Addr} {l : List Tm} (h : MIn w U f a l) {j : Nat} {d : Tm} (hj : l[j]? = some d) : ∃ b o, a = some ⟨b, o, none⟩ ∧ TermIn w U f b (o + j * 4) d := by
  match f, h with
  | 0, h =>
    have h' : l = [] := h
    subst h'; cases hj
  | f + 1, h =>
    obtain ⟨b, o, e, hlt, sa, sc, c0, c1, c2, c3, hc, hk⟩ := h.2 j d hj
    exact ⟨b, o, e, hlt, sa, sc, c0, c1, c2, c3, hc, hk.up⟩
theorem MIn.len {w : World} {U : Nat → Prop} {f : Nat} {a : Option Addr} {l : List Tm} (h : MIn w U f a l) : l.length * 72 ≤ 140737488355328 := by
  match f, h with
  | 0, h =>
    have h' : l = [] := h
    subst h'; decide
  | f + 1, h => exact h.1
theorem MIn.tail {w : World} {U : Nat → Prop} {f b o : Nat} {d : Tm} {l : List Tm} (h : MIn w U f (some ⟨b, o, none⟩) (d :: l)) : MIn w U f (some ⟨b, o + 4, none⟩) l := by
  match f, h with
  | 0, h => cases h
  | f + 1, h =>
    refine ⟨by have := h.1; simp at this; omega, fun j x hj => ?_⟩
    obtain ⟨b', o', e, hlt, sa, sc, c0, c1, c2, c3, hc, hk⟩ := h.2 (j + 1) x (by simpa using hj)
    cases e
    have e4 : o + (j + 1) * 4 = o + 4 + j * 4 := by omega
    rw [e4] at c0 c1 c2 c3
    exact ⟨b, o + 4, rfl, hlt, sa, sc, c0, c1, c2, c3, hc, hk⟩
theorem TxC.inU {w : World} {B : Nat} {U : Nat → Prop} {p : Addr} {t : List UInt8} (hU : ∀ b, b < B → U b) (h : TxC w B p t) : TxU w U p t := by
  obtain ⟨ta, tc, h1, h2, h3, h4⟩ := h
  refine ⟨ta, tc, h1, h2, h3, fun i c hi => ?_⟩
  obtain ⟨b, o, e, hlt, hc⟩ := h4 i c hi
  exact ⟨b, o, e, hU b hlt, hc⟩
theorem TxU.at' {w : World} {B : Nat} {U : Nat → Prop} {p : Addr} {t : List UInt8} (hU : ∀ b, U b → b < B) (h : TxU w U p t) : TxC w B p t := by
  obtain ⟨ta, tc, h1, h2, h3, h4⟩ := h
  refine ⟨ta, tc, h1, h2, h3, fun i c hi => ?_⟩
  obtain ⟨b, o, e, hlt, hc⟩ := h4 i c hi
  exact ⟨b, o, e, hU b hlt, hc⟩
theorem MAt.inU {w : World} {B : Nat} {U : Nat → Prop} (hU : ∀ b, b < B → U b) : ∀ {f : Nat} {a : Option Addr} {l : List Tm}, MAt w B f a l → MIn w U f a l
  | 0, _, _, h => h
  | f + 1, a, l, h => by
    refine ⟨h.1, fun j d hj => ?_⟩
    obtain ⟨b, o, e, hlt, sa, sc, c0, c1, c2, c3, hc, hk⟩ := h.2 j d hj
    exact ⟨b, o, e, hU b hlt, sa, sc, c0, c1, c2.inU hU, c3, hc, hk.inU hU⟩
theorem MIn.at' {w : World} {B : Nat} {U : Nat → Prop} (hU : ∀ b, U b → b < B) : ∀ {f : Nat} {a : Option Addr} {l : List Tm}, MIn w U f a l → MAt w B f a l
  | 0, _, _, h => h
  | f + 1, a, l, h => by
    refine ⟨h.1, fun j d hj => ?_⟩
    obtain ⟨b, o, e, hlt, sa, sc, c0, c1, c2, c3, hc, hk⟩ := h.2 j d hj
    exact ⟨b, o, e, hU b hlt, sa, sc, c0, c1, c2.at' hU, c3, hc, hk.at' hU⟩
theorem TermIn.at' {w : World} {B : Nat} {U : Nat → Prop} (hU : ∀ b, U b → b < B) {f b o : Nat} {d : Tm} (h : TermIn w U f b o d) : TermAt w B f b o d := by
  obtain ⟨hlt, sa, sc, c0, c1, c2, c3, hc, hk⟩ := h
  exact ⟨hU b hlt, sa, sc, c0, c1, c2.at' hU, c3, hc, hk.at' hU⟩
theorem MIx.inU {w : World} {S U : Nat → Prop} (hU : ∀ b, S b → U b) : ∀ {f : Nat} {a : Option Addr} {l : List Tm}, MIx w S f a l → MIn w U f a l
  | 0, _, _, h => h
  | f + 1, a, l, h => by
    refine ⟨h.1, fun j d hj => ?_⟩
    obtain ⟨b, o, e, hs, _, tv, sa, sc, c0, c1, c2, c3, ⟨ta, tc, rfl, t1, t2, t3⟩, hc, hk⟩ := h.2 j d hj
    refine ⟨b, o, e, hU b hs, sa, sc, c0, c1, ⟨ta, tc, c2, t1, t2, fun i c hi => ?_⟩, c3, hc, hk.inU hU⟩
    obtain ⟨b', o', e', hs', _, hc'⟩ := t3 i c hi
    exact ⟨b', o', e', hU b' hs', hc'⟩
/-- Rows in memory; the terms lie where they lay in W0. -/
structure RU (W0 W : World) (hi : Nat) (U : Nat → Prop) (f : Nat) (rv : Value) (rows : List (List Tm × Nat)) (cs : List Value) : Prop where
  row : W.ownsRow hi 86 2 rv rows.length cs
  at' : ∀ j l m, rows[j]? = some (l, m) → ∃ sa sc, l ≠ [] ∧ MIn W0 U f sa l ∧ l.length ≤ sc ∧ cs[j * 2]? = some (.slice sa l.length sc) ∧ cs[j * 2 + 1]? = some (.int .i64 (m : Int))
section
variable {W0 W W' : World} {hi f : Nat} {U : Nat → Prop} {rv : Value} {R : List (List Tm × Nat)} {cs : List Value}
theorem RU.nil (W0 W : World) (hi : Nat) (U : Nat → Prop) (f : Nat) : RU W0 W hi U f (.slice none 0 0) [] [] := ⟨World.ownsRow_nil _ _ _ _, fun j l m h => by cases h⟩
theorem RU.move (h : RU W0 W hi U f rv R cs) (hk : ∀ g, rv.ownBlock = some g → W'.heap[g]? = W.heap[g]?) : RU W0 W' hi U f rv R cs := by
  refine ⟨⟨h.row.1, ?_⟩, h.at'⟩
  rcases h.row.2 with h0 | ⟨g, cap, cur, rfl, hbg, hg, rest⟩
  · exact .inl h0
  · exact .inr ⟨g, cap, cur, rfl, hbg, (hk g rfl).trans hg, rest⟩
theorem RU.push (h : RU W0 W hi U f rv R cs) {v' : Value} {l : List Tm} {m : Nat} {sa : Option Addr} {sc : Nat} (hl : l ≠ []) (hd : MIn W0 U f sa l) (hc : l.length ≤ sc) (hr : W'.ownsRow hi 86 2 v' (R.length + 1) (cs ++ [.slice sa l.length sc, .int .i64 (m : Int)])) : RU W0 W' hi U f v' (R ++ [(l, m)]) (cs ++ [.slice sa l.length sc, .int .i64 (m : Int)]) := by
  have hcl := h.row.1
  refine ⟨by rw [List.length_append]; exact hr, fun j l' m' hj => ?_⟩
  by_cases hlt : j < R.length
  · rw [List.getElem?_append_left hlt] at hj
    obtain ⟨sa', sc', h1, h2, h3, h4, h5⟩ := h.at' j l' m' hj
    exact ⟨sa', sc', h1, h2, h3, by rw [List.getElem?_append_left (by omega)]; exact h4, by rw [List.getElem?_append_left (by omega)]; exact h5⟩
  · have := (List.getElem?_eq_some_iff.1 hj).1
    simp at this
    obtain rfl : j = R.length := by omega
    simp at hj
    obtain ⟨rfl, rfl⟩ := hj
    refine ⟨sa, sc, hl, hd, hc, ?_, ?_⟩
    · rw [List.getElem?_append_right (by omega), hcl, Nat.sub_self]; rfl
    · rw [List.getElem?_append_right (by omega), hcl, show R.length * 2 + 1 - R.length * 2 = 1 by omega]; rfl
theorem RU.ne (h : RU W0 W hi U f rv R cs) : ∀ p ∈ R, p.1 ≠ [] := fun p hp => by
  obtain ⟨j, hj⟩ := List.mem_iff_getElem?.1 hp
  obtain ⟨_, _, h1, _⟩ := h.at' j p.1 p.2 hj
  exact h1
/-- The last row, and what comes of it when its first term is taken off. -/
theorem RU.top {l : List Tm} {m : Nat} (h : RU W0 W hi U f rv (R ++ [(l, m)]) cs) : ∃ g cap b o sc d0 l', rv = .slice (some ⟨g, 0, none⟩) (R.length + 1) cap ∧ hi ≤ g ∧ g < W.heap.size ∧ R.length + 1 ≤ cap ∧ l = d0 :: l' ∧ l'.length + 1 ≤ sc ∧ W.cell? ⟨g, R.length * 2, none⟩ = some (.slice (some ⟨b, o, none⟩) (l'.length + 1) sc) ∧ W.cell? ⟨g, R.length * 2 + 1, none⟩ = some (.int .i64 (m : Int)) ∧ W.frozen? ⟨g, R.length * 2, none⟩ = false ∧ TermIn W0 U f b o d0 ∧ (l'.length + 1) * 72 ≤ 140737488355328 ∧
    ∀ V : World, V.heap[g]? = W.heap[g]? → (∀ u, V.grownBy (V.setCell ⟨g, R.length * 2, none⟩ u) (some g) ∧ ∃ cs', RU W0 (V.setCell ⟨g, R.length * 2, none⟩ u) hi U f (.slice (some ⟨g, 0, none⟩) R.length cap) R cs') ∧ (l' ≠ [] → ∃ cs', RU W0 (V.setCell ⟨g, R.length * 2, none⟩ (.slice (some ⟨b, o + 4, none⟩) l'.length (sc - 1))) hi U f (.slice (some ⟨g, 0, none⟩) (R.length + 1) cap) (R ++ [(l', m)]) cs') := by
  have hr := h.row
  rw [List.length_append] at hr
  have hr' : W.ownsRow hi 86 2 rv (R.length + 1) cs := hr
  obtain ⟨g, cap, rfl, hbg, hg, hcap⟩ := row_at hr' (by omega)
  have hcl : cs.length = (R.length + 1) * 2 := hr'.1
  obtain ⟨sa, sc, hne, hd, hsc, q0, q1⟩ := h.at' R.length l m (by simp)
  match l, hne with
  | d0 :: l', _ =>
    obtain ⟨b, o, rfl, hdoc⟩ := hd.one (j := 0) (d := d0) rfl
    have k0 := hr'.cellAt (R.length * 2) (by omega)
    have k1 := hr'.cellAt (R.length * 2 + 1) (by omega)
    have hst := fun (V : World) (hV : V.heap[g]? = W.heap[g]?) u => World.ownsRow.stored (w := V) (base := hi) (e := 86) (size := 2) (g := g) (n := R.length + 1) (cap := cap) (xs := cs) (by
      have := (h.move (W' := V) (fun g' hg' => by simp [Value.ownBlock] at hg'; subst hg'; exact hV)).row
      rw [List.length_append] at this; exact this) (R.length * 2) u
    have hdl := hd.len
    refine ⟨g, cap, b, o, sc, d0, l', rfl, hbg, hg, hcap, rfl, hsc, k0.trans q0, k1.trans q1, hr'.frozenAt _, by simpa using hdoc, hdl, fun V hV => ⟨fun u => ⟨(hst V hV u).2, _, row_init (hst V hV u).1, fun j lj mj hj => ?_⟩, fun hl' => ⟨_, by rw [List.length_append]; exact (hst V hV _).1, fun j lj mj hj => ?_⟩⟩⟩
    · have hlt := (List.getElem?_eq_some_iff.1 hj).1
      obtain ⟨sa', sc', h1, h2, h3, h4, h5⟩ := h.at' j lj mj (by rw [List.getElem?_append_left hlt]; exact hj)
      exact ⟨sa', sc', h1, h2, h3, by rw [List.getElem?_take_of_lt (by omega), List.getElem?_set_ne (by omega)]; exact h4, by rw [List.getElem?_take_of_lt (by omega), List.getElem?_set_ne (by omega)]; exact h5⟩
    · by_cases hlt : j < R.length
      · rw [List.getElem?_append_left hlt] at hj
        obtain ⟨sa', sc', h1, h2, h3, h4, h5⟩ := h.at' j lj mj (by rw [List.getElem?_append_left hlt]; exact hj)
        exact ⟨sa', sc', h1, h2, h3, by rw [List.getElem?_set_ne (by omega)]; exact h4, by rw [List.getElem?_set_ne (by omega)]; exact h5⟩
      · have := (List.getElem?_eq_some_iff.1 hj).1
        simp at this
        obtain rfl : j = R.length := by omega
        simp at hj
        obtain ⟨rfl, rfl⟩ := hj
        have hsc' : l'.length + 1 ≤ sc := hsc
        refine ⟨some ⟨b, o + 4, none⟩, sc - 1, hl', hd.tail, by omega, ?_, ?_⟩
        · rw [List.getElem?_set_self (by omega)]
        · rw [List.getElem?_set_ne (by omega)]; exact q1
end
end Go.Proofs.YtlkcadibjmfmcaaDoor

/- Going through a term's parts, which lie in a set of blocks: the iterator keeps its promise. -/
namespace Go.Proofs.YtlkcadibjmfmcaaDoor
open Go.RowKit Go.Shelf

def ToldU (w : World) (U : Nat → Prop) (f : Nat) (xs : List Px) : Prop := ∀ x ∈ xs, TermIn w U f x.b x.o x.doc
/-- What is so when the next part is told: k parts are still to come. -/
structure PU (W : World) (U : Nat → Prop) (f B2 : Nat) (A0 : Nat → Prop) (d : Tm) (J : (Nat → Prop) → List Px → World → Prop) (A : Nat → Prop) (xs : List Px) (x : Px) (R : List (List Tm × Nat)) (cs : List Value) (k : Nat) (rv : Value) (wr : World) : Prop where
  j : J A xs wr
  a2 : A B2
  ao : ∀ g, rv.ownBlock = some g → A g
  al : ∀ b, A b → b < wr.heap.size
  bel : Ab U W wr
  c2 : wr.cell? ⟨B2, 0, none⟩ = some (.func (.func 36) #[] #[])
  rs : RU W wr W.heap.size U f rv R cs
  told : ToldU W U f (xs ++ [x])
  eq : xs.map Px.say ++ ((x.doc, x.deep) :: preL x.doc.kids (x.deep + 1)) ++ restR R = pre d 1
  dx : x.deep ≤ xs.length + 1
  dr : ∀ p ∈ R, p.2 ≤ xs.length + 1
  rest : (preL x.doc.kids (x.deep + 1) ++ restR R).length = k

def PV (W : World) (U : Nat → Prop) (f B2 : Nat) (A0 : Nat → Prop) (d : Tm) (J : (Nat → Prop) → List Px → World → Prop) (rv pv dv : Value) (wr : World) (k : Nat) : Prop :=
  ∃ A xs x R cs, pv = .pointer (some ⟨(x : Px).b, x.o, none⟩) ∧ dv = .int .i64 (x.deep : Int) ∧ PU W U f B2 A0 d J A xs x R cs k rv wr
theorem PU.next {W : World} {U : Nat → Prop} {f B2 : Nat} {A0 : Nat → Prop} {d : Tm} {J : (Nat → Prop) → List Px → World → Prop} {A : Nat → Prop} {xs : List Px} {x : Px} {R : List (List Tm × Nat)} {cs : List Value} {rv : Value} {w' V V5 : World} {g : Nat}
    (hJ : Stays J) (hj : J A xs w') (a2 : A B2) (ag : A g) (al : ∀ b, A b → b < w'.heap.size) (hbel : Ab U W w') (hU : ∀ b, U b → b < W.heap.size) (hB2 : B2 < W.heap.size) (hgi : W.heap.size ≤ g) (c2 : w'.cell? ⟨B2, 0, none⟩ = some (.func (.func 36) #[] #[]))
    (hg1 : w'.grownBy V none) (hg2 : V.grownBy V5 (some g)) (hrs : RU W V5 W.heap.size U f rv R cs) (hown : rv.ownBlock = some g) (told : ToldU W U f (xs ++ [x])) (heq : xs.map Px.say ++ ((x.doc, x.deep) :: preL x.doc.kids (x.deep + 1)) ++ restR R = pre d 1) (dx : x.deep ≤ xs.length + 1) (dr : ∀ p ∈ R, p.2 ≤ xs.length + 1) :
    PV W U f B2 A0 d J rv (.pointer (some ⟨x.b, x.o, none⟩)) (.int .i64 (x.deep : Int)) V5 (preL x.doc.kids (x.deep + 1) ++ restR R).length := by
  have s1 := hg1.size
  have s2 := hg2.size
  have hbs := hbel.size
  have hi : Iter A w' V5 := ⟨hg2.os.trans hg1.os, hg2.tape.trans hg1.tape, hg2.output.trans hg1.output, by omega, fun b hb hA => (hg2.block b (by omega) (fun e => by cases e; exact hA ag)).trans (hg1.block b hb (by simp))⟩
  refine ⟨A, xs, x, R, cs, rfl, rfl, ⟨hJ A A xs w' V5 hj hi (fun b hb => .inl hb), a2, fun g' hg' => ?_, fun b hb => by have := al b hb; omega, ⟨hi.os.trans hbel.os, hi.tape.trans hbel.tape, hi.output.trans hbel.output, by omega, fun b hb => ?_⟩, ?_, hrs, told, heq, dx, dr, rfl⟩⟩
  · rw [hown] at hg'; cases hg'; exact ag
  · have := hU b hb
    exact ((hg2.block b (by omega) (fun e => by cases e; omega)).trans (hg1.block b (by omega) (by simp))).trans (hbel.block b hb)
  · exact (World.cell?_of_block (a := ⟨B2, 0, none⟩) ((hg2.block B2 (by omega) (fun e => by cases e; omega)).trans (hg1.block B2 (by omega) (by simp)))).trans c2
set_option maxRecDepth 100000 in
set_option maxHeartbeats 4000000 in
theorem parts1_u (n : Nat) (hn : 1 ≤ n) (l B1 B2 : Nat) (U : Nat → Prop) (f b0 o0 : Nat) (d : Tm) (A0 : Nat → Prop) (J Jx : (Nat → Prop) → List Px → World → Prop) (W : World) (hU : ∀ b, U b → b < W.heap.size) (hJ : Stays J) (hd : TermIn W U f b0 o0 d) (hlen : (pre d 1).length ≤ 1000000000000)
    (hA2 : A0 B2) (hlt : ∀ b, A0 b → b < W.heap.size)
    (hY : ∀ A ps x W1, J A ps W1 → ps.length < 1000000000000 → TermIn W U f x.b x.o x.doc → (∃ r, ps.map Px.say ++ x.say :: r = pre d 1) → YieldAt Fence.wide (n - 1) Tryd.prog l (Px.enc x) W1 fun e W' =>
      (e = .returned (.bool true) ∧ J A (ps ++ [x]) W' ∧ KeepU U A W1 W') ∨ (e = .returned (.bool false) ∧ Jx A (ps ++ [x]) W'))
    (c1 : W.cell? ⟨B1, 0, none⟩ = some (.pointer (some ⟨b0, o0, none⟩))) (c2 : W.cell? ⟨B2, 0, none⟩ = some (.func (.func 36) #[] #[])) (h0 : J A0 [] W) :
    CallsIn Fence.wide n Tryd.prog 56 #[.func (.yield l) #[] #[], .pointer (some ⟨B1, 0, none⟩), .pointer (some ⟨B2, 0, none⟩)] W fun e W' => (∃ v, e = .returned v) ∧
      ((∃ A xs, (xs.map Px.say = pre d 1 ∧ ToldU W U f xs) ∧ J A xs W') ∨ (∃ A xs, ((∃ r, xs.map Px.say ++ r = pre d 1) ∧ ToldU W U f xs) ∧ Jx A xs W')) := by
  obtain ⟨i0, hi0, hz0, hz1, hz2⟩ := info_parts infoRow
  refine callsIn_of_wp Tryd.func56 rfl trivial ?_ rfl
  simp only [Tryd.ntmps56, List.size_toArray, List.length_cons, List.length_nil, Nat.reduceAdd, Nat.reduceSub, Array.replicate_succ, Array.replicate_zero, List.push_toArray, List.append_toArray, List.nil_append, List.cons_append]
  gi_wp2
  gi_loopw [4, 5, 6] (fun rv pv dv wr => ∃ k, PV W U f B2 A0 d J rv pv dv wr k) (fun rv pv dv wr => least (PV W U f B2 A0 d J rv pv dv wr))
  case atStart =>
    refine ⟨_, A0, [], ⟨b0, o0, 1, d⟩, [], [], rfl, rfl, ⟨h0, hA2, fun g hg => (by cases hg), hlt, Ab.refl _ _, c2, RU.nil _ _ _ _ _, fun y hy => ?_, ?_, (by simp), fun p hp => (by cases hp), rfl⟩⟩
    · simp at hy; subst hy; exact hd
    · rw [restR_nil]; simp [pre_eq]
  case round =>
    obtain ⟨k1, hk1⟩ := hrel
    obtain ⟨A, xs, x, R, cs, rfl, rfl, hP⟩ := least_spec hk1
    clear hk1
    generalize hkk : least (PV W U f B2 A0 d J _ _ _ _) = k at hP
    have HKK : Hid _ := hkk
    clear hkk
    have hB2 := hlt B2 hA2
    have hxl : xs.length < 1000000000000 := by
      have := congrArg List.length hP.eq
      simp at this
      omega
    obtain ⟨fn, tmps, assign, body, hy0, hR⟩ := hY A xs x wr hP.j hxl (hP.told x (by simp)) ⟨preL x.doc.kids (x.deep + 1) ++ restR R, by rw [← hP.eq]; simp [Px.say]⟩
    have hy : (Instr.yield l #[.pointer (some ⟨x.b, x.o, none⟩), .int .i64 (x.deep : Int)]).run Tryd.prog wr = .ok (.round l fn tmps assign body) wr := hy0
    clear hy0
    gi_wp2
    refine hR.mono ?_
    rintro e W3 (⟨rfl, hJ3, hK3⟩ | ⟨rfl, hJx3⟩)
    · have hB3 : Ab U W W3 := hP.bel.trans hK3.1
      have c23 : W3.cell? ⟨B2, 0, none⟩ = some (.func (.func 36) #[] #[]) := (World.cell?_of_block (a := ⟨B2, 0, none⟩) (hK3.2 B2 hP.a2 (hP.al B2 hP.a2))).trans hP.c2
      have hrs3 := hP.rs.move (fun g hg => hK3.2 g (hP.ao g hg) (hP.al g (hP.ao g hg)))
      have hdW := hP.told x (by simp)
      have HDW : Hid _ := hdW
      obtain ⟨hbx, sa, sc, e0, e1, e2, e3, hsc, hk3⟩ := hdW.keep hB3
      have HO : Hid _ := fun b o w => ofTerm_any b o w
      have hdl := hk3.len
      have hs3 := hB3.size
      have HJ3 : Hid _ := hJ3
      have HT : Hid _ := hP.told
      have HA : Hid (∀ g, (_ : Value).ownBlock = some g → A g) := hP.ao
      have HAl : Hid (∀ b, A b → b < W3.heap.size) := fun b hb => Nat.lt_of_lt_of_le (hP.al b hb) hK3.1.size
      have HA2 : Hid _ := hP.a2
      have heq := hP.eq
      have hdx := hP.dx
      have hdr := hP.dr
      have hrst := hP.rest
      clear hP hK3 hR hy hJ3 hY
      by_cases hkids : x.doc.kids = []
      · rw [hkids] at e3 heq hrst
        have e3' : W3.cell? ⟨x.b, x.o + 3, none⟩ = some (.slice sa 0 sc) := e3
        clear e3 hkids hsc hk3 hdl
        rcases List.eq_nil_or_concat R with rfl | ⟨R2, ⟨l, m⟩, hRR⟩
        · obtain ⟨a4, c4, rfl⟩ := row_slice hrs3.row
          have hall : (xs ++ [x]).map Px.say = pre d 1 := by rw [← heq]; simp [Px.say, preL, restR_nil]
          clear hrs3 heq hrst hdr
          gi_wp2_with (refine ⟨trivial, ?_⟩; gi_at_call 36; refine (callsIn_wide.2 (HO.out _ _ _)).mono ?_; rintro e w' ⟨rfl, rfl⟩)
          first | go_end0 | refine bodyPost_ret (results_none rfl _ _ _) rfl ?_
          exact ⟨⟨_, rfl⟩, .inl ⟨A, xs ++ [x], ⟨hall, HT.out⟩, HJ3.out⟩⟩
        · rw [List.concat_eq_append] at hRR
          subst hRR
          have hrs := hrs3
          have HJ' : Hid (J A (xs ++ [x]) W3) := HJ3.out
          have HA' := HA
          have HAl' := HAl
          have HA2' := HA2
          have heq' : (xs.map Px.say ++ [(x.doc, x.deep)]) ++ (preL l m ++ restR R2) = pre d 1 := by rw [← heq, restR_snoc]; simp [preL]
          have hrst' : (preL l m ++ restR R2).length = k := by rw [← hrst, restR_snoc]; simp [preL]
          have hRl : R2.length + 1 ≤ 1000000000000 := by
            have h1 := restR_len _ hrs.ne
            have h2 := congrArg List.length heq
            simp at h1 h2
            omega
          have hm : m ≤ xs.length + 2 := by have := hdr (l, m) (by simp); omega
          have hdr' : ∀ p ∈ R2, p.2 ≤ xs.length + 2 := fun p hp => by have := hdr p (by simp [hp]); omega
          clear hrs3 heq hrst hdr HJ3 HA HAl HA2
          obtain ⟨g, cap, b, o, sc2, d0, l', hrv, hgi, hgs, hcap, rfl, hsc2, t0, t1, tf, hdoc, hl56, hnab⟩ := hrs.top
          subst hrv
          have HG : Hid _ := HA'.out g rfl
          have hsb : IntKind.i64.wrap (((R2.length + 1 : Nat) : Int) - 1) = (R2.length : Int) := by rw [IntKind.wrap_i64]; omega
          have hR2 : (R2.length : Int) < ((R2.length + 1 : Nat) : Int) := by omega
          have HNn : Hid _ := fun nq => hnab (W3.drewN nq) rfl
          have HTo : Hid (ToldU W U f ((xs ++ [x]) ++ [⟨b, o, m, d0⟩])) := fun y hy => by
            rcases List.mem_append.1 hy with h | h
            · exact HT.out y h
            · simp at h; subst h; exact hdoc
          have hz9 : (((R2.length : Int) + 1) == 0) = false := by simp; omega
          clear hnab hdoc hrs HT
          gi_wp2_with (refine ⟨trivial, ?_⟩; gi_at_call 36; refine (callsIn_wide.2 (HO.out _ _ _)).mono ?_; rintro e w' ⟨rfl, rfl⟩)
          gi_quiet (fail)
          obtain ⟨V, hV⟩ : ∃ V, w'.drewN nq = V := ⟨_, rfl⟩
          have v0 : V.cell? ⟨g, R2.length * 2, none⟩ = some (.slice (some ⟨b, o, none⟩) (l'.length + 1) sc2) := by rw [← hV]; exact t0
          have vf : V.frozen? ⟨g, R2.length * 2, none⟩ = false := by rw [← hV]; exact tf
          have HV : Hid (w'.grownBy V none) := by rw [← hV]; exact ⟨rfl, rfl, rfl, Nat.le_refl _, fun _ _ _ => rfl⟩
          have HN1 : Hid (∀ u, V.grownBy (V.setCell ⟨g, R2.length * 2, none⟩ u) (some g) ∧ ∃ cs', RU W (V.setCell ⟨g, R2.length * 2, none⟩ u) W.heap.size U f (.slice (some ⟨g, 0, none⟩) R2.length cap) R2 cs') := by rw [← hV]; exact (HNn.out nq).1
          have HN2 : Hid (l' ≠ [] → ∃ cs', RU W (V.setCell ⟨g, R2.length * 2, none⟩ (.slice (some ⟨b, o + 4, none⟩) l'.length (sc2 - 1))) W.heap.size U f (.slice (some ⟨g, 0, none⟩) (R2.length + 1) cap) (R2 ++ [(l', m)]) cs') := by rw [← hV]; exact (HNn.out nq).2
          rw [hV]
          clear t0 t1 tf hV e0 e1 e2 HNn
          have hgs' : g < V.heap.size := Nat.lt_of_lt_of_le hgs HV.out.size
          cases l' with
          | nil =>
            gi_wp2
            obtain ⟨hg2, cs', hrs'⟩ := HN1.out (.slice (if sc2 = 1 then some ⟨b, o, none⟩ else some ⟨b, o + 4, none⟩) 0 (sc2 - 1))
            have hfin := PU.next (A0 := A0) (x := ⟨b, o, m, d0⟩) hJ HJ'.out HA2'.out HG.out HAl'.out hB3 hU hB2 hgi c23 HV.out hg2 hrs' rfl HTo.out (by rw [← heq']; simp [preL, pre_eq, Px.say]) (by simp; omega) (fun p hp => by have := hdr' p hp; simp; omega)
            refine ⟨⟨_, hfin⟩, ?_⟩
            rw [HKK.out]
            refine Nat.lt_of_le_of_lt (least_le hfin) ?_
            rw [← hrst']; simp [preL, pre_eq]
          | cons d1 l2 =>
            have hsc1 : ¬ sc2 = 1 := by simp at hsc2; omega
            obtain ⟨cs', hrs'⟩ := HN2.out (by simp)
            have hg2 := (HN1.out (.slice (some ⟨b, o + 4, none⟩) (d1 :: l2).length (sc2 - 1))).1
            have hfin := PU.next (A0 := A0) (x := ⟨b, o, m, d0⟩) hJ HJ'.out HA2'.out HG.out HAl'.out hB3 hU hB2 hgi c23 HV.out hg2 hrs' rfl HTo.out (by rw [← heq', restR_snoc]; simp [preL, pre_eq, Px.say]) (by simp; omega) (fun p hp => by
              rcases List.mem_append.1 hp with h | h
              · have := hdr' p h; simp; omega
              · simp at h; subst h; simp; omega)
            have HF : Hid _ := hfin
            clear hfin hg2 hrs'
            gi_wp2
            refine ⟨⟨_, HF.out⟩, ?_⟩
            rw [HKK.out]
            refine Nat.lt_of_le_of_lt (least_le HF.out) ?_
            rw [← hrst', restR_snoc]; simp [preL, pre_eq]
      · have hk0 : 0 < x.doc.kids.length := by
          cases hx : x.doc.kids with
          | nil => exact absurd hx hkids
          | cons _ _ => simp
        have hk0I : ((0 : Int) < (x.doc.kids.length : Int)) := by omega
        have hRl : R.length + 1 ≤ 1000000000000 := by
          have h1 := restR_len _ hrs3.ne
          have h2 := congrArg List.length heq
          have h3 := preL_pos hkids (x.deep + 1)
          simp at h1 h2
          omega
        have hrow := hrs3.row
        have hcells : Hid (∀ (w : World) j u, [Value.slice sa x.doc.kids.length sc, .int .i64 ((x.deep : Int) + 1)][j]? = some u → (w.alloc (.cells #[.slice sa x.doc.kids.length sc, .int .i64 ((x.deep : Int) + 1)] 86)).cell? ((⟨w.heap.size, 0, none⟩ : Addr).add j) = some u) := fun w j u hu => by
          have hadd : (⟨w.heap.size, 0, none⟩ : Addr).add j = ⟨w.heap.size, j, none⟩ := by unfold Addr.add; split <;> simp_all
          rw [hadd, World.cell?_alloc_at _ _ _ _ rfl]; simpa using hu
        gi_wp2_with (first | (refine ⟨trivial, ?_⟩; gi_at_call 36; refine (callsIn_wide.2 (HO.out _ _ _)).mono ?_; rintro e w' ⟨rfl, rfl⟩) | (gi_at_builtin; refine wpListIn_append_own_at _ rfl _ _ 84 rfl W.heap.size 86 i0 _ 2 32 Tryd.underlying84 hi0 hz0 hz1 hz2 rfl (by decide) _ _ _ rfl (hrow.alloc _) ⟨_, 0, none⟩ 1 1 [.slice sa x.doc.kids.length sc, .int .i64 ((x.deep : Int) + 1)] rfl rfl (hcells.out _) (by intro u hu; simp at hu; rcases hu with rfl | rfl <;> rfl) (by unfold maxLen; omega) (by omega) (by simp; omega) ?_))
        intro v' w4 hown hgrow _ hat
        obtain ⟨_, sa', sc', _, _, _, q3, _, hdk⟩ := HDW.out
        have hsa : sa' = sa := by
          have := ((hB3.cell (p := ⟨x.b, x.o + 3, none⟩) hbx).trans q3).symm.trans e3
          simpa using (Value.slice.inj (Option.some.inj this)).1
        rw [hsa] at hdk
        clear q3 hsa
        have hgr := (World.grownBy_alloc w' (.cells #[.slice sa x.doc.kids.length sc, .int .i64 ((x.deep : Int) + 1)] 86) _).trans hgrow
        have hs4 := hgr.size
        have hrs : RU W w4 W.heap.size U f v' (R ++ [(x.doc.kids, x.deep + 1)]) _ := hrs3.push (m := x.deep + 1) hkids hdk hsc (by push_cast; exact hown)
        have hnew : ∀ g, v'.ownBlock = some g → A g ∨ (w'.heap.size ≤ g ∧ g < w4.heap.size) := fun g hg => by
          rcases hat with h | h
          · exact .inl (HA.out g (by rw [← h]; exact hg))
          · rw [h] at hg
            simp at hg
            have := hgrow.size
            simp at this
            have hlt4 := (hrs.row.lt g (by rw [h]; simp [hg])).2
            exact .inr ⟨by omega, hlt4⟩
        have hit : Iter A w' w4 := Iter.of_grown hgr (fun b hb => HA.out b hb)
        obtain ⟨A', hA'⟩ : ∃ A' : Nat → Prop, A' = fun b => b = B2 ∨ v'.ownBlock = some b := ⟨_, rfl⟩
        have HJ' : Hid (J A' (xs ++ [x]) w4) := hJ A A' _ _ _ HJ3.out hit (fun b hb => by
          rw [hA'] at hb
          rcases hb with rfl | hb
          · exact .inl HA2.out
          · exact hnew b hb)
        have HA' : Hid (∀ g, v'.ownBlock = some g → A' g) := fun g hg => by rw [hA']; exact .inr hg
        have HA2' : Hid (A' B2) := by show A' B2; rw [hA']; exact .inl rfl
        have HAl' : Hid (∀ b, A' b → b < w4.heap.size) := fun b hb => by
          rw [hA'] at hb
          rcases hb with rfl | hb
          · have := HAl.out _ HA2.out; omega
          · exact (hrs.row.lt b hb).2
        have hlo : ∀ g, (_ : Value).ownBlock = some g → W.heap.size ≤ g := fun g hg => (hrs3.row.lt g hg).1
        have hB4 : Ab U W w4 := ⟨hgr.os.trans hB3.os, hgr.tape.trans hB3.tape, hgr.output.trans hB3.output, by omega, fun b hb => (hgr.block b (by have := hU b hb; omega) (fun e => by have := hlo b e.symm; have := hU b hb; omega)).trans (hB3.block b hb)⟩
        have c24 : w4.cell? ⟨B2, 0, none⟩ = some (.func (.func 36) #[] #[]) := (World.cell?_of_block (a := ⟨B2, 0, none⟩) (hgr.block B2 (by omega) (fun e => by have := hlo B2 e.symm; omega))).trans c23
        obtain ⟨R2, hR2e⟩ : ∃ R2, R = R2 := ⟨_, rfl⟩
        obtain ⟨m, hm0⟩ : ∃ m, x.deep + 1 = m := ⟨_, rfl⟩
        obtain ⟨l9, hl9⟩ : ∃ l9, x.doc.kids = l9 := ⟨_, rfl⟩
        have heq' : (xs.map Px.say ++ [(x.doc, x.deep)]) ++ (preL x.doc.kids m ++ restR R2) = pre d 1 := by rw [← heq, ← hm0, ← hR2e]; simp
        have hrst' : (preL x.doc.kids m ++ restR R2).length = k := by rw [← hrst, ← hm0, ← hR2e]
        have hm : m ≤ xs.length + 2 := by omega
        have hdr' : ∀ p ∈ R2, p.2 ≤ xs.length + 2 := fun p hp => by have := hdr p (by rw [hR2e]; exact hp); omega
        rw [hm0, hR2e] at hrs
        rw [hR2e] at hRl
        clear hrs3 heq hrst hdr HJ3 HA HAl HA2 hown hgrow hat hgr hnew hit hA' hlo hB3 c23 e0 e1 e2 e3 hk3 hrow hcells hR2e HDW hdW hdk
        rw [hl9] at hrs heq' hrst'
        obtain ⟨g, cap, b, o, sc2, d0, l', hrv, hgi, hgs, hcap, hl9', hsc2, t0, t1, tf, hdoc, hl56, hnab⟩ := hrs.top
        subst hrv
        rw [hl9'] at heq' hrst'
        clear hl9' hl9
        have HG : Hid _ := HA'.out g rfl
        have hsb : IntKind.i64.wrap (((R2.length + 1 : Nat) : Int) - 1) = (R2.length : Int) := by rw [IntKind.wrap_i64]; omega
        have hR2 : (R2.length : Int) < ((R2.length + 1 : Nat) : Int) := by omega
        have HNn : Hid _ := fun nq => hnab (w4.drewN nq) rfl
        have HTo : Hid (ToldU W U f ((xs ++ [x]) ++ [⟨b, o, m, d0⟩])) := fun y hy => by
          rcases List.mem_append.1 hy with h | h
          · exact HT.out y h
          · simp at h; subst h; exact hdoc
        have hz9 : (((R2.length : Int) + 1) == 0) = false := by simp; omega
        clear hnab hdoc hrs HT
        gi_wp2
        gi_quiet (fail)
        obtain ⟨V, hV⟩ : ∃ V, w4.drewN nq = V := ⟨_, rfl⟩
        have v0 : V.cell? ⟨g, R2.length * 2, none⟩ = some (.slice (some ⟨b, o, none⟩) (l'.length + 1) sc2) := by rw [← hV]; exact t0
        have vf : V.frozen? ⟨g, R2.length * 2, none⟩ = false := by rw [← hV]; exact tf
        have HV : Hid (w4.grownBy V none) := by rw [← hV]; exact ⟨rfl, rfl, rfl, Nat.le_refl _, fun _ _ _ => rfl⟩
        have HN1 : Hid (∀ u, V.grownBy (V.setCell ⟨g, R2.length * 2, none⟩ u) (some g) ∧ ∃ cs', RU W (V.setCell ⟨g, R2.length * 2, none⟩ u) W.heap.size U f (.slice (some ⟨g, 0, none⟩) R2.length cap) R2 cs') := by rw [← hV]; exact (HNn.out nq).1
        have HN2 : Hid (l' ≠ [] → ∃ cs', RU W (V.setCell ⟨g, R2.length * 2, none⟩ (.slice (some ⟨b, o + 4, none⟩) l'.length (sc2 - 1))) W.heap.size U f (.slice (some ⟨g, 0, none⟩) (R2.length + 1) cap) (R2 ++ [(l', m)]) cs') := by rw [← hV]; exact (HNn.out nq).2
        rw [hV]
        clear t0 t1 tf hV HNn
        have hgs' : g < V.heap.size := Nat.lt_of_lt_of_le hgs HV.out.size
        cases l' with
        | nil =>
          gi_wp2
          obtain ⟨hg2, cs', hrs'⟩ := HN1.out (.slice (if sc2 = 1 then some ⟨b, o, none⟩ else some ⟨b, o + 4, none⟩) 0 (sc2 - 1))
          have hfin := PU.next (A0 := A0) (x := ⟨b, o, m, d0⟩) hJ HJ'.out HA2'.out HG.out HAl'.out hB4 hU hB2 hgi c24 HV.out hg2 hrs' rfl HTo.out (by rw [← heq']; simp [preL, pre_eq, Px.say]) (by simp; omega) (fun p hp => by have := hdr' p hp; simp; omega)
          refine ⟨⟨_, hfin⟩, ?_⟩
          rw [HKK.out]
          refine Nat.lt_of_le_of_lt (least_le hfin) ?_
          rw [← hrst']; simp [preL, pre_eq]
        | cons d1 l2 =>
          have hsc1 : ¬ sc2 = 1 := by simp at hsc2; omega
          obtain ⟨cs', hrs'⟩ := HN2.out (by simp)
          have hg2 := (HN1.out (.slice (some ⟨b, o + 4, none⟩) (d1 :: l2).length (sc2 - 1))).1
          have hfin := PU.next (A0 := A0) (x := ⟨b, o, m, d0⟩) hJ HJ'.out HA2'.out HG.out HAl'.out hB4 hU hB2 hgi c24 HV.out hg2 hrs' rfl HTo.out (by rw [← heq', restR_snoc]; simp [preL, pre_eq, Px.say]) (by simp; omega) (fun p hp => by
            rcases List.mem_append.1 hp with h | h
            · have := hdr' p h; simp; omega
            · simp at h; subst h; simp; omega)
          have HF : Hid _ := hfin
          clear hfin hg2 hrs'
          gi_wp2
          refine ⟨⟨_, HF.out⟩, ?_⟩
          rw [HKK.out]
          refine Nat.lt_of_le_of_lt (least_le HF.out) ?_
          rw [← hrst', restR_snoc]; simp [preL, pre_eq]
    · have HE : Hid (∃ r, (xs ++ [x]).map Px.say ++ r = pre d 1) := ⟨preL x.doc.kids (x.deep + 1) ++ restR R, by rw [← hP.eq]; simp [Px.say]⟩
      have HT : Hid _ := hP.told
      clear hP
      gi_wp2
      go_end0
      exact ⟨⟨_, rfl⟩, .inr ⟨A, xs ++ [x], ⟨HE.out, HT.out⟩, hJx3⟩⟩
end Go.Proofs.YtlkcadibjmfmcaaDoor

/- The iterator over a term's parts keeps its promise, wherever the term lies. -/
namespace Go.Proofs.YtlkcadibjmfmcaaDoor
open Go.RowKit Go.Shelf

theorem TermIn.back {w w' : World} {U : Nat → Prop} {f b o n₀ : Nat} {d : Tm} (h : TermIn w' U f b o d) (hb : Below n₀ w w') (hU : ∀ b, U b → b < n₀) : TermIn w U f b o d :=
  h.keepc (fun b hb' q => (hb.cell (p := ⟨b, q, none⟩) (hU b hb')).symm)
/-- The first ones of a term's parts, and one of them. -/
def Firsts (d : Tm) (l : List Px) (x : Px) : Prop := ∃ r, l.map Px.say ++ x.say :: r = pre d 1
theorem parts_sequ (n : Nat) (hn : 1 ≤ n) (B1 B2 : Nat) (U : Nat → Prop) (f b0 o0 : Nat) (d : Tm) (w : World) (hU : ∀ b, U b → b < w.heap.size) (hd : TermIn w U f b0 o0 d) (hlen : (pre d 1).length ≤ 1000000000000) (h1 : B1 < w.heap.size) (h2 : B2 < w.heap.size)
    (c1 : w.cell? ⟨B1, 0, none⟩ = some (.pointer (some ⟨b0, o0, none⟩))) (c2 : w.cell? ⟨B2, 0, none⟩ = some (.func (.func 36) #[] #[])) :
    SeqG False Fence.wide n Tryd.prog 56 #[.pointer (some ⟨B1, 0, none⟩), .pointer (some ⟨B2, 0, none⟩)] Px.enc U (fun b => b = B1 ∨ b = B2) (fun l x => TermIn w U f x.b x.o x.doc ∧ Firsts d l x) (fun xs => xs.map Px.say = pre d 1 ∧ ToldU w U f xs) (fun xs => (∃ r, xs.map Px.say ++ r = pre d 1) ∧ ToldU w U f xs) 1000000000000 w := by
  intro l J Jx W hW hJ _ hY h0
  have hsz := hW.size
  refine (parts1_u n hn l B1 B2 U f b0 o0 d (fun b => b = B1 ∨ b = B2) J Jx W (fun b hb => Nat.lt_of_lt_of_le (hU b hb) hsz) hJ (hd.keep (Ab.of_below hW hU)) hlen (.inr rfl) (fun b hb => by rcases hb with rfl | rfl <;> omega) (fun A pre x W1 hj hl hx hr => ?_) ((hW.cell (p := ⟨B1, 0, none⟩) h1).trans c1) ((hW.cell (p := ⟨B2, 0, none⟩) h2).trans c2) h0).mono ?_
  · obtain ⟨fn, tmps, assign, body, hy, hR⟩ := hY A pre x W1 hj hl ⟨hx.back hW hU, hr⟩
    exact ⟨fn, tmps, assign, body, hy, hR.mono (fun e W' he => he.elim .inl (fun h => .inr ⟨h.1, h.2.1⟩))⟩
  rintro e W' ⟨hv, ⟨A, xs, ⟨he, ht⟩, hj⟩ | ⟨A, xs, ⟨he, ht⟩, hj⟩⟩
  · exact ⟨hv, .inl ⟨A, xs, ⟨he, fun x hx => (ht x hx).back hW hU⟩, hj⟩⟩
  · exact ⟨hv, .inr ⟨A, xs, ⟨he, fun x hx => (ht x hx).back hW hU⟩, hj⟩⟩
end Go.Proofs.YtlkcadibjmfmcaaDoor

/- A clone whose texts are its own: terms.clone. -/
namespace Go.Proofs.YtlkcadibjmfmcaaDoor
open Go.RowKit

theorem four_set (W : World) (n : Nat) (v0 v1 v2 v3 : Value) (z0 z1 z2 z3 : Value) (c0 : W.cell? ⟨n, 0, none⟩ = some z0) (c1 : W.cell? ⟨n, 1, none⟩ = some z1) (c2 : W.cell? ⟨n, 2, none⟩ = some z2) (c3 : W.cell? ⟨n, 3, none⟩ = some z3) (W4 : World) (hW : (((W.setCell ⟨n, 0, none⟩ v0).setCell ⟨n, 1, none⟩ v1).setCell ⟨n, 2, none⟩ v2).setCell ⟨n, 3, none⟩ v3 = W4) :
    W4.cell? ⟨n, 0, none⟩ = some v0 ∧ W4.cell? ⟨n, 1, none⟩ = some v1 ∧ W4.cell? ⟨n, 2, none⟩ = some v2 ∧ W4.cell? ⟨n, 3, none⟩ = some v3 ∧ (∀ a, W4.frozen? a = W.frozen? a) ∧ W4.heap.size = W.heap.size ∧ (∀ b, b ≠ n → W4.heap[b]? = W.heap[b]?) ∧ ∀ B, B ≤ n → Below B W W4 := by
  obtain ⟨A1, e1⟩ : ∃ A, W.setCell ⟨n, 0, none⟩ v0 = A := ⟨_, rfl⟩
  obtain ⟨A2, e2⟩ : ∃ A, A1.setCell ⟨n, 1, none⟩ v1 = A := ⟨_, rfl⟩
  obtain ⟨A3, e3⟩ : ∃ A, A2.setCell ⟨n, 2, none⟩ v2 = A := ⟨_, rfl⟩
  rw [e1, e2, e3] at hW
  have o11 : A1.cell? ⟨n, 1, none⟩ = W.cell? ⟨n, 1, none⟩ := by rw [← e1]; exact World.cell?_setCell_other _ _ _ _ (by simp)
  have o12 : A1.cell? ⟨n, 2, none⟩ = W.cell? ⟨n, 2, none⟩ := by rw [← e1]; exact World.cell?_setCell_other _ _ _ _ (by simp)
  have o13 : A1.cell? ⟨n, 3, none⟩ = W.cell? ⟨n, 3, none⟩ := by rw [← e1]; exact World.cell?_setCell_other _ _ _ _ (by simp)
  have o20 : A2.cell? ⟨n, 0, none⟩ = A1.cell? ⟨n, 0, none⟩ := by rw [← e2]; exact World.cell?_setCell_other _ _ _ _ (by simp)
  have o22 : A2.cell? ⟨n, 2, none⟩ = A1.cell? ⟨n, 2, none⟩ := by rw [← e2]; exact World.cell?_setCell_other _ _ _ _ (by simp)
  have o23 : A2.cell? ⟨n, 3, none⟩ = A1.cell? ⟨n, 3, none⟩ := by rw [← e2]; exact World.cell?_setCell_other _ _ _ _ (by simp)
  have o30 : A3.cell? ⟨n, 0, none⟩ = A2.cell? ⟨n, 0, none⟩ := by rw [← e3]; exact World.cell?_setCell_other _ _ _ _ (by simp)
  have o31 : A3.cell? ⟨n, 1, none⟩ = A2.cell? ⟨n, 1, none⟩ := by rw [← e3]; exact World.cell?_setCell_other _ _ _ _ (by simp)
  have o33 : A3.cell? ⟨n, 3, none⟩ = A2.cell? ⟨n, 3, none⟩ := by rw [← e3]; exact World.cell?_setCell_other _ _ _ _ (by simp)
  have o40 : W4.cell? ⟨n, 0, none⟩ = A3.cell? ⟨n, 0, none⟩ := by rw [← hW]; exact World.cell?_setCell_other _ _ _ _ (by simp)
  have o41 : W4.cell? ⟨n, 1, none⟩ = A3.cell? ⟨n, 1, none⟩ := by rw [← hW]; exact World.cell?_setCell_other _ _ _ _ (by simp)
  have o42 : W4.cell? ⟨n, 2, none⟩ = A3.cell? ⟨n, 2, none⟩ := by rw [← hW]; exact World.cell?_setCell_other _ _ _ _ (by simp)
  have u0 : A1.cell? ⟨n, 0, none⟩ = some v0 := by rw [← e1]; exact World.cell?_setCell_same' _ _ _ (by rw [c0]; rfl)
  have u1 : A2.cell? ⟨n, 1, none⟩ = some v1 := by rw [← e2]; exact World.cell?_setCell_same' _ _ _ (by rw [o11, c1]; rfl)
  have u2 : A3.cell? ⟨n, 2, none⟩ = some v2 := by rw [← e3]; exact World.cell?_setCell_same' _ _ _ (by rw [o22, o12, c2]; rfl)
  have u3 : W4.cell? ⟨n, 3, none⟩ = some v3 := by rw [← hW]; exact World.cell?_setCell_same' _ _ _ (by rw [o33, o23, o13, c3]; rfl)
  refine ⟨(o40).trans ((o30).trans ((o20).trans (u0))), (o41).trans ((o31).trans (u1)), (o42).trans (u2), u3, fun a => by rw [← hW, ← e3, ← e2, ← e1, World.frozen?_setCell, World.frozen?_setCell, World.frozen?_setCell, World.frozen?_setCell], by rw [← hW, ← e3, ← e2, ← e1]; simp [World.setCell], fun b hb => ?_, fun B hB => ?_⟩
  · rw [← hW, ← e3, ← e2, ← e1]
    exact (Below.heap_setCell _ _ _ b hb).trans ((Below.heap_setCell _ _ _ b hb).trans ((Below.heap_setCell _ _ _ b hb).trans (Below.heap_setCell _ _ _ b hb)))
  · rw [← hW, ← e3, ← e2, ← e1]
    exact ((((Below.refl _ _).setCell hB _).setCell hB _).setCell hB _).setCell hB _
set_option maxRecDepth 100000 in
set_option maxHeartbeats 4000000 in
theorem tclone_any (d : Tm) (ta : Option Addr) (tc : Nat) (sa : Option Addr) (sc f : Nat) (w : World) (htv : Txt w w.heap.size (.slice ta d.text.length tc) d.text) (hk : MAt w w.heap.size f sa d.kids) (hsc : d.kids.length ≤ sc) (hlen : sz d ≤ 1000000000000) :
    Calls Tryd.prog 73 #[.agg #[.int .i64 d.kind, .string d.cons, .slice ta d.text.length tc, .slice sa d.kids.length sc]] w fun e w' => (∃ ua uc va vc, e = .returned (.agg #[.int .i64 d.kind, .string d.cons, .slice ua d.text.length uc, .slice va d.kids.length vc]) ∧ Txx w' (fun b => w.heap.size ≤ b ∧ b < w'.heap.size) (.slice ua d.text.length uc) d.text ∧ d.kids.length ≤ vc ∧ MIx w' (fun b => w.heap.size ≤ b ∧ b < w'.heap.size) f va d.kids) ∧ Below w.heap.size w w' := by
  have hX0 := AI.start w d [] ta tc sa sc f htv hk hsc hlen
  obtain ⟨w2, hw2⟩ : ∃ w2, (w.alloc (.cells #[.int .i64 d.kind, .string d.cons, .slice ta d.text.length tc, .slice sa d.kids.length sc] 25)).alloc (.cells #[.int .i64 0, .string ⟨#[]⟩, .slice none 0 0, .slice none 0 0] 25) = w2 := ⟨_, rfl⟩
  rw [hw2] at hX0
  have hB := hX0.bel
  have HC : Hid _ := fun (_ : Unit) => clone_any d ta tc sa sc f w2 w.heap.size hB.size (htv.keep hB) (hk.keep hB) hsc hlen
  have x0 := hX0.x0
  have x1 := hX0.x1
  have x2 := hX0.x2
  have x3 := hX0.x3
  have hlt2 := hX0.lt
  have HX0 : Hid _ := hX0
  have HLN : Hid _ := hlen
  clear hX0 hk htv hlen
  have HL : Hid _ := hlt2
  have HB : Hid _ := hB
  have HOWN : Hid (∀ (w7 : World) (ua : Option Addr) (uc : Nat) (va : Option Addr) (vc : Nat), Txt w7 w.heap.size (.slice ua d.text.length uc) d.text → d.kids.length ≤ vc → Mz w7 (fun b => w2.heap.size ≤ b ∧ b < w7.heap.size) w.heap.size f va d.kids → Below w2.heap.size w2 w7 → Calls Tryd.prog 45 #[.pointer (some ⟨w.heap.size, 0, none⟩)] ((((w7.setCell ⟨w.heap.size, 0, none⟩ (.int .i64 d.kind)).setCell ⟨w.heap.size, 1, none⟩ (.string d.cons)).setCell ⟨w.heap.size, 2, none⟩ (.slice ua d.text.length uc)).setCell ⟨w.heap.size, 3, none⟩ (.slice va d.kids.length vc)) fun e w9 => e = .returned (.tuple #[]) ∧ (∃ ub ud, w9.cell? ⟨w.heap.size, 0, none⟩ = some (.int .i64 d.kind) ∧ w9.cell? ⟨w.heap.size, 1, none⟩ = some (.string d.cons) ∧ w9.cell? ⟨w.heap.size, 2, none⟩ = some (.slice ub d.text.length ud) ∧ w9.cell? ⟨w.heap.size, 3, none⟩ = some (.slice va d.kids.length vc) ∧ Txx w9 (fun b => w2.heap.size ≤ b ∧ b < w9.heap.size) (.slice ub d.text.length ud) d.text ∧ MIx w9 (fun b => w2.heap.size ≤ b ∧ b < w9.heap.size) f va d.kids) ∧ (w9.cell? ⟨w.heap.size + 1, 0, none⟩ = some (.int .i64 0) ∧ w9.cell? ⟨w.heap.size + 1, 1, none⟩ = some (.string ⟨#[]⟩) ∧ w9.cell? ⟨w.heap.size + 1, 2, none⟩ = some (.slice none 0 0) ∧ w9.cell? ⟨w.heap.size + 1, 3, none⟩ = some (.slice none 0 0) ∧ ∀ q, w9.frozen? ⟨w.heap.size + 1, q, none⟩ = false) ∧ Below w.heap.size w w9 ∧ w2.heap.size ≤ w9.heap.size) := fun w7 ua uc va vc ht hc hm hb7 => by
    have hX0 := HX0.out
    have h27 := hb7.size
    have k7 : ∀ b q, b < w2.heap.size → w7.cell? ⟨b, q, none⟩ = w2.cell? ⟨b, q, none⟩ := fun b q hlt => hb7.cell (p := ⟨b, q, none⟩) hlt
    obtain ⟨W8, hW8⟩ : ∃ W8, (((w7.setCell ⟨w.heap.size, 0, none⟩ (.int .i64 d.kind)).setCell ⟨w.heap.size, 1, none⟩ (.string d.cons)).setCell ⟨w.heap.size, 2, none⟩ (.slice ua d.text.length uc)).setCell ⟨w.heap.size, 3, none⟩ (.slice va d.kids.length vc) = W8 := ⟨_, rfl⟩
    obtain ⟨c0, c1, c2, c3, hf, hs, hk8, hb8⟩ := four_set w7 w.heap.size _ _ _ _ _ _ _ _ ((k7 _ _ (by omega)).trans hX0.x0) ((k7 _ _ (by omega)).trans hX0.x1) ((k7 _ _ (by omega)).trans hX0.x2) ((k7 _ _ (by omega)).trans hX0.x3) W8 hW8
    rw [hW8]
    have hbw := hb8 w.heap.size (Nat.le_refl _)
    refine (ownBox W8 w.heap.size f w.heap.size d ua uc va vc (fun b => w2.heap.size ≤ b ∧ b < w7.heap.size) (by omega) (fun b hb => by have := hb.2; omega) (by omega) c0 c1 c2 c3 (fun q => (hf _).trans ((hb7.frozen (p := ⟨w.heap.size, q, none⟩) (by show w.heap.size < _; omega)).trans (hX0.xf q))) (ht.keep hbw) hc (hm.keep (fun b hb => hk8 b (by have := hb.1; omega)) hbw) HLN.out).mono ?_
    rintro e w9 ⟨rfl, ub, ud, ho⟩
    have hs9 := ho.size
    have hr : w9.heap[w.heap.size + 1]? = w2.heap[w.heap.size + 1]? := (ho.blk _ (by omega) (by omega) (fun h => by have := h.1; omega)).trans ((hk8 _ (by omega)).trans (hb7.block _ (by omega)))
    have kr : ∀ q, w9.cell? ⟨w.heap.size + 1, q, none⟩ = w2.cell? ⟨w.heap.size + 1, q, none⟩ := fun q => World.cell?_of_block (a := ⟨w.heap.size + 1, q, none⟩) hr
    refine ⟨rfl, ⟨ub, ud, ho.c0, ho.c1, ho.c2, ho.c3, ho.tx.wide (fun b hb => ⟨by have := hb.1; omega, hb.2⟩), ho.kd.wide (fun b hb => ?_)⟩, ⟨(kr 0).trans hX0.r0, (kr 1).trans hX0.r1, (kr 2).trans hX0.r2, (kr 3).trans hX0.r3, fun q => (frozen_of_block hr q).trans (hX0.rf q)⟩, ?_, by omega⟩
    · rcases hb with hb | hb
      · exact ⟨hb.1, by have := hb.2; omega⟩
      · exact ⟨by have := hb.1; omega, hb.2⟩
    · refine hX0.bel.trans ((hb7.mono (by omega)).trans (hbw.trans ⟨ho.os, ho.tape, ho.output, ho.size, fun b hb => ho.blk b (by omega) (by omega) (fun h => by have := h.1; omega)⟩))
  have k2f : ∀ q, w2.frozen? ⟨w.heap.size, q, none⟩ = false := fun q => HX0.out.xf q
  have HKF : Hid _ := k2f
  clear hB k2f hlt2
  have HW2 : Hid _ := hw2
  subst hw2
  go_enter Tryd.func73, Tryd.ntmps73
  go_wp2_with (first
    | (go_at_call 60; refine (HC.out ()).mono ?_; rintro e w7 ⟨⟨ua, uc, va, vc, rfl, hut, hvc, htin⟩, hb7⟩; have k7 : ∀ q, w7.cell? ⟨w.heap.size, q, none⟩ = _ := fun q => hb7.cell (p := ⟨w.heap.size, q, none⟩) (Nat.lt_of_succ_lt HL.out); have f7 : ∀ q, w7.frozen? ⟨w.heap.size, q, none⟩ = false := fun q => (hb7.frozen (p := ⟨w.heap.size, q, none⟩) (Nat.lt_of_succ_lt HL.out)).trans (HKF.out q); have y0 := (k7 0).trans x0; have y1 := (k7 1).trans x1; have y2 := (k7 2).trans x2; have y3 := (k7 3).trans x3; have HH : Hid _ := And.intro hut (And.intro hvc (And.intro htin hb7)); have HVC : Hid _ := hvc; clear hut hvc htin hb7 k7)
    | (go_at_call 45; refine (HOWN.out w7 ua uc va vc HH.out.1 HH.out.2.1 HH.out.2.2.1 HH.out.2.2.2).mono ?_; rintro e w9 ⟨rfl, ⟨ub, ud, c0, c1, c2, c3, h4, h5⟩, ⟨r0, r1, r2, r3, rf⟩, h6, h7⟩; have HE : Hid _ := And.intro h4 (And.intro h5 (And.intro h6 h7)); clear h4 h5 h6 h7))
  refine bodyPost_ret (v := .agg #[.int .i64 d.kind, .string d.cons, .slice ub d.text.length ud, .slice va d.kids.length vc]) (by simp [results, Tryd.results73, go_sem, r0, r1, r2, r3]) rfl ?_
  obtain ⟨h4, h5, h6, h7⟩ := HE.out
  obtain ⟨W4, hW4⟩ : ∃ W4, (((w9.setCell ⟨w.heap.size + 1, 0, none⟩ (.int .i64 d.kind)).setCell ⟨w.heap.size + 1, 1, none⟩ (.string d.cons)).setCell ⟨w.heap.size + 1, 2, none⟩ (.slice ub d.text.length ud)).setCell ⟨w.heap.size + 1, 3, none⟩ (.slice va d.kids.length vc) = W4 := ⟨_, rfl⟩
  obtain ⟨_, _, _, _, _, hs4, hk4, hb4⟩ := four_set w9 (w.heap.size + 1) _ _ _ _ _ _ _ _ r0 r1 r2 r3 W4 hW4
  rw [hW4]
  have hl := HL.out
  refine ⟨⟨ub, ud, va, vc, rfl, ?_, HVC.out, ?_⟩, h6.trans (hb4 _ (by omega))⟩
  · exact (h4.keep (fun b hb => hk4 b (by have := hb.1; omega))).wide (fun b hb => ⟨by have := hb.1; omega, by have := hb.2; omega⟩)
  · exact (h5.keep (fun b hb => hk4 b (by have := hb.1; omega))).wide (fun b hb => ⟨by have := hb.1; omega, by have := hb.2; omega⟩)
end Go.Proofs.YtlkcadibjmfmcaaDoor

/- A term in new memory, as long as so many terms may still be copied: terms.owned. -/
namespace Go.Proofs.YtlkcadibjmfmcaaDoor
open Go.RowKit Go.Shelf
attribute [local go_sem] Oper.semAt_some

/-- Bytes in blocks of U. -/
def TBy (w : World) (U : Nat → Prop) (ta : Option Addr) (t : List UInt8) : Prop := ∀ i c, t[i]? = some c → ∃ b o, ta = some ⟨b, o, none⟩ ∧ U b ∧ w.cell? ⟨b, o + i, none⟩ = some (.int .u8 (c.toNat : Int))
/-- While the parts are counted. -/
structure WI (w wd : World) (L v : Nat) (A : Nat → Prop) (xs : List Px) (W : World) : Prop where
  cnt : Boxed W L 3 (.int .i64 ((v : Int) - (xs.length : Int)))
  ab : ∀ b, A b → w.heap.size + 3 ≤ b
  bel : Ab (fun b => b < w.heap.size + 3 ∧ b ≠ L) wd W
theorem WI.stays {w wd : World} {L v : Nat} (hL : L < w.heap.size) (hd : w.heap.size + 3 ≤ wd.heap.size) : Stays (WI w wd L v) := by
  intro A A' xs X Y h hi ha
  have hs := h.bel.size
  have hk : ∀ b, b < w.heap.size + 3 → Y.heap[b]? = X.heap[b]? := fun b hb => hi.keep b (by omega) (fun hA => by have := h.ab b hA; omega)
  refine ⟨(hk _ (by omega)).trans h.cnt, fun b hb => ?_, ⟨hi.os.trans h.bel.os, hi.tape.trans h.bel.tape, hi.output.trans h.bel.output, Nat.le_trans h.bel.size hi.size, fun b hb => (hk b hb.1).trans (h.bel.block b hb)⟩⟩
  rcases ha b hb with h' | h'
  · exact h.ab b h'
  · omega
theorem WI.noMind {w wd : World} {L v B : Nat} {A0 : Nat → Prop} (hL : L < w.heap.size) (hB : w.heap.size + 3 ≤ B) : NoMindAt B A0 (WI w wd L v) := by
  intro A xs W o' h _ _
  have hk : ∀ b, b < w.heap.size + 3 → (W.putObj (B + 1) o').heap[b]? = W.heap[b]? := fun b hb => World.putObj_heap_other (by omega)
  exact ⟨(hk _ (by omega)).trans h.cnt, h.ab, ⟨h.bel.os, h.bel.tape, h.bel.output, by simpa using h.bel.size, fun b hb => (hk b hb.1).trans (h.bel.block b hb)⟩⟩

set_option maxRecDepth 100000 in
set_option maxHeartbeats 4000000 in
theorem owned_any (d : Tm) (ta : Option Addr) (tc : Nat) (sa : Option Addr) (sc f : Nat) (U0 : Nat → Prop) (L v : Nat) (w : World) (hU : ∀ b, U0 b → b < w.heap.size) (hL : ¬ U0 L) (bL : Boxed w L 3 (.int .i64 (v : Int))) (htc : d.text.length ≤ tc) (htl : d.text.length ≤ 140737488355328) (htx : TBy w U0 ta d.text) (hk : MIn w U0 f sa d.kids) (hsc : d.kids.length ≤ sc) (hv : sz d ≤ v) (hvm : v ≤ 33554432) :
    Calls Tryd.prog 54 #[.agg #[.int .i64 d.kind, .string d.cons, .slice ta d.text.length tc, .slice sa d.kids.length sc], .pointer (some ⟨L, 0, none⟩)] w fun e w' => (∃ ua uc va vc, e = .returned (.agg #[.int .i64 d.kind, .string d.cons, .slice ua d.text.length uc, .slice va d.kids.length vc]) ∧ Txx w' (fun b => w.heap.size ≤ b ∧ b < w'.heap.size) (.slice ua d.text.length uc) d.text ∧ d.kids.length ≤ vc ∧ MIx w' (fun b => w.heap.size ≤ b ∧ b < w'.heap.size) f va d.kids) ∧ Boxed w' L 3 (.int .i64 ((v : Int) - (sz d : Int))) ∧ w.grownBy w' (some L) := by
  refine (callsIn_wide (n := 3)).1 ?_
  refine callsIn_of_wp_marks Tryd.func54 rfl trivial ?_ rfl
  simp only [Tryd.ntmps54, List.size_toArray, List.length_cons, List.length_nil, Nat.reduceAdd, Nat.reduceSub, Array.replicate_succ, Array.replicate_zero, List.push_toArray, List.append_toArray, List.nil_append, List.cons_append]
  have hLw := box_lt bL
  obtain ⟨w1, hw1⟩ : ∃ w1, w.alloc (.cells #[.int .i64 d.kind, .string d.cons, .slice ta d.text.length tc, .slice sa d.kids.length sc] 25) = w1 := ⟨_, rfl⟩
  have s1 : w1.heap.size = w.heap.size + 1 := by rw [← hw1]; simp
  have hB1 : Below w.heap.size w w1 := by rw [← hw1]; exact (Below.refl _ _).alloc (Nat.le_refl _) _
  obtain ⟨U, hUd⟩ : ∃ U : Nat → Prop, U = fun b => U0 b ∨ b = w.heap.size := ⟨_, rfl⟩
  have hUU : ∀ b, U b → b < w.heap.size + 1 := fun b hb => by
    rw [hUd] at hb
    rcases hb with h | h
    · have := hU b h; omega
    · omega
  have hUL : ¬ U L := fun h => by
    rw [hUd] at h
    rcases h with h | h
    · exact hL h
    · omega
  have hd1 : TermIn w1 U f w.heap.size 0 d := by
    have k1 : ∀ b, U0 b → ∀ q, w1.cell? ⟨b, q, none⟩ = w.cell? ⟨b, q, none⟩ := fun b hb q => hB1.cell (p := ⟨b, q, none⟩) (hU b hb)
    have hk' : MIn w1 U0 f sa d.kids := hk.keep k1
    have hU0U : ∀ b, U0 b → U b := fun b hb => by rw [hUd]; exact .inl hb
    refine ⟨by rw [hUd]; exact .inr rfl, sa, sc, by rw [← hw1]; exact cell_new 0 rfl, by rw [← hw1]; exact cell_new 1 rfl, ⟨ta, tc, by rw [← hw1]; exact cell_new 2 rfl, htc, htl, fun i c hi => ?_⟩, by rw [← hw1]; exact cell_new 3 rfl, hsc, hk'.wide hU0U⟩
    obtain ⟨b, o, e, hb, hc⟩ := htx i c hi
    exact ⟨b, o, e, hU0U b hb, (k1 b hb _).trans hc⟩
  gi_wp2_with (refine ⟨trivial, ?_⟩; gi_at_call 37; refine (callsIn_wide.2 (parts_any _ _)).mono ?_; rintro e w' ⟨rfl, rfl⟩)
  obtain ⟨w5, hw5⟩ : ∃ w5, (((w1.alloc (.cells #[.pointer (some ⟨L, 0, none⟩)] 80)).alloc (.cells #[.int .i64 0, .string ⟨#[]⟩, .slice none 0 0, .slice none 0 0] 25)).alloc (.cells #[.pointer (some ⟨w.heap.size, 0, none⟩)] 62)).alloc (.cells #[.func (.func 36) #[] #[]] 81) = w5 := ⟨_, rfl⟩
  have bP := (((Boxed.new w1 80 (.pointer (some ⟨L, 0, none⟩))).alloc (.cells #[.int .i64 0, .string ⟨#[]⟩, .slice none 0 0, .slice none 0 0] 25)).alloc (.cells #[.pointer (some ⟨w.heap.size, 0, none⟩)] 62)).alloc (.cells #[.func (.func 36) #[] #[]] 81)
  have b1 := (Boxed.new ((w1.alloc (.cells #[.pointer (some ⟨L, 0, none⟩)] 80)).alloc (.cells #[.int .i64 0, .string ⟨#[]⟩, .slice none 0 0, .slice none 0 0] 25)) 62 (.pointer (some ⟨w.heap.size, 0, none⟩))).alloc (.cells #[.func (.func 36) #[] #[]] 81)
  have b2 := Boxed.new (((w1.alloc (.cells #[.pointer (some ⟨L, 0, none⟩)] 80)).alloc (.cells #[.int .i64 0, .string ⟨#[]⟩, .slice none 0 0, .slice none 0 0] 25)).alloc (.cells #[.pointer (some ⟨w.heap.size, 0, none⟩)] 62)) 81 (.func (.func 36) #[] #[])
  simp only [World.size_alloc, s1] at bP b1 b2
  rw [hw5] at bP b1 b2
  have s5 : w5.heap.size = w.heap.size + 5 := by rw [← hw5]; simp [s1]
  have hB5 : Below w1.heap.size w1 w5 := by rw [← hw5]; exact ((((Below.refl _ _).alloc (Nat.le_refl _) _).alloc (by simp) _).alloc (by simp; omega) _).alloc (by simp; omega) _
  have bR : Below (w.heap.size + 3) (((w1.alloc (.cells #[.pointer (some ⟨L, 0, none⟩)] 80)).alloc (.cells #[.int .i64 0, .string ⟨#[]⟩, .slice none 0 0, .slice none 0 0] 25))) w5 := by
    rw [← hw5]
    exact ((Below.refl _ _).alloc (by simp [s1]) _).alloc (by simp [s1]) _
  have r5 : ∀ j v, (#[.int .i64 0, .string ⟨#[]⟩, .slice none 0 0, .slice none 0 0] : Array Value)[j]? = some v → w5.cell? ⟨w.heap.size + 2, j, none⟩ = some v := fun j v hv => (bR.cell (p := ⟨w.heap.size + 2, j, none⟩) (by show w.heap.size + 2 < _; omega)).trans (by
    have h := cell_new (w := w1.alloc (.cells #[.pointer (some ⟨L, 0, none⟩)] 80)) (cs := #[.int .i64 0, .string ⟨#[]⟩, .slice none 0 0, .slice none 0 0]) (t := 25) j hv
    rw [World.size_alloc, s1] at h; exact h)
  have rf5 : ∀ q, w5.frozen? ⟨w.heap.size + 2, q, none⟩ = false := fun q => (bR.frozen (p := ⟨w.heap.size + 2, q, none⟩) (by show w.heap.size + 2 < _; omega)).trans (by
    have h := World.frozen?_alloc_at (w := w1.alloc (.cells #[.pointer (some ⟨L, 0, none⟩)] 80)) #[.int .i64 0, .string ⟨#[]⟩, .slice none 0 0, .slice none 0 0] 25 (w.heap.size + 2) q (by rw [World.size_alloc, s1])
    exact h)
  rw [hw5]
  have hd5 : TermIn w5 U f w.heap.size 0 d := hd1.keep (Ab.of_below hB5 (fun b hb => by rw [s1]; exact hUU b hb))
  have hBw : Below w.heap.size w w5 := hB1.trans (hB5.mono (by omega))
  have bL5 : Boxed w5 L 3 (.int .i64 (v : Int)) := (hBw.block L hLw).trans bL
  have e0 : ∀ j u, (#[.int .i64 d.kind, .string d.cons, .slice ta d.text.length tc, .slice sa d.kids.length sc] : Array Value)[j]? = some u → w5.cell? ⟨w.heap.size, j, none⟩ = some u := fun j u hu => (hB5.cell (p := ⟨w.heap.size, j, none⟩) (by show w.heap.size < _; omega)).trans (by rw [← hw1]; exact cell_new j hu)
  have hpl := pre_len d 1
  clear hw5 hd1 hB5 hB1 hw1 bR hUd
  refine range_law_g (kx := False) (F := Fence.wide) rfl (fun _ => by omega) (gf := 56) (lb := #[.pointer (some ⟨w.heap.size + 1 + 1 + 1, 0, none⟩), .pointer (some ⟨w.heap.size + 1 + 1 + 1 + 1, 0, none⟩)]) rfl trivial (enters_of Tryd.func56 (by kernel_rfl) rfl)
    (parts_sequ (3 - 1) (by omega) (w.heap.size + 1 + 1 + 1) (w.heap.size + 1 + 1 + 1 + 1) U f w.heap.size 0 d w5 (fun b hb => by have := hUU b hb; omega) hd5 (by omega) (by omega) (by omega) b1.cell b2.cell) (fun b hb => by have := hUU b hb; omega) (fun b hb => by rcases hb with rfl | rfl <;> omega) (Below.refl _ _) (fun _ => rfl)
    (WI w w5 L v) (fun _ _ _ _ => False) (WI.stays hLw (by omega)) (WI.noMind hLw (by omega)) (fun _ _ _ _ _ _ h => h.elim) (fun _ _ _ _ _ h => h.elim)
    (fun W1 hb1 _ => ⟨(hb1.block L (by omega)).trans (by rw [show ((v : Int) - (([] : List Px).length : Int)) = (v : Int) by simp]; exact bL5), fun b hb => (by rcases hb with rfl | rfl <;> omega), Ab.of_below hb1 (fun b hb => by have := hb.1; omega)⟩)
    (fun x => { tmps := #[.agg #[.int .i64 d.kind, .string d.cons, .slice ta d.text.length tc, .slice sa d.kids.length sc], .pointer (some ⟨L, 0, none⟩), .pointer (some ⟨w.heap.size, 0, none⟩), .pointer (some ⟨w.heap.size + 1, 0, none⟩), .pointer (some ⟨w.heap.size + 1 + 1, 0, none⟩), .func (.func 56) #[] #[.pointer (some ⟨w.heap.size + 1 + 1 + 1, 0, none⟩), .pointer (some ⟨w.heap.size + 1 + 1 + 1 + 1, 0, none⟩)], .pointer (some ⟨x.b, x.o, none⟩), .int .i64 (x.deep : Int), undef, undef, undef, undef, undef, undef, undef, undef, undef, undef, undef, undef], defers := [] }) ?assign ?body ?done ?stop
  case assign =>
    intro l x W K hK
    unfold Px.enc
    gi_wp2
    simpa using hK
  case body =>
    intro l A xs x W hI hlt hx hA
    have cc := hI.cnt.cell
    have cf := hI.cnt.frozen
    have hbs := hI.bel.size
    have cp : W.cell? ⟨w.heap.size + 1, 0, none⟩ = some (.pointer (some ⟨L, 0, none⟩)) := (hI.bel.cell (p := ⟨w.heap.size + 1, 0, none⟩) ⟨by show w.heap.size + 1 < _; omega, by show w.heap.size + 1 ≠ _; omega⟩).trans bP.cell
    have hxl : xs.length + 1 ≤ v := by
      obtain ⟨r, hr⟩ := hx.2
      have := congrArg List.length hr
      simp at this
      omega
    obtain ⟨W2, hW2⟩ : ∃ W2, W.setCell ⟨L, 0, none⟩ (.int .i64 ((v : Int) - (xs.length : Int) - 1)) = W2 := ⟨_, rfl⟩
    have hg2 : W.grownBy W2 (some L) := by rw [← hW2]; exact grown_set _ _ _ _
    have hc2 : Boxed W2 L 3 (.int .i64 ((v : Int) - (xs.length : Int) - 1)) := by rw [← hW2]; exact box_set hI.cnt _
    have cc2 := hc2.cell
    have cp2 : W2.cell? ⟨w.heap.size + 1, 0, none⟩ = some (.pointer (some ⟨L, 0, none⟩)) := (hg2.cell_far ⟨w.heap.size + 1, 0, none⟩ (by show w.heap.size + 1 < _; omega) (fun e => by simp at e; omega)).trans cp
    have hs2 := hg2.size
    have HRI : Hid (Two (w.heap.size + 5) W W2 ∧ KeepU U A W W2 ∧ WI w w5 L v A (xs ++ [x]) W2) := by
      have hkb : ∀ b, b ≠ L → W2.heap[b]? = W.heap[b]? := fun b hne => by rw [← hW2]; exact Below.heap_setCell _ _ _ b hne
      refine ⟨⟨hkb _ (by omega), hkb _ (by omega)⟩, ⟨⟨hg2.os, hg2.tape, hg2.output, hg2.size, fun b hb => hkb b (fun e => hUL (e ▸ hb))⟩, fun b hb _ => hkb b (fun e => by have := hI.ab b hb; omega)⟩, ⟨?_, hI.ab, ⟨hg2.os.trans hI.bel.os, hg2.tape.trans hI.bel.tape, hg2.output.trans hI.bel.output, Nat.le_trans hI.bel.size hg2.size, fun b hb => (hkb b hb.2).trans (hI.bel.block b hb)⟩⟩⟩
      rw [show ((v : Int) - ((xs ++ [x]).length : Int)) = (v : Int) - (xs.length : Int) - 1 by simp; omega]
      exact hc2
    have hnl : ¬ ((v : Int) - (xs.length : Int) - 1 < 0) := by omega
    have HW2 : Hid _ := hW2
    clear hI hx hA hg2 hc2 hxl hd5 bP b1 b2 e0 r5 rf5 bL5 htx hk hBw bL
    clear hW2
    have hW2 := HW2.out
    gi_wp2
    exact HRI.out
  case done =>
    rintro D A xs W hD ⟨hS, _⟩ hI hK
    rw [s5] at hD
    subst hD
    have hDW : w.heap.size + 5 < W.heap.size := (Array.getElem?_eq_some_iff.1 hK).1
    have hl : (pre d 1).length = xs.length := by rw [← hS]; simp
    have hbs := hI.bel.size
    have kc : ∀ b q, b < w.heap.size + 3 → b ≠ L → W.cell? ⟨b, q, none⟩ = w5.cell? ⟨b, q, none⟩ := fun b q h1 h2 => hI.bel.cell (p := ⟨b, q, none⟩) ⟨h1, h2⟩
    have g0 := (kc w.heap.size 0 (by omega) (by omega)).trans (e0 0 _ rfl)
    have g1 := (kc w.heap.size 1 (by omega) (by omega)).trans (e0 1 _ rfl)
    have g2 := (kc w.heap.size 2 (by omega) (by omega)).trans (e0 2 _ rfl)
    have g3 := (kc w.heap.size 3 (by omega) (by omega)).trans (e0 3 _ rfl)
    have hdW : TermIn W U f w.heap.size 0 d := hd5.keepc (fun b hb q => kc b q (by have := hUU b hb; omega) (fun e => hUL (e ▸ hb)))
    have hdA := hdW.at' (B := W.heap.size) (fun b hb => by have := hUU b hb; omega)
    obtain ⟨_, sa', sc', _, _, ⟨ta', tc', t0, t1, t2, t3⟩, k3, k4, k5⟩ := hdA
    rw [show 0 + 2 = 2 from rfl, g2] at t0
    rw [show 0 + 3 = 3 from rfl, g3] at k3
    cases t0
    cases k3
    have HCL : Hid _ := fun (_ : Unit) => tclone_any d ta tc sa sc f W ⟨ta, tc, rfl, t1, t2, t3⟩ k5 k4 (by omega)
    have HI : Hid _ := hI
    have hcw : Boxed W L 3 (.int .i64 ((v : Int) - (sz d : Int))) := by
      have := hI.cnt
      rw [← hl, hpl] at this
      exact this
    have HCW : Hid _ := hcw
    have HK : Hid _ := hK
    have HR : Hid (∀ W' : World, Below W.heap.size W W' → (∀ j v, (#[.int .i64 0, .string ⟨#[]⟩, .slice none 0 0, .slice none 0 0] : Array Value)[j]? = some v → W'.cell? ⟨w.heap.size + 2, j, none⟩ = some v) ∧ (∀ q, W'.frozen? ⟨w.heap.size + 2, q, none⟩ = false)) := fun W' hb => by
      have hB2 : W'.heap[w.heap.size + 2]? = w5.heap[w.heap.size + 2]? := (hb.block _ (by omega)).trans (hI.bel.block _ ⟨by omega, by omega⟩)
      exact ⟨fun j v hv => (World.cell?_of_block (a := ⟨w.heap.size + 2, j, none⟩) hB2).trans (r5 j v hv), fun q => (frozen_of_block hB2 q).trans (rf5 q)⟩
    clear hI hdW hd5 bP b1 b2 e0 r5 rf5 bL5 htx hk hS hcw t1 t2 t3 k4 k5 bL
    gi_wp2_with (refine ⟨trivial, ?_⟩; gi_at_call 73; refine (callsIn_wide.2 (HCL.out ())).mono ?_)
    rintro e w7 ⟨⟨ua, uc, va, vc, rfl, hux, hvc, hmx⟩, hb7⟩
    obtain ⟨hz, hzf⟩ := HR.out w7 hb7
    have z0 := hz 0 _ rfl
    have z1 := hz 1 _ rfl
    have z2 := hz 2 _ rfl
    have z3 := hz 3 _ rfl
    have f0 := hzf 0
    have f1 := hzf 1
    have f2 := hzf 2
    have f3 := hzf 3
    have hs7 := hb7.size
    obtain ⟨Y, hY⟩ : ∃ Y, (((w7.setCell ⟨w.heap.size + 2, 0, none⟩ (.int .i64 d.kind)).setCell ⟨w.heap.size + 2, 1, none⟩ (.string d.cons)).setCell ⟨w.heap.size + 2, 2, none⟩ (.slice ua d.text.length uc)).setCell ⟨w.heap.size + 2, 3, none⟩ (.slice va d.kids.length vc) = Y := ⟨_, rfl⟩
    obtain ⟨y0, y1, y2, y3, yf, ys, yk, yb⟩ := four_set w7 (w.heap.size + 2) _ _ _ _ _ _ _ _ z0 z1 z2 z3 Y hY
    have HY : Hid (Boxed (Y.putObj (w.heap.size + 5) (.deferred none)) L 3 (.int .i64 ((v : Int) - (sz d : Int))) ∧ w.grownBy (Y.putObj (w.heap.size + 5) (.deferred none)) (some L) ∧ Txx (Y.putObj (w.heap.size + 5) (.deferred none)) (fun b => w.heap.size ≤ b ∧ b < (Y.putObj (w.heap.size + 5) (.deferred none)).heap.size) (.slice ua d.text.length uc) d.text ∧ MIx (Y.putObj (w.heap.size + 5) (.deferred none)) (fun b => w.heap.size ≤ b ∧ b < (Y.putObj (w.heap.size + 5) (.deferred none)).heap.size) f va d.kids ∧ Y.heap[w.heap.size + 5]? = some (.deferred (some []))) := by
      have hbs' := HI.out.bel
      have kk : ∀ b, b ≠ w.heap.size + 5 → b ≠ w.heap.size + 2 → (Y.putObj (w.heap.size + 5) (.deferred none)).heap[b]? = w7.heap[b]? := fun b h1 h2 => (World.putObj_heap_other h1).trans (yk b h2)
      have sz' : (Y.putObj (w.heap.size + 5) (.deferred none)).heap.size = w7.heap.size := by simp [ys]
      have hkx : ∀ b, (W.heap.size ≤ b ∧ b < w7.heap.size) → (Y.putObj (w.heap.size + 5) (.deferred none)).heap[b]? = w7.heap[b]? := fun b hb => kk b (by have := hb.1; omega) (by have := hb.1; omega)
      have hos := hbs'.os
      refine ⟨(kk L (by omega) (by omega)).trans ((hb7.block L (by omega)).trans HCW.out), ⟨?_, ?_, ?_, by omega, fun b h1 h2 => ?_⟩, (hux.keep hkx).wide (fun b hb => ⟨by have := hb.1; omega, by rw [sz']; exact hb.2⟩), (hmx.keep hkx).wide (fun b hb => ⟨by have := hb.1; omega, by rw [sz']; exact hb.2⟩), ?_⟩
      · exact ((yb 0 (Nat.zero_le _)).os).trans (hb7.os.trans (hbs'.os.trans hBw.os))
      · exact ((yb 0 (Nat.zero_le _)).tape).trans (hb7.tape.trans (hbs'.tape.trans hBw.tape))
      · exact ((yb 0 (Nat.zero_le _)).output).trans (hb7.output.trans (hbs'.output.trans hBw.output))
      · exact (kk b (by omega) (by omega)).trans ((hb7.block b (by omega)).trans ((hbs'.block b ⟨by omega, fun e => h2 (by rw [e])⟩).trans (hBw.block b h1)))
      · exact (yk (w.heap.size + 5) (by omega)).trans ((hb7.block (w.heap.size + 5) (by omega)).trans HK.out)
    have HVC : Hid _ := hvc
    clear hz hzf hux hmx hvc hb7 yb yk yf
    gi_wp2
    clear hY z0 z1 z2 z3 f0 f1 f2 f3
    refine ⟨by simp, .inl ⟨_, _, rfl, run_takeDeferred HY.out.2.2.2.2, ?_⟩⟩
    refine ⟨.agg #[.int .i64 d.kind, .string d.cons, .slice ua d.text.length uc, .slice va d.kids.length vc], ?_, ?_⟩
    · have hne : w.heap.size + 5 ≠ w.heap.size + 2 := by omega
      have q : ∀ j, (Y.putObj (w.heap.size + 5) (.deferred none)).cell? ⟨w.heap.size + 2, j, none⟩ = Y.cell? ⟨w.heap.size + 2, j, none⟩ := fun j => World.cell?_of_block (a := ⟨w.heap.size + 2, j, none⟩) (World.putObj_heap_other (fun e => hne e.symm))
      have q0 := (q 0).trans y0
      have q1 := (q 1).trans y1
      have q2 := (q 2).trans y2
      have q3 := (q 3).trans y3
      simp [results, Tryd.results54, go_sem, q0, q1, q2, q3]
    · exact ⟨⟨ua, uc, va, vc, rfl, HY.out.2.2.1, HVC.out, HY.out.2.2.2.1⟩, HY.out.1, HY.out.2.1⟩
  case stop =>
    rintro D c A xs W hD ⟨hS, _⟩ hX hK
    exact hX.elim
end Go.Proofs.YtlkcadibjmfmcaaDoor

/- The law TermsSame, walked. -/
namespace Go.Proofs.YtlkcadibjmfmcaaDoor
open Go.RowKit

/-- Both terms in their boxes. -/
structure Tw (w : World) (a b : Tm) (ta : Option Addr) (tc : Nat) (sa : Option Addr) (sc : Nat) (tb : Option Addr) (td : Nat) (sb : Option Addr) (sd : Nat) (W : World) : Prop where
  bel : Below w.heap.size w W
  a0 : W.cell? ⟨w.heap.size, 0, none⟩ = some (.int .i64 a.kind)
  a1 : W.cell? ⟨w.heap.size, 1, none⟩ = some (.string a.cons)
  a2 : W.cell? ⟨w.heap.size, 2, none⟩ = some (.slice ta a.text.length tc)
  a3 : W.cell? ⟨w.heap.size, 3, none⟩ = some (.slice sa a.kids.length sc)
  b0 : W.cell? ⟨w.heap.size + 1, 0, none⟩ = some (.int .i64 b.kind)
  b1 : W.cell? ⟨w.heap.size + 1, 1, none⟩ = some (.string b.cons)
  b2 : W.cell? ⟨w.heap.size + 1, 2, none⟩ = some (.slice tb b.text.length td)
  b3 : W.cell? ⟨w.heap.size + 1, 3, none⟩ = some (.slice sb b.kids.length sd)
  ka : TA W a ta tc sa sc
  kb : TA W b tb td sb sd
  lt : w.heap.size + 1 < W.heap.size
section
variable {w : World} {a b : Tm} {ta : Option Addr} {tc : Nat} {sa : Option Addr} {sc : Nat} {tb : Option Addr} {td : Nat} {sb : Option Addr} {sd : Nat} {W W' : World}
theorem Tw.nx (hb : Below W.heap.size W W') (h : Tw w a b ta tc sa sc tb td sb sd W) : Tw w a b ta tc sa sc tb td sb sd W' := by
  have hl := h.lt
  have k : ∀ b q, b < W.heap.size → W'.cell? ⟨b, q, none⟩ = W.cell? ⟨b, q, none⟩ := fun b q hlt => hb.cell (p := ⟨b, q, none⟩) hlt
  exact ⟨below_of h.bel hb, (k _ _ (by omega)).trans h.a0, (k _ _ (by omega)).trans h.a1, (k _ _ (by omega)).trans h.a2, (k _ _ (by omega)).trans h.a3, (k _ _ (by omega)).trans h.b0, (k _ _ (by omega)).trans h.b1, (k _ _ (by omega)).trans h.b2, (k _ _ (by omega)).trans h.b3, h.ka.nx hb, h.kb.nx hb, Nat.lt_of_lt_of_le hl hb.size⟩
theorem Tw.drew (h : Tw w a b ta tc sa sc tb td sb sd W) : Tw w a b ta tc sa sc tb td sb sd W.drew := Tw.nx (show Below W.heap.size W W.drew from ⟨rfl, rfl, rfl, Nat.le_refl _, fun _ _ => rfl⟩) h
theorem Tw.facts (h : Tw w a b ta tc sa sc tb td sb sd W) : W.cell? ⟨w.heap.size, 0, none⟩ = some (.int .i64 a.kind) ∧ W.cell? ⟨w.heap.size, 1, none⟩ = some (.string a.cons) ∧ W.cell? ⟨w.heap.size, 2, none⟩ = some (.slice ta a.text.length tc) ∧ W.cell? ⟨w.heap.size, 3, none⟩ = some (.slice sa a.kids.length sc) ∧ W.cell? ⟨w.heap.size + 1, 0, none⟩ = some (.int .i64 b.kind) ∧ W.cell? ⟨w.heap.size + 1, 1, none⟩ = some (.string b.cons) ∧ W.cell? ⟨w.heap.size + 1, 2, none⟩ = some (.slice tb b.text.length td) ∧ W.cell? ⟨w.heap.size + 1, 3, none⟩ = some (.slice sb b.kids.length sd) := ⟨h.a0, h.a1, h.a2, h.a3, h.b0, h.b1, h.b2, h.b3⟩
theorem Tw.first (ha : TA w a ta tc sa sc) (hb : TA w b tb td sb sd) (W : World) (hW : (w.alloc (.cells #[.int .i64 a.kind, .string a.cons, .slice ta a.text.length tc, .slice sa a.kids.length sc] 25)).alloc (.cells #[.int .i64 b.kind, .string b.cons, .slice tb b.text.length td, .slice sb b.kids.length sd] 25) = W) : Tw w a b ta tc sa sc tb td sb sd W := by
  obtain ⟨w1, hw1⟩ : ∃ w1, w.alloc (.cells #[.int .i64 a.kind, .string a.cons, .slice ta a.text.length tc, .slice sa a.kids.length sc] 25) = w1 := ⟨_, rfl⟩
  rw [hw1] at hW
  have s1 : w1.heap.size = w.heap.size + 1 := by rw [← hw1]; simp
  have hB1 : Below w.heap.size w w1 := by rw [← hw1]; exact (Below.refl _ _).alloc (Nat.le_refl _) _
  have hB2' : Below w1.heap.size w1 W := by rw [← hW]; exact (Below.refl _ _).alloc (Nat.le_refl _) _
  have hB2 : Below w.heap.size w W := hB1.trans (hB2'.mono (by omega))
  have c1 : ∀ j v, (#[.int .i64 a.kind, .string a.cons, .slice ta a.text.length tc, .slice sa a.kids.length sc] : Array Value)[j]? = some v → W.cell? ⟨w.heap.size, j, none⟩ = some v := fun j v hv => (hB2'.cell (p := ⟨w.heap.size, j, none⟩) (by show w.heap.size < _; omega)).trans (by rw [← hw1]; exact cell_new j hv)
  have c2 : ∀ j v, (#[.int .i64 b.kind, .string b.cons, .slice tb b.text.length td, .slice sb b.kids.length sd] : Array Value)[j]? = some v → W.cell? ⟨w.heap.size + 1, j, none⟩ = some v := fun j v hv => by rw [← hW, ← s1]; exact cell_new j hv
  exact ⟨hB2, c1 0 _ rfl, c1 1 _ rfl, c1 2 _ rfl, c1 3 _ rfl, c2 0 _ rfl, c2 1 _ rfl, c2 2 _ rfl, c2 3 _ rfl, ha.nx hB2, hb.nx hB2, by rw [← hW]; simp; omega⟩
end
theorem copy_t (d : Tm) (ta : Option Addr) (tc : Nat) (sa : Option Addr) (sc : Nat) (w : World) (h : TA w d ta tc sa sc) :
    Calls Tryd.prog 14 #[.agg #[.int .i64 d.kind, .string d.cons, .slice ta d.text.length tc, .slice sa d.kids.length sc]] w fun e w' => (∃ xa xc va vc, e = .returned (.agg #[.int .i64 d.kind, .string d.cons, .slice xa d.text.length xc, .slice va d.kids.length vc]) ∧ TA w' d xa xc va vc) ∧ Below w.heap.size w w' := by
  obtain ⟨f, hf⟩ := h.mat
  refine (copy_any f d _ sa sc w h.txt hf).mono ?_
  rintro e w' ⟨⟨uv, va, vc, rfl, h1, h2, h3⟩, hb⟩
  obtain ⟨xa, xc, rfl, h4, h5, h6⟩ := h2.txt (fun b hb => hb.2)
  exact ⟨⟨xa, xc, va, vc, rfl, ⟨h4, h5, h6, h1, f, h3.mat (fun b hb => hb.2)⟩⟩, hb⟩
set_option maxRecDepth 100000 in
set_option maxHeartbeats 8000000 in
theorem termsSame_walk (a : Tm) (ta : Option Addr) (tc : Nat) (sa : Option Addr) (sc : Nat) (b : Tm) (tb : Option Addr) (td : Nat) (sb : Option Addr) (sd : Nat) (w : World) (hka : TA w a ta tc sa sc) (hkb : TA w b tb td sb sd) :
    Calls Tryd.prog 4 #[.agg #[.int .i64 a.kind, .string a.cons, .slice ta a.text.length tc, .slice sa a.kids.length sc], .agg #[.int .i64 b.kind, .string b.cons, .slice tb b.text.length td, .slice sb b.kids.length sd]] w fun e w' => e = .returned (.bool true) ∧ Below w.heap.size w w' := by
  obtain ⟨w2, hw2⟩ : ∃ w2, (w.alloc (.cells #[.int .i64 a.kind, .string a.cons, .slice ta a.text.length tc, .slice sa a.kids.length sc] 25)).alloc (.cells #[.int .i64 b.kind, .string b.cons, .slice tb b.text.length td, .slice sb b.kids.length sd] 25) = w2 := ⟨_, rfl⟩
  have T0 := Tw.first hka hkb w2 hw2
  obtain ⟨e0, e1, e2, e3, g0, g1, g2, g3⟩ := T0.facts
  have HT0 : Hid _ := T0
  clear hka hkb T0
  have HALV : Hid (∀ W, Calls Tryd.prog 13 #[] W fun e w' => e = .returned (.bool true) ∧ Below W.heap.size W w') := fun W => alive_any W
  have HHA : Hid (∀ W, Tw w a b ta tc sa sc tb td sb sd W → Calls Tryd.prog 12 #[.agg #[.int .i64 a.kind, .string a.cons, .slice ta a.text.length tc, .slice sa a.kids.length sc]] W fun e w' => e = .returned (.bool (decide (1000 < wt a))) ∧ Below W.heap.size W w') := fun W h => heavy_t a ta tc sa sc W h.ka
  have HHB : Hid (∀ W, Tw w a b ta tc sa sc tb td sb sd W → Calls Tryd.prog 12 #[.agg #[.int .i64 b.kind, .string b.cons, .slice tb b.text.length td, .slice sb b.kids.length sd]] W fun e w' => e = .returned (.bool (decide (1000 < wt b))) ∧ Below W.heap.size W w') := fun W h => heavy_t b tb td sb sd W h.kb
  by_cases ha : 1000 < wt a
  · rw [decide_eq_true ha] at HHA
    clear ha
    obtain ⟨w1, hw1⟩ : ∃ w1, w.alloc (.cells #[.int .i64 a.kind, .string a.cons, .slice ta a.text.length tc, .slice sa a.kids.length sc] 25) = w1 := ⟨_, rfl⟩
    rw [hw1] at hw2
    have s1 : w1.heap.size = w.heap.size + 1 := by rw [← hw1]; simp
    go_enter Tryd.func4, Tryd.ntmps4
    go_wp2_with (go_at_call 12; refine (HHA.out _ HT0.out).mono ?_; rintro e w3 ⟨rfl, hb3⟩; have HT3 : Hid _ := HT0.out.nx hb3; clear hb3)
    refine (HALV.out _).mono ?_
    rintro e w4 ⟨rfl, hb4⟩
    have HT4 : Hid _ := HT3.out.nx hb4
    clear hb4
    go_wp2
    go_ret
    exact ⟨rfl, HT4.out.bel⟩
  · rw [decide_eq_false ha] at HHA
    by_cases hb : 1000 < wt b
    · rw [decide_eq_true hb] at HHB
      clear ha hb
      obtain ⟨w1, hw1⟩ : ∃ w1, w.alloc (.cells #[.int .i64 a.kind, .string a.cons, .slice ta a.text.length tc, .slice sa a.kids.length sc] 25) = w1 := ⟨_, rfl⟩
      rw [hw1] at hw2
      have s1 : w1.heap.size = w.heap.size + 1 := by rw [← hw1]; simp
      go_enter Tryd.func4, Tryd.ntmps4
      go_wp2_with (go_at_call 12; refine (HHA.out _ HT0.out).mono ?_; rintro e w3 ⟨rfl, hb3⟩; have HT3 : Hid _ := HT0.out.nx hb3; clear hb3; obtain ⟨e0, e1, e2, e3, g0, g1, g2, g3⟩ := HT3.out.facts)
      refine (HHB.out _ HT3.out).mono ?_
      rintro e w5 ⟨rfl, hb5⟩
      have HT5 : Hid _ := HT3.out.nx hb5
      clear hb5
      go_wp2_with (go_at_call 13; refine (HALV.out _).mono ?_; rintro e w4 ⟨rfl, hb4⟩)
      go_ret
      exact ⟨rfl, (HT5.out.nx hb4).bel⟩
    · rw [decide_eq_false hb] at HHB
      have hsz := sz_wt a
      have HS1 : Hid (∀ W, Tw w a b ta tc sa sc tb td sb sd W → Calls Tryd.prog 22 #[.agg #[.int .i64 a.kind, .string a.cons, .slice ta a.text.length tc, .slice sa a.kids.length sc], .agg #[.int .i64 b.kind, .string b.cons, .slice tb b.text.length td, .slice sb b.kids.length sd]] W fun e w' => e = .returned (.bool (eqT a b)) ∧ Below W.heap.size W w') := fun W h => same_t a b ta tc sa sc tb td sb sd W h.ka h.kb (by omega)
      have HS2 : Hid (∀ W, Tw w a b ta tc sa sc tb td sb sd W → Calls Tryd.prog 21 #[.agg #[.int .i64 a.kind, .string a.cons, .slice ta a.text.length tc, .slice sa a.kids.length sc], .agg #[.int .i64 b.kind, .string b.cons, .slice tb b.text.length td, .slice sb b.kids.length sd]] W fun e w' => e = .returned (.bool (eqT a b)) ∧ Below W.heap.size W w') := fun W h => refSame_t a b ta tc sa sc tb td sb sd W h.ka h.kb
      have HCP : Hid (∀ W, Tw w a b ta tc sa sc tb td sb sd W → Calls Tryd.prog 14 #[.agg #[.int .i64 a.kind, .string a.cons, .slice ta a.text.length tc, .slice sa a.kids.length sc]] W fun e w' => (∃ xa xc va vc, e = .returned (.agg #[.int .i64 a.kind, .string a.cons, .slice xa a.text.length xc, .slice va a.kids.length vc]) ∧ TA w' a xa xc va vc) ∧ Below W.heap.size W w') := fun W h => copy_t a ta tc sa sc W h.ka
      have HS3 : Hid (∀ W xa xc va vc, Tw w a b ta tc sa sc tb td sb sd W → TA W a xa xc va vc → Calls Tryd.prog 22 #[.agg #[.int .i64 a.kind, .string a.cons, .slice ta a.text.length tc, .slice sa a.kids.length sc], .agg #[.int .i64 a.kind, .string a.cons, .slice xa a.text.length xc, .slice va a.kids.length vc]] W fun e w' => e = .returned (.bool true) ∧ Below W.heap.size W w') := fun W xa xc va vc h hv => by
        have h' := same_t a a ta tc sa sc xa xc va vc W h.ka hv (by omega)
        rw [eqT_true rfl] at h'
        exact h'
      generalize eqT a b = q at HS1 HS2
      clear ha hb hsz
      obtain ⟨w1, hw1⟩ : ∃ w1, w.alloc (.cells #[.int .i64 a.kind, .string a.cons, .slice ta a.text.length tc, .slice sa a.kids.length sc] 25) = w1 := ⟨_, rfl⟩
      rw [hw1] at hw2
      have s1 : w1.heap.size = w.heap.size + 1 := by rw [← hw1]; simp
      go_enter Tryd.func4, Tryd.ntmps4
      go_wp2_with (go_at_call 12; refine (HHA.out _ HT0.out).mono ?_; rintro e w3 ⟨rfl, hb3⟩; have HT3 : Hid _ := HT0.out.nx hb3; clear hb3; obtain ⟨e0, e1, e2, e3, g0, g1, g2, g3⟩ := HT3.out.facts)
      refine (HHB.out _ HT3.out).mono ?_
      rintro e w5 ⟨rfl, hb5⟩
      have HT5 : Hid _ := HT3.out.nx hb5
      clear hb5
      go_wp2
      have T := HT5.out
      have hqq : (q == q) = true := by simp
      clear e0 e1 e2 e3 g0 g1 g2 g3 HT3 HT0 HHA HHB
      go_region_held3 (fun W => W.cell? ⟨w.heap.size, 0, none⟩ = some (.int .i64 a.kind) ∧ W.cell? ⟨w.heap.size, 1, none⟩ = some (.string a.cons) ∧ W.cell? ⟨w.heap.size, 2, none⟩ = some (.slice ta a.text.length tc) ∧ W.cell? ⟨w.heap.size, 3, none⟩ = some (.slice sa a.kids.length sc) ∧ W.cell? ⟨w.heap.size + 1, 0, none⟩ = some (.int .i64 b.kind) ∧ W.cell? ⟨w.heap.size + 1, 1, none⟩ = some (.string b.cons) ∧ W.cell? ⟨w.heap.size + 1, 2, none⟩ = some (.slice tb b.text.length td) ∧ W.cell? ⟨w.heap.size + 1, 3, none⟩ = some (.slice sb b.kids.length sd)) (first | exact T.facts | exact T.drew.facts) (first
        | (go_at_call 13; refine (HALV.out _).mono ?_; rintro e w6 ⟨rfl, hb6⟩; replace T : Tw w a b ta tc sa sc tb td sb sd w6 := (by first | exact Tw.nx hb6 T | exact Tw.nx hb6 T.drew); clear hb6)
        | (go_at_call 21; refine (HS2.out _ (by first | exact T | exact T.drew)).mono ?_; rintro e w7 ⟨rfl, hb7⟩; replace T : Tw w a b ta tc sa sc tb td sb sd w7 := (by first | exact Tw.nx hb7 T | exact Tw.nx hb7 T.drew); clear hb7)
        | (go_at_call 14; refine (HCP.out _ (by first | exact T | exact T.drew)).mono ?_; rintro e w8 ⟨⟨xa, xc, va, vc, rfl, htin⟩, hb8⟩; replace T : Tw w a b ta tc sa sc tb td sb sd w8 := (by first | exact Tw.nx hb8 T | exact Tw.nx hb8 T.drew); clear hb8)
        | (go_at_call 22; refine (HS1.out _ (by first | exact T | exact T.drew)).mono ?_; rintro e w9 ⟨rfl, hb9⟩; replace T : Tw w a b ta tc sa sc tb td sb sd w9 := (by first | exact Tw.nx hb9 T | exact Tw.nx hb9 T.drew); clear hb9)
        | (go_at_call 22; refine (HS3.out _ xa xc va vc (by first | exact T | exact T.drew) htin).mono ?_; rintro e w10 ⟨rfl, hb10⟩; replace T : Tw w a b ta tc sa sc tb td sb sd w10 := (by first | exact Tw.nx hb10 T | exact Tw.nx hb10 T.drew); clear hb10 htin))
      all_goals go_wp2
      all_goals go_ret
      all_goals exact ⟨by simp, T.bel⟩
end Go.Proofs.YtlkcadibjmfmcaaDoor

/- The law TermsApart, walked. -/
namespace Go.Proofs.YtlkcadibjmfmcaaDoor
open Go.RowKit

/-- A place where a walk is to stand. -/
def Held (p : Prop) : Prop := p
theorem hold_it {p : Prop} (h : Held p) : p := h
theorem prt_cases (d : Tm) : (prt d = (bstr (txt d), 0) ∧ wl d = true ∧ dp d ≤ 200 ∧ (txt d).length ≤ 65536) ∨ ∃ c : Int, prt d = (⟨#[]⟩, c) ∧ c ≠ 0 := by
  unfold prt
  split
  · rename_i h
    rw [rightT_eq, Bool.and_eq_true, decide_eq_true_eq] at h
    split
    · rename_i h2
      exact .inl ⟨rfl, h.2, h.1, h2⟩
    · exact .inr ⟨2, rfl, by decide⟩
  · exact .inr ⟨110, rfl, by decide⟩
set_option maxRecDepth 100000 in
set_option maxHeartbeats 8000000 in
theorem termsApart_walk (a : Tm) (ta : Option Addr) (tc : Nat) (sa : Option Addr) (sc : Nat) (b : Tm) (tb : Option Addr) (td : Nat) (sb : Option Addr) (sd : Nat) (w : World) (hka : TA w a ta tc sa sc) (hkb : TA w b tb td sb sd) :
    Calls Tryd.prog 10 #[.agg #[.int .i64 a.kind, .string a.cons, .slice ta a.text.length tc, .slice sa a.kids.length sc], .agg #[.int .i64 b.kind, .string b.cons, .slice tb b.text.length td, .slice sb b.kids.length sd]] w fun e w' => e = .returned (.bool true) ∧ Below w.heap.size w w' := by
  obtain ⟨w2, hw2⟩ : ∃ w2, (w.alloc (.cells #[.int .i64 a.kind, .string a.cons, .slice ta a.text.length tc, .slice sa a.kids.length sc] 25)).alloc (.cells #[.int .i64 b.kind, .string b.cons, .slice tb b.text.length td, .slice sb b.kids.length sd] 25) = w2 := ⟨_, rfl⟩
  have T0 := Tw.first hka hkb w2 hw2
  obtain ⟨e0, e1, e2, e3, g0, g1, g2, g3⟩ := T0.facts
  have HT0 : Hid _ := T0
  clear hka hkb T0
  have HALV : Hid (∀ W, Calls Tryd.prog 13 #[] W fun e w' => e = .returned (.bool true) ∧ Below W.heap.size W w') := fun W => alive_any W
  have HHA : Hid (∀ W, Tw w a b ta tc sa sc tb td sb sd W → Calls Tryd.prog 12 #[.agg #[.int .i64 a.kind, .string a.cons, .slice ta a.text.length tc, .slice sa a.kids.length sc]] W fun e w' => e = .returned (.bool (decide (1000 < wt a))) ∧ Below W.heap.size W w') := fun W h => heavy_t a ta tc sa sc W h.ka
  have HHB : Hid (∀ W, Tw w a b ta tc sa sc tb td sb sd W → Calls Tryd.prog 12 #[.agg #[.int .i64 b.kind, .string b.cons, .slice tb b.text.length td, .slice sb b.kids.length sd]] W fun e w' => e = .returned (.bool (decide (1000 < wt b))) ∧ Below W.heap.size W w') := fun W h => heavy_t b tb td sb sd W h.kb
  by_cases ha : 1000 < wt a
  · rw [decide_eq_true ha] at HHA
    clear ha
    obtain ⟨w1, hw1⟩ : ∃ w1, w.alloc (.cells #[.int .i64 a.kind, .string a.cons, .slice ta a.text.length tc, .slice sa a.kids.length sc] 25) = w1 := ⟨_, rfl⟩
    rw [hw1] at hw2
    have s1 : w1.heap.size = w.heap.size + 1 := by rw [← hw1]; simp
    go_enter Tryd.func10, Tryd.ntmps10
    go_wp2_with (go_at_call 12; refine (HHA.out _ HT0.out).mono ?_; rintro e w3 ⟨rfl, hb3⟩; have HT3 : Hid _ := HT0.out.nx hb3; clear hb3)
    refine (HALV.out _).mono ?_
    rintro e w4 ⟨rfl, hb4⟩
    have HT4 : Hid _ := HT3.out.nx hb4
    clear hb4
    go_wp2
    go_ret
    exact ⟨rfl, HT4.out.bel⟩
  · rw [decide_eq_false ha] at HHA
    by_cases hb : 1000 < wt b
    · rw [decide_eq_true hb] at HHB
      clear ha hb
      obtain ⟨w1, hw1⟩ : ∃ w1, w.alloc (.cells #[.int .i64 a.kind, .string a.cons, .slice ta a.text.length tc, .slice sa a.kids.length sc] 25) = w1 := ⟨_, rfl⟩
      rw [hw1] at hw2
      have s1 : w1.heap.size = w.heap.size + 1 := by rw [← hw1]; simp
      go_enter Tryd.func10, Tryd.ntmps10
      go_wp2_with (go_at_call 12; refine (HHA.out _ HT0.out).mono ?_; rintro e w3 ⟨rfl, hb3⟩; have HT3 : Hid _ := HT0.out.nx hb3; clear hb3; obtain ⟨e0, e1, e2, e3, g0, g1, g2, g3⟩ := HT3.out.facts)
      refine (HHB.out _ HT3.out).mono ?_
      rintro e w5 ⟨rfl, hb5⟩
      have HT5 : Hid _ := HT3.out.nx hb5
      clear hb5
      go_wp2_with (go_at_call 13; refine (HALV.out _).mono ?_; rintro e w4 ⟨rfl, hb4⟩)
      go_ret
      exact ⟨rfl, (HT5.out.nx hb4).bel⟩
    · rw [decide_eq_false hb] at HHB
      have hsz := sz_wt a
      have hszb := sz_wt b
      have HS1 : Hid (∀ W, Tw w a b ta tc sa sc tb td sb sd W → Calls Tryd.prog 22 #[.agg #[.int .i64 a.kind, .string a.cons, .slice ta a.text.length tc, .slice sa a.kids.length sc], .agg #[.int .i64 b.kind, .string b.cons, .slice tb b.text.length td, .slice sb b.kids.length sd]] W fun e w' => e = .returned (.bool (eqT a b)) ∧ Below W.heap.size W w') := fun W h => same_t a b ta tc sa sc tb td sb sd W h.ka h.kb (by omega)
      have HPA : Hid (∀ W, Tw w a b ta tc sa sc tb td sb sd W → Calls Tryd.prog 28 #[.agg #[.int .i64 a.kind, .string a.cons, .slice ta a.text.length tc, .slice sa a.kids.length sc]] W fun e w' => e = .returned (.tuple #[.string (prt a).1, .int .i64 (prt a).2]) ∧ Below W.heap.size W w') := fun W h => print_t a ta tc sa sc W h.ka (by omega)
      have HPB : Hid (∀ W, Tw w a b ta tc sa sc tb td sb sd W → Calls Tryd.prog 28 #[.agg #[.int .i64 b.kind, .string b.cons, .slice tb b.text.length td, .slice sb b.kids.length sd]] W fun e w' => e = .returned (.tuple #[.string (prt b).1, .int .i64 (prt b).2]) ∧ Below W.heap.size W w') := fun W h => print_t b tb td sb sd W h.kb (by omega)
      clear ha hb hsz hszb
      rcases prt_cases a with ⟨ea, wa, da, la⟩ | ⟨ca, ea, hca⟩
      · rw [ea] at HPA
        rcases prt_cases b with ⟨eb, wb, db, lb⟩ | ⟨cb, eb, hcb⟩
        · rw [eb] at HPB
          have hq : ((bstr (txt a)).toList == (bstr (txt b)).toList) = eqT a b := by
            by_cases h : a = b
            · subst h; rw [eqT_true rfl]; simp
            · rw [eqT_false h]
              exact str_bne (fun e => h (txt_inj wa wb da db la (bstr_inj e)))
          generalize bstr (txt a) = X at HPA hq
          generalize bstr (txt b) = Y at HPB hq
          generalize eqT a b = q at HS1 hq
          clear ea eb wa wb da db la lb
          have hqq : (q == q) = true := by simp
          obtain ⟨w1, hw1⟩ : ∃ w1, w.alloc (.cells #[.int .i64 a.kind, .string a.cons, .slice ta a.text.length tc, .slice sa a.kids.length sc] 25) = w1 := ⟨_, rfl⟩
          rw [hw1] at hw2
          have s1 : w1.heap.size = w.heap.size + 1 := by rw [← hw1]; simp
          go_enter Tryd.func10, Tryd.ntmps10
          go_wp2_with (go_at_call 12; refine (HHA.out _ HT0.out).mono ?_; rintro e w3 ⟨rfl, hb3⟩; have HT3 : Hid _ := HT0.out.nx hb3; clear hb3; obtain ⟨e0, e1, e2, e3, g0, g1, g2, g3⟩ := HT3.out.facts)
          refine (HHB.out _ HT3.out).mono ?_
          rintro e w5 ⟨rfl, hb5⟩
          have HT5 : Hid _ := HT3.out.nx hb5
          clear hb5 e0 e1 e2 e3 g0 g1 g2 g3
          obtain ⟨e0, e1, e2, e3, g0, g1, g2, g3⟩ := HT5.out.facts
          go_wp2_with (go_at_call 28; refine (HPA.out _ HT5.out).mono ?_; rintro e w6 ⟨rfl, hb6⟩; have HT6 : Hid _ := HT5.out.nx hb6; clear hb6 e0 e1 e2 e3 g0 g1 g2 g3; obtain ⟨e0, e1, e2, e3, g0, g1, g2, g3⟩ := HT6.out.facts; refine hold_it ?_)
          unfold Held
          go_wp2_with (go_at_call 28; refine (HPB.out _ HT6.out).mono ?_; rintro e w7 ⟨rfl, hb7⟩; have HT7 : Hid _ := HT6.out.nx hb7; clear hb7 e0 e1 e2 e3 g0 g1 g2 g3; obtain ⟨e0, e1, e2, e3, g0, g1, g2, g3⟩ := HT7.out.facts; refine hold_it ?_)
          unfold Held
          go_wp2_with (go_at_call 13; refine (HALV.out _).mono ?_; rintro e w8 ⟨rfl, hb8⟩; have HT8 : Hid _ := HT7.out.nx hb8; clear hb8 e0 e1 e2 e3 g0 g1 g2 g3; obtain ⟨e0, e1, e2, e3, g0, g1, g2, g3⟩ := HT8.out.facts)
          refine (HS1.out _ HT8.out).mono ?_
          rintro e w9 ⟨rfl, hb9⟩
          have HT9 : Hid _ := HT8.out.nx hb9
          clear hb9
          go_wp2
          go_ret
          exact ⟨by simp, HT9.out.bel⟩
        · rw [eb] at HPB
          generalize bstr (txt a) = X at HPA
          have hc1 : (cb == 0) = false := by simpa using hcb
          have hc2 : (cb != 0) = true := by simpa using hcb
          clear ea eb wa da la HS1
          obtain ⟨w1, hw1⟩ : ∃ w1, w.alloc (.cells #[.int .i64 a.kind, .string a.cons, .slice ta a.text.length tc, .slice sa a.kids.length sc] 25) = w1 := ⟨_, rfl⟩
          rw [hw1] at hw2
          have s1 : w1.heap.size = w.heap.size + 1 := by rw [← hw1]; simp
          go_enter Tryd.func10, Tryd.ntmps10
          go_wp2_with (go_at_call 12; refine (HHA.out _ HT0.out).mono ?_; rintro e w3 ⟨rfl, hb3⟩; have HT3 : Hid _ := HT0.out.nx hb3; clear hb3; obtain ⟨e0, e1, e2, e3, g0, g1, g2, g3⟩ := HT3.out.facts)
          refine (HHB.out _ HT3.out).mono ?_
          rintro e w5 ⟨rfl, hb5⟩
          have HT5 : Hid _ := HT3.out.nx hb5
          clear hb5 e0 e1 e2 e3 g0 g1 g2 g3
          obtain ⟨e0, e1, e2, e3, g0, g1, g2, g3⟩ := HT5.out.facts
          go_wp2_with (go_at_call 28; refine (HPA.out _ HT5.out).mono ?_; rintro e w6 ⟨rfl, hb6⟩; have HT6 : Hid _ := HT5.out.nx hb6; clear hb6 e0 e1 e2 e3 g0 g1 g2 g3; obtain ⟨e0, e1, e2, e3, g0, g1, g2, g3⟩ := HT6.out.facts; refine hold_it ?_)
          unfold Held
          go_wp2_with (go_at_call 28; refine (HPB.out _ HT6.out).mono ?_; rintro e w7 ⟨rfl, hb7⟩; have HT7 : Hid _ := HT6.out.nx hb7; clear hb7 e0 e1 e2 e3 g0 g1 g2 g3; obtain ⟨e0, e1, e2, e3, g0, g1, g2, g3⟩ := HT7.out.facts; refine hold_it ?_)
          unfold Held
          go_wp2_with (go_at_call 13; refine (HALV.out _).mono ?_; rintro e w8 ⟨rfl, hb8⟩; have HT8 : Hid _ := HT7.out.nx hb8; clear hb8)
          go_ret
          exact ⟨rfl, HT8.out.bel⟩
      · rw [ea] at HPA
        have hc1 : (ca == 0) = false := by simpa using hca
        have hc2 : (ca != 0) = true := by simpa using hca
        rcases prt_cases b with ⟨eb, wb, db, lb⟩ | ⟨cb, eb, hcb⟩
        · rw [eb] at HPB
          generalize bstr (txt b) = Y at HPB
          clear ea eb wb db lb HS1
          obtain ⟨w1, hw1⟩ : ∃ w1, w.alloc (.cells #[.int .i64 a.kind, .string a.cons, .slice ta a.text.length tc, .slice sa a.kids.length sc] 25) = w1 := ⟨_, rfl⟩
          rw [hw1] at hw2
          have s1 : w1.heap.size = w.heap.size + 1 := by rw [← hw1]; simp
          go_enter Tryd.func10, Tryd.ntmps10
          go_wp2_with (go_at_call 12; refine (HHA.out _ HT0.out).mono ?_; rintro e w3 ⟨rfl, hb3⟩; have HT3 : Hid _ := HT0.out.nx hb3; clear hb3; obtain ⟨e0, e1, e2, e3, g0, g1, g2, g3⟩ := HT3.out.facts)
          refine (HHB.out _ HT3.out).mono ?_
          rintro e w5 ⟨rfl, hb5⟩
          have HT5 : Hid _ := HT3.out.nx hb5
          clear hb5 e0 e1 e2 e3 g0 g1 g2 g3
          obtain ⟨e0, e1, e2, e3, g0, g1, g2, g3⟩ := HT5.out.facts
          go_wp2_with (go_at_call 28; refine (HPA.out _ HT5.out).mono ?_; rintro e w6 ⟨rfl, hb6⟩; have HT6 : Hid _ := HT5.out.nx hb6; clear hb6 e0 e1 e2 e3 g0 g1 g2 g3; obtain ⟨e0, e1, e2, e3, g0, g1, g2, g3⟩ := HT6.out.facts; refine hold_it ?_)
          unfold Held
          go_wp2_with (go_at_call 28; refine (HPB.out _ HT6.out).mono ?_; rintro e w7 ⟨rfl, hb7⟩; have HT7 : Hid _ := HT6.out.nx hb7; clear hb7 e0 e1 e2 e3 g0 g1 g2 g3; obtain ⟨e0, e1, e2, e3, g0, g1, g2, g3⟩ := HT7.out.facts; refine hold_it ?_)
          unfold Held
          go_wp2_with (go_at_call 13; refine (HALV.out _).mono ?_; rintro e w8 ⟨rfl, hb8⟩; have HT8 : Hid _ := HT7.out.nx hb8; clear hb8)
          go_ret
          exact ⟨rfl, HT8.out.bel⟩
        · rw [eb] at HPB
          have hd1 : (cb == 0) = false := by simpa using hcb
          have hd2 : (cb != 0) = true := by simpa using hcb
          clear ea eb HS1
          obtain ⟨w1, hw1⟩ : ∃ w1, w.alloc (.cells #[.int .i64 a.kind, .string a.cons, .slice ta a.text.length tc, .slice sa a.kids.length sc] 25) = w1 := ⟨_, rfl⟩
          rw [hw1] at hw2
          have s1 : w1.heap.size = w.heap.size + 1 := by rw [← hw1]; simp
          go_enter Tryd.func10, Tryd.ntmps10
          go_wp2_with (go_at_call 12; refine (HHA.out _ HT0.out).mono ?_; rintro e w3 ⟨rfl, hb3⟩; have HT3 : Hid _ := HT0.out.nx hb3; clear hb3; obtain ⟨e0, e1, e2, e3, g0, g1, g2, g3⟩ := HT3.out.facts)
          refine (HHB.out _ HT3.out).mono ?_
          rintro e w5 ⟨rfl, hb5⟩
          have HT5 : Hid _ := HT3.out.nx hb5
          clear hb5 e0 e1 e2 e3 g0 g1 g2 g3
          obtain ⟨e0, e1, e2, e3, g0, g1, g2, g3⟩ := HT5.out.facts
          go_wp2_with (go_at_call 28; refine (HPA.out _ HT5.out).mono ?_; rintro e w6 ⟨rfl, hb6⟩; have HT6 : Hid _ := HT5.out.nx hb6; clear hb6 e0 e1 e2 e3 g0 g1 g2 g3; obtain ⟨e0, e1, e2, e3, g0, g1, g2, g3⟩ := HT6.out.facts; refine hold_it ?_)
          unfold Held
          go_wp2_with (go_at_call 28; refine (HPB.out _ HT6.out).mono ?_; rintro e w7 ⟨rfl, hb7⟩; have HT7 : Hid _ := HT6.out.nx hb7; clear hb7 e0 e1 e2 e3 g0 g1 g2 g3; obtain ⟨e0, e1, e2, e3, g0, g1, g2, g3⟩ := HT7.out.facts; refine hold_it ?_)
          unfold Held
          go_wp2_with (go_at_call 13; refine (HALV.out _).mono ?_; rintro e w8 ⟨rfl, hb8⟩; have HT8 : Hid _ := HT7.out.nx hb8; clear hb8)
          go_ret
          exact ⟨rfl, HT8.out.bel⟩
end Go.Proofs.YtlkcadibjmfmcaaDoor

/- What is read is right, and no longer than what was read; where reading stops: plain. -/
namespace Go.Proofs.YtlkcadibjmfmcaaDoor

theorem esc_short : ∀ n : Fin 256, (signq n.val).length ≤ 4 ∧ (0 ≤ idq n.val → (signq n.val).length ≤ 2) := by decide +kernel
theorem said_id : ∀ i : Fin 5, saidq i.val < 256 ∧ 0 ≤ idq (saidq i.val) := by decide +kernel
/-- What a sign says is written in no more bytes. -/
theorem rdql_short (l : List UInt8) (h : (rdql l).2 ≠ 0) : (signq (rdql l).1).length ≤ (rdql l).2 := by
  unfold rdql rdq at h ⊢
  split
  · rename_i h1; rw [if_pos h1] at h; exact absurd rfl h
  rename_i h1
  rw [if_neg h1] at h
  split
  · rename_i h2
    have hb := shortq_bd (bt ⟨l.toArray⟩ 1)
    obtain ⟨a, b⟩ := said_id ⟨(shortq (bt ⟨l.toArray⟩ 1)).toNat, by omega⟩
    exact (esc_short ⟨_, a⟩).2 b
  rename_i h2
  rw [if_neg h2] at h
  split
  · rename_i h3; rw [if_pos h3] at h; exact absurd rfl h
  rename_i h3
  rw [if_neg h3] at h
  split
  · rename_i h4; rw [if_pos h4] at h; exact absurd rfl h
  · rename_i h4
    have h5 := dig_hi (bt ⟨l.toArray⟩ 2)
    have h6 := dig_hi (bt ⟨l.toArray⟩ 3)
    exact (esc_short ⟨(dig (bt ⟨l.toArray⟩ 2)).toNat * 16 + (dig (bt ⟨l.toArray⟩ 3)).toNat, by omega⟩).1
theorem flat_snoc (acc : List Nat) (n : Nat) : ((acc ++ [n]).flatMap signq).length = (acc.flatMap signq).length + (signq n).length := by simp
theorem quo_flat : ∀ (f : Nat) (l : List UInt8) (k : Nat) (acc : List Nat), (quo f l k acc).code = 0 → ((quo f l k acc).bytes.flatMap signq).length + k + 1 ≤ (acc.flatMap signq).length + (quo f l k acc).fin := by
  intro f
  induction f with
  | zero => intro l k acc h; simp [quo] at h
  | succ f ih =>
    intro l k acc h
    cases l with
    | nil => simp [quo] at h
    | cons c l =>
      rw [quo] at h ⊢
      split
      · simp only; omega
      rename_i h1
      rw [if_neg h1] at h
      split
      · rename_i h2
        rw [if_pos h2] at h
        split
        · rename_i h3; rw [if_pos h3] at h; simp at h
        · rename_i h3; rw [if_neg h3] at h
          have a := ih _ _ _ h
          have b := rdql_short _ h3
          rw [flat_snoc] at a
          omega
      · rename_i h2
        rw [if_neg h2] at h
        split
        · rename_i h3; rw [if_pos h3] at h
          have a := ih _ _ _ h
          rw [flat_snoc] at a
          have : (signq c.toNat).length = 1 := by unfold signq; rw [if_pos h3]; rfl
          omega
        · rename_i h3; rw [if_neg h3] at h; simp at h
theorem unq_flat {l : List UInt8} (h : (unq l).2.2 = 0) : (quoteL (unq l).1).length ≤ l.length := by
  have h1 := unq_ok h
  have hp := (quo_places l.length (l.drop 1) 1 []).1
  rw [List.length_drop] at hp
  unfold unq at h ⊢
  split
  · rename_i a; rw [if_pos a] at h; simp at h
  rename_i a; rw [if_neg a] at h
  split
  · rename_i b; rw [if_pos b] at h; simp at h
  rename_i b; rw [if_neg b] at h
  split
  · rename_i c; rw [if_pos c] at h; exact absurd h c
  rename_i c; rw [if_neg c] at h
  split
  · rename_i d; rw [if_pos d] at h; simp at h
  · have := quo_flat l.length (l.drop 1) 1 [] (by simpa [quoted] using c)
    unfold quoteL
    simp only [List.length_append, List.length_cons, List.length_nil] at this ⊢
    unfold quoted
    simp only [List.flatMap_nil, List.length_nil] at this
    omega
theorem nums_un {t : List Nat} (h : ∀ n ∈ t, n < 256) : nums (unNums t) = t := by
  unfold nums unNums
  rw [List.map_map]
  conv => rhs; rw [← List.map_id t]
  exact List.map_congr_left (fun n hn => by have := h n hn; simp; omega)
theorem rquo_flat {s : ByteArray} {q m q' : Nat} {t : List Nat} (h : rquo s q m = .ok t q') : ¬ 200 < m ∧ q + (quoteL (nums (unNums t))).length ≤ q' := by
  rw [nums_un (rquo_lt h)]
  unfold rquo at h
  split at h
  · cases h
  rename_i a
  split at h
  · cases h
  rename_i b
  injection h with h1 h2
  subst h1
  subst h2
  have b' : (unq2 (s.data.toList.drop q)).1.2.2 = 0 := by simpa using b
  refine ⟨fun hm => a ⟨by rw [b']; decide, hm⟩, ?_⟩
  unfold unq2 at b' ⊢
  split
  · rename_i c
    rw [if_pos c] at b'
    have := unq_flat b'
    have h3 := List.length_take_le (unq (s.data.toList.drop q)).2.1 (s.data.toList.drop q)
    simp only at this ⊢
    omega
  · rename_i c
    rw [if_neg c] at b'
    have := unq_flat b'
    simp only at this ⊢
    omega
theorem lspan_take (p : Nat → Bool) : ∀ l : List UInt8, lspan p (l.take (lspan p l)) = lspan p l
  | [] => rfl
  | c :: l => by
    rw [lspan]
    by_cases h : p c.toNat = true
    · rw [if_pos h, List.take_succ_cons, lspan, if_pos h, lspan_take p l]
    · rw [if_neg h, List.take_zero]; rfl
theorem rname_name {s : ByteArray} {q m q' : Nat} {n : ByteArray} (h : rname s q m = .ok n q') (hq : q < s.size) : ¬ 200 < m ∧ nameB great n.data.toList = true ∧ q' = q + n.data.toList.length := by
  unfold rname at h
  split at h
  · cases h
  rename_i a
  split at h
  · cases h
  rename_i b
  split at h
  · cases h
  rename_i c
  injection h with h1 h2
  subst h1
  subst h2
  have hg : great (bt s q) = true := by simpa using a
  have hdr := drop_at s q hq
  have hb := bt_eq s q hq
  have hle := lspan_le alnum (s.data.toList.drop q)
  have hl : ((s.data.toList.drop q).take (lspan alnum (s.data.toList.drop q))).length = lspan alnum (s.data.toList.drop q) := by rw [List.length_take]; omega
  have hal : alnum (s[q]).toNat = true := by rw [hb]; unfold alnum; rw [hg]; rfl
  have hpos : 0 < lspan alnum (s.data.toList.drop q) := by rw [hdr, lspan, if_pos hal]; omega
  refine ⟨c, ?_, ?_⟩
  · show nameB great ((s.data.toList.drop q).take (lspan alnum (s.data.toList.drop q))) = true
    unfold nameB whole
    rw [lspan_take, hl]
    simp only [Bool.and_eq_true, decide_eq_true_eq]
    refine ⟨⟨?_, ?_⟩, by omega, trivial⟩
    · intro e
      rw [e] at hl
      simp at hl
      omega
    · rw [List.getD_eq_getElem?_getD, List.getElem?_take_of_lt hpos, hdr]
      simp
      rw [hb]; exact hg
  · show q + lspan alnum (s.data.toList.drop q) = q + ((s.data.toList.drop q).take (lspan alnum (s.data.toList.drop q))).length
    rw [hl]
/-- What is told of a term that was read. -/
structure Rd (p m : Nat) (d : Tm) (q : Nat) : Prop where
  wl' : wl d = true
  dp' : dp d + m ≤ 201
  tx : p + (txt d).length ≤ q
  sz' : p + sz d ≤ q
structure RdL (p m : Nat) (ds : List Tm) (q : Nat) : Prop where
  wl' : wlL ds = true
  dp' : dpL ds + m ≤ 201
  tx : p + (txtL false ds).length + 1 ≤ q
  sz' : p + szL ds + 1 ≤ q
theorem okC_list (k : Nat) : okC 3 ⟨#[]⟩ 0 k = true := by unfold okC; rw [if_neg (by decide), if_neg (by decide), if_neg (by simp), if_pos rfl]
theorem okC_lex (t : Nat) : okC 2 ⟨#[]⟩ t 0 = true := by unfold okC; rw [if_neg (by decide), if_neg (by decide), if_neg (by simp), if_neg (by decide), if_pos (by simp)]; simp
theorem okC_none : okC 4 ⟨#[]⟩ 0 0 = true := by unfold okC; rw [if_neg (by decide), if_neg (by decide), if_neg (by simp), if_neg (by decide), if_pos (by simp)]; simp
theorem okC_some : okC 5 ⟨#[]⟩ 0 1 = true := by unfold okC; rw [if_neg (by decide), if_neg (by decide), if_neg (by simp), if_neg (by decide), if_neg (by decide), if_pos (by simp)]; simp
theorem okC_app {n : ByteArray} (h : nameB great n.data.toList = true) (k : Nat) : okC 1 n 0 k = true := by unfold okC; rw [if_pos rfl, h]; simp
theorem rd_all (s : ByteArray) : ∀ f, (∀ p m d q, p ≤ s.size → rt s f p m = .ok d q → Rd p m d q) ∧ (∀ p m en l l' q, p ≤ s.size → m ≤ 201 → rk s f p m en l = .ok l' q → ∃ ds, l' = l ++ ds ∧ RdL p m ds q) := by
  intro f
  induction f with
  | zero => exact ⟨fun p m d q _ h => (by rw [rt] at h; cases h), fun p m en l l' q _ _ h => (by rw [rk] at h; cases h)⟩
  | succ f ih =>
    refine ⟨fun p m d q hp h => ?_, fun p m en l l' q hp hm h => ?_⟩
    · have g1 := skp_ge s p
      rw [rt] at h
      split at h
      · cases h
      rename_i hk
      have hk' : skp s p < s.size := by omega
      split at h
      · split at h
        · cases h
        · rename_i t q' hr
          cases h
          obtain ⟨a, b⟩ := rquo_flat hr
          have c := rquo_pos hr (by omega)
          exact ⟨by rw [wl, wlL, List.length_nil, okC_lex]; rfl, by rw [dp, dpL]; omega, by rw [txt, if_pos rfl]; omega, by rw [sz, szL]; omega⟩
      split at h
      · split at h
        · cases h
        rename_i hm
        split at h
        · cases h
        rename_i hk2
        have g2 := skp_ge s (skp s p + 1)
        split at h
        · cases h
          refine ⟨by rw [wl, wlL, List.length_nil, okC_list]; rfl, by rw [dp, dpL]; omega, ?_, by rw [sz, szL]; omega⟩
          rw [txt, if_neg (by decide), if_pos rfl]; simp [txtL]; omega
        · split at h
          · cases h
          · rename_i d1 q1 hr1
            have a1 := ih.1 _ _ _ _ (by omega) hr1
            have b1 := (rt_rk_pos s f).1 _ _ _ _ (by omega) hr1
            split at h
            · cases h
            · rename_i l2 q2 hr2
              obtain ⟨ds, rfl, a2⟩ := ih.2 _ _ _ _ _ _ (by omega) (by omega) hr2
              cases h
              have e1 := a1.tx
              have e2 := a2.tx
              have e3 := a1.sz'
              have e4 := a2.sz'
              have e5 := a1.dp'
              have e6 := a2.dp'
              refine ⟨?_, ?_, ?_, ?_⟩
              · rw [wl, List.length_nil, okC_list, List.singleton_append, wlL, a1.wl', a2.wl']; rfl
              · rw [dp, List.singleton_append, dpL]; omega
              · rw [txt, if_neg (by decide), if_pos rfl]; simp [txtL]; omega
              · rw [sz, List.singleton_append, szL]; omega
      split at h
      · split at h
        · cases h
        · cases h
          exact ⟨by rw [wl, wlL, List.length_nil, List.length_nil, okC_none]; rfl, by rw [dp, dpL]; omega, by rw [txt, if_neg (by decide), if_neg (by decide), if_pos rfl]; simp; omega, by rw [sz, szL]; omega⟩
      split at h
      · split at h
        · cases h
        rename_i hm
        split at h
        · cases h
        · rename_i d1 q1 hr1
          cases h
          have a1 := ih.1 _ _ _ _ (by omega) hr1
          have e1 := a1.tx
          have e3 := a1.sz'
          have e5 := a1.dp'
          refine ⟨?_, ?_, ?_, ?_⟩
          · rw [wl, List.length_nil, List.length_singleton, okC_some, wlL, wlL, a1.wl']; rfl
          · rw [dp, dpL, dpL]; omega
          · rw [txt, if_neg (by decide), if_neg (by decide), if_neg (by decide), if_pos rfl]; simp [txtL]; omega
          · rw [sz, szL, szL]; omega
      split at h
      · cases h
      · rename_i n q1 hr1
        obtain ⟨hm, hn, e⟩ := rname_name hr1 hk'
        have hp1 := rname_pos hr1 hk'
        have g3 := skp_ge s q1
        split at h
        · rename_i hop
          split at h
          · cases h
          · rename_i d1 q2 hr2
            have a1 := ih.1 _ _ _ _ (by omega) hr2
            have b1 := (rt_rk_pos s f).1 _ _ _ _ (by omega) hr2
            split at h
            · cases h
            · rename_i l2 q3 hr3
              obtain ⟨ds, rfl, a2⟩ := ih.2 _ _ _ _ _ _ (by omega) (by omega) hr3
              cases h
              have e1 := a1.tx
              have e2 := a2.tx
              have e3 := a1.sz'
              have e4 := a2.sz'
              have e5 := a1.dp'
              have e6 := a2.dp'
              refine ⟨?_, ?_, ?_, ?_⟩
              · rw [wl, List.length_nil, okC_app hn, List.singleton_append, wlL, a1.wl', a2.wl']; rfl
              · rw [dp, List.singleton_append, dpL]; omega
              · rw [txt, if_neg (by decide), if_neg (by decide), if_neg (by decide), if_neg (by decide)]; simp [txtL] at e ⊢; omega
              · rw [sz, List.singleton_append, szL]; omega
        · cases h
          refine ⟨by rw [wl, wlL, List.length_nil, List.length_nil, okC_app hn]; rfl, by rw [dp, dpL]; omega, ?_, by rw [sz, szL]; omega⟩
          rw [txt, if_neg (by decide), if_neg (by decide), if_neg (by decide), if_neg (by decide)]; simp at e ⊢; omega
    · have g1 := skp_ge s p
      rw [rk] at h
      split at h
      · cases h
      rename_i hk
      split at h
      · cases h
        exact ⟨[], by simp, by rw [wlL], by rw [dpL]; omega, by simp [txtL]; omega, by rw [szL]; omega⟩
      split at h
      · cases h
      split at h
      · cases h
      · rename_i d1 q1 hr1
        have a1 := ih.1 _ _ _ _ (by omega) hr1
        have b1 := (rt_rk_pos s f).1 _ _ _ _ (by omega) hr1
        obtain ⟨ds, e, a2⟩ := ih.2 _ _ _ _ _ _ (by omega) hm h
        have e1 := a1.tx
        have e2 := a2.tx
        have e3 := a1.sz'
        have e4 := a2.sz'
        have e5 := a1.dp'
        have e6 := a2.dp'
        refine ⟨d1 :: ds, by rw [e]; simp, ?_, ?_, ?_, ?_⟩
        · rw [wlL, a1.wl', a2.wl']; rfl
        · rw [dpL]; omega
        · simp [txtL]; omega
        · rw [szL]; omega
/-- A text that is read. -/
theorem rpar_ok {s : ByteArray} {d : Tm} {q : Nat} (h : rpar s = .ok d q) : wl d = true ∧ dp d ≤ 200 ∧ (txt d).length ≤ s.size ∧ sz d ≤ s.size ∧ s.size ≤ 65536 := by
  unfold rpar at h
  split at h
  · cases h
  rename_i hs
  split at h
  · cases h
  · rename_i d1 q1 hr
    have a := (rd_all s _).1 _ _ _ _ (Nat.zero_le _) hr
    have b := (rt_rk_pos s _).1 _ _ _ _ (Nat.zero_le _) hr
    split at h
    · cases h
    · cases h
      have e1 := a.tx
      have e2 := a.sz'
      have e3 := a.dp'
      exact ⟨a.wl', by omega, by omega, by omega, by omega⟩
theorem unq_le (l : List UInt8) : (unq l).2.1 ≤ l.length := by
  have h' := (quo_places l.length (l.drop 1) 1 []).2
  rw [List.length_drop] at h'
  unfold unq
  split
  · simp
  split
  · simp
  rename_i hne
  have hpos : 0 < l.length := by
    rcases Nat.eq_zero_or_pos l.length with h0 | h0
    · exact absurd h0 (by intro h0; rw [h0] at hne; simp at hne)
    · exact h0
  split
  · show (quoted l).fat ≤ _
    unfold quoted; omega
  split
  · rename_i hlt; simp only; omega
  · simp
theorem rquo_bad {s : ByteArray} {q m q' c : Nat} (h : rquo s q m = .bad q' c) (hq : q ≤ s.size) : q' ≤ s.size ∧ c ≠ 0 := by
  unfold rquo at h
  split at h
  · cases h; exact ⟨hq, by decide⟩
  split at h
  · rename_i b
    cases h
    refine ⟨?_, b⟩
    have hl : (s.data.toList.drop q).length = s.size - q := by rw [List.length_drop, list_len]
    unfold unq2
    split
    · have := unq_le ((s.data.toList.drop q).take (unq (s.data.toList.drop q)).2.1)
      have h2 := List.length_take_le' (unq (s.data.toList.drop q)).2.1 (s.data.toList.drop q)
      simp only
      omega
    · have := unq_le (s.data.toList.drop q)
      simp only
      omega
  · cases h
theorem rname_bad {s : ByteArray} {q m q' c : Nat} (h : rname s q m = .bad q' c) (hq : q ≤ s.size) : q' ≤ s.size ∧ c ≠ 0 := by
  unfold rname at h
  split at h
  · cases h; exact ⟨hq, by decide⟩
  split at h
  · cases h; exact ⟨hq, by decide⟩
  split at h
  · cases h; exact ⟨hq, by decide⟩
  · cases h
theorem rt_bad (s : ByteArray) : ∀ f, (∀ p m q c, p ≤ s.size → 2 * (s.size - p) < f → rt s f p m = .bad q c → q ≤ s.size ∧ c ≠ 0) ∧ (∀ p m en l q c, p ≤ s.size → 2 * (s.size - p) < f → rk s f p m en l = .bad q c → q ≤ s.size ∧ c ≠ 0) := by
  intro f
  induction f with
  | zero => exact ⟨fun p m q c _ h => absurd h (Nat.not_lt_zero _), fun p m en l q c _ h => absurd h (Nat.not_lt_zero _)⟩
  | succ f ih =>
    refine ⟨fun p m q c hp hf h => ?_, fun p m en l q c hp hf h => ?_⟩
    · have g1 := skp_ge s p
      have g2 := skp_le s p hp
      rw [rt] at h
      split at h
      · cases h; exact ⟨g2, by decide⟩
      rename_i hk
      split at h
      · split at h
        · rename_i hr; cases h; exact rquo_bad hr g2
        · cases h
      split at h
      · split at h
        · cases h; exact ⟨g2, by decide⟩
        have g3 := skp_ge s (skp s p + 1)
        have g4 := skp_le s (skp s p + 1) (by omega)
        split at h
        · cases h; exact ⟨g4, by decide⟩
        rename_i hk2
        split at h
        · cases h
        · split at h
          · rename_i hr1
            cases h
            exact ih.1 _ _ _ _ (by omega) (by omega) hr1
          · rename_i d1 q1 hr1
            have b1 := (rt_rk_pos s f).1 _ _ _ _ (by omega) hr1
            split at h
            · rename_i hr2
              cases h
              exact ih.2 _ _ _ _ _ _ (by omega) (by omega) hr2
            · cases h
      split at h
      · split at h
        · cases h; exact ⟨g2, by decide⟩
        · cases h
      split at h
      · split at h
        · cases h; exact ⟨g2, by decide⟩
        split at h
        · rename_i hr1
          cases h
          exact ih.1 _ _ _ _ (by omega) (by omega) hr1
        · cases h
      split at h
      · rename_i hr; cases h; exact rname_bad hr g2
      · rename_i n q1 hr1
        have hp1 := rname_pos hr1 (by omega)
        have g3 := skp_ge s q1
        split at h
        · rename_i hop
          split at h
          · rename_i hr2
            cases h
            exact ih.1 _ _ _ _ (by omega) (by omega) hr2
          · rename_i d1 q2 hr2
            have b1 := (rt_rk_pos s f).1 _ _ _ _ (by omega) hr2
            split at h
            · rename_i hr3
              cases h
              exact ih.2 _ _ _ _ _ _ (by omega) (by omega) hr3
            · cases h
        · cases h
    · have g1 := skp_ge s p
      have g2 := skp_le s p hp
      rw [rk] at h
      split at h
      · cases h; exact ⟨g2, by decide⟩
      rename_i hk
      split at h
      · cases h
      split at h
      · cases h; exact ⟨g2, by decide⟩
      split at h
      · rename_i hr1
        cases h
        exact ih.1 _ _ _ _ (by omega) (by omega) hr1
      · rename_i d1 q1 hr1
        have b1 := (rt_rk_pos s f).1 _ _ _ _ (by omega) hr1
        exact ih.2 _ _ _ _ _ _ (by omega) (by omega) h
/-- A text that is not read. -/
theorem rpar_bad {s : ByteArray} {q c : Nat} (h : rpar s = .bad q c) : q ≤ s.size ∧ c ≠ 0 := by
  unfold rpar at h
  split at h
  · cases h; exact ⟨Nat.zero_le _, by decide⟩
  split at h
  · rename_i hr
    cases h
    exact (rt_bad s _).1 _ _ _ _ (Nat.zero_le _) (by omega) hr
  · rename_i d1 q1 hr
    have b := (rt_rk_pos s _).1 _ _ _ _ (Nat.zero_le _) hr
    split at h
    · cases h; exact ⟨skp_le s q1 b.2, by decide⟩
    · cases h
end Go.Proofs.YtlkcadibjmfmcaaDoor

/- The law TermsBack, walked. -/
namespace Go.Proofs.YtlkcadibjmfmcaaDoor
open Go.RowKit

/-- A term in its box. -/
structure To (w : World) (t : Tm) (ta : Option Addr) (tc : Nat) (sa : Option Addr) (sc : Nat) (W : World) : Prop where
  bel : Below w.heap.size w W
  a0 : W.cell? ⟨w.heap.size, 0, none⟩ = some (.int .i64 t.kind)
  a1 : W.cell? ⟨w.heap.size, 1, none⟩ = some (.string t.cons)
  a2 : W.cell? ⟨w.heap.size, 2, none⟩ = some (.slice ta t.text.length tc)
  a3 : W.cell? ⟨w.heap.size, 3, none⟩ = some (.slice sa t.kids.length sc)
  ka : TA W t ta tc sa sc
  lt : w.heap.size < W.heap.size
section
variable {w : World} {t : Tm} {ta : Option Addr} {tc : Nat} {sa : Option Addr} {sc : Nat} {W W' : World}
theorem To.nx (hb : Below W.heap.size W W') (h : To w t ta tc sa sc W) : To w t ta tc sa sc W' := by
  have hl := h.lt
  have k : ∀ b q, b < W.heap.size → W'.cell? ⟨b, q, none⟩ = W.cell? ⟨b, q, none⟩ := fun b q hlt => hb.cell (p := ⟨b, q, none⟩) hlt
  exact ⟨below_of h.bel hb, (k _ _ hl).trans h.a0, (k _ _ hl).trans h.a1, (k _ _ hl).trans h.a2, (k _ _ hl).trans h.a3, h.ka.nx hb, Nat.lt_of_lt_of_le hl hb.size⟩
theorem To.facts (h : To w t ta tc sa sc W) : W.cell? ⟨w.heap.size, 0, none⟩ = some (.int .i64 t.kind) ∧ W.cell? ⟨w.heap.size, 1, none⟩ = some (.string t.cons) ∧ W.cell? ⟨w.heap.size, 2, none⟩ = some (.slice ta t.text.length tc) ∧ W.cell? ⟨w.heap.size, 3, none⟩ = some (.slice sa t.kids.length sc) := ⟨h.a0, h.a1, h.a2, h.a3⟩
theorem To.first (ha : TA w t ta tc sa sc) (W : World) (hW : w.alloc (.cells #[.int .i64 t.kind, .string t.cons, .slice ta t.text.length tc, .slice sa t.kids.length sc] 25) = W) : To w t ta tc sa sc W := by
  have hB : Below w.heap.size w W := by rw [← hW]; exact (Below.refl _ _).alloc (Nat.le_refl _) _
  have c1 : ∀ j v, (#[.int .i64 t.kind, .string t.cons, .slice ta t.text.length tc, .slice sa t.kids.length sc] : Array Value)[j]? = some v → W.cell? ⟨w.heap.size, j, none⟩ = some v := fun j v hv => by rw [← hW]; exact cell_new j hv
  exact ⟨hB, c1 0 _ rfl, c1 1 _ rfl, c1 2 _ rfl, c1 3 _ rfl, ha.nx hB, by rw [← hW]; simp⟩
end
theorem par_ok {s : ByteArray} {d : Tm} {q : Nat} (h : rpar s = .ok d q) (hs : s.size ≤ maxLen) (W : World) : Calls Tryd.prog 30 #[.string s] W fun e w' => (∃ ya yc yb yd, e = .returned (.tuple #[.agg #[.int .i64 d.kind, .string d.cons, .slice ya d.text.length yc, .slice yb d.kids.length yd], .agg #[.int .i64 0, .int .i64 0]]) ∧ TA w' d ya yc yb yd) ∧ Below W.heap.size W w' := by
  have := parse_t s W hs
  rw [h] at this
  exact this
theorem par_bad {s : ByteArray} {q c : Nat} (h : rpar s = .bad q c) (hs : s.size ≤ maxLen) (W : World) : Calls Tryd.prog 30 #[.string s] W fun e w' => e = .returned (.tuple #[.agg #[.int .i64 0, .string ⟨#[]⟩, .slice none 0 0, .slice none 0 0], .agg #[.int .i64 (q : Int), .int .i64 (c : Int)]]) ∧ Below W.heap.size W w' := by
  have := parse_t s W hs
  rw [h] at this
  exact this
def zeroD : Tm := .mk 0 ⟨#[]⟩ [] []
theorem zero_ta (W : World) : TA W zeroD none 0 none 0 := ⟨Nat.le_refl _, by decide, fun i c hi => (by cases hi), Nat.le_refl _, 0, rfl⟩
theorem bstr_size (l : List UInt8) : (bstr l).size = l.length := by show l.toArray.size = _; simp
set_option maxRecDepth 100000 in
set_option maxHeartbeats 8000000 in
theorem termsBack_walk (t : Tm) (ta : Option Addr) (tc : Nat) (sa : Option Addr) (sc : Nat) (s : ByteArray) (w : World) (hka : TA w t ta tc sa sc) (hs : s.size ≤ maxLen) :
    Calls Tryd.prog 7 #[.agg #[.int .i64 t.kind, .string t.cons, .slice ta t.text.length tc, .slice sa t.kids.length sc], .string s] w fun e w' => e = .returned (.bool true) ∧ Below w.heap.size w w' := by
  obtain ⟨w2, hw2⟩ : ∃ w2, w.alloc (.cells #[.int .i64 t.kind, .string t.cons, .slice ta t.text.length tc, .slice sa t.kids.length sc] 25) = w2 := ⟨_, rfl⟩
  have T0 := To.first hka w2 hw2
  obtain ⟨e0, e1, e2, e3⟩ := T0.facts
  have HT0 : Hid _ := T0
  clear hka T0
  have HALV : Hid (∀ W, Calls Tryd.prog 13 #[] W fun e w' => e = .returned (.bool true) ∧ Below W.heap.size W w') := fun W => alive_any W
  have HHA : Hid (∀ W, To w t ta tc sa sc W → Calls Tryd.prog 12 #[.agg #[.int .i64 t.kind, .string t.cons, .slice ta t.text.length tc, .slice sa t.kids.length sc]] W fun e w' => e = .returned (.bool (decide (1000 < wt t))) ∧ Below W.heap.size W w') := fun W h => heavy_t t ta tc sa sc W h.ka
  have HSM : Hid (∀ W (x : Tm) (xa : Option Addr) (xc : Nat) (xb : Option Addr) (xd : Nat) (za : Option Addr) (zc : Nat) (zb : Option Addr) (zd : Nat), TA W x xa xc xb xd → TA W x za zc zb zd → Calls Tryd.prog 21 #[.agg #[.int .i64 x.kind, .string x.cons, .slice xa x.text.length xc, .slice xb x.kids.length xd], .agg #[.int .i64 x.kind, .string x.cons, .slice za x.text.length zc, .slice zb x.kids.length zd]] W fun e w' => e = .returned (.bool true) ∧ Below W.heap.size W w') := fun W x xa xc xb xd za zc zb zd h1 h2 => by
    have := refSame_t x x xa xc xb xd za zc zb zd W h1 h2
    rw [eqT_true rfl] at this
    exact this
  by_cases ha : 1000 < wt t
  · rw [decide_eq_true ha] at HHA
    clear ha hs
    go_enter Tryd.func7, Tryd.ntmps7
    go_wp2_with (go_at_call 12; refine (HHA.out _ HT0.out).mono ?_; rintro e w3 ⟨rfl, hb3⟩; have HT3 : Hid _ := HT0.out.nx hb3; clear hb3)
    refine (HALV.out _).mono ?_
    rintro e w4 ⟨rfl, hb4⟩
    have HT4 : Hid _ := HT3.out.nx hb4
    clear hb4
    go_wp2
    go_ret
    exact ⟨rfl, HT4.out.bel⟩
  · rw [decide_eq_false ha] at HHA
    by_cases hl : 9000 < s.size
    · have hlI : (9000 : Int) < (s.size : Int) := by omega
      clear ha hl hs
      go_enter Tryd.func7, Tryd.ntmps7
      go_wp2_with (go_at_call 12; refine (HHA.out _ HT0.out).mono ?_; rintro e w3 ⟨rfl, hb3⟩; have HT3 : Hid _ := HT0.out.nx hb3; clear hb3; refine hold_it ?_)
      unfold Held
      go_wp2_with (go_at_call 13; refine (HALV.out _).mono ?_; rintro e w4 ⟨rfl, hb4⟩)
      go_ret
      exact ⟨rfl, (HT3.out.nx hb4).bel⟩
    · have hlI : ¬ (9000 : Int) < (s.size : Int) := by omega
      have hsz := sz_wt t
      have HP1 : Hid (∀ W, To w t ta tc sa sc W → Calls Tryd.prog 28 #[.agg #[.int .i64 t.kind, .string t.cons, .slice ta t.text.length tc, .slice sa t.kids.length sc]] W fun e w' => e = .returned (.tuple #[.string (prt t).1, .int .i64 (prt t).2]) ∧ Below W.heap.size W w') := fun W h => print_t t ta tc sa sc W h.ka (by omega)
      cases hr : rpar s with
      | ok d q =>
        obtain ⟨hd1, hd2, hd3, hd4, hd5⟩ := rpar_ok hr
        have hrd : rightT d = true := by rw [rightT_eq, decide_eq_true hd2, hd1]; rfl
        have hpd : prt d = (bstr (txt d), 0) := by unfold prt; rw [if_pos hrd, if_pos (by omega)]
        have HR2 : Hid _ := fun W => par_ok hr hs W
        have HP2 : Hid (∀ W (xa : Option Addr) (xc : Nat) (xb : Option Addr) (xd : Nat), TA W d xa xc xb xd → Calls Tryd.prog 28 #[.agg #[.int .i64 d.kind, .string d.cons, .slice xa d.text.length xc, .slice xb d.kids.length xd]] W fun e w' => e = .returned (.tuple #[.string (bstr (txt d)), .int .i64 0]) ∧ Below W.heap.size W w') := fun W xa xc xb xd h => by
          have := print_t d xa xc xb xd W h (by omega)
          rw [hpd] at this
          exact this
        have HR3 : Hid _ := fun W => par_ok (rpar_txt hd1 hd2 (by omega)) (by rw [bstr_size]; unfold maxLen at hs ⊢; omega) W
        have HG2 : Hid (∀ W (xa : Option Addr) (xc : Nat) (xb : Option Addr) (xd : Nat), TA W d xa xc xb xd → Calls Tryd.prog 19 #[.agg #[.int .i64 d.kind, .string d.cons, .slice xa d.text.length xc, .slice xb d.kids.length xd]] W fun e w' => e = .returned (.bool true) ∧ Below W.heap.size W w') := fun W xa xc xb xd h => by
          have := right_t d xa xc xb xd W h (by omega)
          rw [hrd] at this
          exact this
        clear hr hd1 hd2 hd3 hd4 hd5 hrd hpd ha hl hsz hs
        generalize bstr (txt d) = Z at HP2 HR3
        rcases prt_cases t with ⟨ea, wa, da, la⟩ | ⟨ca, ea, hca⟩
        · rw [ea] at HP1
          have HR1 : Hid _ := fun W => par_ok (rpar_txt wa da la) (by rw [bstr_size]; unfold maxLen; omega) W
          generalize bstr (txt t) = X at HP1 HR1
          clear ea wa da la
          go_enter Tryd.func7, Tryd.ntmps7
          go_wp2_with (go_at_call 12; refine (HHA.out _ HT0.out).mono ?_; rintro e w3 ⟨rfl, hb3⟩; have HT3 : Hid _ := HT0.out.nx hb3; clear hb3; clear e0 e1 e2 e3; obtain ⟨e0, e1, e2, e3⟩ := HT3.out.facts; refine hold_it ?_)
          unfold Held
          go_wp2_with (go_at_call 28; refine (HP1.out _ HT3.out).mono ?_; rintro e w4 ⟨rfl, hb4⟩; have HT4 : Hid _ := HT3.out.nx hb4; clear hb4; clear e0 e1 e2 e3; obtain ⟨e0, e1, e2, e3⟩ := HT4.out.facts; refine hold_it ?_)
          unfold Held
          go_wp2_with (go_at_call 30; refine (HR1.out _).mono ?_; rintro e w5 ⟨⟨ya1, yc1, yb1, yd1, rfl, hy5⟩, hb5⟩; have HT5 : Hid _ := HT4.out.nx hb5; clear hb5; clear e0 e1 e2 e3; obtain ⟨e0, e1, e2, e3⟩ := HT5.out.facts; have hlt5 := HT5.out.lt; refine hold_it ?_)
          unfold Held
          have HX : Hid _ := two_boxes w w5 HT5.out.bel #[.int .i64 t.kind, .string t.cons, .slice ya1 t.text.length yc1, .slice yb1 t.kids.length yd1] #[.int .i64 0, .int .i64 0]
          have HY6 : Hid _ := hy5.nx HX.out.2.1
          have HT6 : Hid _ := HT5.out.nx HX.out.2.1
          go_wp2_with (go_at_call 21; refine (HSM.out _ _ _ _ _ _ _ _ _ _ HY6.out HT6.out.ka).mono ?_; rintro e w7 ⟨rfl, hb7⟩; have HT7 : Hid _ := HT6.out.nx hb7; clear hb7 HX HY6 HT6; clear e0 e1 e2 e3; obtain ⟨e0, e1, e2, e3⟩ := HT7.out.facts; refine hold_it ?_)
          unfold Held
          go_wp2_with (go_at_call 30; refine (HR2.out _).mono ?_; rintro e w8 ⟨⟨ya2, yc2, yb2, yd2, rfl, hy8⟩, hb8⟩; have HT8 : Hid _ := HT7.out.nx hb8; clear hb8; refine hold_it ?_)
          unfold Held
          have HX : Hid _ := two_boxes w w8 HT8.out.bel #[.int .i64 d.kind, .string d.cons, .slice ya2 d.text.length yc2, .slice yb2 d.kids.length yd2] #[.int .i64 0, .int .i64 0]
          have HY9 : Hid _ := hy8.nx HX.out.2.1
          clear hy8 HT8 e0 e1 e2 e3
          go_wp2_with (go_at_call 28; refine (HP2.out _ _ _ _ _ HY9.out).mono ?_; rintro e w9 ⟨rfl, hb9⟩; refine hold_it ?_)
          unfold Held
          have HW9 : Hid (Below w.heap.size w w9 ∧ (∀ (j : Nat) v, (#[.int .i64 d.kind, .string d.cons, .slice ya2 d.text.length yc2, .slice yb2 d.kids.length yd2] : Array Value)[j]? = some v → w9.cell? ⟨w8.heap.size, j, none⟩ = some v) ∧ TA w9 d ya2 yc2 yb2 yd2 ∧ w8.heap.size < w9.heap.size) := by
            obtain ⟨h1, h2, h3, h4, h5⟩ := HX.out
            exact ⟨below_of h1 hb9, fun j v hv => (hb9.cell (p := ⟨w8.heap.size, j, none⟩) (by show w8.heap.size < _; rw [h5]; omega)).trans (h3 j v hv), HY9.out.nx hb9, by have := hb9.size; omega⟩
          clear hb9 HX HY9
          go_wp2_with (go_at_call 30; refine (HR3.out _).mono ?_; rintro e w10 ⟨⟨ya3, yc3, yb3, yd3, rfl, hy10⟩, hb10⟩; refine hold_it ?_)
          unfold Held
          have HX : Hid _ := two_boxes w w10 (below_of HW9.out.1 hb10) #[.int .i64 d.kind, .string d.cons, .slice ya3 d.text.length yc3, .slice yb3 d.kids.length yd3] #[.int .i64 0, .int .i64 0]
          have HW11 : Hid (∀ W, Below ((w10.alloc (.cells #[.int .i64 d.kind, .string d.cons, .slice ya3 d.text.length yc3, .slice yb3 d.kids.length yd3] 25)).alloc (.cells #[.int .i64 0, .int .i64 0] 44)).heap.size ((w10.alloc (.cells #[.int .i64 d.kind, .string d.cons, .slice ya3 d.text.length yc3, .slice yb3 d.kids.length yd3] 25)).alloc (.cells #[.int .i64 0, .int .i64 0] 44)) W → Below w.heap.size w W ∧ (∀ (j : Nat) v, (#[.int .i64 d.kind, .string d.cons, .slice ya2 d.text.length yc2, .slice yb2 d.kids.length yd2] : Array Value)[j]? = some v → W.cell? ⟨w8.heap.size, j, none⟩ = some v) ∧ (∀ (j : Nat) v, (#[.int .i64 d.kind, .string d.cons, .slice ya3 d.text.length yc3, .slice yb3 d.kids.length yd3] : Array Value)[j]? = some v → W.cell? ⟨w10.heap.size, j, none⟩ = some v) ∧ (∀ (j : Nat) v, (#[.int .i64 0, .int .i64 0] : Array Value)[j]? = some v → W.cell? ⟨w10.heap.size + 1, j, none⟩ = some v) ∧ TA W d ya2 yc2 yb2 yd2 ∧ TA W d ya3 yc3 yb3 yd3) := by
            intro W hW
            obtain ⟨h1, h2, h3, h4, h5⟩ := HX.out
            obtain ⟨k1, k2, k3, k4⟩ := HW9.out
            have hl : w8.heap.size < w10.heap.size := Nat.lt_of_lt_of_le k4 hb10.size
            refine ⟨below_of h1 hW, fun j v hv => (hW.cell (p := ⟨w8.heap.size, j, none⟩) (by show w8.heap.size < _; rw [h5]; omega)).trans ((h2.cell (p := ⟨w8.heap.size, j, none⟩) hl).trans ((hb10.cell (p := ⟨w8.heap.size, j, none⟩) k4).trans (k2 j v hv))), fun j v hv => (hW.cell (p := ⟨w10.heap.size, j, none⟩) (by show w10.heap.size < _; rw [h5]; omega)).trans (h3 j v hv), fun j v hv => (hW.cell (p := ⟨w10.heap.size + 1, j, none⟩) (by show w10.heap.size + 1 < _; rw [h5]; omega)).trans (h4 j v hv), ((k3.nx hb10).nx h2).nx hW, (hy10.nx h2).nx hW⟩
          clear hb10 hy10 HX HW9
          go_wp2_with (go_at_call 13; refine (HALV.out _).mono ?_; rintro e w12 ⟨rfl, hb12⟩; have HK12 : Hid _ := hb12; clear hb12; refine hold_it ?_)
          unfold Held
          have y0 := (HW11.out _ HK12.out).2.1 0 _ rfl
          have y1 := (HW11.out _ HK12.out).2.1 1 _ rfl
          have y2 := (HW11.out _ HK12.out).2.1 2 _ rfl
          have y3 := (HW11.out _ HK12.out).2.1 3 _ rfl
          have HY12 : Hid _ := (HW11.out _ HK12.out).2.2.2.2.1
          go_wp2_with (go_at_call 19; refine (HG2.out _ _ _ _ _ HY12.out).mono ?_; rintro e w13 ⟨rfl, hb13⟩; have HK13 : Hid _ := below_of HK12.out hb13; clear hb13; refine hold_it ?_)
          unfold Held
          clear y0 y1 y2 y3 HY12 HK12
          have HK13' : Hid _ := HW11.out _ HK13.out
          have y0 := HK13'.out.2.1 0 _ rfl
          have y1 := HK13'.out.2.1 1 _ rfl
          have y2 := HK13'.out.2.1 2 _ rfl
          have y3 := HK13'.out.2.1 3 _ rfl
          have x0 := HK13'.out.2.2.1 0 _ rfl
          have x1 := HK13'.out.2.2.1 1 _ rfl
          have x2 := HK13'.out.2.2.1 2 _ rfl
          have x3 := HK13'.out.2.2.1 3 _ rfl
          have f0 := HK13'.out.2.2.2.1 0 _ rfl
          have f1 := HK13'.out.2.2.2.1 1 _ rfl
          have HYa : Hid _ := HK13'.out.2.2.2.2.1
          have HYb : Hid _ := HK13'.out.2.2.2.2.2
          have HBE : Hid _ := HK13'.out.1
          clear HK13' HK13 HW11
          go_wp2_with (go_at_call 21; refine (HSM.out _ _ _ _ _ _ _ _ _ _ HYb.out HYa.out).mono ?_; rintro e w14 ⟨rfl, hb14⟩; have HE : Hid _ := below_of HBE.out hb14; clear hb14)
          go_ret
          exact ⟨rfl, HE.out⟩
        · rw [ea] at HP1
          have hc1 : (ca == 0) = false := by simpa using hca
          clear ea
          go_enter Tryd.func7, Tryd.ntmps7
          go_wp2_with (go_at_call 12; refine (HHA.out _ HT0.out).mono ?_; rintro e w3 ⟨rfl, hb3⟩; have HT3 : Hid _ := HT0.out.nx hb3; clear hb3; clear e0 e1 e2 e3; obtain ⟨e0, e1, e2, e3⟩ := HT3.out.facts; refine hold_it ?_)
          unfold Held
          go_wp2_with (go_at_call 28; refine (HP1.out _ HT3.out).mono ?_; rintro e w4 ⟨rfl, hb4⟩; have HT4 : Hid _ := HT3.out.nx hb4; clear hb4; clear e0 e1 e2 e3; obtain ⟨e0, e1, e2, e3⟩ := HT4.out.facts; refine hold_it ?_)
          unfold Held
          go_wp2_with (go_at_call 30; refine (HR2.out _).mono ?_; rintro e w8 ⟨⟨ya2, yc2, yb2, yd2, rfl, hy8⟩, hb8⟩; have HT8 : Hid _ := HT4.out.nx hb8; clear hb8; refine hold_it ?_)
          unfold Held
          have HX : Hid _ := two_boxes w w8 HT8.out.bel #[.int .i64 d.kind, .string d.cons, .slice ya2 d.text.length yc2, .slice yb2 d.kids.length yd2] #[.int .i64 0, .int .i64 0]
          have HY9 : Hid _ := hy8.nx HX.out.2.1
          clear hy8 HT8 e0 e1 e2 e3
          go_wp2_with (go_at_call 28; refine (HP2.out _ _ _ _ _ HY9.out).mono ?_; rintro e w9 ⟨rfl, hb9⟩; refine hold_it ?_)
          unfold Held
          have HW9 : Hid (Below w.heap.size w w9 ∧ (∀ (j : Nat) v, (#[.int .i64 d.kind, .string d.cons, .slice ya2 d.text.length yc2, .slice yb2 d.kids.length yd2] : Array Value)[j]? = some v → w9.cell? ⟨w8.heap.size, j, none⟩ = some v) ∧ TA w9 d ya2 yc2 yb2 yd2 ∧ w8.heap.size < w9.heap.size) := by
            obtain ⟨h1, h2, h3, h4, h5⟩ := HX.out
            exact ⟨below_of h1 hb9, fun j v hv => (hb9.cell (p := ⟨w8.heap.size, j, none⟩) (by show w8.heap.size < _; rw [h5]; omega)).trans (h3 j v hv), HY9.out.nx hb9, by have := hb9.size; omega⟩
          clear hb9 HX HY9
          go_wp2_with (go_at_call 30; refine (HR3.out _).mono ?_; rintro e w10 ⟨⟨ya3, yc3, yb3, yd3, rfl, hy10⟩, hb10⟩; refine hold_it ?_)
          unfold Held
          have HX : Hid _ := two_boxes w w10 (below_of HW9.out.1 hb10) #[.int .i64 d.kind, .string d.cons, .slice ya3 d.text.length yc3, .slice yb3 d.kids.length yd3] #[.int .i64 0, .int .i64 0]
          have HW11 : Hid (∀ W, Below ((w10.alloc (.cells #[.int .i64 d.kind, .string d.cons, .slice ya3 d.text.length yc3, .slice yb3 d.kids.length yd3] 25)).alloc (.cells #[.int .i64 0, .int .i64 0] 44)).heap.size ((w10.alloc (.cells #[.int .i64 d.kind, .string d.cons, .slice ya3 d.text.length yc3, .slice yb3 d.kids.length yd3] 25)).alloc (.cells #[.int .i64 0, .int .i64 0] 44)) W → Below w.heap.size w W ∧ (∀ (j : Nat) v, (#[.int .i64 d.kind, .string d.cons, .slice ya2 d.text.length yc2, .slice yb2 d.kids.length yd2] : Array Value)[j]? = some v → W.cell? ⟨w8.heap.size, j, none⟩ = some v) ∧ (∀ (j : Nat) v, (#[.int .i64 d.kind, .string d.cons, .slice ya3 d.text.length yc3, .slice yb3 d.kids.length yd3] : Array Value)[j]? = some v → W.cell? ⟨w10.heap.size, j, none⟩ = some v) ∧ (∀ (j : Nat) v, (#[.int .i64 0, .int .i64 0] : Array Value)[j]? = some v → W.cell? ⟨w10.heap.size + 1, j, none⟩ = some v) ∧ TA W d ya2 yc2 yb2 yd2 ∧ TA W d ya3 yc3 yb3 yd3) := by
            intro W hW
            obtain ⟨h1, h2, h3, h4, h5⟩ := HX.out
            obtain ⟨k1, k2, k3, k4⟩ := HW9.out
            have hl : w8.heap.size < w10.heap.size := Nat.lt_of_lt_of_le k4 hb10.size
            refine ⟨below_of h1 hW, fun j v hv => (hW.cell (p := ⟨w8.heap.size, j, none⟩) (by show w8.heap.size < _; rw [h5]; omega)).trans ((h2.cell (p := ⟨w8.heap.size, j, none⟩) hl).trans ((hb10.cell (p := ⟨w8.heap.size, j, none⟩) k4).trans (k2 j v hv))), fun j v hv => (hW.cell (p := ⟨w10.heap.size, j, none⟩) (by show w10.heap.size < _; rw [h5]; omega)).trans (h3 j v hv), fun j v hv => (hW.cell (p := ⟨w10.heap.size + 1, j, none⟩) (by show w10.heap.size + 1 < _; rw [h5]; omega)).trans (h4 j v hv), ((k3.nx hb10).nx h2).nx hW, (hy10.nx h2).nx hW⟩
          clear hb10 hy10 HX HW9
          go_wp2_with (go_at_call 13; refine (HALV.out _).mono ?_; rintro e w12 ⟨rfl, hb12⟩; have HK12 : Hid _ := hb12; clear hb12; refine hold_it ?_)
          unfold Held
          have y0 := (HW11.out _ HK12.out).2.1 0 _ rfl
          have y1 := (HW11.out _ HK12.out).2.1 1 _ rfl
          have y2 := (HW11.out _ HK12.out).2.1 2 _ rfl
          have y3 := (HW11.out _ HK12.out).2.1 3 _ rfl
          have HY12 : Hid _ := (HW11.out _ HK12.out).2.2.2.2.1
          go_wp2_with (go_at_call 19; refine (HG2.out _ _ _ _ _ HY12.out).mono ?_; rintro e w13 ⟨rfl, hb13⟩; have HK13 : Hid _ := below_of HK12.out hb13; clear hb13; refine hold_it ?_)
          unfold Held
          clear y0 y1 y2 y3 HY12 HK12
          have HK13' : Hid _ := HW11.out _ HK13.out
          have y0 := HK13'.out.2.1 0 _ rfl
          have y1 := HK13'.out.2.1 1 _ rfl
          have y2 := HK13'.out.2.1 2 _ rfl
          have y3 := HK13'.out.2.1 3 _ rfl
          have x0 := HK13'.out.2.2.1 0 _ rfl
          have x1 := HK13'.out.2.2.1 1 _ rfl
          have x2 := HK13'.out.2.2.1 2 _ rfl
          have x3 := HK13'.out.2.2.1 3 _ rfl
          have f0 := HK13'.out.2.2.2.1 0 _ rfl
          have f1 := HK13'.out.2.2.2.1 1 _ rfl
          have HYa : Hid _ := HK13'.out.2.2.2.2.1
          have HYb : Hid _ := HK13'.out.2.2.2.2.2
          have HBE : Hid _ := HK13'.out.1
          clear HK13' HK13 HW11
          go_wp2_with (go_at_call 21; refine (HSM.out _ _ _ _ _ _ _ _ _ _ HYb.out HYa.out).mono ?_; rintro e w14 ⟨rfl, hb14⟩; have HE : Hid _ := below_of HBE.out hb14; clear hb14)
          go_ret
          exact ⟨rfl, HE.out⟩
      | bad q c =>
        obtain ⟨hq1, hq2⟩ := rpar_bad hr
        have HR2 : Hid _ := fun W => par_bad hr hs W
        have HS0 : Hid (∀ W, Calls Tryd.prog 21 #[.agg #[.int .i64 0, .string ⟨#[]⟩, .slice none 0 0, .slice none 0 0], .agg #[.int .i64 0, .string ⟨#[]⟩, .slice none 0 0, .slice none 0 0]] W fun e w' => e = .returned (.bool true) ∧ Below W.heap.size W w') := fun W => by
          have := refSame_t zeroD zeroD none 0 none 0 none 0 none 0 W (zero_ta W) (zero_ta W)
          rw [eqT_true rfl] at this
          exact this
        have k1 : ((c : Int) != 0) = true := by simp; omega
        have k2 : ¬ (c : Int) = 0 := by omega
        have k3 : (0 : Int) ≤ (q : Int) := by omega
        have k4 : (q : Int) ≤ (s.size : Int) := by omega
        clear hr ha hl hsz hs hq1 hq2
        rcases prt_cases t with ⟨ea, wa, da, la⟩ | ⟨ca, ea, hca⟩
        · rw [ea] at HP1
          have HR1 : Hid _ := fun W => par_ok (rpar_txt wa da la) (by rw [bstr_size]; unfold maxLen; omega) W
          generalize bstr (txt t) = X at HP1 HR1
          clear ea wa da la
          go_enter Tryd.func7, Tryd.ntmps7
          go_wp2_with (go_at_call 12; refine (HHA.out _ HT0.out).mono ?_; rintro e w3 ⟨rfl, hb3⟩; have HT3 : Hid _ := HT0.out.nx hb3; clear hb3; clear e0 e1 e2 e3; obtain ⟨e0, e1, e2, e3⟩ := HT3.out.facts; refine hold_it ?_)
          unfold Held
          go_wp2_with (go_at_call 28; refine (HP1.out _ HT3.out).mono ?_; rintro e w4 ⟨rfl, hb4⟩; have HT4 : Hid _ := HT3.out.nx hb4; clear hb4; clear e0 e1 e2 e3; obtain ⟨e0, e1, e2, e3⟩ := HT4.out.facts; refine hold_it ?_)
          unfold Held
          go_wp2_with (go_at_call 30; refine (HR1.out _).mono ?_; rintro e w5 ⟨⟨ya1, yc1, yb1, yd1, rfl, hy5⟩, hb5⟩; have HT5 : Hid _ := HT4.out.nx hb5; clear hb5; clear e0 e1 e2 e3; obtain ⟨e0, e1, e2, e3⟩ := HT5.out.facts; have hlt5 := HT5.out.lt; refine hold_it ?_)
          unfold Held
          have HX : Hid _ := two_boxes w w5 HT5.out.bel #[.int .i64 t.kind, .string t.cons, .slice ya1 t.text.length yc1, .slice yb1 t.kids.length yd1] #[.int .i64 0, .int .i64 0]
          have HY6 : Hid _ := hy5.nx HX.out.2.1
          have HT6 : Hid _ := HT5.out.nx HX.out.2.1
          go_wp2_with (go_at_call 21; refine (HSM.out _ _ _ _ _ _ _ _ _ _ HY6.out HT6.out.ka).mono ?_; rintro e w7 ⟨rfl, hb7⟩; have HT7 : Hid _ := HT6.out.nx hb7; clear hb7 HX HY6 HT6; clear e0 e1 e2 e3; obtain ⟨e0, e1, e2, e3⟩ := HT7.out.facts; refine hold_it ?_)
          unfold Held
          go_wp2_with (go_at_call 30; refine (HR2.out _).mono ?_; rintro e w8 ⟨rfl, hb8⟩; have HT8 : Hid _ := HT7.out.nx hb8; clear hb8; clear e0 e1 e2 e3; obtain ⟨e0, e1, e2, e3⟩ := HT8.out.facts; have hlt8 := HT8.out.lt; refine hold_it ?_)
          unfold Held
          have HX : Hid _ := two_boxes w w8 HT8.out.bel #[.int .i64 0, .string ⟨#[]⟩, .slice none 0 0, .slice none 0 0] #[.int .i64 (q : Int), .int .i64 (c : Int)]
          go_wp2_with (go_at_call 13; refine (HALV.out _).mono ?_; rintro e w9 ⟨rfl, hb9⟩; refine hold_it ?_)
          unfold Held
          have HZ : Hid (Below w.heap.size w w9 ∧ (∀ (j : Nat) v, (#[.int .i64 0, .string ⟨#[]⟩, .slice none 0 0, .slice none 0 0] : Array Value)[j]? = some v → w9.cell? ⟨w8.heap.size, j, none⟩ = some v) ∧ (∀ (j : Nat) v, (#[.int .i64 (q : Int), .int .i64 (c : Int)] : Array Value)[j]? = some v → w9.cell? ⟨w8.heap.size + 1, j, none⟩ = some v) ∧ w8.heap.size + 2 ≤ w9.heap.size) := by
            obtain ⟨h1, h2, h3, h4, h5⟩ := HX.out
            refine ⟨below_of h1 hb9, fun j v hv => (hb9.cell (p := ⟨w8.heap.size, j, none⟩) (by show w8.heap.size < _; rw [h5]; omega)).trans (h3 j v hv), fun j v hv => (hb9.cell (p := ⟨w8.heap.size + 1, j, none⟩) (by show w8.heap.size + 1 < _; rw [h5]; omega)).trans (h4 j v hv), by have := hb9.size; omega⟩
          have z0 := HZ.out.2.1 0 _ rfl
          have z1 := HZ.out.2.1 1 _ rfl
          have z2 := HZ.out.2.1 2 _ rfl
          have z3 := HZ.out.2.1 3 _ rfl
          clear hb9 HX
          go_wp2_with (go_at_call 21; refine (HS0.out _).mono ?_; rintro e w10 ⟨rfl, hb10⟩; refine hold_it ?_)
          unfold Held
          have HE : Hid (Below w.heap.size w w10) := below_of HZ.out.1 hb10
          have z4 : w10.cell? ⟨w8.heap.size + 1, 0, none⟩ = some (.int .i64 (q : Int)) := (hb10.cell (p := ⟨w8.heap.size + 1, 0, none⟩) (by show w8.heap.size + 1 < _; have := HZ.out.2.2.2; omega)).trans (HZ.out.2.2.1 0 _ rfl)
          clear hb10 HZ
          go_wp2
          go_ret
          exact ⟨rfl, HE.out⟩
        · rw [ea] at HP1
          have hc1 : (ca == 0) = false := by simpa using hca
          clear ea
          go_enter Tryd.func7, Tryd.ntmps7
          go_wp2_with (go_at_call 12; refine (HHA.out _ HT0.out).mono ?_; rintro e w3 ⟨rfl, hb3⟩; have HT3 : Hid _ := HT0.out.nx hb3; clear hb3; clear e0 e1 e2 e3; obtain ⟨e0, e1, e2, e3⟩ := HT3.out.facts; refine hold_it ?_)
          unfold Held
          go_wp2_with (go_at_call 28; refine (HP1.out _ HT3.out).mono ?_; rintro e w4 ⟨rfl, hb4⟩; have HT4 : Hid _ := HT3.out.nx hb4; clear hb4; clear e0 e1 e2 e3; obtain ⟨e0, e1, e2, e3⟩ := HT4.out.facts; refine hold_it ?_)
          unfold Held
          go_wp2_with (go_at_call 30; refine (HR2.out _).mono ?_; rintro e w8 ⟨rfl, hb8⟩; have HT8 : Hid _ := HT4.out.nx hb8; clear hb8; clear e0 e1 e2 e3; obtain ⟨e0, e1, e2, e3⟩ := HT8.out.facts; have hlt8 := HT8.out.lt; refine hold_it ?_)
          unfold Held
          have HX : Hid _ := two_boxes w w8 HT8.out.bel #[.int .i64 0, .string ⟨#[]⟩, .slice none 0 0, .slice none 0 0] #[.int .i64 (q : Int), .int .i64 (c : Int)]
          go_wp2_with (go_at_call 13; refine (HALV.out _).mono ?_; rintro e w9 ⟨rfl, hb9⟩; refine hold_it ?_)
          unfold Held
          have HZ : Hid (Below w.heap.size w w9 ∧ (∀ (j : Nat) v, (#[.int .i64 0, .string ⟨#[]⟩, .slice none 0 0, .slice none 0 0] : Array Value)[j]? = some v → w9.cell? ⟨w8.heap.size, j, none⟩ = some v) ∧ (∀ (j : Nat) v, (#[.int .i64 (q : Int), .int .i64 (c : Int)] : Array Value)[j]? = some v → w9.cell? ⟨w8.heap.size + 1, j, none⟩ = some v) ∧ w8.heap.size + 2 ≤ w9.heap.size) := by
            obtain ⟨h1, h2, h3, h4, h5⟩ := HX.out
            refine ⟨below_of h1 hb9, fun j v hv => (hb9.cell (p := ⟨w8.heap.size, j, none⟩) (by show w8.heap.size < _; rw [h5]; omega)).trans (h3 j v hv), fun j v hv => (hb9.cell (p := ⟨w8.heap.size + 1, j, none⟩) (by show w8.heap.size + 1 < _; rw [h5]; omega)).trans (h4 j v hv), by have := hb9.size; omega⟩
          have z0 := HZ.out.2.1 0 _ rfl
          have z1 := HZ.out.2.1 1 _ rfl
          have z2 := HZ.out.2.1 2 _ rfl
          have z3 := HZ.out.2.1 3 _ rfl
          clear hb9 HX
          go_wp2_with (go_at_call 21; refine (HS0.out _).mono ?_; rintro e w10 ⟨rfl, hb10⟩; refine hold_it ?_)
          unfold Held
          have HE : Hid (Below w.heap.size w w10) := below_of HZ.out.1 hb10
          have z4 : w10.cell? ⟨w8.heap.size + 1, 0, none⟩ = some (.int .i64 (q : Int)) := (hb10.cell (p := ⟨w8.heap.size + 1, 0, none⟩) (by show w8.heap.size + 1 < _; have := HZ.out.2.2.2; omega)).trans (HZ.out.2.2.1 0 _ rfl)
          clear hb10 HZ
          go_wp2
          go_ret
          exact ⟨rfl, HE.out⟩
end Go.Proofs.YtlkcadibjmfmcaaDoor

/- The document's walk through a term, and its lexemes. -/
namespace Go.Proofs.YtlkcadibjmfmcaaDoor
open Go.RowKit Go.Shelf

mutual
/-- A term and all that lies in it, each ahead of its kids. -/
def pts : Tm → List Tm | .mk k c t l => .mk k c t l :: ptsL l
def ptsL : List Tm → List Tm | [] => [] | d :: l => pts d ++ ptsL l
end
theorem pts_eq (d : Tm) : pts d = d :: ptsL d.kids := by cases d; rw [pts]; rfl
theorem ptsL_app (a b : List Tm) : ptsL (a ++ b) = ptsL a ++ ptsL b := by
  induction a with
  | nil => simp [ptsL]
  | cons x a ih => simp [ptsL, ih]
theorem ptsL_take {l : List Tm} {k : Nat} {d : Tm} (h : l[k]? = some d) : ptsL (l.take (k + 1)) = ptsL (l.take k) ++ pts d := by
  rw [List.take_add_one, h, ptsL_app]; simp [ptsL]
mutual
theorem pts_len : ∀ d : Tm, (pts d).length = sz d
  | .mk k c t l => by rw [pts, sz, List.length_cons, ptsL_len l]; omega
theorem ptsL_len : ∀ l : List Tm, (ptsL l).length = szL l
  | [] => by simp [ptsL, szL]
  | d :: l => by rw [ptsL, szL, List.length_append, pts_len d, ptsL_len l]
end
mutual
theorem pre_pts : ∀ (d : Tm) (m : Nat), (pre d m).map Prod.fst = pts d
  | .mk k c t l, m => by rw [pre, pts, List.map_cons, preL_pts l (m + 1)]
theorem preL_pts : ∀ (l : List Tm) (m : Nat), (preL l m).map Prod.fst = ptsL l
  | [], m => by simp [preL, ptsL]
  | d :: l, m => by rw [preL, ptsL, List.map_append, pre_pts d m, preL_pts l m]
end
/-- A term in memory below a block. -/
structure TB (W : World) (B : Nat) (d : Tm) (ta : Option Addr) (tc : Nat) (sa : Option Addr) (sc : Nat) : Prop where
  tc' : d.text.length ≤ tc
  tl : d.text.length ≤ 140737488355328
  bat : BAt W B ta d.text
  sc' : d.kids.length ≤ sc
  mat : ∃ f, MAt W B f sa d.kids
theorem TA.tb {W : World} {d : Tm} {ta : Option Addr} {tc : Nat} {sa : Option Addr} {sc : Nat} (h : TA W d ta tc sa sc) : TB W W.heap.size d ta tc sa sc := ⟨h.tc', h.tl, h.bat, h.sc', h.mat⟩
theorem TB.below {W W' : World} {B : Nat} {d : Tm} {ta : Option Addr} {tc : Nat} {sa : Option Addr} {sc : Nat} (hb : Below B W W') (h : TB W B d ta tc sa sc) : TB W' B d ta tc sa sc := by
  obtain ⟨f, hf⟩ := h.mat
  exact ⟨h.tc', h.tl, h.bat.keep (fun b q hlt => hb.cell (p := ⟨b, q, none⟩) hlt), h.sc', f, hf.keep hb⟩
theorem TB.ta {W : World} {B : Nat} {d : Tm} {ta : Option Addr} {tc : Nat} {sa : Option Addr} {sc : Nat} (hB : B ≤ W.heap.size) (h : TB W B d ta tc sa sc) : TA W d ta tc sa sc := by
  obtain ⟨f, hf⟩ := h.mat
  exact ⟨h.tc', h.tl, h.bat.mono hB, h.sc', f, hf.mono hB⟩
/-- Terms as cells, one behind the other. -/
def WR (W : World) (B : Nat) : List Tm → List Value → Prop
  | [], xs => xs = []
  | d :: l, xs => ∃ ta tc sa sc ys, xs = .int .i64 d.kind :: .string d.cons :: .slice ta d.text.length tc :: .slice sa d.kids.length sc :: ys ∧ TB W B d ta tc sa sc ∧ WR W B l ys
theorem WR.below {W W' : World} {B : Nat} (hb : Below B W W') : ∀ {l : List Tm} {xs : List Value}, WR W B l xs → WR W' B l xs
  | [], _, h => h
  | _ :: _, _, h => by
    obtain ⟨ta, tc, sa, sc, ys, e, h1, h2⟩ := h
    exact ⟨ta, tc, sa, sc, ys, e, h1.below hb, h2.below hb⟩
theorem WR.app {W : World} {B : Nat} : ∀ {l m : List Tm} {xs ys : List Value}, WR W B l xs → WR W B m ys → WR W B (l ++ m) (xs ++ ys)
  | [], m, xs, ys, h, k => by have h : xs = [] := h; subst h; exact k
  | _ :: _, m, xs, ys, h, k => by
    obtain ⟨ta, tc, sa, sc, zs, rfl, h1, h2⟩ := h
    exact ⟨ta, tc, sa, sc, zs ++ ys, rfl, h1, h2.app k⟩
theorem WR.one {W : World} {B : Nat} : ∀ {l : List Tm} {xs : List Value}, WR W B l xs → ∀ u ∈ xs, u.oneCell' = true
  | [], xs, h, u, hu => by have h : xs = [] := h; subst h; cases hu
  | _ :: _, xs, h, u, hu => by
    obtain ⟨ta, tc, sa, sc, zs, rfl, h1, h2⟩ := h
    simp only [List.mem_cons] at hu
    rcases hu with rfl | rfl | rfl | rfl | hu
    · rfl
    · rfl
    · rfl
    · rfl
    · exact h2.one u hu
theorem WR.len {W : World} {B : Nat} : ∀ {l : List Tm} {xs : List Value}, WR W B l xs → xs.length = l.length * 4
  | [], xs, h => by have h : xs = [] := h; subst h; rfl
  | _ :: _, xs, h => by
    obtain ⟨ta, tc, sa, sc, zs, rfl, h1, h2⟩ := h
    have := h2.len
    simp only [List.length_cons]; omega
theorem WR.at {W : World} {B : Nat} : ∀ {l : List Tm} {xs : List Value}, WR W B l xs → ∀ {j : Nat} {d : Tm}, l[j]? = some d → ∃ ta tc sa sc, xs[j * 4]? = some (.int .i64 d.kind) ∧ xs[j * 4 + 1]? = some (.string d.cons) ∧ xs[j * 4 + 2]? = some (.slice ta d.text.length tc) ∧ xs[j * 4 + 3]? = some (.slice sa d.kids.length sc) ∧ TB W B d ta tc sa sc
  | [], xs, h, j, d, hj => by cases hj
  | _ :: _, xs, h, j, d, hj => by
    obtain ⟨ta, tc, sa, sc, zs, rfl, h1, h2⟩ := h
    cases j with
    | zero => cases hj; exact ⟨ta, tc, sa, sc, rfl, rfl, rfl, rfl, h1⟩
    | succ j =>
      obtain ⟨ta', tc', sa', sc', a, b, c, e, f⟩ := h2.at (j := j) hj
      refine ⟨ta', tc', sa', sc', ?_, ?_, ?_, ?_, f⟩
      · rw [show (j + 1) * 4 = j * 4 + 4 by omega]; exact a
      · rw [show (j + 1) * 4 + 1 = j * 4 + 1 + 4 by omega]; exact b
      · rw [show (j + 1) * 4 + 2 = j * 4 + 2 + 4 by omega]; exact c
      · rw [show (j + 1) * 4 + 3 = j * 4 + 3 + 4 by omega]; exact e
/-- What the walk comes to. -/
def WPost (B : Nat) (l : List Tm) (w : World) (e : Ending) (w' : World) : Prop := (∃ v xs, e = .returned v ∧ w'.ownsRow w.heap.size 25 4 v l.length xs ∧ WR w' B l xs) ∧ Below w.heap.size w w'
set_option maxRecDepth 100000 in
set_option maxHeartbeats 8000000 in
theorem refWalk_any : ∀ (N : Nat) (d : Tm) (ta : Option Addr) (tc : Nat) (sa : Option Addr) (sc B : Nat) (w : World), sz d ≤ N → B ≤ w.heap.size → TB w B d ta tc sa sc → sz d ≤ 1000000 →
    Calls Tryd.prog 32 #[.agg #[.int .i64 d.kind, .string d.cons, .slice ta d.text.length tc, .slice sa d.kids.length sc]] w (WPost B (pts d) w) := by
  intro N
  induction N with
  | zero => intro d ta tc sa sc B w hN; rw [sz_eq] at hN; omega
  | succ N ih =>
  intro d ta tc sa sc B w hN hBw hT hlim
  obtain ⟨i0, hinf, hz0, hz1, hz2⟩ := info_parts infoTerm
  have hsz := sz_eq d
  obtain ⟨f, hk⟩ := hT.mat
  have hlen := hk.len
  obtain ⟨w1, hw1⟩ : ∃ w1, w.alloc (.cells #[.int .i64 d.kind, .string d.cons, .slice ta d.text.length tc, .slice sa d.kids.length sc] 25) = w1 := ⟨_, rfl⟩
  have hB1 : Below w.heap.size w w1 := by rw [← hw1]; exact (Below.refl _ _).alloc (Nat.le_refl _) _
  have s1 : w1.heap.size = w.heap.size + 1 := by rw [← hw1]; simp
  have hc1 : ∀ j v, (#[.int .i64 d.kind, .string d.cons, .slice ta d.text.length tc, .slice sa d.kids.length sc] : Array Value)[j]? = some v → w1.cell? ⟨w.heap.size, j, none⟩ = some v := fun j v hv => by rw [← hw1]; exact cell_new j hv
  have HCE : Hid (∀ W, Below w1.heap.size w1 W → W.cell? ⟨w.heap.size, 0, none⟩ = some (.int .i64 d.kind) ∧ W.cell? ⟨w.heap.size, 1, none⟩ = some (.string d.cons) ∧ W.cell? ⟨w.heap.size, 2, none⟩ = some (.slice ta d.text.length tc) ∧ W.cell? ⟨w.heap.size, 3, none⟩ = some (.slice sa d.kids.length sc)) := fun W h => by
    have k : ∀ q, W.cell? ⟨w.heap.size, q, none⟩ = w1.cell? ⟨w.heap.size, q, none⟩ := fun q => h.cell (p := ⟨w.heap.size, q, none⟩) (by show w.heap.size < _; omega)
    exact ⟨(k 0).trans (hc1 0 _ rfl), (k 1).trans (hc1 1 _ rfl), (k 2).trans (hc1 2 _ rfl), (k 3).trans (hc1 3 _ rfl)⟩
  have HW : Hid (∀ W, Below w1.heap.size w1 W → Below w.heap.size w W) := fun W h => hB1.trans (h.mono hB1.size)
  have HTB : Hid (∀ W, Below w1.heap.size w1 W → TB W B d ta tc sa sc) := fun W h => hT.below ((hB1.trans (h.mono hB1.size)).mono hBw)
  have HK : Hid (∀ W, Below w1.heap.size w1 W → MAt W B f sa d.kids) := fun W h => hk.keep ((hB1.trans (h.mono hB1.size)).mono hBw)
  have HWB : Hid (∀ W, Below w1.heap.size w1 W → Below B w W ∧ B ≤ W.heap.size) := fun W h => ⟨(hB1.trans (h.mono hB1.size)).mono hBw, by have := h.size; omega⟩
  obtain ⟨a0, a1, a2, a3⟩ := HCE.out w1 (Below.refl _ _)
  have HPE : Hid _ := pts_eq d
  have HI : Hid _ := ih
  have HN : Hid _ := hN
  have HZ : Hid _ := hsz
  have HLI : Hid _ := hlim
  have HBW : Hid _ := hBw
  have HLEN : Hid _ := hlen
  have HS1 : Hid _ := s1
  have hB0 : Below w1.heap.size w1 w1 := Below.refl _ _
  clear hB1 hc1 hk ih hN hsz hlim hT hBw hlen s1
  go_enter Tryd.func32, Tryd.ntmps32
  go_wp2_with (at_builtin; refine wpList_append_own _ rfl _ _ 23 rfl w1.heap.size 25 i0 _ 4 72 Tryd.underlying23 hinf hz0 hz1 hz2 rfl (by decide) _ _ _ rfl ((World.ownsRow_nil w1 w1.heap.size 25 4).alloc _) ⟨w1.heap.size, 0, none⟩ 1 1 [.int .i64 d.kind, .string d.cons, .slice ta d.text.length tc, .slice sa d.kids.length sc] rfl rfl ?a1 ?a2 ?a3 ?a4 ?a5 ?_)
  try case a1 => exact cells_new _ _ _
  case a2 => intro u hu; simp at hu; rcases hu with rfl | rfl | rfl | rfl <;> rfl
  case a3 => unfold maxLen; omega
  case a4 => omega
  case a5 => simp
  intro v' w2 hown' hgrow _
  have hB2 := (hB0.alloc hB0.size (.cells #[.int .i64 d.kind, .string d.cons, .slice ta d.text.length tc, .slice sa d.kids.length sc] 25)).grown hgrow (by simp) (fun j hj => by simp [Value.ownBlock] at hj)
  obtain ⟨g', cap', rfl⟩ := ownsRow_succ hown'
  rw [show (0 : Nat) + 1 = 1 from rfl] at *
  have HO : Hid _ := fun (_ : Unit) => hown'
  have HB2 : Hid _ := hB2
  obtain ⟨b0, b1, b2, b3⟩ := HCE.out w2 hB2
  clear hown' hgrow hB2 hB0 a0 a1 a2 a3
  go_wp2
  go_loopw [3, 4] (fun v i W => ∃ (k : Nat) (xs : List Value), k ≤ d.kids.length ∧ i = .int .i64 k ∧ W.ownsRow w1.heap.size 25 4 v (d :: ptsL (d.kids.take k)).length xs ∧ WR W B (d :: ptsL (d.kids.take k)) xs ∧ Below w1.heap.size w1 W) (fun _ i _ => d.kids.length - (intOf i).toNat)
  case atStart => exact ⟨0, _, by omega, rfl, by simpa [ptsL] using HO.out (), ⟨ta, tc, sa, sc, [], rfl, HTB.out _ HB2.out, by rw [List.take_zero, ptsL]; rfl⟩, HB2.out⟩
  case round =>
    obtain ⟨k, xs, hkl, rfl, hrow, hWR, hB⟩ := hrel
    obtain ⟨d0, d1, d2, d3⟩ := HCE.out wr hB
    have hlk : (d :: ptsL (d.kids.take k)).length ≤ 1000000 := by
      rw [List.length_cons, ptsL_len]
      have := szL_take_le d.kids k
      have := HLI.out
      have := HZ.out
      omega
    have HLK : Hid _ := hlk
    have hkb : (k : Int) ≤ 10000000000000 := by have := HLEN.out; omega
    have HB : Hid _ := hB
    have HR : Hid _ := fun (_ : Unit) => hrow
    have HWR : Hid _ := fun (_ : Unit) => hWR
    clear b0 b1 b2 b3 HO HB2
    by_cases hlt : k < d.kids.length
    · obtain ⟨x, hx⟩ : ∃ x, d.kids[k]? = some x := ⟨d.kids[k], by simp [hlt]⟩
      obtain ⟨hBB, hBs⟩ := HWB.out wr hB
      obtain ⟨b, o, hsa, hb, xa, xc, c0, c1, ⟨ya, yc, c2, hyc, hyl, hyb⟩, c3, hxc, hxk⟩ := (HK.out wr hB).one hx
      have hzx := szL_take hx
      have hle := szL_take_le d.kids (k + 1)
      have HC : Hid _ := fun (_ : Unit) => HI.out x ya yc xa xc B wr (by have := HN.out; have := HZ.out; omega) hBs ⟨hyc, hyl, hyb, hxc, f, hxk⟩ (by have := HLI.out; have := HZ.out; omega)
      have HPT : Hid _ := ptsL_take hx
      have HLT : Hid _ := hlt
      have HLX : Hid ((d :: ptsL (d.kids.take k)).length + (pts x).length ≤ 1000000 ∧ 0 < (pts x).length) := by
        have := HLI.out
        have := HZ.out
        have := sz_eq x
        rw [List.length_cons, ptsL_len, pts_len]
        exact ⟨by omega, by omega⟩
      subst hsa
      clear hzx hle hx hxk hyb hyl hyc hBB hBs hrow hWR hB hlk
      go_wp2_with (go_at_call 32; refine (HC.out ()).mono ?_; rintro e w3 ⟨⟨u, ys, rfl, hu, hwu⟩, hb3⟩; refine hold_it ?_)
      unfold Held
      obtain ⟨g, cap, cur, hue, hbg, hg, hrest⟩ : ∃ g cap cur, u = .slice (some ⟨g, 0, none⟩) (pts x).length cap ∧ _ := by
        rcases hu.2 with ⟨_, h0⟩ | ⟨g, cap, cur, e, hrest⟩
        · have := HLX.out.2; omega
        · exact ⟨g, cap, cur, e, hrest⟩
      subst hue
      have hr3 := row_ab' (HR.out ()) (fun j hj => hb3.block j ((HR.out ()).lt j hj).2)
      have HB3 : Hid (Below w1.heap.size w1 w3) := HB.out.trans (hb3.mono HB.out.size)
      have HW3 : Hid _ := fun (_ : Unit) => (HWR.out ()).below ((hb3.mono (HWB.out wr HB.out).2))
      have HWU : Hid _ := fun (_ : Unit) => hwu
      have hul := hwu.len
      have hcl : ∀ j v, ys[j]? = some v → w3.cell? ((⟨g, 0, none⟩ : Addr).add j) = some v := fun j v hv => by
        have e : (⟨g, 0, none⟩ : Addr).add j = ⟨g, j, none⟩ := by simp [Addr.add]; omega
        rw [e]
        exact (own_cell hu hv).1
      have hoc := hwu.one
      have hsz3 := HB3.out.size
      obtain ⟨hl1, hl2⟩ := HLX.out
      clear hg hrest hbg hwu hb3 hu
      go_wp2_with (at_builtin; refine wpList_append_own _ rfl _ _ 23 rfl w1.heap.size 25 i0 _ 4 72 Tryd.underlying23 hinf hz0 hz1 hz2 rfl (by decide) _ _ _ rfl hr3 ⟨g, 0, none⟩ (pts x).length cap ys rfl hul hcl hoc ?b3 ?b4 ?b5 ?_)
      case b3 => unfold maxLen; omega
      case b4 => omega
      case b5 => exact hsz3
      intro v5 w5 hr5 hg5 _
      have hB5 := HB3.out.grown hg5 hsz3 (fun j hj => (hr3.lt j hj).1)
      have HB5 : Hid _ := hB5
      have HR5 : Hid _ := fun (_ : Unit) => hr5
      have HW5 : Hid (WR w5 B ((d :: ptsL (d.kids.take k)) ++ pts x) (xs ++ ys)) := by
        have hk5 : Below B w3 w5 := by
          refine ⟨hg5.os, hg5.tape, hg5.output, hg5.size, fun b hb => hg5.block b ?_ (fun e => ?_)⟩
          · have := (HWB.out w3 HB3.out).2; omega
          · have h1 := (hr3.lt b e.symm).1
            have := HBW.out
            have := HS1.out
            omega
        exact ((HW3.out ()).below hk5).app ((HWU.out ()).below hk5)
      obtain ⟨g5, cap5, hv5⟩ : ∃ g5 cap5, v5 = .slice (some ⟨g5, 0, none⟩) ((d :: ptsL (d.kids.take k)).length + (pts x).length) cap5 := by
        rcases hr5.2 with ⟨_, h0⟩ | ⟨g5, cap5, _, e, _⟩
        · omega
        · exact ⟨g5, cap5, e⟩
      subst hv5
      clear hr5 hg5 hB5 hr3 hcl hoc hul hl1 hl2
      go_wp2
      go_roundw
      case rel =>
        refine ⟨k + 1, xs ++ ys, HLT.out, by go_num, ?_, ?_, HB5.out⟩
        · rw [HPT.out, ← List.cons_append, List.length_append]; exact HR5.out ()
        · rw [HPT.out, ← List.cons_append]; exact HW5.out
      case measure => simp [intOf]; have := HLT.out; omega
    · obtain rfl : k = d.kids.length := by omega
      rw [List.take_length] at HR HWR
      rw [← HPE.out] at HR HWR
      have HF : Hid ((w.heap.size ≤ w1.heap.size)) := by have := HS1.out; show _ ≤ _; omega
      clear hrow hWR hB hlk HLK
      go_wp2
      go_ret
      exact ⟨⟨_, xs, rfl, row_mono (HR.out ()) HF.out, HWR.out ()⟩, HW.out _ HB.out⟩
end Go.Proofs.YtlkcadibjmfmcaaDoor

/- The iterator of terms.Walk keeps its promise. -/
namespace Go.Proofs.YtlkcadibjmfmcaaDoor
open Go.RowKit Go.Shelf
attribute [local go_sem] Oper.semAt_some

/-- A part that is told: a term of its own. -/
structure Wx where
  doc : Tm
  ua : Option Addr
  uc : Nat
  va : Option Addr
  vc : Nat
def Wx.enc (x : Wx) : Array Value := #[.agg #[.int .i64 x.doc.kind, .string x.doc.cons, .slice x.ua x.doc.text.length x.uc, .slice x.va x.doc.kids.length x.vc]]
/-- It lies in memory from a block on. -/
def Wx.In (n : Nat) (x : Wx) (W : World) : Prop := ∃ f, Txx W (fun b => n ≤ b ∧ b < W.heap.size) (.slice x.ua x.doc.text.length x.uc) x.doc.text ∧ x.doc.kids.length ≤ x.vc ∧ MIx W (fun b => n ≤ b ∧ b < W.heap.size) f x.va x.doc.kids
def WFirst (d : Tm) (l : List Wx) (x : Wx) : Prop := ∃ r, l.map Wx.doc ++ x.doc :: r = pts d
mutual
theorem pre_sz : ∀ (d : Tm) (m : Nat) (p : Tm × Nat), p ∈ pre d m → sz p.1 ≤ sz d
  | .mk k c t l, m, p, h => by
    rw [pre] at h
    rcases List.mem_cons.1 h with rfl | h
    · exact Nat.le_refl _
    · have := preL_sz l (m + 1) p h; rw [sz]; omega
theorem preL_sz : ∀ (l : List Tm) (m : Nat) (p : Tm × Nat), p ∈ preL l m → sz p.1 ≤ szL l
  | [], m, p, h => by rw [preL] at h; cases h
  | d :: l, m, p, h => by
    rw [preL] at h
    rw [szL]
    rcases List.mem_append.1 h with h | h
    · have := pre_sz d m p h; omega
    · have := preL_sz l m p h; omega
end
theorem Firsts.sz {d : Tm} {l : List Px} {x : Px} (h : Firsts d l x) : sz x.doc ≤ sz d ∧ l.length + 1 ≤ sz d := by
  obtain ⟨r, hr⟩ := h
  have h1 : x.say ∈ pre d 1 := by rw [← hr]; simp
  have h2 := congrArg List.length hr
  rw [pre_len] at h2
  simp at h2
  exact ⟨pre_sz d 1 x.say h1, by omega⟩
theorem Firsts.w {d : Tm} {l : List Px} {x : Px} (h : Firsts d l x) {ys : List Wx} (hy : ys.map Wx.doc = l.map Px.doc) (y : Wx) (hd : y.doc = x.doc) : WFirst d ys y := by
  obtain ⟨r, hr⟩ := h
  have := congrArg (List.map Prod.fst) hr
  rw [pre_pts] at this
  refine ⟨r.map Prod.fst, ?_⟩
  rw [hy, hd, ← this]
  simp [Px.say, Function.comp_def]
/-- While one goes through the parts within the iterator. -/
structure WM (W : World) (U : Nat → Prop) (l v s : Nat) (J : (Nat → Prop) → List Wx → World → Prop) (A : Nat → Prop) (xs : List Px) (X : World) : Prop where
  j : ∃ ys : List Wx, ys.map Wx.doc = xs.map Px.doc ∧ J (fun b => A b ∨ (W.heap.size ≤ b ∧ b < W.heap.size + 6)) ys X
  left : ∃ u : Nat, Boxed X (W.heap.size + 1) 3 (.int .i64 (u : Int)) ∧ v ≤ u + xs.length * s ∧ u ≤ v
  yld : Boxed X W.heap.size 26 (.func (.yield l) #[] #[])
  ab : ∀ b, A b → W.heap.size + 2 ≤ b
  keep : Ab U W X
  sz : W.heap.size + 6 ≤ X.heap.size
def WMX (W : World) (Jx : (Nat → Prop) → List Wx → World → Prop) : Code → (Nat → Prop) → List Px → World → Prop :=
  fun c A xs X => c = .ret ∧ ∃ ys : List Wx, ys.map Wx.doc = xs.map Px.doc ∧ Jx (fun b => A b ∨ (W.heap.size ≤ b ∧ b < W.heap.size + 6)) ys X
theorem iter_or {A O : Nat → Prop} {X Y : World} (h : Iter A X Y) : Iter (fun b => A b ∨ O b) X Y := ⟨h.os, h.tape, h.output, h.size, fun b hb hA => h.keep b hb (fun h' => hA (.inl h'))⟩
theorem adds_or {A A' O : Nat → Prop} {X Y : World} (h : Adds A A' X Y) : Adds (fun b => A b ∨ O b) (fun b => A' b ∨ O b) X Y := fun b hb => by
  rcases hb with hb | hb
  · rcases h b hb with h | h
    · exact .inl (.inl h)
    · exact .inr h
  · exact .inl (.inr hb)
theorem iter_put {O : Nat → Prop} {X : World} {k : Nat} (o : Obj) (h : O k) : Iter O X (X.putObj k o) := ⟨rfl, rfl, rfl, by simp, fun b _ hO => World.putObj_heap_other (fun e => hO (e ▸ h))⟩
theorem adds_same {A : Nat → Prop} {X Y : World} : Adds A A X Y := fun _ h => .inl h
theorem grown_box {X X4 : World} {L B : Nat} {t : TypeId} {v : Value} (h : X.grownBy X4 (some L)) (hb : Boxed X B t v) (hne : B ≠ L) : Boxed X4 B t v := (h.block B (box_lt hb) (fun e => hne (by cases e; rfl))).trans hb
theorem round_wide {a b : Nat} {P : Program} {l l' f : Nat} {tmps : Array Value} {assign body : Code} {w : World} {R : Ending → World → Prop} (h : RoundIn Fence.wide a P l f tmps assign body w R) : RoundIn (Fence.wide.inRound l') b P l f tmps assign body w R :=
  ⟨h.1, fun c cs _ => h.2 c cs (room_wide _)⟩
set_option maxHeartbeats 400000 in
theorem round_wide0 {a b : Nat} {P : Program} {l f : Nat} {tmps : Array Value} {assign body : Code} {w : World} {R : Ending → World → Prop} (h : RoundIn Fence.wide a P l f tmps assign body w R) : RoundIn Fence.wide b P l f tmps assign body w R :=
  ⟨h.1, fun c cs _ => h.2 c cs (room_wide _)⟩
section
variable {W : World} {U : Nat → Prop} {l v s : Nat} {J Jx : (Nat → Prop) → List Wx → World → Prop}
theorem WM.stays (hJ : Stays J) (hU : ∀ b, U b → b < W.heap.size) : Stays (WM W U l v s J) := by
  intro A A' xs X Y h hi ha
  obtain ⟨u, hu, hu2⟩ := h.left
  obtain ⟨ys, hys, hj⟩ := h.j
  have h1 := box_lt hu
  have h2 := box_lt h.yld
  have hk : ∀ b, b < W.heap.size + 2 → b < X.heap.size → Y.heap[b]? = X.heap[b]? := fun b hb hx => hi.keep b hx (fun hA => by have := h.ab b hA; omega)
  refine ⟨⟨ys, hys, hJ _ _ _ _ _ hj (iter_or hi) (adds_or ha)⟩, ⟨u, (hk _ (by omega) h1).trans hu, hu2⟩, (hk _ (by omega) h2).trans h.yld, fun b hb => ?_, ⟨hi.os.trans h.keep.os, hi.tape.trans h.keep.tape, hi.output.trans h.keep.output, Nat.le_trans h.keep.size hi.size, fun b hb => ?_⟩, Nat.le_trans h.sz hi.size⟩
  · rcases ha b hb with h' | h'
    · exact h.ab b h'
    · omega
  · have := hU b hb
    have := h.keep.size
    exact (hk b (by omega) (by omega)).trans (h.keep.block b hb)
theorem WMX.stays (hJ : Stays Jx) (c : Code) : Stays (WMX W Jx c) := fun _ _ _ _ _ h hi ha => by
  obtain ⟨hc, ys, hys, hj⟩ := h
  exact ⟨hc, ys, hys, hJ _ _ _ _ _ hj (iter_or hi) (adds_or ha)⟩
theorem WM.noMind (hJ : Stays J) (hU : ∀ b, U b → b < W.heap.size) {A0 : Nat → Prop} : NoMindAt (W.heap.size + 4) A0 (WM W U l v s J) := by
  intro A xs X o' h hA hlt
  obtain ⟨u, hu, hu2⟩ := h.left
  obtain ⟨ys, hys, hj⟩ := h.j
  have hk : ∀ b, b < W.heap.size + 5 → (X.putObj (W.heap.size + 4 + 1) o').heap[b]? = X.heap[b]? := fun b hb => World.putObj_heap_other (by omega)
  exact ⟨⟨ys, hys, hJ _ _ _ _ _ hj (iter_put o' (.inr (by omega))) adds_same⟩, ⟨u, (hk _ (by omega)).trans hu, hu2⟩, (hk _ (by omega)).trans h.yld, h.ab, ⟨h.keep.os, h.keep.tape, h.keep.output, by simpa using h.keep.size, fun b hb => (hk b (by have := hU b hb; omega)).trans (h.keep.block b hb)⟩, by simpa using h.sz⟩
theorem WMX.noMind (hJ : Stays Jx) {A0 : Nat → Prop} (c : Code) : NoMindAt (W.heap.size + 4) A0 (WMX W Jx c) := fun _ _ _ o' h _ _ => by
  obtain ⟨hc, ys, hys, hj⟩ := h
  exact ⟨hc, ys, hys, hJ _ _ _ _ _ hj (iter_put o' (.inr (by omega))) adds_same⟩
end
section
variable {W : World} {U : Nat → Prop} {l v s : Nat} {J : (Nat → Prop) → List Wx → World → Prop} {A : Nat → Prop} {xs : List Px} {X X4 W' : World} {x : Px}
theorem mid (hJ : Stays J) {ys : List Wx} (h : J (fun b => A b ∨ (W.heap.size ≤ b ∧ b < W.heap.size + 6)) ys X) (hg : X.grownBy X4 (some (W.heap.size + 1))) : J (fun b => A b ∨ (W.heap.size ≤ b ∧ b < W.heap.size + 6)) ys X4 :=
  hJ _ _ _ _ _ h ⟨hg.os, hg.tape, hg.output, hg.size, fun b hb hA => hg.block b hb (fun e => hA (.inr (by cases e; omega)))⟩ adds_same
theorem WM.two (h : WM W U l v s J A xs X) (hU : ∀ b, U b → b < W.heap.size) (hg : X.grownBy X4 (some (W.heap.size + 1))) (hK : KeepU U (fun b => A b ∨ (W.heap.size ≤ b ∧ b < W.heap.size + 6)) X4 W') : Two (W.heap.size + 4) X W' ∧ KeepU U A X W' := by
  have hs := hg.size
  have hks := h.keep.size
  have hlt := h.sz
  have own : ∀ b, W.heap.size ≤ b → b < W.heap.size + 6 → b ≠ W.heap.size + 1 → W'.heap[b]? = X.heap[b]? := fun b h1 h2 h3 => (hK.2 b (.inr ⟨h1, h2⟩) (by omega)).trans (hg.block b (by omega) (fun e => h3 (by cases e; rfl)))
  refine ⟨⟨own _ (by omega) (by omega) (by omega), own _ (by omega) (by omega) (by omega)⟩, ⟨hK.1.os.trans hg.os, hK.1.tape.trans hg.tape, hK.1.output.trans hg.output, Nat.le_trans hs hK.1.size, fun b hb => ?_⟩, fun b hb hlt' => ?_⟩
  · have := hU b hb
    exact (hK.1.block b hb).trans (hg.block b (by omega) (fun e => by cases e; omega))
  · have := h.ab b hb
    exact (hK.2 b (.inl hb) (by omega)).trans (hg.block b hlt' (fun e => by cases e; omega))
theorem WM.next (h : WM W U l v s J A xs X) (hU : ∀ b, U b → b < W.heap.size) (hg : X.grownBy X4 (some (W.heap.size + 1))) {u u' : Nat} (hu : v ≤ u + xs.length * s) (huv : u ≤ v) (hu' : u ≤ u' + s) (hu2 : u' ≤ u) (hb : Boxed X4 (W.heap.size + 1) 3 (.int .i64 (u' : Int)))
    {ys : List Wx} (hys : ys.map Wx.doc = (xs ++ [x]).map Px.doc) (hJ : J (fun b => A b ∨ (W.heap.size ≤ b ∧ b < W.heap.size + 6)) ys W') (hK : KeepU U (fun b => A b ∨ (W.heap.size ≤ b ∧ b < W.heap.size + 6)) X4 W') : WM W U l v s J A (xs ++ [x]) W' := by
  have hs := hg.size
  have h2 := (h.two hU hg hK).2
  have hlt := h.sz
  refine ⟨⟨ys, hys, hJ⟩, ⟨u', (hK.2 _ (.inr ⟨by omega, by omega⟩) (by omega)).trans hb, ?_, by omega⟩, (hK.2 _ (.inr ⟨by omega, by omega⟩) (by omega)).trans (grown_box hg h.yld (by omega)), h.ab, h.keep.trans h2.1, Nat.le_trans hlt h2.1.size⟩
  rw [List.length_append, Nat.add_mul]
  simp
  omega
end
set_option maxRecDepth 100000 in
set_option maxHeartbeats 4000000 in
theorem walk_in (n : Nat) (hn : 5 ≤ n) (l Lb tb v : Nat) (U : Nat → Prop) (f : Nat) (d : Tm) (J Jx : (Nat → Prop) → List Wx → World → Prop) (W : World) (hU : ∀ b, U b → b < W.heap.size) (hJ : Stays J) (hJx : Stays Jx) (hd : TermIn W U f tb 0 d) (hdz : sz d ≤ 1000) (hLb : W.cell? ⟨Lb, 0, none⟩ = some (.int .i64 (v : Int))) (hLl : Lb < W.heap.size) (hv : 1000000 ≤ v) (hvm : v ≤ 33554432)
    (hY : ∀ A ps x W1, J A ps W1 → ps.length < 1000000000000 → WFirst d ps x → Wx.In W.heap.size x W1 → YieldAt Fence.wide (n - 1) Tryd.prog l (Wx.enc x) W1 fun e W' =>
      (e = .returned (.bool true) ∧ J A (ps ++ [x]) W' ∧ KeepU U A W1 W') ∨ (e = .returned (.bool false) ∧ Jx A (ps ++ [x]) W' ∧ (True → KeepU U A W1 W')))
    (h0 : J (fun _ => False) [] W) :
    CallsIn Fence.wide n Tryd.prog 55 #[.func (.yield l) #[] #[], .pointer (some ⟨Lb, 0, none⟩), .pointer (some ⟨tb, 0, none⟩)] W fun e W' => (∃ v, e = .returned v) ∧
      ((∃ A xs, xs.map Wx.doc = pts d ∧ J A xs W') ∨ (∃ A xs, (∃ r, xs.map Wx.doc ++ r = pts d) ∧ Jx A xs W')) := by
  refine callsIn_of_wp_marks Tryd.func55 rfl trivial ?_ rfl
  simp only [Tryd.ntmps55, List.size_toArray, List.length_cons, List.length_nil, Nat.reduceAdd, Nat.reduceSub, Array.replicate_succ, Array.replicate_zero, List.push_toArray, List.append_toArray, List.nil_append, List.cons_append]
  gi_wp2_with (refine ⟨trivial, fun _ => (by omega), ?_⟩; gi_at_call 37; refine (callsIn_wide.2 (parts_any _ _)).mono ?_; rintro e w' ⟨rfl, rfl⟩)
  have bY := ((Boxed.new W 26 (.func (.yield l) #[] #[])).alloc (.cells #[.int .i64 (v : Int)] 3)).alloc (.cells #[.pointer (some ⟨tb, 0, none⟩)] 62) |>.alloc (.cells #[.func (.func 36) #[] #[]] 81)
  have bL := ((Boxed.new (W.alloc (.cells #[.func (.yield l) #[] #[]] 26)) 3 (.int .i64 (v : Int))).alloc (.cells #[.pointer (some ⟨tb, 0, none⟩)] 62)).alloc (.cells #[.func (.func 36) #[] #[]] 81)
  have b1 := (Boxed.new ((W.alloc (.cells #[.func (.yield l) #[] #[]] 26)).alloc (.cells #[.int .i64 (v : Int)] 3)) 62 (.pointer (some ⟨tb, 0, none⟩))).alloc (.cells #[.func (.func 36) #[] #[]] 81)
  have b2 := Boxed.new (((W.alloc (.cells #[.func (.yield l) #[] #[]] 26)).alloc (.cells #[.int .i64 (v : Int)] 3)).alloc (.cells #[.pointer (some ⟨tb, 0, none⟩)] 62)) 81 (.func (.func 36) #[] #[])
  obtain ⟨w4, hw4⟩ : ∃ w4, (((W.alloc (.cells #[.func (.yield l) #[] #[]] 26)).alloc (.cells #[.int .i64 (v : Int)] 3)).alloc (.cells #[.pointer (some ⟨tb, 0, none⟩)] 62)).alloc (.cells #[.func (.func 36) #[] #[]] 81) = w4 := ⟨_, rfl⟩
  have s4 : w4.heap.size = W.heap.size + 4 := by rw [← hw4]; simp
  have hB4 : Below W.heap.size W w4 := by rw [← hw4]; exact ((((Below.refl _ _).alloc (Nat.le_refl _) _).alloc (by simp) _).alloc (by simp; omega) _).alloc (by simp; omega) _
  simp only [World.size_alloc] at bL b1 b2
  rw [hw4] at bY bL b1 b2
  rw [hw4]
  have hA4 : Ab U W w4 := Ab.of_below hB4 hU
  have hd4 : TermIn w4 U f tb 0 d := hd.keep hA4
  have hpl := pre_len d 1
  clear hw4
  refine range_law_g (kx := False) (F := Fence.wide) rfl (fun _ => by omega) (gf := 56) (lb := #[.pointer (some ⟨W.heap.size + 1 + 1, 0, none⟩), .pointer (some ⟨W.heap.size + 1 + 1 + 1, 0, none⟩)]) rfl trivial (enters_of Tryd.func56 (by kernel_rfl) rfl)
    (parts_sequ (n - 1) (by omega) (W.heap.size + 1 + 1) (W.heap.size + 1 + 1 + 1) U f tb 0 d w4 (fun b hb => by have := hU b hb; omega) hd4 (by omega) (by omega) (by omega) b1.cell b2.cell) (fun b hb => by have := hU b hb; omega) (fun b hb => by rcases hb with rfl | rfl <;> omega) (Below.refl _ _) (fun _ => rfl)
    (WM W U l v (sz d) J) (WMX W Jx) (WM.stays hJ hU) (by rw [s4]; exact WM.noMind hJ hU) (WMX.stays hJx) (fun c => by rw [s4]; exact WMX.noMind hJx c)
    (fun W1 hb1 hs1 => ?start)
    (fun x => { tmps := #[.func (.yield l) #[] #[], .pointer (some ⟨Lb, 0, none⟩), .pointer (some ⟨tb, 0, none⟩), .pointer (some ⟨W.heap.size, 0, none⟩), .pointer (some ⟨W.heap.size + 1, 0, none⟩), .pointer (some ⟨x.b, x.o, none⟩), .int .i64 (v : Int), .func (.func 56) #[] #[.pointer (some ⟨W.heap.size + 1 + 1, 0, none⟩), .pointer (some ⟨W.heap.size + 1 + 1 + 1, 0, none⟩)], .pointer (some ⟨x.b, x.o, none⟩), .int .i64 (x.deep : Int), undef, undef, undef, undef, undef, undef, undef], defers := [] }) ?assign ?body ?done ?stop
  case start =>
    have hbw : Below W.heap.size W W1 := hB4.trans (hb1.mono (by omega))
    refine ⟨⟨[], rfl, hJ _ _ _ _ _ h0 (Iter.of_below hbw) (fun b hb => .inr ?_)⟩, ⟨v, (hb1.block _ (by omega)).trans bL, by simp, by omega⟩, (hb1.block _ (by omega)).trans bY, fun b hb => ?_, Ab.of_below hbw hU, by omega⟩
    · rcases hb with (rfl | rfl) | hb <;> omega
    · rcases hb with rfl | rfl <;> omega
  case assign =>
    intro l' x X K hK
    unfold Px.enc
    gi_wp2
    exact hK
  case body =>
    intro l' A xs x X hI hlt hx hA
    have hsz := hI.sz
    have hks := hI.keep.size
    have cy := hI.yld.cell
    obtain ⟨hxs, hxl⟩ := hx.2.sz
    obtain ⟨u, bu, hu1, hu2⟩ := hI.left
    obtain ⟨ys, hys, hj⟩ := hI.j
    have hle : xs.length * sz d + sz d ≤ 1000000 := by
      have h1 : (xs.length + 1) * sz d ≤ sz d * sz d := Nat.mul_le_mul_right _ hxl
      have h2 : sz d * sz d ≤ 1000 * 1000 := Nat.mul_le_mul hdz hdz
      rw [Nat.add_mul, Nat.one_mul] at h1
      omega
    have hxu : sz x.doc ≤ u := by omega
    have hxX := (hx.1.back hB4 (fun b hb => hU b hb)).keep hI.keep
    obtain ⟨hub, sa, sc, c0, c1, ⟨ta, tc, c2, htc, htl, htx⟩, c3, hsc, hkk⟩ := hxX
    have hbX := hU _ hub
    have HI : Hid _ := hI
    have HOW : Hid (Unit → Calls Tryd.prog 54 #[.agg #[.int .i64 x.doc.kind, .string x.doc.cons, .slice ta x.doc.text.length tc, .slice sa x.doc.kids.length sc], .pointer (some ⟨W.heap.size + 1, 0, none⟩)] X.drew fun e w' => (∃ ua uc va vc, e = .returned (.agg #[.int .i64 x.doc.kind, .string x.doc.cons, .slice ua x.doc.text.length uc, .slice va x.doc.kids.length vc]) ∧ Txx w' (fun b => X.heap.size ≤ b ∧ b < w'.heap.size) (.slice ua x.doc.text.length uc) x.doc.text ∧ x.doc.kids.length ≤ vc ∧ MIx w' (fun b => X.heap.size ≤ b ∧ b < w'.heap.size) f va x.doc.kids) ∧ Boxed w' (W.heap.size + 1) 3 (.int .i64 ((u : Int) - (sz x.doc : Int))) ∧ X.grownBy w' (some (W.heap.size + 1))) := fun _ => by
      refine (owned_any x.doc ta tc sa sc f U (W.heap.size + 1) u X.drew (fun b hb => by have := hU b hb; show b < X.heap.size; omega) (fun h => by have := hU _ h; omega) bu htc htl htx (MIn.keep (w := X) (w' := X.drew) (fun _ _ _ => rfl) hkk) hsc hxu (by omega)).mono ?_
      rintro e w' ⟨h1, h2, h3⟩
      exact ⟨h1, h2, ⟨h3.os, h3.tape, h3.output, h3.size, h3.block⟩⟩
    have HYY : Hid (∀ (X4 : World) (ua : Option Addr) (uc : Nat) (va : Option Addr) (vc : Nat), Txx X4 (fun b => X.heap.size ≤ b ∧ b < X4.heap.size) (.slice ua x.doc.text.length uc) x.doc.text → x.doc.kids.length ≤ vc → MIx X4 (fun b => X.heap.size ≤ b ∧ b < X4.heap.size) f va x.doc.kids → X.grownBy X4 (some (W.heap.size + 1)) → YieldAt Fence.wide (n - 1) Tryd.prog l (Wx.enc ⟨x.doc, ua, uc, va, vc⟩) X4 fun e W' =>
      (e = .returned (.bool true) ∧ J (fun b => A b ∨ (W.heap.size ≤ b ∧ b < W.heap.size + 6)) (ys ++ [⟨x.doc, ua, uc, va, vc⟩]) W' ∧ KeepU U (fun b => A b ∨ (W.heap.size ≤ b ∧ b < W.heap.size + 6)) X4 W') ∨ (e = .returned (.bool false) ∧ Jx (fun b => A b ∨ (W.heap.size ≤ b ∧ b < W.heap.size + 6)) (ys ++ [⟨x.doc, ua, uc, va, vc⟩]) W' ∧ (True → KeepU U (fun b => A b ∨ (W.heap.size ≤ b ∧ b < W.heap.size + 6)) X4 W'))) := fun X4 ua uc va vc h1 h2 h3 h4 =>
      hY _ ys ⟨x.doc, ua, uc, va, vc⟩ X4 (mid hJ hj h4) (by have := congrArg List.length hys; simp at this; omega) (hx.2.w hys _ rfl) ⟨f, h1.wide (fun b hb => ⟨by have := hb.1; omega, hb.2⟩), h2, h3.wide (fun b hb => ⟨by have := hb.1; omega, hb.2⟩)⟩
    have hn2 : 1 ≤ n - 1 - 1 := by omega
    have HU : Hid _ := And.intro bu (And.intro hu1 hu2)
    have HYS : Hid _ := hys
    clear hI hY hd4 b1 b2 bY bL hd hj hkk htx hx hA bu hys h0 hu1
    gi_wp2
    refine region_round l' _ (by kernel_rfl) (noDefer_spec (by kernel_rfl)) ?_
    change wpAnyIn _ _ _ _ _ _ _ _ _ (World.drew _)
    refine wpAnyIn_take (i := 1) (v := ?v1) rfl rfl (by kernel_rfl) (by kernel_rfl) (by kernel_rfl) (fun _ _ _ h => h) ⟨Or.inl ⟨by rfl, ?h1⟩, fun _ => rfl⟩ ?_
    case h1 => intro w; go_simp; try with_reducible rfl
    refine wpAnyIn_take (i := 2) (v := ?v2) rfl rfl (by kernel_rfl) (by kernel_rfl) (by kernel_rfl) (fun _ _ _ h => h) ⟨Or.inl ⟨by rfl, ?h2⟩, fun _ => rfl⟩ ?_
    case h2 => intro w; go_simp; try with_reducible rfl
    refine wpAnyIn_ready (rs := [0, 3]) (by kernel_rfl) (by simp) ?_
    refine (AllReadyIn.cons rfl (fun K hK => ?_) (AllReadyIn.cons rfl (fun K hK => ?_) AllReadyIn.nil))
    · go_simp
      refine hK _ _ ?_
      clear hK K
      refine wpAnyIn_ready (rs := [3]) (by kernel_rfl) (by simp) ?_
      refine (AllReadyIn.cons rfl (fun K hK => ?_) AllReadyIn.nil)
      · go_simp
        refine hK _ _ ?_
        clear hK K
        refine wpAnyIn_ready (rs := [4]) (by kernel_rfl) (by simp) ?_
        refine (AllReadyIn.cons rfl (fun K hK => ?_) AllReadyIn.nil)
        · go_simp
          gi_wp2_with (refine ⟨trivial, ?_⟩; gi_at_call 54; refine (callsIn_wide.2 (HOW.out ())).mono ?_)
          rintro e X4 ⟨⟨ua, uc, va, vc, rfl, hux, hvc, hmx⟩, hb4, hg4⟩
          have cy4 := (grown_box hg4 HI.out.yld (by omega)).cell
          obtain ⟨fn, tmps, assign, body, hy0, hR⟩ := HYY.out X4 ua uc va vc hux hvc hmx hg4
          have hy : (Instr.yield l #[.agg #[.int .i64 x.doc.kind, .string x.doc.cons, .slice ua x.doc.text.length uc, .slice va x.doc.kids.length vc]]).run Tryd.prog X4 = .ok (.round l fn tmps assign body) X4 := hy0
          clear hy0
          have HG4 : Hid _ := fun (_ : Unit) => hg4
          have HB4 : Hid _ := fun (_ : Unit) => hb4
          clear hux hvc hmx hb4 hg4
          gi_wp2
          refine wpAnyIn_ready (rs := [5]) (by kernel_rfl) (by simp) ?_
          refine (AllReadyIn.cons rfl (fun K hK => ?_) AllReadyIn.nil)
          go_simp
          refine round_wide0 (hR.mono ?_)
          rintro e W5 (⟨rfl, hJ5, hK5⟩ | ⟨rfl, hJ5, hK5⟩)
          · have HF := HI.out.two hU (HG4.out ()) hK5
            have HN := HI.out.next (u := u) (u' := u - sz x.doc) hU (HG4.out ()) HU.out.2.1 HU.out.2.2 (by omega) (by omega) (by have := HB4.out (); rw [show ((u : Int) - (sz x.doc : Int)) = ((u - sz x.doc : Nat) : Int) by omega] at this; exact this) (by rw [List.map_append, List.map_append, HYS.out]; rfl) hJ5 hK5
            have HH : Hid (Two (W.heap.size + 4) X W5 ∧ KeepU U A X W5 ∧ WM W U l v (sz d) J A (xs ++ [x]) W5) := And.intro HF.1 (And.intro HF.2 HN)
            clear HF HN hJ5 hK5 HG4 HB4 hR hy
            refine hK _ _ ?_
            clear hK K
            refine wpAnyIn_take (i := 6) (v := ?v3) rfl rfl (by kernel_rfl) (by kernel_rfl) (by kernel_rfl) (fun _ _ _ h => h) ⟨Or.inl ⟨by rfl, ?h3⟩, fun _ => rfl⟩ ?_
            case h3 => intro w; go_simp; try with_reducible rfl
            refine wpAnyIn_done (by kernel_rfl) ?_ _
            gi_wp2
            rw [s4]; exact HH.out
          · have HF := HI.out.two hU (HG4.out ()) (hK5 trivial)
            have HH : Hid (Two (W.heap.size + 4) X W5 ∧ WMX W Jx .ret A (xs ++ [x]) W5 ∧ (False → KeepU U A X W5)) := ⟨HF.1, ⟨rfl, _, by rw [List.map_append, List.map_append, HYS.out]; rfl, hJ5⟩, fun h => h.elim⟩
            clear HF hJ5 hK5 HG4 HB4 hR hy
            refine hK _ _ ?_
            clear hK K
            refine wpAnyIn_take (i := 6) (v := ?v4) rfl rfl (by kernel_rfl) (by kernel_rfl) (by kernel_rfl) (fun _ _ _ h => h) ⟨Or.inl ⟨by rfl, ?h4⟩, fun _ => rfl⟩ ?_
            case h4 => intro w; go_simp; try with_reducible rfl
            refine wpAnyIn_done (by kernel_rfl) ?_ _
            gi_wp2
            rw [s4]; exact HH.out
    · go_simp
      refine hK _ _ ?_
      clear hK K
      refine wpAnyIn_ready (rs := [0, 4]) (by kernel_rfl) (by simp) ?_
      refine (AllReadyIn.cons rfl (fun K hK => ?_) (AllReadyIn.cons rfl (fun K hK => ?_) AllReadyIn.nil))
      · go_simp
        refine hK _ _ ?_
        clear hK K
        refine wpAnyIn_ready (rs := [4]) (by kernel_rfl) (by simp) ?_
        refine (AllReadyIn.cons rfl (fun K hK => ?_) AllReadyIn.nil)
        · go_simp
          gi_wp2_with (refine ⟨trivial, ?_⟩; gi_at_call 54; refine (callsIn_wide.2 (HOW.out ())).mono ?_)
          rintro e X4 ⟨⟨ua, uc, va, vc, rfl, hux, hvc, hmx⟩, hb4, hg4⟩
          have cy4 := (grown_box hg4 HI.out.yld (by omega)).cell
          obtain ⟨fn, tmps, assign, body, hy0, hR⟩ := HYY.out X4 ua uc va vc hux hvc hmx hg4
          have hy : (Instr.yield l #[.agg #[.int .i64 x.doc.kind, .string x.doc.cons, .slice ua x.doc.text.length uc, .slice va x.doc.kids.length vc]]).run Tryd.prog X4 = .ok (.round l fn tmps assign body) X4 := hy0
          clear hy0
          have HG4 : Hid _ := fun (_ : Unit) => hg4
          have HB4 : Hid _ := fun (_ : Unit) => hb4
          clear hux hvc hmx hb4 hg4
          gi_wp2
          refine wpAnyIn_ready (rs := [5]) (by kernel_rfl) (by simp) ?_
          refine (AllReadyIn.cons rfl (fun K hK => ?_) AllReadyIn.nil)
          go_simp
          refine round_wide0 (hR.mono ?_)
          rintro e W5 (⟨rfl, hJ5, hK5⟩ | ⟨rfl, hJ5, hK5⟩)
          · have HF := HI.out.two hU (HG4.out ()) hK5
            have HN := HI.out.next (u := u) (u' := u - sz x.doc) hU (HG4.out ()) HU.out.2.1 HU.out.2.2 (by omega) (by omega) (by have := HB4.out (); rw [show ((u : Int) - (sz x.doc : Int)) = ((u - sz x.doc : Nat) : Int) by omega] at this; exact this) (by rw [List.map_append, List.map_append, HYS.out]; rfl) hJ5 hK5
            have HH : Hid (Two (W.heap.size + 4) X W5 ∧ KeepU U A X W5 ∧ WM W U l v (sz d) J A (xs ++ [x]) W5) := And.intro HF.1 (And.intro HF.2 HN)
            clear HF HN hJ5 hK5 HG4 HB4 hR hy
            refine hK _ _ ?_
            clear hK K
            refine wpAnyIn_take (i := 6) (v := ?v5) rfl rfl (by kernel_rfl) (by kernel_rfl) (by kernel_rfl) (fun _ _ _ h => h) ⟨Or.inl ⟨by rfl, ?h5⟩, fun _ => rfl⟩ ?_
            case h5 => intro w; go_simp; try with_reducible rfl
            refine wpAnyIn_done (by kernel_rfl) ?_ _
            gi_wp2
            rw [s4]; exact HH.out
          · have HF := HI.out.two hU (HG4.out ()) (hK5 trivial)
            have HH : Hid (Two (W.heap.size + 4) X W5 ∧ WMX W Jx .ret A (xs ++ [x]) W5 ∧ (False → KeepU U A X W5)) := ⟨HF.1, ⟨rfl, _, by rw [List.map_append, List.map_append, HYS.out]; rfl, hJ5⟩, fun h => h.elim⟩
            clear HF hJ5 hK5 HG4 HB4 hR hy
            refine hK _ _ ?_
            clear hK K
            refine wpAnyIn_take (i := 6) (v := ?v6) rfl rfl (by kernel_rfl) (by kernel_rfl) (by kernel_rfl) (fun _ _ _ h => h) ⟨Or.inl ⟨by rfl, ?h6⟩, fun _ => rfl⟩ ?_
            case h6 => intro w; go_simp; try with_reducible rfl
            refine wpAnyIn_done (by kernel_rfl) ?_ _
            gi_wp2
            rw [s4]; exact HH.out
      · go_simp
        gi_wp2_with (refine ⟨trivial, ?_⟩; gi_at_call 54; refine (callsIn_wide.2 (HOW.out ())).mono ?_)
        rintro e X4 ⟨⟨ua, uc, va, vc, rfl, hux, hvc, hmx⟩, hb4, hg4⟩
        have cy4 := (grown_box hg4 HI.out.yld (by omega)).cell
        obtain ⟨fn, tmps, assign, body, hy0, hR⟩ := HYY.out X4 ua uc va vc hux hvc hmx hg4
        have hy : (Instr.yield l #[.agg #[.int .i64 x.doc.kind, .string x.doc.cons, .slice ua x.doc.text.length uc, .slice va x.doc.kids.length vc]]).run Tryd.prog X4 = .ok (.round l fn tmps assign body) X4 := hy0
        clear hy0
        have HG4 : Hid _ := fun (_ : Unit) => hg4
        have HB4 : Hid _ := fun (_ : Unit) => hb4
        clear hux hvc hmx hb4 hg4
        gi_wp2
        refine wpAnyIn_ready (rs := [0]) (by kernel_rfl) (by simp) ?_
        refine (AllReadyIn.cons rfl (fun K hK => ?_) AllReadyIn.nil)
        go_simp
        refine hK _ _ ?_
        clear hK K
        refine wpAnyIn_ready (rs := [5]) (by kernel_rfl) (by simp) ?_
        refine (AllReadyIn.cons rfl (fun K hK => ?_) AllReadyIn.nil)
        go_simp
        refine round_wide0 (hR.mono ?_)
        rintro e W5 (⟨rfl, hJ5, hK5⟩ | ⟨rfl, hJ5, hK5⟩)
        · have HF := HI.out.two hU (HG4.out ()) hK5
          have HN := HI.out.next (u := u) (u' := u - sz x.doc) hU (HG4.out ()) HU.out.2.1 HU.out.2.2 (by omega) (by omega) (by have := HB4.out (); rw [show ((u : Int) - (sz x.doc : Int)) = ((u - sz x.doc : Nat) : Int) by omega] at this; exact this) (by rw [List.map_append, List.map_append, HYS.out]; rfl) hJ5 hK5
          have HH : Hid (Two (W.heap.size + 4) X W5 ∧ KeepU U A X W5 ∧ WM W U l v (sz d) J A (xs ++ [x]) W5) := And.intro HF.1 (And.intro HF.2 HN)
          clear HF HN hJ5 hK5 HG4 HB4 hR hy
          refine hK _ _ ?_
          clear hK K
          refine wpAnyIn_take (i := 6) (v := ?v7) rfl rfl (by kernel_rfl) (by kernel_rfl) (by kernel_rfl) (fun _ _ _ h => h) ⟨Or.inl ⟨by rfl, ?h7⟩, fun _ => rfl⟩ ?_
          case h7 => intro w; go_simp; try with_reducible rfl
          refine wpAnyIn_done (by kernel_rfl) ?_ _
          gi_wp2
          rw [s4]; exact HH.out
        · have HF := HI.out.two hU (HG4.out ()) (hK5 trivial)
          have HH : Hid (Two (W.heap.size + 4) X W5 ∧ WMX W Jx .ret A (xs ++ [x]) W5 ∧ (False → KeepU U A X W5)) := ⟨HF.1, ⟨rfl, _, by rw [List.map_append, List.map_append, HYS.out]; rfl, hJ5⟩, fun h => h.elim⟩
          clear HF hJ5 hK5 HG4 HB4 hR hy
          refine hK _ _ ?_
          clear hK K
          refine wpAnyIn_take (i := 6) (v := ?v8) rfl rfl (by kernel_rfl) (by kernel_rfl) (by kernel_rfl) (fun _ _ _ h => h) ⟨Or.inl ⟨by rfl, ?h8⟩, fun _ => rfl⟩ ?_
          case h8 => intro w; go_simp; try with_reducible rfl
          refine wpAnyIn_done (by kernel_rfl) ?_ _
          gi_wp2
          rw [s4]; exact HH.out
  case done =>
    rintro D A xs X hD ⟨hS, hT⟩ hI hK
    obtain ⟨ys, hys, hj0⟩ := hI.j
    have hj := hJ _ _ _ _ _ hj0 (iter_put (k := D) (.deferred none) (.inr (by omega))) adds_same
    have hpp : ys.map Wx.doc = pts d := by
      have := congrArg (List.map Prod.fst) hS
      rw [pre_pts] at this
      rw [hys, ← this]
      simp [Px.say, Function.comp_def]
    have HF : Hid ((∃ A xs, xs.map Wx.doc = pts d ∧ J A xs (X.putObj D (.deferred none))) ∨ (∃ A xs, (∃ r, xs.map Wx.doc ++ r = pts d) ∧ Jx A xs (X.putObj D (.deferred none)))) :=
      .inl ⟨_, _, hpp, hj⟩
    clear hj hI hS hT hd4 hd hY h0 hj0 hpp hys
    gi_wp2
    refine ⟨by simp, .inl ⟨_, _, rfl, run_takeDeferred hK, ?_⟩⟩
    exact ⟨.tuple #[], by simp [results, Tryd.results55, go_sem], ⟨_, rfl⟩, HF.out⟩
  case stop =>
    rintro D c A xs X hD ⟨hS, hT⟩ ⟨rfl, ys, hys, hX⟩ hK
    have hj := hJx _ _ _ _ _ hX (iter_put (k := D) (.deferred none) (.inr (by omega))) adds_same
    have HF : Hid ((∃ A xs, xs.map Wx.doc = pts d ∧ J A xs (X.putObj D (.deferred none))) ∨ (∃ A xs, (∃ r, xs.map Wx.doc ++ r = pts d) ∧ Jx A xs (X.putObj D (.deferred none)))) := by
      obtain ⟨r, hr⟩ := hS
      refine .inr ⟨_, _, ⟨r.map Prod.fst, ?_⟩, hj⟩
      have := congrArg (List.map Prod.fst) hr
      rw [pre_pts] at this
      rw [hys, ← this]
      simp [Px.say, Function.comp_def]
    clear hj hX hS hT hd4 hd hY h0 hys
    gi_wp2
    refine ⟨by simp, .inl ⟨_, _, rfl, run_takeDeferred hK, ?_⟩⟩
    exact ⟨.tuple #[], by simp [results, Tryd.results55, go_sem], ⟨_, rfl⟩, HF.out⟩
end Go.Proofs.YtlkcadibjmfmcaaDoor

/- terms.Walk: what it gives, and what is promised of it. -/
namespace Go.Proofs.YtlkcadibjmfmcaaDoor
open Go.RowKit Go.Shelf

/-- What the iterator promises. -/
theorem walk_seq (n : Nat) (hn : 5 ≤ n) (Lb tb v : Nat) (U : Nat → Prop) (f : Nat) (d : Tm) (w : World) (hU : ∀ b, U b → b < w.heap.size) (hd : TermIn w U f tb 0 d) (hdz : sz d ≤ 1000) (hLb : w.cell? ⟨Lb, 0, none⟩ = some (.int .i64 (v : Int))) (hLl : Lb < w.heap.size) (hv : 1000000 ≤ v) (hvm : v ≤ 33554432) :
    SeqW True Fence.wide n Tryd.prog 55 #[.pointer (some ⟨Lb, 0, none⟩), .pointer (some ⟨tb, 0, none⟩)] Wx.enc U (fun _ => False) (WFirst d) Wx.In (fun xs => xs.map Wx.doc = pts d) (fun xs => ∃ r, xs.map Wx.doc ++ r = pts d) 1000000000000 w := by
  intro l J Jx W hW hJ hJx hY h0
  have hsz := hW.size
  exact walk_in n hn l Lb tb v U f d J Jx W (fun b hb => Nat.lt_of_lt_of_le (hU b hb) hsz) hJ hJx (hd.keep (Ab.of_below hW hU)) hdz ((hW.cell (p := ⟨Lb, 0, none⟩) hLl).trans hLb) (by omega) hv hvm hY h0
set_option maxRecDepth 100000 in
set_option maxHeartbeats 4000000 in
theorem walk_any (d : Tm) (ta : Option Addr) (tc : Nat) (sa : Option Addr) (sc : Nat) (w : World) (h : TA w d ta tc sa sc) (hz : sz d ≤ 1000) :
    Calls Tryd.prog 33 #[.agg #[.int .i64 d.kind, .string d.cons, .slice ta d.text.length tc, .slice sa d.kids.length sc]] w fun e w' => e = .returned (.func (.func 55) #[] #[.pointer (some ⟨w.heap.size + 1, 0, none⟩), .pointer (some ⟨w.heap.size, 0, none⟩)]) ∧ Below w.heap.size w w' ∧ w.heap.size + 2 ≤ w'.heap.size ∧ w'.cell? ⟨w.heap.size + 1, 0, none⟩ = some (.int .i64 ((33554432 - sz d : Nat) : Int)) ∧ ∃ f, TermIn w' (fun b => b = w.heap.size ∨ (w.heap.size + 2 ≤ b ∧ b < w'.heap.size)) f w.heap.size 0 d := by
  obtain ⟨f, hf⟩ := h.mat
  obtain ⟨w1, hw1⟩ : ∃ w1, w.alloc (.cells #[.int .i64 d.kind, .string d.cons, .slice ta d.text.length tc, .slice sa d.kids.length sc] 25) = w1 := ⟨_, rfl⟩
  obtain ⟨w2, hw2⟩ : ∃ w2, w1.alloc (.cells #[.int .i64 33554432] 3) = w2 := ⟨_, rfl⟩
  have s1 : w1.heap.size = w.heap.size + 1 := by rw [← hw1]; simp
  have s2 : w2.heap.size = w.heap.size + 2 := by rw [← hw2]; simp [s1]
  have b1 : Below w.heap.size w w1 := by rw [← hw1]; exact (Below.refl _ _).alloc (Nat.le_refl _) _
  have b2' : Below w1.heap.size w1 w2 := by rw [← hw2]; exact (Below.refl _ _).alloc (Nat.le_refl _) _
  have b2 : Below w.heap.size w w2 := b1.trans (b2'.mono (by omega))
  have bL : Boxed w2 (w.heap.size + 1) 3 (.int .i64 ((33554432 : Nat) : Int)) := by
    have := Boxed.new w1 3 (.int .i64 33554432)
    rw [hw2, s1] at this; exact this
  have e0 : ∀ j u, (#[.int .i64 d.kind, .string d.cons, .slice ta d.text.length tc, .slice sa d.kids.length sc] : Array Value)[j]? = some u → w2.cell? ⟨w.heap.size, j, none⟩ = some u := fun j u hu => (b2'.cell (p := ⟨w.heap.size, j, none⟩) (by show w.heap.size < _; omega)).trans (by rw [← hw1]; exact cell_new j hu)
  have f0 : ∀ q, w2.frozen? ⟨w.heap.size, q, none⟩ = false := fun q => (b2'.frozen (p := ⟨w.heap.size, q, none⟩) (by show w.heap.size < _; omega)).trans (by rw [← hw1]; exact World.frozen?_alloc_at _ _ _ _ rfl)
  have c0 := e0 0 _ rfl
  have c1 := e0 1 _ rfl
  have c2 := e0 2 _ rfl
  have c3 := e0 3 _ rfl
  have HOW : Hid _ := fun (_ : Unit) => owned_any d ta tc sa sc f (fun b => b < w.heap.size) (w.heap.size + 1) 33554432 w2 (fun b hb => by omega) (by show ¬ _ < _; omega) bL h.tc' h.tl (fun i c hi => by
    obtain ⟨b, o, e, hb, hc⟩ := h.bat i c hi
    exact ⟨b, o, e, hb, (b2.cell (p := ⟨b, o + i, none⟩) hb).trans hc⟩) ((hf.keep b2).inU (fun b hb => hb)) h.sc' (by omega) (by omega)
  have HB2 : Hid _ := b2
  have HF : Hid _ := And.intro f0 (And.intro e0 s2)
  have HW2 : Hid _ := hw2
  clear f0 e0 b2 b2' b1 bL hf h
  go_enter Tryd.func33, Tryd.ntmps33
  go_wp2_with (go_at_call 54; refine (HOW.out ()).mono ?_)
  rintro e w7 ⟨⟨ua, uc, va, vc, rfl, hux, hvc, hmx⟩, hb7, hg7⟩
  have hs2 := HF.out.2.2
  have hs7 := hg7.size
  have k7 : ∀ q, w7.cell? ⟨w.heap.size, q, none⟩ = w2.cell? ⟨w.heap.size, q, none⟩ := fun q => hg7.cell_far ⟨w.heap.size, q, none⟩ (by show w.heap.size < _; omega) (fun e => by simp at e)
  have z0 := (k7 0).trans (HF.out.2.1 0 _ rfl)
  have z1 := (k7 1).trans (HF.out.2.1 1 _ rfl)
  have z2 := (k7 2).trans (HF.out.2.1 2 _ rfl)
  have z3 := (k7 3).trans (HF.out.2.1 3 _ rfl)
  have zf : ∀ q, w7.frozen? ⟨w.heap.size, q, none⟩ = false := fun q => (hg7.frozen_far ⟨w.heap.size, q, none⟩ (by show w.heap.size < _; omega) (fun e => by simp at e)).trans (HF.out.1 q)
  have f0 := zf 0
  have f1 := zf 1
  have f2 := zf 2
  have f3 := zf 3
  obtain ⟨Y, hY⟩ : ∃ Y, (((w7.setCell ⟨w.heap.size, 0, none⟩ (.int .i64 d.kind)).setCell ⟨w.heap.size, 1, none⟩ (.string d.cons)).setCell ⟨w.heap.size, 2, none⟩ (.slice ua d.text.length uc)).setCell ⟨w.heap.size, 3, none⟩ (.slice va d.kids.length vc) = Y := ⟨_, rfl⟩
  obtain ⟨y0, y1, y2, y3, yf, ys, yk, yb⟩ := four_set w7 w.heap.size _ _ _ _ _ _ _ _ z0 z1 z2 z3 Y hY
  have HY : Hid (Below w.heap.size w Y ∧ w.heap.size + 2 ≤ Y.heap.size ∧ Y.cell? ⟨w.heap.size + 1, 0, none⟩ = some (.int .i64 ((33554432 - sz d : Nat) : Int)) ∧ ∃ f, TermIn Y (fun b => b = w.heap.size ∨ (w.heap.size + 2 ≤ b ∧ b < Y.heap.size)) f w.heap.size 0 d) := by
    have hk : ∀ b, (w2.heap.size ≤ b ∧ b < w7.heap.size) → Y.heap[b]? = w7.heap[b]? := fun b hb => yk b (by have := hb.1; omega)
    refine ⟨⟨((yb 0 (Nat.zero_le _)).os).trans (hg7.os.trans HB2.out.os), ((yb 0 (Nat.zero_le _)).tape).trans (hg7.tape.trans HB2.out.tape), ((yb 0 (Nat.zero_le _)).output).trans (hg7.output.trans HB2.out.output), by have := HB2.out.size; omega, fun b hb => (yk b (by omega)).trans ((hg7.block b (by omega) (fun e => by simp at e; omega)).trans (HB2.out.block b hb))⟩, by omega, ?_, f, .inl rfl, va, vc, y0, y1, ?_, y3, hvc, (hmx.keep hk).inU (fun b hb => .inr ⟨by have := hb.1; omega, by rw [ys]; exact hb.2⟩)⟩
    · have h1 : Y.cell? ⟨w.heap.size + 1, 0, none⟩ = w7.cell? ⟨w.heap.size + 1, 0, none⟩ := World.cell?_of_block (a := ⟨w.heap.size + 1, 0, none⟩) (yk (w.heap.size + 1) (by omega))
      rw [h1, hb7.cell]
      congr 2
      omega
    · obtain ⟨ta', tc', e, t1, t2, t3⟩ := hux.keep hk
      cases e
      refine ⟨ua, uc, y2, t1, t2, fun i c hi => ?_⟩
      obtain ⟨b, o, e, hb, _, hc⟩ := t3 i c hi
      exact ⟨b, o, e, .inr ⟨by have := hb.1; omega, by rw [ys]; exact hb.2⟩, hc⟩
  clear hux hvc hmx hb7 hg7 yb yk yf zf k7 y0 y1 y2 y3
  go_wp2
  go_ret
  exact ⟨rfl, HY.out⟩
end Go.Proofs.YtlkcadibjmfmcaaDoor

/- The law TermsWalk, walked. -/
namespace Go.Proofs.YtlkcadibjmfmcaaDoor
open Go.RowKit Go.Shelf
attribute [local go_sem] Oper.semAt_some

/-- The law's boxes. -/
structure Lw (w : World) (a : Tm) (ta : Option Addr) (tc : Nat) (sa : Option Addr) (sc : Nat) (k : Int) (W : World) : Prop where
  bel : Below w.heap.size w W
  a0 : W.cell? ⟨w.heap.size, 0, none⟩ = some (.int .i64 a.kind)
  a1 : W.cell? ⟨w.heap.size, 1, none⟩ = some (.string a.cons)
  a2 : W.cell? ⟨w.heap.size, 2, none⟩ = some (.slice ta a.text.length tc)
  a3 : W.cell? ⟨w.heap.size, 3, none⟩ = some (.slice sa a.kids.length sc)
  m : Boxed W (w.heap.size + 1) 3 (.int .i64 k)
  r : Boxed W (w.heap.size + 1 + 1) 4 (.bool false)
  lt : w.heap.size + 3 ≤ W.heap.size
section
variable {w : World} {a : Tm} {ta : Option Addr} {tc : Nat} {sa : Option Addr} {sc : Nat} {k : Int} {W W' : World}
theorem Lw.nx (h : Lw w a ta tc sa sc k W) (hb : Below W.heap.size W W') : Lw w a ta tc sa sc k W' := by
  have hl := h.lt
  have q : ∀ j, W'.cell? ⟨w.heap.size, j, none⟩ = W.cell? ⟨w.heap.size, j, none⟩ := fun j => hb.cell (p := ⟨w.heap.size, j, none⟩) (by show w.heap.size < _; omega)
  exact ⟨below_of h.bel hb, (q 0).trans h.a0, (q 1).trans h.a1, (q 2).trans h.a2, (q 3).trans h.a3, (hb.block _ (by omega)).trans h.m, (hb.block _ (by omega)).trans h.r, Nat.le_trans hl hb.size⟩
theorem Lw.ab (h : Lw w a ta tc sa sc k W) {n : Nat} {v6 : Nat} (hn : w.heap.size + 3 ≤ n) (h6 : w.heap.size + 3 ≤ v6) (hb : Ab (fun b => b < n ∧ b ≠ v6) W W') : Lw w a ta tc sa sc k W' := by
  have hl := h.lt
  have kb : ∀ b, b < w.heap.size + 3 → W'.heap[b]? = W.heap[b]? := fun b hlt => hb.block b ⟨by omega, by omega⟩
  have q : ∀ j, W'.cell? ⟨w.heap.size, j, none⟩ = W.cell? ⟨w.heap.size, j, none⟩ := fun j => World.cell?_of_block (a := ⟨w.heap.size, j, none⟩) (kb w.heap.size (by omega))
  exact ⟨⟨hb.os.trans h.bel.os, hb.tape.trans h.bel.tape, hb.output.trans h.bel.output, Nat.le_trans h.bel.size hb.size, fun b hlt => (kb b (by omega)).trans (h.bel.block b hlt)⟩, (q 0).trans h.a0, (q 1).trans h.a1, (q 2).trans h.a2, (q 3).trans h.a3, (kb _ (by omega)).trans h.m, (kb _ (by omega)).trans h.r, Nat.le_trans hl hb.size⟩
theorem Lw.set (h : Lw w a ta tc sa sc k W) (v : Int) : Lw w a ta tc sa sc v (W.setCell ⟨w.heap.size + 1, 0, none⟩ (.int .i64 v)) := by
  have hk : ∀ b, b ≠ w.heap.size + 1 → (W.setCell ⟨w.heap.size + 1, 0, none⟩ (.int .i64 v)).heap[b]? = W.heap[b]? := fun b hne => Below.heap_setCell _ _ _ b hne
  have q : ∀ j, (W.setCell ⟨w.heap.size + 1, 0, none⟩ (.int .i64 v)).cell? ⟨w.heap.size, j, none⟩ = W.cell? ⟨w.heap.size, j, none⟩ := fun j => World.cell?_of_block (a := ⟨w.heap.size, j, none⟩) (hk w.heap.size (by omega))
  exact ⟨h.bel.setCell (by show w.heap.size ≤ w.heap.size + 1; omega) _, (q 0).trans h.a0, (q 1).trans h.a1, (q 2).trans h.a2, (q 3).trans h.a3, box_set h.m _, (hk _ (by omega)).trans h.r, by simpa [World.setCell] using h.lt⟩
theorem Lw.first (w : World) (a : Tm) (ta : Option Addr) (tc : Nat) (sa : Option Addr) (sc : Nat) (k : Int) (W : World) (hW : ((w.alloc (.cells #[.int .i64 a.kind, .string a.cons, .slice ta a.text.length tc, .slice sa a.kids.length sc] 25)).alloc (.cells #[.int .i64 k] 3)).alloc (.cells #[.bool false] 4) = W) : Lw w a ta tc sa sc k W := by
  obtain ⟨w1, h1⟩ : ∃ w1, w.alloc (.cells #[.int .i64 a.kind, .string a.cons, .slice ta a.text.length tc, .slice sa a.kids.length sc] 25) = w1 := ⟨_, rfl⟩
  have s1 : w1.heap.size = w.heap.size + 1 := by rw [← h1]; simp
  have b1 : Below w.heap.size w w1 := by rw [← h1]; exact (Below.refl _ _).alloc (Nat.le_refl _) _
  rw [h1] at hW
  have b2 : Below w1.heap.size w1 W := by rw [← hW]; exact ((Below.refl _ _).alloc (Nat.le_refl _) _).alloc (by simp) _
  have e : ∀ j v, (#[.int .i64 a.kind, .string a.cons, .slice ta a.text.length tc, .slice sa a.kids.length sc] : Array Value)[j]? = some v → W.cell? ⟨w.heap.size, j, none⟩ = some v := fun j v hv => (b2.cell (p := ⟨w.heap.size, j, none⟩) (by show w.heap.size < _; omega)).trans (by rw [← h1]; exact cell_new j hv)
  have m := (Boxed.new w1 3 (.int .i64 k)).alloc (.cells #[.bool false] 4)
  have r := Boxed.new (w1.alloc (.cells #[.int .i64 k] 3)) 4 (.bool false)
  simp only [World.size_alloc, s1] at m r
  rw [hW] at m r
  exact ⟨b1.trans (b2.mono (by omega)), e 0 _ rfl, e 1 _ rfl, e 2 _ rfl, e 3 _ rfl, m, r, by rw [← hW]; simp; omega⟩
end
/-- A row of terms that lie below a block. -/
def WL (B g : Nat) (l : List Tm) (W : World) : Prop := ∀ j d, l[j]? = some d → ∃ ta tc sa sc, W.cell? ⟨g, j * 4, none⟩ = some (.int .i64 d.kind) ∧ W.cell? ⟨g, j * 4 + 1, none⟩ = some (.string d.cons) ∧ W.cell? ⟨g, j * 4 + 2, none⟩ = some (.slice ta d.text.length tc) ∧ W.cell? ⟨g, j * 4 + 3, none⟩ = some (.slice sa d.kids.length sc) ∧ TB W B d ta tc sa sc
theorem WL.keep {B g : Nat} {l : List Tm} {W W' : World} (h : WL B g l W) (hb : Below B W W') (hg : W'.heap[g]? = W.heap[g]?) : WL B g l W' := fun j d hj => by
  obtain ⟨ta, tc, sa, sc, c0, c1, c2, c3, ht⟩ := h j d hj
  have q : ∀ o, W'.cell? ⟨g, o, none⟩ = W.cell? ⟨g, o, none⟩ := fun o => World.cell?_of_block (a := ⟨g, o, none⟩) hg
  exact ⟨ta, tc, sa, sc, (q _).trans c0, (q _).trans c1, (q _).trans c2, (q _).trans c3, ht.below hb⟩
theorem Ab.bel {n v6 B : Nat} {X Y : World} (h : Ab (fun b => b < n ∧ b ≠ v6) X Y) (hB : B ≤ n) (h6 : B ≤ v6) : Below B X Y := ⟨h.os, h.tape, h.output, h.size, fun b hb => h.block b ⟨by omega, by omega⟩⟩
/-- While the law goes through the parts. -/
structure LI (wd : World) (b6 M : Nat) (A : Nat → Prop) (xs : List Wx) (W : World) : Prop where
  n : Boxed W b6 3 (.int .i64 (xs.length : Int))
  bel : Ab (fun b => b < wd.heap.size ∧ b ≠ b6) wd W
  ab : ∀ b, A b → wd.heap.size + 2 ≤ b
  sz : wd.heap.size + 2 ≤ W.heap.size
  lt : xs.length < M
structure LX (wd : World) (b6 M : Nat) (c : Code) (A : Nat → Prop) (xs : List Wx) (W : World) : Prop where
  c : c = .exit 0
  n : Boxed W b6 3 (.int .i64 (M : Int))
  bel : Ab (fun b => b < wd.heap.size ∧ b ≠ b6) wd W
  ab : ∀ b, A b → wd.heap.size + 2 ≤ b
  sz : wd.heap.size + 2 ≤ W.heap.size
section
variable {wd : World} {b6 M : Nat}
theorem keep_ab {A : Nat → Prop} {X Y : World} (hb : Ab (fun b => b < wd.heap.size ∧ b ≠ b6) wd X) (hi : Iter A X Y) (hA : ∀ b, A b → wd.heap.size + 2 ≤ b) : Ab (fun b => b < wd.heap.size ∧ b ≠ b6) wd Y := by
  have hs := hb.size
  exact ⟨hi.os.trans hb.os, hi.tape.trans hb.tape, hi.output.trans hb.output, Nat.le_trans hb.size hi.size, fun b h => (hi.keep b (by omega) (fun h' => by have := hA b h'; omega)).trans (hb.block b h)⟩
theorem LI.stays (h6 : b6 < wd.heap.size) : Stays (LI wd b6 M) := by
  intro A A' xs X Y h hi ha
  have hs := h.bel.size
  refine ⟨(hi.keep b6 (by omega) (fun h' => by have := h.ab b6 h'; omega)).trans h.n, keep_ab h.bel hi h.ab, fun b hb => ?_, Nat.le_trans h.sz hi.size, h.lt⟩
  rcases ha b hb with h' | h'
  · exact h.ab b h'
  · have := h.sz; omega
theorem LX.stays (h6 : b6 < wd.heap.size) (c : Code) : Stays (LX wd b6 M c) := by
  intro A A' xs X Y h hi ha
  have hs := h.bel.size
  refine ⟨h.c, (hi.keep b6 (by omega) (fun h' => by have := h.ab b6 h'; omega)).trans h.n, keep_ab h.bel hi h.ab, fun b hb => ?_, Nat.le_trans h.sz hi.size⟩
  rcases ha b hb with h' | h'
  · exact h.ab b h'
  · have := h.sz; omega
theorem put_ab {X : World} (o : Obj) (hb : Ab (fun b => b < wd.heap.size ∧ b ≠ b6) wd X) : Ab (fun b => b < wd.heap.size ∧ b ≠ b6) wd (X.putObj (wd.heap.size + 1) o) :=
  ⟨hb.os, hb.tape, hb.output, by simpa using hb.size, fun b h => (World.putObj_heap_other (by omega)).trans (hb.block b h)⟩
theorem LI.noMind (h6 : b6 < wd.heap.size) {A0 : Nat → Prop} : NoMindAt wd.heap.size A0 (LI wd b6 M) := fun A xs X o' h _ _ =>
  ⟨(World.putObj_heap_other (by omega)).trans h.n, put_ab o' h.bel, h.ab, by simpa using h.sz, h.lt⟩
theorem LX.noMind (h6 : b6 < wd.heap.size) {A0 : Nat → Prop} (c : Code) : NoMindAt wd.heap.size A0 (LX wd b6 M c) := fun A xs X o' h _ _ =>
  ⟨h.c, (World.putObj_heap_other (by omega)).trans h.n, put_ab o' h.bel, h.ab, by simpa using h.sz⟩
end
set_option maxRecDepth 100000 in
set_option maxHeartbeats 16000000 in
theorem termsWalk_walk (a : Tm) (ta : Option Addr) (tc : Nat) (sa : Option Addr) (sc : Nat) (k : Int) (w : World) (hka : TA w a ta tc sa sc) (hkl : -9223372036854775808 ≤ k) (hku : k ≤ 9223372036854775807) :
    Calls Tryd.prog 11 #[.agg #[.int .i64 a.kind, .string a.cons, .slice ta a.text.length tc, .slice sa a.kids.length sc], .int .i64 k] w fun e w' => e = .returned (.bool true) ∧ Below w.heap.size w w' := by
  refine (callsIn_wide (n := 9)).1 ?_
  refine callsIn_of_wp_marks Tryd.func11 rfl trivial ?_ rfl
  simp only [Tryd.ntmps11, List.size_toArray, List.length_cons, List.length_nil, Nat.reduceAdd, Nat.reduceSub, Array.replicate_succ, Array.replicate_zero, List.push_toArray, List.append_toArray, List.nil_append, List.cons_append]
  obtain ⟨w3, hw3⟩ : ∃ w3, ((w.alloc (.cells #[.int .i64 a.kind, .string a.cons, .slice ta a.text.length tc, .slice sa a.kids.length sc] 25)).alloc (.cells #[.int .i64 k] 3)).alloc (.cells #[.bool false] 4) = w3 := ⟨_, rfl⟩
  have T0 := Lw.first w a ta tc sa sc k w3 hw3
  have HT0 : Hid _ := T0
  have e0 := T0.a0
  have e1 := T0.a1
  have e2 := T0.a2
  have e3 := T0.a3
  have HKA : Hid (∀ k W, Lw w a ta tc sa sc k W → TA W a ta tc sa sc) := fun k W h => hka.nx h.bel
  have HTB : Hid (∀ k W, Lw w a ta tc sa sc k W → TB W w.heap.size a ta tc sa sc) := fun k W h => (hka.tb).below h.bel
  have HHA : Hid (∀ W, Lw w a ta tc sa sc k W → Calls Tryd.prog 12 #[.agg #[.int .i64 a.kind, .string a.cons, .slice ta a.text.length tc, .slice sa a.kids.length sc]] W fun e w' => e = .returned (.bool (decide (1000 < wt a))) ∧ Below W.heap.size W w') := fun W h => heavy_t a ta tc sa sc W (HKA.out k W h)
  have hsw := sz_wt a
  clear hka T0
  by_cases ha : 1000 < wt a
  · rw [decide_eq_true ha] at HHA
    clear ha
    gi_wp2_with (refine ⟨trivial, ?_⟩; gi_at_call 12; refine (callsIn_wide.2 (HHA.out _ HT0.out)).mono ?_; rintro e w4 ⟨rfl, hb4⟩; have HT4 : Hid _ := HT0.out.nx hb4; clear hb4)
    refine ⟨trivial, ?_⟩
    refine (callsIn_wide.2 (alive_any _)).mono ?_
    rintro e w5 ⟨rfl, hb5⟩
    have HT5 : Hid _ := HT4.out.nx hb5
    have r0 := HT5.out.r.cell
    have r1 := HT5.out.r.frozen
    have r2 := (box_set HT5.out.r (.bool true)).cell
    have HBB : Hid (Below w.heap.size w (w5.setCell ⟨w.heap.size + 1 + 1, 0, none⟩ (.bool true))) := HT5.out.bel.setCell (by show w.heap.size ≤ w.heap.size + 1 + 1; omega) _
    clear hb5
    gi_wp2
    exact ⟨.bool true, by simp [results, Tryd.results11, go_sem, r2], rfl, HBB.out⟩
  rw [decide_eq_false ha] at HHA
  have hza : sz a ≤ 1000 := by omega
  clear ha
  gi_upto_region 4 with (refine ⟨trivial, ?_⟩; gi_at_call 12; refine (callsIn_wide.2 (HHA.out _ HT0.out)).mono ?_; rintro e w4 ⟨rfl, hb4⟩; have HT4 : Hid _ := HT0.out.nx hb4; clear hb4 e0 e1 e2 e3; have e0 := HT4.out.a0; have e1 := HT4.out.a1; have e2 := HT4.out.a2; have e3 := HT4.out.a3)
  refine ⟨trivial, ?_⟩
  refine (callsIn_wide.2 (refWalk_any (sz a) a ta tc sa sc w.heap.size _ (Nat.le_refl _) HT4.out.bel.size (HTB.out k _ HT4.out) (by omega))).mono ?_
  rintro e w5 ⟨⟨v, xs, rfl, hrow, hwr⟩, hb5⟩
  rw [pts_len] at hrow
  have hz1 : 0 < sz a := by rw [sz_eq]; omega
  obtain ⟨g, c, rfl, hg, hgs, hc⟩ := row_at hrow hz1
  have hwl : WL w.heap.size g (pts a) w5 := fun j d hj => by
    obtain ⟨ta, tc, sa, sc, x0, x1, x2, x3, ht⟩ := hwr.at hj
    have hlt := (List.getElem?_eq_some_iff.1 hj).1
    rw [pts_len] at hlt
    have hl4 := hwr.len
    rw [pts_len] at hl4
    exact ⟨ta, tc, sa, sc, (hrow.cellAt (j * 4) (by omega)).trans x0, (hrow.cellAt (j * 4 + 1) (by omega)).trans x1, (hrow.cellAt (j * 4 + 2) (by omega)).trans x2, (hrow.cellAt (j * 4 + 3) (by omega)).trans x3, ht⟩
  have HT5 : Hid _ := HT4.out.nx hb5
  obtain ⟨w6, hw6⟩ : ∃ w6, w5.alloc (.cells #[.slice (some ⟨g, 0, none⟩) (sz a) c] 23) = w6 := ⟨_, rfl⟩
  have hb6 : Below w5.heap.size w5 w6 := by rw [← hw6]; exact (Below.refl _ _).alloc (Nat.le_refl _) _
  have s6 : w6.heap.size = w5.heap.size + 1 := by rw [← hw6]; simp
  have bw : Boxed w6 w5.heap.size 23 (.slice (some ⟨g, 0, none⟩) (sz a) c) := by rw [← hw6]; exact Boxed.new _ _ _
  have HT6 : Hid _ := HT5.out.nx hb6
  have hg3 : w.heap.size + 3 ≤ g := by have := HT4.out.lt; omega
  have hl5 : w.heap.size + 3 ≤ w5.heap.size := HT5.out.lt
  have HWL : Hid (WL w.heap.size g (pts a) w6) := hwl.keep (hb6.mono (by omega)) (hb6.block g hgs)
  obtain ⟨b5, hb5e⟩ : ∃ b5, w5.heap.size = b5 := ⟨_, rfl⟩
  have HGS : Hid (g < w6.heap.size) := by show _ < _; omega
  clear hwl hrow hwr hb5 hb6 HT4 HT5 e0 e1 e2 e3 xs hgs hg
  gi_upto_region 4 with fail
  try rw [hw6]
  try rw [hb5e]
  rw [hb5e] at bw s6 hl5
  have HBW : Hid _ := bw
  have m0 := HT6.out.m.cell
  have m1 := HT6.out.m.frozen
  have w0 := bw.cell
  clear hw6 hb5e bw
  gi_cut [23] from 11 (fun s23 wc => s23 = .bool (decide (k < 1 ∨ (sz a : Int) < k)) ∧ wc = w6)
  case first =>
    by_cases h1 : k < 1
    · gi_wp2
      gi_meet
      exact ⟨by simp [h1], rfl⟩
    · by_cases h2 : (sz a : Int) < k
      · gi_wp2
        gi_meet
        exact ⟨by simp [h2], rfl⟩
      · gi_wp2
        gi_meet
        exact ⟨by simp [h1, h2], rfl⟩
  case rest =>
    obtain ⟨rfl, hwc⟩ := hcut
    rw [hwc]
    clear hwc wc
    gi_upto_if 23 with fail
    gi_cut [] from 11 (fun wc => ∃ M : Nat, 1 ≤ M ∧ M ≤ sz a ∧ Lw w a ta tc sa sc (M : Int) wc ∧ Boxed wc b5 23 (.slice (some ⟨g, 0, none⟩) (sz a) c) ∧ WL w.heap.size g (pts a) wc ∧ g < wc.heap.size ∧ b5 < wc.heap.size)
    case first =>
      by_cases hq : k < 1 ∨ (sz a : Int) < k
      · rw [decide_eq_true hq]
        have HS : Hid (Lw w a ta tc sa sc ((sz a : Nat) : Int) (w6.setCell ⟨w.heap.size + 1, 0, none⟩ (.int .i64 (sz a : Int))) ∧ Boxed (w6.setCell ⟨w.heap.size + 1, 0, none⟩ (.int .i64 (sz a : Int))) b5 23 (.slice (some ⟨g, 0, none⟩) (sz a) c) ∧ WL w.heap.size g (pts a) (w6.setCell ⟨w.heap.size + 1, 0, none⟩ (.int .i64 (sz a : Int))) ∧ g < (w6.setCell ⟨w.heap.size + 1, 0, none⟩ (.int .i64 (sz a : Int))).heap.size ∧ b5 < (w6.setCell ⟨w.heap.size + 1, 0, none⟩ (.int .i64 (sz a : Int))).heap.size) :=
          ⟨HT6.out.set _, box_other HBW.out _ (by omega), HWL.out.keep ((Below.refl _ _).setCell (by show w.heap.size ≤ w.heap.size + 1; omega) _) (Below.heap_setCell _ _ _ g (by show g ≠ w.heap.size + 1; omega)), by simpa [World.setCell] using HGS.out, by simp [World.setCell]; omega⟩
        gi_wp2
        gi_meet
        exact ⟨sz a, by omega, Nat.le_refl _, HS.out⟩
      · rw [decide_eq_false hq]
        have hk1 : 1 ≤ k := by omega
        have HS : Hid (Lw w a ta tc sa sc ((k.toNat : Nat) : Int) w6 ∧ Boxed w6 b5 23 (.slice (some ⟨g, 0, none⟩) (sz a) c) ∧ WL w.heap.size g (pts a) w6 ∧ g < w6.heap.size ∧ b5 < w6.heap.size) := ⟨by rw [Int.toNat_of_nonneg (by omega)]; exact HT6.out, HBW.out, HWL.out, HGS.out, by omega⟩
        gi_wp2
        gi_meet
        exact ⟨k.toNat, by omega, by omega, HS.out⟩
    case rest =>
      obtain ⟨M, hM1, hM2, hT, hbw, hwl, hgl, h5l⟩ := hcut
      have HT : Hid _ := hT
      gi_upto_region 7 with fail
      obtain ⟨w7, hw7⟩ : ∃ w7, wc.alloc (.cells #[.int .i64 0] 3) = w7 := ⟨_, rfl⟩
      have hb7 : Below wc.heap.size wc w7 := by rw [← hw7]; exact (Below.refl _ _).alloc (Nat.le_refl _) _
      have s7 : w7.heap.size = wc.heap.size + 1 := by rw [← hw7]; simp
      have bn : Boxed w7 wc.heap.size 3 (.int .i64 0) := by rw [← hw7]; exact Boxed.new _ _ _
      have hT7 := hT.nx hb7
      have hbw7 : Boxed w7 b5 23 (.slice (some ⟨g, 0, none⟩) (sz a) c) := (hb7.block _ h5l).trans hbw
      have hltc := hT.lt
      have hwl7 : WL w.heap.size g (pts a) w7 := hwl.keep (hb7.mono (by omega)) (hb7.block g hgl)
      obtain ⟨b6, hb6e⟩ : ∃ b6, wc.heap.size = b6 := ⟨_, rfl⟩
      rw [hw7, hb6e]
      have e0 := hT7.a0
      have e1 := hT7.a1
      have e2 := hT7.a2
      have e3 := hT7.a3
      have HWK : Hid _ := fun (_ : Unit) => walk_any a ta tc sa sc w7 (HKA.out _ w7 hT7) hza
      have HF7 : Hid _ := And.intro hT7 (And.intro hbw7 (And.intro hwl7 bn))
      rw [hb6e] at s7 hltc hgl h5l HF7
      clear hT hbw hwl bn hT7 hbw7 hwl7 hb7 m0 m1 w0 hw7 hb6e
      have EF : ∀ (p q : Value) w, (binOp .eql 53 (.func (.func 55) #[] #[p, q]) .nilFunc).run Tryd.prog w = .ok (.bool false) w := fun p q w => by kernel_rfl
      gi_wp2_with fail
      refine ⟨trivial, ?_⟩
      refine (callsIn_wide.2 (HWK.out ())).mono ?_
      rintro e wd ⟨rfl, hbd, hsd, hcl, fd, hdd⟩
      have HD : Hid _ := And.intro hbd (And.intro hcl hdd)
      clear hbd hcl hdd e0 e1 e2 e3
      gi_wp2_with fail
      obtain ⟨hbd, hcl, hdd⟩ := HD.out
      have hTd := HF7.out.1.nx hbd
      have hbwd : Boxed wd b5 23 (.slice (some ⟨g, 0, none⟩) (sz a) c) := (hbd.block _ (by omega)).trans HF7.out.2.1
      have hbnd : Boxed wd b6 3 (.int .i64 0) := (hbd.block _ (by omega)).trans HF7.out.2.2.2
      have hwld : WL w.heap.size g (pts a) wd := HF7.out.2.2.1.keep (hbd.mono (by omega)) (hbd.block g (by omega))
      have HTd : Hid _ := hTd
      have HWD : Hid (WL w.heap.size g (pts a) wd) := hwld
      have HBN : Hid _ := hbnd
      have HBW2 : Hid _ := hbwd
      rw [s7] at hdd hcl hsd hbd
      clear HD HF7 HWK hTd hwld hbnd hbwd HT
      obtain ⟨U, hUd⟩ : ∃ U : Nat → Prop, U = fun b => b = b6 + 1 ∨ (b6 + 1 + 2 ≤ b ∧ b < wd.heap.size) := ⟨_, rfl⟩
      rw [← hUd] at hdd
      have hUlt : ∀ b, U b → b < wd.heap.size := fun b hb => by
        rw [hUd] at hb
        rcases hb with h | h <;> omega
      have hUge : ∀ b, U b → b6 < b := fun b hb => by
        rw [hUd] at hb
        rcases hb with h | h <;> omega
      have h6 : b6 < wd.heap.size := by omega
      clear hUd
      refine range_law_w (kx := True) (F := Fence.wide) rfl (fun _ => by omega) (gf := 55) (lb := #[.pointer (some ⟨b6 + 1 + 1, 0, none⟩), .pointer (some ⟨b6 + 1, 0, none⟩)]) rfl trivial (enters_of Tryd.func55 (by kernel_rfl) rfl)
        (walk_seq (9 - 1) (by omega) (b6 + 1 + 1) (b6 + 1) (33554432 - sz a) U fd a wd hUlt hdd hza hcl (by omega) (by omega) (by omega)) hUlt (fun b hb => hb.elim) (Below.refl _ _) (fun _ => rfl)
        (LI wd b6 M) (LX wd b6 M) (LI.stays h6) (LI.noMind h6) (LX.stays h6) (fun c => LX.noMind h6 c)
        (fun W1 hb1 hs1 => ?start) (fun x a' X => ∃ Pb, (X.cell? ⟨Pb, 0, none⟩ = some (.int .i64 x.doc.kind) ∧ X.cell? ⟨Pb, 1, none⟩ = some (.string x.doc.cons) ∧ X.cell? ⟨Pb, 2, none⟩ = some (.slice x.ua x.doc.text.length x.uc) ∧ X.cell? ⟨Pb, 3, none⟩ = some (.slice x.va x.doc.kids.length x.vc)) ∧ wd.heap.size + 2 ≤ Pb ∧ Pb < X.heap.size ∧ Wx.In (wd.heap.size + 2) x X ∧ a' = { tmps := #[.agg #[.int .i64 a.kind, .string a.cons, .slice ta a.text.length tc, .slice sa a.kids.length sc], .int .i64 k, .pointer (some ⟨w.heap.size, 0, none⟩), .pointer (some ⟨w.heap.size + 1, 0, none⟩), .pointer (some ⟨w.heap.size + 1 + 1, 0, none⟩), .pointer (some ⟨b5, 0, none⟩), .pointer (some ⟨b6, 0, none⟩), .func (.func 55) #[] #[.pointer (some ⟨b6 + 1 + 1, 0, none⟩), .pointer (some ⟨b6 + 1, 0, none⟩)], .pointer (some ⟨Pb, 0, none⟩), undef, undef, u11, u12, u13, u14, u15, u16, u17, u18, u19, u20, u21, u22, u23, u24, u25, .agg #[.int .i64 a.kind, .string a.cons, .slice ta a.text.length tc, .slice sa a.kids.length sc], .func (.func 55) #[] #[.pointer (some ⟨b6 + 1 + 1, 0, none⟩), .pointer (some ⟨b6 + 1, 0, none⟩)], .func (.func 55) #[] #[.pointer (some ⟨b6 + 1 + 1, 0, none⟩), .pointer (some ⟨b6 + 1, 0, none⟩)], .bool false, .func (.func 55) #[] #[.pointer (some ⟨b6 + 1 + 1, 0, none⟩), .pointer (some ⟨b6 + 1, 0, none⟩)], .agg #[.int .i64 x.doc.kind, .string x.doc.cons, .slice x.ua x.doc.text.length x.uc, .slice x.va x.doc.kids.length x.vc], u32, u33, u34, u35, u36, u37, u38, u39, u40, u41, u42, u43, u44, u45, u46, u47, u48, u49, u50, u51, u52, u53, u54, u55, u56, u57, u58, u59, u60, u61, u62, u63, u64, u65, u66], defers := [] }) ?ax ?assign ?body ?done ?stop
      case start =>
        exact ⟨(hb1.block _ h6).trans HBN.out, Ab.of_below hb1 (fun b hb => hb.1), fun b hb => hb.elim, by omega, by simp; omega⟩
      case ax =>
        rintro x a' X o' ⟨Pb, ⟨c0, c1, c2, c3⟩, h1, h2, hin, rfl⟩ hlt
        have hk : ∀ q, (X.putObj (wd.heap.size + 1) o').cell? ⟨Pb, q, none⟩ = X.cell? ⟨Pb, q, none⟩ := fun q => World.cell?_of_block (a := ⟨Pb, q, none⟩) (World.putObj_heap_other (by show Pb ≠ _; omega))
        obtain ⟨f, i1, i2, i3⟩ := hin
        have hkk : ∀ b, (wd.heap.size + 2 ≤ b ∧ b < X.heap.size) → (X.putObj (wd.heap.size + 1) o').heap[b]? = X.heap[b]? := fun b hb => World.putObj_heap_other (by have := hb.1; omega)
        refine ⟨Pb, ⟨(hk 0).trans c0, (hk 1).trans c1, (hk 2).trans c2, (hk 3).trans c3⟩, h1, by simpa using h2, ⟨f, (i1.keep hkk).wide (fun b hb => ⟨hb.1, by simpa using hb.2⟩), i2, (i3.keep hkk).wide (fun b hb => ⟨hb.1, by simpa using hb.2⟩)⟩, rfl⟩
      case assign =>
        intro l' A xs x X K hI hlt hx hin hA hK
        have hsz := hI.sz
        have HK : Hid (∀ a', a' = _ → K a' (X.alloc (.cells #[.int .i64 x.doc.kind, .string x.doc.cons, .slice x.ua x.doc.text.length x.uc, .slice x.va x.doc.kids.length x.vc] 25))) := fun a' ha' => by
          have hb : Below X.heap.size X (X.alloc (.cells #[.int .i64 x.doc.kind, .string x.doc.cons, .slice x.ua x.doc.text.length x.uc, .slice x.va x.doc.kids.length x.vc] 25)) := (Below.refl _ _).alloc (Nat.le_refl _) _
          have hst := LI.stays (M := M) h6 A A xs X _ hI (Iter.of_below hb) adds_same
          obtain ⟨f, i1, i2, i3⟩ := hin
          exact hK a' _ ⟨hb.block _ (by omega), hb.block _ (by omega)⟩ ⟨Ab.of_below hb (fun b hb => by have := hUlt b hb; omega), fun b hA' hlt' => hb.block b hlt'⟩ hst ⟨X.heap.size, ⟨cell_new 0 rfl, cell_new 1 rfl, cell_new 2 rfl, cell_new 3 rfl⟩, by omega, by simp, ⟨f, (i1.keep (fun b hb' => hb.block b hb'.2)).wide (fun b hb => ⟨hb.1, by simp; omega⟩), i2, (i3.keep (fun b hb' => hb.block b hb'.2)).wide (fun b hb => ⟨hb.1, by simp; omega⟩)⟩, ha'⟩
        unfold Wx.enc
        clear hK hI hx hin
        gi_wp2
        exact HK.out _ rfl
      case body =>
        rintro l' A xs x a' X hI ⟨Pb, ⟨c0, c1, c2, c3⟩, hP1, hP2, hin, rfl⟩ hlt hx hA
        have hsz := hI.sz
        have hbs := hI.bel.size
        obtain ⟨r, hr⟩ := hx
        obtain ⟨j, hj⟩ : ∃ j, xs.length = j := ⟨_, rfl⟩
        have hjx : (pts a)[j]? = some x.doc := by rw [← hr, ← hj]; simp
        have hjl : j < sz a := by rw [← pts_len]; exact (List.getElem?_eq_some_iff.1 hjx).1
        have hjM : j < M := by rw [← hj]; exact hI.lt
        have hTX := HTd.out.ab (W' := X) (n := wd.heap.size) (v6 := b6) HTd.out.lt (by omega) hI.bel
        have hwX : WL w.heap.size g (pts a) X := WL.keep HWD.out (hI.bel.bel (by omega) (by omega)) (hI.bel.block g ⟨by omega, by omega⟩)
        have hbX : Boxed X b5 23 (.slice (some ⟨g, 0, none⟩) (sz a) c) := (hI.bel.block b5 ⟨by omega, by omega⟩).trans HBW2.out
        obtain ⟨qt, qc, qa, qd, k0, k1, k2, k3, hqt⟩ := hwX j x.doc hjx
        have hxT : TA X x.doc x.ua x.uc x.va x.vc := by
          obtain ⟨f, i1, i2, i3⟩ := hin
          exact TA.of (fun b hb => hb.2) i2 i3 i1
        have hn := hI.n
        rw [hj] at hn
        have HS : Hid (∀ W, Below X.heap.size X W → W.cell? ⟨b6, 0, none⟩ = some (.int .i64 (j : Int)) ∧ W.cell? ⟨b5, 0, none⟩ = some (.slice (some ⟨g, 0, none⟩) (sz a) c) ∧ W.cell? ⟨Pb, 0, none⟩ = some (.int .i64 x.doc.kind) ∧ W.cell? ⟨Pb, 1, none⟩ = some (.string x.doc.cons) ∧ W.cell? ⟨Pb, 2, none⟩ = some (.slice x.ua x.doc.text.length x.uc) ∧ W.cell? ⟨Pb, 3, none⟩ = some (.slice x.va x.doc.kids.length x.vc) ∧ W.cell? ⟨g, j * 4, none⟩ = some (.int .i64 x.doc.kind) ∧ W.cell? ⟨g, j * 4 + 1, none⟩ = some (.string x.doc.cons) ∧ W.cell? ⟨g, j * 4 + 2, none⟩ = some (.slice qt x.doc.text.length qc) ∧ W.cell? ⟨g, j * 4 + 3, none⟩ = some (.slice qa x.doc.kids.length qd)) := fun W hb => by
          have q : ∀ b o, b < X.heap.size → W.cell? ⟨b, o, none⟩ = X.cell? ⟨b, o, none⟩ := fun b o hlt => hb.cell (p := ⟨b, o, none⟩) hlt
          exact ⟨(q _ _ (by omega)).trans hn.cell, (q _ _ (by omega)).trans hbX.cell, (q _ _ hP2).trans c0, (q _ _ hP2).trans c1, (q _ _ hP2).trans c2, (q _ _ hP2).trans c3, (q _ _ (by omega)).trans k0, (q _ _ (by omega)).trans k1, (q _ _ (by omega)).trans k2, (q _ _ (by omega)).trans k3⟩
        have HSM : Hid (∀ W, Below X.heap.size X W → Calls Tryd.prog 21 #[.agg #[.int .i64 x.doc.kind, .string x.doc.cons, .slice x.ua x.doc.text.length x.uc, .slice x.va x.doc.kids.length x.vc], .agg #[.int .i64 x.doc.kind, .string x.doc.cons, .slice qt x.doc.text.length qc, .slice qa x.doc.kids.length qd]] W fun e w' => e = .returned (.bool true) ∧ Below W.heap.size W w') := fun W hb => by
          have h' := refSame_t x.doc x.doc x.ua x.uc x.va x.vc qt qc qa qd W (hxT.nx hb) ((hqt.ta (by have := hTX.lt; omega)).nx hb)
          rw [eqT_true rfl] at h'
          exact h'
        have HDR : Hid (Below X.heap.size X X.drew) := ⟨rfl, rfl, rfl, Nat.le_refl _, fun _ _ => rfl⟩
        have HN : Hid _ := hn
        have HI : Hid _ := hI
        have HTX : Hid _ := hTX
        have hd0 : decide (sz a ≤ j) = false := by simp; omega
        have hd1 : ¬ sz a ≤ j := by omega
        have hj0 : (0 : Int) ≤ (j : Int) := by omega
        have hjI : (j : Int) < (sz a : Int) := by omega
        have HRI : Hid (∀ W, Below X.heap.size X W → ∀ W5, W.setCell ⟨b6, 0, none⟩ (.int .i64 ((j : Int) + 1)) = W5 → Two wd.heap.size X W5 ∧ KeepU U A X W5 ∧ Boxed W5 b6 3 (.int .i64 ((j : Int) + 1)) ∧ Ab (fun b => b < wd.heap.size ∧ b ≠ b6) wd W5 ∧ wd.heap.size + 2 ≤ W5.heap.size ∧ W5.cell? ⟨w.heap.size + 1, 0, none⟩ = some (.int .i64 (M : Int))) := fun W hb W5 h5 => by
          have hbn : Boxed W b6 3 (.int .i64 (j : Int)) := (hb.block b6 (by omega)).trans hn
          have hg : W.grownBy W5 (some b6) := by rw [← h5]; exact grown_set _ _ _ _
          have hbz := hb.size
          have hgz := hg.size
          have kk : ∀ b, b < X.heap.size → b ≠ b6 → W5.heap[b]? = X.heap[b]? := fun b h1 h2 => (hg.block b (by omega) (fun e => h2 (by cases e; rfl))).trans (hb.block b h1)
          refine ⟨⟨kk _ (by omega) (by omega), kk _ (by omega) (by omega)⟩, ⟨⟨hg.os.trans hb.os, hg.tape.trans hb.tape, hg.output.trans hb.output, by omega, fun b hU' => kk b (by have := hUlt b hU'; omega) (by have := hUge b hU'; omega)⟩, fun b hA' hlt' => kk b hlt' (by have := hI.ab b hA'; omega)⟩, by rw [← h5]; exact box_set hbn _, ⟨hg.os.trans (hb.os.trans hI.bel.os), hg.tape.trans (hb.tape.trans hI.bel.tape), hg.output.trans (hb.output.trans hI.bel.output), by omega, fun b hb' => (kk b (by have := hb'.1; omega) hb'.2).trans (hI.bel.block b hb')⟩, by omega, ?_⟩
          exact (World.cell?_of_block (a := ⟨w.heap.size + 1, 0, none⟩) (kk (w.heap.size + 1) (by omega) (by omega))).trans hTX.m.cell
        clear hI hn hTX hwX hbX hqt hxT hin k0 k1 k2 k3 c0 c1 c2 c3 hA hr hjx
        gi_wp2_with fail
        refine region_held l' _ (by kernel_rfl) (noDefer_spec (by kernel_rfl)) (S := (fun Z => Z.cell? ⟨b6, 0, none⟩ = some (.int .i64 (j : Int)) ∧ Z.cell? ⟨b5, 0, none⟩ = some (.slice (some ⟨g, 0, none⟩) (sz a) c) ∧ Z.cell? ⟨Pb, 0, none⟩ = some (.int .i64 x.doc.kind) ∧ Z.cell? ⟨Pb, 1, none⟩ = some (.string x.doc.cons) ∧ Z.cell? ⟨Pb, 2, none⟩ = some (.slice x.ua x.doc.text.length x.uc) ∧ Z.cell? ⟨Pb, 3, none⟩ = some (.slice x.va x.doc.kids.length x.vc) ∧ Z.cell? ⟨g, j * 4, none⟩ = some (.int .i64 x.doc.kind) ∧ Z.cell? ⟨g, j * 4 + 1, none⟩ = some (.string x.doc.cons) ∧ Z.cell? ⟨g, j * 4 + 2, none⟩ = some (.slice qt x.doc.text.length qc) ∧ Z.cell? ⟨g, j * 4 + 3, none⟩ = some (.slice qa x.doc.kids.length qd))) (fun ⟨_, _, h⟩ => by cases h) (HS.out _ HDR.out) (fun hHeld => ?_)
        refine wpAnyH_take (i := 0) (v := ?v1) rfl (by kernel_rfl) (by kernel_rfl) (by kernel_rfl) (fun _ _ _ h => h) (Or.inl ⟨by rfl, ?y1⟩) (by assumption) ?_
        case y1 => (intro w hSw; (try dsimp only at hSw); go_simp <;> with_reducible rfl)
        try simp only [Act.put, List.getElem_toArray, List.getElem_cons_zero, List.setIfInBounds_toArray, List.set_cons_zero, List.set_cons_succ]
        refine wpAnyH_take (i := 1) (v := ?v2) rfl (by kernel_rfl) (by kernel_rfl) (by kernel_rfl) (fun _ _ _ h => h) (Or.inl ⟨by rfl, ?y2⟩) (by assumption) ?_
        case y2 => (intro w hSw; (try dsimp only at hSw); go_simp <;> with_reducible rfl)
        try simp only [Act.put, List.getElem_toArray, List.getElem_cons_zero, List.getElem_cons_succ, List.setIfInBounds_toArray, List.set_cons_zero, List.set_cons_succ]
        refine wpAnyH_take (i := 2) (v := ?v3) rfl (by kernel_rfl) (by kernel_rfl) (by kernel_rfl) (fun _ _ _ h => h) (Or.inl ⟨by rfl, ?y3⟩) (by assumption) ?_
        case y3 => (intro w hSw; (try dsimp only at hSw); go_simp <;> with_reducible rfl)
        try simp only [Act.put, List.getElem_toArray, List.getElem_cons_zero, List.getElem_cons_succ, List.setIfInBounds_toArray, List.set_cons_zero, List.set_cons_succ]
        refine wpAnyH_take (i := 3) (v := ?v4) rfl (by kernel_rfl) (by kernel_rfl) (by kernel_rfl) (fun _ _ _ h => h) (Or.inl ⟨by rfl, ?y4⟩) (by assumption) ?_
        case y4 => (intro w hSw; (try dsimp only at hSw); go_simp <;> with_reducible rfl)
        try simp only [Act.put, List.getElem_toArray, List.getElem_cons_zero, List.getElem_cons_succ, List.setIfInBounds_toArray, List.set_cons_zero, List.set_cons_succ]
        refine wpAnyH_take (i := 4) (v := ?v5) rfl (by kernel_rfl) (by kernel_rfl) (by kernel_rfl) (fun _ _ _ h => h) (Or.inl ⟨by rfl, ?y5⟩) (by assumption) ?_
        case y5 => (intro w hSw; (try dsimp only at hSw); go_simp <;> with_reducible rfl)
        try simp only [Act.put, List.getElem_toArray, List.getElem_cons_zero, List.getElem_cons_succ, List.setIfInBounds_toArray, List.set_cons_zero, List.set_cons_succ]
        refine wpAnyH_take (i := 5) (v := ?v6) rfl (by kernel_rfl) (by kernel_rfl) (by kernel_rfl) (fun _ _ _ h => h) (Or.inl ⟨by rfl, ?y6⟩) (by assumption) ?_
        case y6 => (intro w hSw; (try dsimp only at hSw); go_simp <;> with_reducible rfl)
        try simp only [Act.put, List.getElem_toArray, List.getElem_cons_zero, List.getElem_cons_succ, List.setIfInBounds_toArray, List.set_cons_zero, List.set_cons_succ]
        refine wpAnyH_take (i := 6) (v := ?v7) rfl (by kernel_rfl) (by kernel_rfl) (by kernel_rfl) (fun _ _ _ h => h) (Or.inl ⟨by rfl, ?y7⟩) (by assumption) ?_
        case y7 => (intro w hSw; (try dsimp only at hSw); go_simp <;> with_reducible rfl)
        try simp only [Act.put, List.getElem_toArray, List.getElem_cons_zero, List.getElem_cons_succ, List.setIfInBounds_toArray, List.set_cons_zero, List.set_cons_succ]
        refine wpAnyH_take (i := 7) (v := ?v8) rfl (by kernel_rfl) (by kernel_rfl) (by kernel_rfl) (fun _ _ _ h => h) (Or.inl ⟨by rfl, ?y8⟩) (by assumption) ?_
        case y8 => (intro w hSw; (try dsimp only at hSw); go_simp <;> with_reducible rfl)
        try simp only [Act.put, List.getElem_toArray, List.getElem_cons_zero, List.getElem_cons_succ, List.setIfInBounds_toArray, List.set_cons_zero, List.set_cons_succ]
        refine wpAnyH_take (i := 8) (v := ?v9) rfl (by kernel_rfl) (by kernel_rfl) (by kernel_rfl) (fun _ _ _ h => h) (Or.inl ⟨by rfl, ?y9⟩) (by assumption) ?_
        case y9 => (intro w hSw; (try dsimp only at hSw); go_simp <;> with_reducible rfl)
        try simp only [Act.put, List.getElem_toArray, List.getElem_cons_zero, List.getElem_cons_succ, List.setIfInBounds_toArray, List.set_cons_zero, List.set_cons_succ]
        refine wpAnyH_take (i := 9) (v := ?v10) rfl (by kernel_rfl) (by kernel_rfl) (by kernel_rfl) (fun _ _ _ h => h) (Or.inl ⟨by rfl, ?y10⟩) (by assumption) ?_
        case y10 => (intro w hSw; (try dsimp only at hSw); go_simp <;> with_reducible rfl)
        try simp only [Act.put, List.getElem_toArray, List.getElem_cons_zero, List.getElem_cons_succ, List.setIfInBounds_toArray, List.set_cons_zero, List.set_cons_succ]
        refine wpAnyH_ready (rs := [10]) (by kernel_rfl) (by simp) ?_
        refine (AllReadyH.cons rfl (fun K hK => ?_) AllReadyH.nil)
        go_simp
        refine (HSM.out _ HDR.out).mono ?_
        rintro e W4 ⟨rfl, hb4⟩
        have HB4 : Hid (Below X.heap.size X W4) := HDR.out.trans hb4
        clear hb4
        go_wp2_with fail
        refine hK.out _ _ (HS.out _ HB4.out) (fun hHeld => ?_)
        clear hK K
        try simp only [Act.put, List.getElem_toArray, List.getElem_cons_zero, List.getElem_cons_succ, List.setIfInBounds_toArray, List.set_cons_zero, List.set_cons_succ]
        refine wpAnyH_take (i := 11) (v := ?v11) rfl (by kernel_rfl) (by kernel_rfl) (by kernel_rfl) (fun _ _ _ h => h) (Or.inl ⟨by rfl, ?y11⟩) (by assumption) ?_
        case y11 => (intro w hSw; (try dsimp only at hSw); go_simp <;> with_reducible rfl)
        try simp only [Act.put, List.getElem_toArray, List.getElem_cons_zero, List.getElem_cons_succ, List.setIfInBounds_toArray, List.set_cons_zero, List.set_cons_succ]
        refine wpAnyH_take (i := 12) (v := ?v12) rfl (by kernel_rfl) (by kernel_rfl) (by kernel_rfl) (fun _ _ _ h => h) (Or.inl ⟨by rfl, ?y12⟩) (by assumption) ?_
        case y12 => (intro w hSw; (try dsimp only at hSw); go_simp <;> with_reducible rfl)
        try simp only [Act.put, List.getElem_toArray, List.getElem_cons_zero, List.getElem_cons_succ, List.setIfInBounds_toArray, List.set_cons_zero, List.set_cons_succ]
        refine wpAnyH_done (by kernel_rfl) ?_ _
        clear hHeld
        have n0 := (HS.out _ HB4.out).1
        have hn4 : Boxed W4 b6 3 (.int .i64 (j : Int)) := (HB4.out.block b6 (by omega)).trans HN.out
        have n1 : W4.frozen? ⟨b6, 0, none⟩ = false := hn4.frozen
        obtain ⟨W5, h5⟩ : ∃ W5, W4.setCell ⟨b6, 0, none⟩ (.int .i64 ((j : Int) + 1)) = W5 := ⟨_, rfl⟩
        have HR5 : Hid _ := HRI.out W4 HB4.out W5 h5
        have n5 := HR5.out.2.2.1.cell
        have m5 := HR5.out.2.2.2.2.2
        clear HRI HS HSM
        by_cases hjm : j + 1 = M
        · have hjq : ((j : Int) + 1 == (M : Int)) = true := by simp; omega
          have HE : Hid (Two wd.heap.size X W5 ∧ LX wd b6 M (.exit 0) A (xs ++ [x]) W5 ∧ (True → KeepU U A X W5)) := ⟨HR5.out.1, ⟨rfl, by have := HR5.out.2.2.1; rw [show ((j : Int) + 1) = (M : Int) by omega] at this; exact this, HR5.out.2.2.2.1, HI.out.ab, HR5.out.2.2.2.2.1⟩, fun _ => HR5.out.2.1⟩
          clear hjm
          gi_wp2
          exact HE.out
        · have hjq : ((j : Int) + 1 == (M : Int)) = false := by simp; omega
          have HE : Hid (Two wd.heap.size X W5 ∧ KeepU U A X W5 ∧ LI wd b6 M A (xs ++ [x]) W5) := ⟨HR5.out.1, HR5.out.2.1, ⟨by rw [show (((xs ++ [x]).length : Nat) : Int) = (j : Int) + 1 by simp [hj]]; exact HR5.out.2.2.1, HR5.out.2.2.2.1, HI.out.ab, HR5.out.2.2.2.2.1, by simp [hj]; omega⟩⟩
          clear hjm
          gi_wp2
          exact HE.out
      case done =>
        rintro D A xs X hD hS hI hK
        have h1 := congrArg List.length hS
        rw [pts_len, List.length_map] at h1
        have := hI.lt
        omega
      case stop =>
        rintro D c A xs X hD hS hX hK
        obtain ⟨rfl, hn, hbel, hab, hsz⟩ := hX
        subst hD
        have hTX := HTd.out.ab (W' := X) (n := wd.heap.size) (v6 := b6) HTd.out.lt (by omega) hbel
        have hbX : Boxed X b5 23 (.slice (some ⟨g, 0, none⟩) (sz a) c) := (hbel.block b5 ⟨by omega, by omega⟩).trans HBW2.out
        have e0 := hTX.a0
        have e1 := hTX.a1
        have e2 := hTX.a2
        have e3 := hTX.a3
        have HX : Hid _ := And.intro hTX (And.intro hbX (And.intro hn hK))
        have HSI : Hid _ := fun (_ : Unit) => size_t a ta tc sa sc X (HKA.out _ X hTX) (by omega)
        clear hn hbel hab hTX hbX hK hdd hcl
        gi_wp2_with fail
        refine ⟨trivial, ?_⟩
        refine (callsIn_wide.2 (HSI.out ())).mono ?_
        rintro e X2 ⟨rfl, hb2⟩
        have HB2 : Hid _ := hb2
        clear hb2 e0 e1 e2 e3
        gi_wp2_with fail
        refine ⟨trivial, ?_⟩
        refine (callsIn_wide.2 (alive_any _)).mono ?_
        rintro e X3 ⟨rfl, hb3⟩
        have HB3 : Hid (Below X.heap.size X X3) := below_of HB2.out hb3
        clear hb3
        have hlX := HX.out.1.lt
        have hT3 := HX.out.1.nx HB3.out
        have b53 : Boxed X3 b5 23 (.slice (some ⟨g, 0, none⟩) (sz a) c) := (HB3.out.block b5 (by omega)).trans HX.out.2.1
        have n3 : Boxed X3 b6 3 (.int .i64 (M : Int)) := (HB3.out.block b6 (by omega)).trans HX.out.2.2.1
        have c5 := b53.cell
        have c6 := n3.cell
        have cm := hT3.m.cell
        have r0 := hT3.r.cell
        have r1 := hT3.r.frozen
        have r2 := (box_set hT3.r (.bool true)).cell
        have hK3 : (X3.setCell ⟨w.heap.size + 1 + 1, 0, none⟩ (.bool true)).heap[wd.heap.size]? = some (.deferred (some [])) := (Below.heap_setCell _ _ _ _ (by show wd.heap.size ≠ w.heap.size + 1 + 1; omega)).trans ((HB3.out.block _ (by omega)).trans HX.out.2.2.2)
        have HK3 : Hid _ := hK3
        have HBB : Hid (Below w.heap.size w ((X3.setCell ⟨w.heap.size + 1 + 1, 0, none⟩ (.bool true)).putObj wd.heap.size (.deferred none))) := by
          have hh := hT3.bel.setCell (p := ⟨w.heap.size + 1 + 1, 0, none⟩) (by show w.heap.size ≤ w.heap.size + 1 + 1; omega) (.bool true)
          exact ⟨hh.os, hh.tape, hh.output, by simpa using hh.size, fun b hb => (World.putObj_heap_other (by omega)).trans (hh.block b hb)⟩
        have r3 : ((X3.setCell ⟨w.heap.size + 1 + 1, 0, none⟩ (.bool true)).putObj wd.heap.size (.deferred none)).cell? ⟨w.heap.size + 1 + 1, 0, none⟩ = some (.bool true) := (World.cell?_of_block (a := ⟨w.heap.size + 1 + 1, 0, none⟩) (World.putObj_heap_other (by show w.heap.size + 1 + 1 ≠ wd.heap.size; omega))).trans r2
        clear hT3 b53 n3 hK3
        gi_wp2
        refine ⟨by simp, .inl ⟨_, _, rfl, run_takeDeferred HK3.out, ?_⟩⟩
        exact ⟨.bool true, by simp [results, Tryd.results11, go_sem, r3], rfl, HBB.out⟩
end Go.Proofs.YtlkcadibjmfmcaaDoor

