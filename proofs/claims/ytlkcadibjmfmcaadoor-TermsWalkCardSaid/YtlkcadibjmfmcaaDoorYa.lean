/- Going through a term's parts where a round may turn their texts: the iterator keeps its promise. -/
import Derived.Test.YtlkcadibjmfmcaaDoorI5
namespace Go.Proofs.YtlkcadibjmfmcaaDoor.Y
open Go.RowKit Go.Shelf

attribute [local go_sem] Oper.semAt_some

/-- Below a block all is as it was but for the cells of texts. -/
structure Kp (n₀ : Nat) (W W' : World) : Prop where
  os : W'.os = W.os
  tape : W'.tape = W.tape
  output : W'.output = W.output
  size : W.heap.size ≤ W'.heap.size
  cell : ∀ b q, b < n₀ → q % 4 ≠ 2 → W'.cell? ⟨b, q, none⟩ = W.cell? ⟨b, q, none⟩
theorem Kp.refl (n₀ : Nat) (W : World) : Kp n₀ W W := ⟨rfl, rfl, rfl, Nat.le_refl _, fun _ _ _ _ => rfl⟩
theorem Kp.trans {n₀ : Nat} {X Y Z : World} (h : Kp n₀ X Y) (k : Kp n₀ Y Z) : Kp n₀ X Z := ⟨k.os.trans h.os, k.tape.trans h.tape, k.output.trans h.output, Nat.le_trans h.size k.size, fun b q hb hq => (k.cell b q hb hq).trans (h.cell b q hb hq)⟩
theorem Kp.of_below {n₀ : Nat} {X Y : World} (h : Below n₀ X Y) : Kp n₀ X Y := ⟨h.os, h.tape, h.output, h.size, fun b q hb _ => h.cell (p := ⟨b, q, none⟩) hb⟩
/-- What a round that goes on keeps: what lies below n₀, and the blocks of A. -/
def Keep (n₀ : Nat) (A : Nat → Prop) (W W' : World) : Prop := Kp n₀ W W' ∧ ∀ b, A b → b < W.heap.size → W'.heap[b]? = W.heap[b]?
theorem Keep.trans {n₀ : Nat} {A : Nat → Prop} {X Y Z : World} (h : Keep n₀ A X Y) (k : Keep n₀ A Y Z) : Keep n₀ A X Z :=
  ⟨h.1.trans k.1, fun b hA hb => (k.2 b hA (Nat.lt_of_lt_of_le hb h.1.size)).trans (h.2 b hA hb)⟩
theorem Keep.put {n₀ : Nat} {A : Nat → Prop} {W : World} {l : Nat} (o : Obj) (h0 : n₀ ≤ l) (hA : ¬ A l) : Keep n₀ A W (W.putObj l o) :=
  ⟨⟨rfl, rfl, rfl, by simp, fun b q hb _ => World.cell?_of_block (a := ⟨b, q, none⟩) (World.putObj_heap_other (show b ≠ l by omega))⟩, fun b hb _ => World.putObj_heap_other (fun e => hA (e ▸ hb))⟩
/-- How a round may end. -/
def RPost {α : Type} (B n₀ : Nat) (I : (Nat → Prop) → List α → World → Prop) (Ix : Code → (Nat → Prop) → List α → World → Prop) (A : Nat → Prop) (xs : List α) (W : World) : Exit → Act → World → Prop
  | .normal, _, W' => KeepsFrom B W W' ∧ Keep n₀ A W W' ∧ I A xs W'
  | .ret, _, W' => KeepsFrom B W W' ∧ Ix .ret A xs W'
  | .exit id, _, W' => KeepsFrom B W W' ∧ Ix (.exit id) A xs W'
  | .goto t, _, W' => KeepsFrom B W W' ∧ Ix (.goto t) A xs W'
  | .panic _, _, _ => False
  | .outgrown, _, _ => False
/-- The promise of an iterator that turns blocks of its own alone, in an order that a round is told of. -/
def SeqT {α : Type} (F : Fence) (n : Nat) (P : Program) (g : Nat) (lb : Array Value) (encs : α → Array Value) (n₀ : Nat) (A0 : Nat → Prop) (T : List α → α → Prop) (S Sp : List α → Prop) (N : Nat) (w : World) : Prop :=
  ∀ (l : Nat) (J Jx : (Nat → Prop) → List α → World → Prop) (W : World), Below w.heap.size w W → Stays J → Stays Jx →
    (∀ A pre x W1, J A pre W1 → pre.length < N → T pre x → YieldAt F (n - 1) P l (encs x) W1 fun e W' =>
      (e = .returned (.bool true) ∧ J A (pre ++ [x]) W' ∧ Keep n₀ A W1 W') ∨ (e = .returned (.bool false) ∧ Jx A (pre ++ [x]) W')) →
    J A0 [] W →
    CallsIn F n P g (#[.func (.yield l) #[] #[]] ++ lb) W fun e W' => (∃ v, e = .returned v) ∧ ((∃ A xs, S xs ∧ J A xs W') ∨ (∃ A pre, Sp pre ∧ Jx A pre W'))
theorem range_law_t {α : Type} {F : Fence} {n : Nat} {P : Program} {g : Operand} {ps : Array Tmp} {assign body : Code} {Q : Exit → Act → World → Prop} {a : Act} {w : World}
    (hro : F.round = none) (h1 : 1 ≤ n) {gf : Nat} {lb : Array Value} (hg : a.eval g = .func (.func gf) #[] lb) (hFg : F.fn gf) (eg : ∀ args w, (callFunc gf args).run P w = .ok (.enter gf args) w)
    {encs : α → Array Value} {n₀ : Nat} {A0 : Nat → Prop} {T : List α → α → Prop} {S Sp : List α → Prop} {N : Nat} {w0 : World} (hseq : SeqT F (n - 1) P gf lb encs n₀ A0 T S Sp N w0) (hn0 : n₀ ≤ w.heap.size) (hA0 : ∀ b, A0 b → b < w.heap.size) (hb0 : Below w0.heap.size w0 w) (hps : ∀ x, (encs x).size = ps.size)
    (I : (Nat → Prop) → List α → World → Prop) (Ix : Code → (Nat → Prop) → List α → World → Prop) (hI : Stays I) (hIo : NoMind w.heap.size I) (hIx : ∀ c, Stays (Ix c)) (hIxo : ∀ c, NoMind w.heap.size (Ix c)) (h0 : I A0 [] w) (a₁ : α → Act)
    (hassign : ∀ (l : Nat) (x : α) (W : World) (K : Act → World → Prop), K (a₁ x) W →
      assign.wpIn (F.inRound l) (n - 1 - 1) P (Exit.then K (fun _ _ _ => False)) { tmps := (ps.zip (encs x)).foldl (fun t (p, v) => t.setIfInBounds p v) a.tmps, defers := [] } W)
    (hbody : ∀ (l : Nat) (A : Nat → Prop) (pre : List α) (x : α) (W : World), I A pre W → pre.length < N → T pre x → (∀ b, A b → A0 b ∨ w.heap.size + 2 ≤ b) → body.wpIn (F.inRound l) (n - 1 - 1) P (RPost w.heap.size n₀ I Ix A (pre ++ [x]) W) (a₁ x) W)
    (hdone : ∀ (D : Nat) (A : Nat → Prop) (xs : List α) (W : World), w.heap.size ≤ D → S xs → I A xs W → W.heap[D]? = some (.deferred (some [])) → Q .normal { a with defers := { target := .collected D, args := #[] } :: a.defers } W)
    (hstop : ∀ (D : Nat) (c : Code) (A : Nat → Prop) (pre : List α) (W : World), w.heap.size ≤ D → Sp pre → Ix c A pre W → W.heap[D]? = some (.deferred (some [])) → c.wpIn F n P Q { a with defers := { target := .collected D, args := #[] } :: a.defers } W) :
    (Code.rangeFunc g ps assign body).wpIn F n P Q a w := by
  refine wpIn_rangeFunc fun fn hfn => ?_
  rw [hro]
  obtain ⟨B, hB⟩ : ∃ B, w.heap.size = B := ⟨_, rfl⟩
  obtain ⟨rd, hrd⟩ : ∃ rd : Loop, rd = { state := .ready, pending := none, fn, tmps := a.tmps, params := ps, assign, body, defers := B } := ⟨_, rfl⟩
  obtain ⟨W1, hW1⟩ : ∃ W1, (w.alloc (.deferred (some []))).alloc (.loop rd) = W1 := ⟨_, rfl⟩
  have hs1 : W1.heap.size = B + 2 := by rw [← hW1, ← hB]; simp
  have hB1 : Below w.heap.size w W1 := by rw [← hW1]; exact ((Below.refl _ w).alloc (Nat.le_refl _) _).alloc (by simp) _
  have hl1 : W1.heap[B + 1]? = some (.loop rd) := by
    have := World.alloc_heap_new (w.alloc (.deferred (some []))) (.loop rd)
    rw [hW1] at this; simpa [hB] using this
  have hk1 : W1.heap[B]? = some (.deferred (some [])) := by
    have := World.alloc_heap_new w (.deferred (some []))
    rw [hB] at this
    rw [← hW1]
    exact (Below.heap_alloc _ _ _ (by simp [hB])).trans this
  have he := run_enterLoop_outer (P := P) (w := w) fn a.tmps ps assign body
  rw [hB, ← hrd, hW1] at he
  refine ⟨B + 1, [{ target := .collected B, args := #[] }], W1, { target := .fn (.func gf) lb, args := #[.func (.yield (B + 1)) #[] #[]] }, W1, gf, #[.func (.yield (B + 1)) #[] #[]] ++ lb, W1, he, by simp only [resolve, hg]; simp [go_sem], fun f' hf' => by simp [Target.leads] at hf'; subst hf'; exact hFg, by simp [invoke, go_sem, eg], fun _ => h1, ?_⟩
  have hno : ∀ A : Nat → Prop, (∀ b, A b → A0 b ∨ B + 2 ≤ b) → ¬ A (B + 1) ∧ ¬ A B := fun A hA => ⟨fun h => by
    rcases hA _ h with h | h
    · have := hA0 _ h; omega
    · omega, fun h => by
    rcases hA _ h with h | h
    · have := hA0 _ h; omega
    · omega⟩
  have hst : ∀ {A A' : Nat → Prop} {X Y : World} {o o2 : Obj}, Iter A X Y → Adds A A' X Y → (∀ b, A b → A0 b ∨ B + 2 ≤ b) → X.heap[B + 1]? = some o → X.heap[B]? = some o2 → (∀ b, A' b → A0 b ∨ B + 2 ≤ b) ∧ Y.heap[B + 1]? = some o ∧ Y.heap[B]? = some o2 := by
    intro A A' X Y o o2 hi ha hA ho ho2
    have hlt := (Array.getElem?_eq_some_iff.1 ho).1
    refine ⟨fun b hb => ?_, (hi.keep _ hlt (hno A hA).1).trans ho, (hi.keep _ (by omega) (hno A hA).2).trans ho2⟩
    rcases ha b hb with h | h
    · exact hA b h
    · exact .inr (by omega)
  refine (hseq (B + 1) (fun A s W => I A s W ∧ (∀ b, A b → A0 b ∨ B + 2 ≤ b) ∧ W.heap[B + 1]? = some (.loop rd) ∧ W.heap[B]? = some (.deferred (some [])))
    (fun A s W => ∃ c, Ix c A s W ∧ (∀ b, A b → A0 b ∨ B + 2 ≤ b) ∧ W.heap[B + 1]? = some (.loop { rd with state := .done, pending := some c }) ∧ W.heap[B]? = some (.deferred (some []))) W1 (hb0.trans (hB1.mono hb0.size))
    (fun A A' s X Y hJ hi ha => ⟨hI A A' s X Y hJ.1 hi ha, hst hi ha hJ.2.1 hJ.2.2.1 hJ.2.2.2⟩)
    (fun A A' s X Y ⟨c, hJ⟩ hi ha => ⟨c, hIx c A A' s X Y hJ.1 hi ha, hst hi ha hJ.2.1 hJ.2.2.1 hJ.2.2.2⟩) ?_ ⟨hI _ _ _ _ _ h0 (Iter.of_below hB1) (fun _ h => .inl h), fun _ h => .inl h, hl1, hk1⟩).mono ?_
  · rintro A pre x W ⟨hi, hA, hl, hk⟩ hlen hTx
    have hlt := (Array.getElem?_eq_some_iff.1 hl).1
    have hnA := (hno A hA).1
    have hy := run_yield (P := P) (args := encs x) hl (by rw [hrd]; exact hps x)
    rw [hrd] at hy
    obtain ⟨W2, hW2⟩ : ∃ W2, W.putObj (B + 1) (.loop { rd with state := .busy }) = W2 := ⟨_, rfl⟩
    have hl2 : W2.heap[B + 1]? = some (.loop { rd with state := .busy }) := by rw [← hW2]; exact World.putObj_heap_same hlt
    have hk2 : W2.heap[B]? = some (.deferred (some [])) := by rw [← hW2]; exact (World.putObj_heap_other (by omega)).trans hk
    have hK2 : Keep n₀ A W W2 := by rw [← hW2]; exact Keep.put _ (by omega) hnA
    have hi2 : I A pre W2 := by rw [← hW2]; exact hIo A pre W (B + 1) _ _ hi (by omega) hl rfl
    have hbr := run_beginRound (P := P) hl (by rw [hrd])
    rw [hW2] at hbr
    refine ⟨fn, _, assign, body, hy, roundIn_of_wpIn hfn (hassign _ x W _ ⟨W2, hbr, wpIn_mono (hbody _ A pre x W2 hi2 hlen hTx (by rw [hB]; exact hA)) ?_⟩)⟩
    have hend : ∀ (jump : Option Code) (W3 : World), KeepsFrom w.heap.size W2 W3 → ∃ W4, (Instr.endRound (B + 1) jump).run P W3 = .ok (.bool jump.isNone) W4 ∧ W4 = W3.putObj (B + 1) (.loop { rd with state := if jump.isNone then .ready else .done, pending := jump }) ∧ W3.heap[B + 1]? = some (.loop { rd with state := .busy }) ∧ W4.heap[B + 1]? = some (.loop { rd with state := if jump.isNone then .ready else .done, pending := jump }) ∧ W4.heap[B]? = some (.deferred (some [])) := by
      intro jump W3 h3
      have hl3 := h3.same _ _ (by omega) hl2 rfl
      have hk3 := h3.same _ _ (by omega) hk2 rfl
      exact ⟨_, run_endRound (P := P) jump hl3, rfl, hl3, World.putObj_heap_same (Array.getElem?_eq_some_iff.1 hl3).1, (World.putObj_heap_other (by omega)).trans hk3⟩
    have hstp : ∀ (c : Code) (W3 : World), KeepsFrom w.heap.size W2 W3 → Ix c A (pre ++ [x]) W3 → ∃ W4, (Instr.endRound (B + 1) (some c)).run P W3 = .ok (.bool false) W4 ∧ ∃ c', Ix c' A (pre ++ [x]) W4 ∧ (∀ b, A b → A0 b ∨ B + 2 ≤ b) ∧ W4.heap[B + 1]? = some (.loop { rd with state := .done, pending := some c' }) ∧ W4.heap[B]? = some (.deferred (some [])) := by
      intro c W3 h3 hx
      obtain ⟨W4, hr, rfl, hl3, hl4, hk4⟩ := hend (some c) W3 h3
      exact ⟨_, hr, c, hIxo c A _ W3 (B + 1) _ _ hx (by omega) hl3 rfl, hA, hl4, hk4⟩
    rintro e a3 W3 hp
    cases e with
    | normal =>
      obtain ⟨h3, hK3, hi3⟩ := hp
      obtain ⟨W4, hr, rfl, hl3, hl4, hk4⟩ := hend none W3 h3
      refine ⟨_, _, hr, .inl ⟨rfl, ⟨hIo A _ W3 (B + 1) _ _ hi3 (by omega) hl3 rfl, hA, ?_, hk4⟩, (hK2.trans hK3).trans (Keep.put _ (by omega) hnA)⟩⟩
      rw [hl4, hrd]; rfl
    | ret =>
      obtain ⟨W4, hr, hx⟩ := hstp .ret W3 hp.1 hp.2
      exact ⟨_, _, hr, .inr ⟨rfl, hx⟩⟩
    | exit id =>
      obtain ⟨W4, hr, hx⟩ := hstp (.exit id) W3 hp.1 hp.2
      exact ⟨_, _, hr, .inr ⟨rfl, hx⟩⟩
    | goto t =>
      obtain ⟨W4, hr, hx⟩ := hstp (.goto t) W3 hp.1 hp.2
      exact ⟨_, _, hr, .inr ⟨rfl, hx⟩⟩
    | panic _ => exact hp.elim
    | outgrown => exact hp.elim
  · rintro e W2 ⟨⟨v, rfl⟩, ⟨A, xs, hS, hi, hA, hl, hk⟩ | ⟨A, pre, hSp, c, hx, hA, hl, hk⟩⟩
    · have hr : (Instr.endLoop (B + 1)).run P W2 = .ok none (W2.putObj (B + 1) (.loop { rd with state := .exhausted })) := by
        have := run_endLoop (P := P) hl (by rw [hrd]; simp)
        rw [this, hrd]
      exact ⟨none, _, hr, hdone B A xs _ (by omega) hS (hIo A xs W2 (B + 1) _ _ hi (by omega) hl rfl) ((World.putObj_heap_other (by omega)).trans hk)⟩
    · exact ⟨some c, _, run_endLoop (P := P) hl (by simp), hstop B c A pre _ (by omega) hSp (hIxo c A pre W2 (B + 1) _ _ hx (by omega) hl rfl) ((World.putObj_heap_other (by omega)).trans hk)⟩
/-- Terms in a row at an address below block B, no deeper than f. -/
def MAt (w : World) (B : Nat) : Nat → Option Addr → List Tm → Prop
  | 0, _, l => l = []
  | f + 1, a, l => l.length * 72 ≤ 140737488355328 ∧ ∀ j d, l[j]? = some d → ∃ b o, a = some ⟨b, o, none⟩ ∧ (b < B ∧ o % 4 = 0) ∧ ∃ sa sc, w.cell? ⟨b, o + j * 4, none⟩ = some (.int .i64 d.kind) ∧ w.cell? ⟨b, o + j * 4 + 1, none⟩ = some (.string d.cons) ∧ TxC w B ⟨b, o + j * 4 + 2, none⟩ d.text ∧ w.cell? ⟨b, o + j * 4 + 3, none⟩ = some (.slice sa d.kids.length sc) ∧ d.kids.length ≤ sc ∧ MAt w B f sa d.kids
/-- A term at an address. -/
def TermAt (w : World) (B f b o : Nat) (d : Tm) : Prop := (b < B ∧ o % 4 = 0) ∧ ∃ sa sc, w.cell? ⟨b, o, none⟩ = some (.int .i64 d.kind) ∧ w.cell? ⟨b, o + 1, none⟩ = some (.string d.cons) ∧ TxC w B ⟨b, o + 2, none⟩ d.text ∧ w.cell? ⟨b, o + 3, none⟩ = some (.slice sa d.kids.length sc) ∧ d.kids.length ≤ sc ∧ MAt w B f sa d.kids
theorem MAt.keep {w w' : World} {B : Nat} (hb : Below B w w') : ∀ {f : Nat} {a : Option Addr} {l : List Tm}, MAt w B f a l → MAt w' B f a l
  | 0, _, _, h => h
  | f + 1, a, l, h => by
    refine ⟨h.1, fun j d hj => ?_⟩
    obtain ⟨b, o, e, hlt, sa, sc, c0, c1, c2, c3, hc, hk⟩ := h.2 j d hj
    have k : ∀ q, w'.cell? ⟨b, q, none⟩ = w.cell? ⟨b, q, none⟩ := fun q => hb.cell (p := ⟨b, q, none⟩) hlt.1
    exact ⟨b, o, e, hlt, sa, sc, (k _).trans c0, (k _).trans c1, c2.keep hlt.1 (fun b q hb' => hb.cell (p := ⟨b, q, none⟩) hb'), (k _).trans c3, hc, hk.keep hb⟩
theorem MAt.up {w : World} {B : Nat} : ∀ {f : Nat} {a : Option Addr} {l : List Tm}, MAt w B f a l → MAt w B (f + 1) a l
  | 0, a, l, h => by
    have h' : l = [] := h
    subst h'
    exact ⟨by decide, fun j d hj => by cases hj⟩
  | f + 1, a, l, h => by
    refine ⟨h.1, fun j d hj => ?_⟩
    obtain ⟨b, o, e, hlt, sa, sc, c0, c1, c2, c3, hc, hk⟩ := h.2 j d hj
    exact ⟨b, o, e, hlt, sa, sc, c0, c1, c2, c3, hc, hk.up⟩
theorem TermAt.keep {w w' : World} {B f b o : Nat} {d : Tm} (h : TermAt w B f b o d) (hb : Below B w w') : TermAt w' B f b o d := by
  obtain ⟨hlt, sa, sc, c0, c1, c2, c3, hc, hk⟩ := h
  have k : ∀ q, w'.cell? ⟨b, q, none⟩ = w.cell? ⟨b, q, none⟩ := fun q => hb.cell (p := ⟨b, q, none⟩) hlt.1
  exact ⟨hlt, sa, sc, (k _).trans c0, (k _).trans c1, c2.keep hlt.1 (fun b q hb' => hb.cell (p := ⟨b, q, none⟩) hb'), (k _).trans c3, hc, hk.keep hb⟩
/-- One of a row. -/
theorem MAt.one {w : World} {B f : Nat} {a : Option Addr} {l : List Tm} (h : MAt w B f a l) {j : Nat} {d : Tm} (hj : l[j]? = some d) : ∃ b o, a = some ⟨b, o, none⟩ ∧ TermAt w B f b (o + j * 4) d := by
  match f, h with
  | 0, h =>
    have h' : l = [] := h
    subst h'; cases hj
  | f + 1, h =>
    obtain ⟨b, o, e, hlt, sa, sc, c0, c1, c2, c3, hc, hk⟩ := h.2 j d hj
    exact ⟨b, o, e, ⟨hlt.1, by omega⟩, sa, sc, c0, c1, c2, c3, hc, hk.up⟩
theorem MAt.len {w : World} {B f : Nat} {a : Option Addr} {l : List Tm} (h : MAt w B f a l) : l.length * 72 ≤ 140737488355328 := by
  match f, h with
  | 0, h =>
    have h' : l = [] := h
    subst h'; decide
  | f + 1, h => exact h.1
/-- The row without its first one. -/
theorem MAt.tail {w : World} {B f b o : Nat} {d : Tm} {l : List Tm} (h : MAt w B f (some ⟨b, o, none⟩) (d :: l)) : MAt w B f (some ⟨b, o + 4, none⟩) l := by
  match f, h with
  | 0, h => cases h
  | f + 1, h =>
    refine ⟨by have := h.1; simp at this; omega, fun j x hj => ?_⟩
    obtain ⟨b', o', e, hlt, sa, sc, c0, c1, c2, c3, hc, hk⟩ := h.2 (j + 1) x (by simpa using hj)
    cases e
    have e4 : o + (j + 1) * 4 = o + 4 + j * 4 := by omega
    rw [e4] at c0 c1 c2 c3
    exact ⟨b, o + 4, rfl, ⟨hlt.1, by omega⟩, sa, sc, c0, c1, c2, c3, hc, hk⟩
/-- Where a part has its kids. -/
def kidsAt (W : World) (b o : Nat) : Option Addr := match W.cell? ⟨b, o + 3, none⟩ with | some (.slice sa _ _) => sa | _ => none
def blkA : Option Addr → Nat | some p => p.block | none => 0
def offA : Option Addr → Nat | some p => p.off | none => 0
def nxtA : Option Addr → Option Addr | some p => some ⟨p.block, p.off + 4, none⟩ | none => none
mutual
/-- The parts of a term, and where they lie. -/
def preA (W : World) : Tm → Nat → Nat → Nat → List Px
  | .mk k c t l, b, o, m => ⟨b, o, m, .mk k c t l⟩ :: preLA W l (kidsAt W b o) (m + 1)
def preLA (W : World) : List Tm → Option Addr → Nat → List Px
  | [], _, _ => []
  | d :: l, a, m => preA W d (blkA a) (offA a) m ++ preLA W l (nxtA a) m
end
theorem preA_eq (W : World) (d : Tm) (b o m : Nat) : preA W d b o m = ⟨b, o, m, d⟩ :: preLA W d.kids (kidsAt W b o) (m + 1) := by cases d; rw [preA]; rfl
theorem preLA_cons (W : World) (d : Tm) (l : List Tm) (b o m : Nat) : preLA W (d :: l) (some ⟨b, o, none⟩) m = (⟨b, o, m, d⟩ :: preLA W d.kids (kidsAt W b o) (m + 1)) ++ preLA W l (some ⟨b, o + 4, none⟩) m := by
  rw [preLA, preA_eq]; rfl
theorem preLA_nil (W : World) (a : Option Addr) (m : Nat) : preLA W [] a m = [] := by rw [preLA]
/-- What is still to come, the last row first. -/
def restA (W : World) (R : List (List Tm × Nat)) (As : List (Option Addr)) : List Px := (R.zip As).reverse.flatMap fun p => preLA W p.1.1 p.2 p.1.2
theorem restA_nil (W : World) (As : List (Option Addr)) : restA W [] As = [] := by simp [restA]
theorem restA_snoc (W : World) {R : List (List Tm × Nat)} {As : List (Option Addr)} (h : As.length = R.length) (l : List Tm) (m : Nat) (sa : Option Addr) : restA W (R ++ [(l, m)]) (As ++ [sa]) = preLA W l sa m ++ restA W R As := by
  unfold restA
  rw [List.zip_append h.symm]
  simp
/-- Rows in memory; the terms lie where they lay in W0. -/
structure RS (W0 W : World) (hi n₀ f : Nat) (rv : Value) (rows : List (List Tm × Nat)) (cs : List Value) (As : List (Option Addr)) : Prop where
  al : As.length = rows.length
  row : W.ownsRow hi 86 2 rv rows.length cs
  at' : ∀ j l m, rows[j]? = some (l, m) → ∃ sa sc, As[j]? = some sa ∧ l ≠ [] ∧ MAt W0 n₀ f sa l ∧ l.length ≤ sc ∧ cs[j * 2]? = some (.slice sa l.length sc) ∧ cs[j * 2 + 1]? = some (.int .i64 (m : Int))
theorem RS.nil (W0 W : World) (hi n₀ f : Nat) : RS W0 W hi n₀ f (.slice none 0 0) [] [] [] := ⟨rfl, World.ownsRow_nil _ _ _ _, fun j l m h => by cases h⟩
section
variable {W0 W W' : World} {hi n₀ f : Nat} {rv : Value} {R : List (List Tm × Nat)} {cs : List Value} {As : List (Option Addr)}
theorem RS.move (h : RS W0 W hi n₀ f rv R cs As) (hk : ∀ g, rv.ownBlock = some g → W'.heap[g]? = W.heap[g]?) : RS W0 W' hi n₀ f rv R cs As := by
  refine ⟨h.al, ⟨h.row.1, ?_⟩, h.at'⟩
  rcases h.row.2 with h0 | ⟨g, cap, cur, rfl, hbg, hg, rest⟩
  · exact .inl h0
  · exact .inr ⟨g, cap, cur, rfl, hbg, (hk g rfl).trans hg, rest⟩
theorem RS.push (h : RS W0 W hi n₀ f rv R cs As) {v' : Value} {l : List Tm} {m : Nat} {sa : Option Addr} {sc : Nat} (hl : l ≠ []) (hd : MAt W0 n₀ f sa l) (hc : l.length ≤ sc) (hr : W'.ownsRow hi 86 2 v' (R.length + 1) (cs ++ [.slice sa l.length sc, .int .i64 (m : Int)])) : RS W0 W' hi n₀ f v' (R ++ [(l, m)]) (cs ++ [.slice sa l.length sc, .int .i64 (m : Int)]) (As ++ [sa]) := by
  have hcl := h.row.1
  have hal := h.al
  refine ⟨by simp [hal], by rw [List.length_append]; exact hr, fun j l' m' hj => ?_⟩
  by_cases hlt : j < R.length
  · rw [List.getElem?_append_left hlt] at hj
    obtain ⟨sa', sc', h0, h1, h2, h3, h4, h5⟩ := h.at' j l' m' hj
    exact ⟨sa', sc', by rw [List.getElem?_append_left (by omega)]; exact h0, h1, h2, h3, by rw [List.getElem?_append_left (by omega)]; exact h4, by rw [List.getElem?_append_left (by omega)]; exact h5⟩
  · have := (List.getElem?_eq_some_iff.1 hj).1
    simp at this
    obtain rfl : j = R.length := by omega
    simp at hj
    obtain ⟨rfl, rfl⟩ := hj
    refine ⟨sa, sc, by rw [List.getElem?_append_right (by omega), hal, Nat.sub_self]; rfl, hl, hd, hc, ?_, ?_⟩
    · rw [List.getElem?_append_right (by omega), hcl, Nat.sub_self]; rfl
    · rw [List.getElem?_append_right (by omega), hcl, show R.length * 2 + 1 - R.length * 2 = 1 by omega]; rfl
theorem RS.ne (h : RS W0 W hi n₀ f rv R cs As) : ∀ p ∈ R, p.1 ≠ [] := fun p hp => by
  obtain ⟨j, hj⟩ := List.mem_iff_getElem?.1 hp
  obtain ⟨_, _, _, h1, _⟩ := h.at' j p.1 p.2 hj
  exact h1
/-- The last row, and what comes of it when its first term is taken off. -/
theorem RS.top {l : List Tm} {m : Nat} (h : RS W0 W hi n₀ f rv (R ++ [(l, m)]) cs As) : ∃ g cap b o sc d0 l' As', rv = .slice (some ⟨g, 0, none⟩) (R.length + 1) cap ∧ (As = As' ++ [some ⟨b, o, none⟩] ∧ As'.length = R.length) ∧ hi ≤ g ∧ g < W.heap.size ∧ R.length + 1 ≤ cap ∧ l = d0 :: l' ∧ l'.length + 1 ≤ sc ∧ W.cell? ⟨g, R.length * 2, none⟩ = some (.slice (some ⟨b, o, none⟩) (l'.length + 1) sc) ∧ W.cell? ⟨g, R.length * 2 + 1, none⟩ = some (.int .i64 (m : Int)) ∧ W.frozen? ⟨g, R.length * 2, none⟩ = false ∧ TermAt W0 n₀ f b o d0 ∧ (l'.length + 1) * 72 ≤ 140737488355328 ∧
    ∀ V : World, V.heap[g]? = W.heap[g]? → (∀ u, V.grownBy (V.setCell ⟨g, R.length * 2, none⟩ u) (some g) ∧ ∃ cs', RS W0 (V.setCell ⟨g, R.length * 2, none⟩ u) hi n₀ f (.slice (some ⟨g, 0, none⟩) R.length cap) R cs' As') ∧ (l' ≠ [] → ∃ cs', RS W0 (V.setCell ⟨g, R.length * 2, none⟩ (.slice (some ⟨b, o + 4, none⟩) l'.length (sc - 1))) hi n₀ f (.slice (some ⟨g, 0, none⟩) (R.length + 1) cap) (R ++ [(l', m)]) cs' (As' ++ [some ⟨b, o + 4, none⟩])) := by
  have hr := h.row
  rw [List.length_append] at hr
  have hr' : W.ownsRow hi 86 2 rv (R.length + 1) cs := hr
  obtain ⟨g, cap, rfl, hbg, hg, hcap⟩ := row_at hr' (by omega)
  have hcl : cs.length = (R.length + 1) * 2 := hr'.1
  obtain ⟨sa, sc, q9, hne, hd, hsc, q0, q1⟩ := h.at' R.length l m (by simp)
  have hal := h.al
  rw [List.length_append, List.length_singleton] at hal
  match l, hne with
  | d0 :: l', _ =>
    obtain ⟨b, o, rfl, hdoc⟩ := hd.one (j := 0) (d := d0) rfl
    have k0 := hr'.cellAt (R.length * 2) (by omega)
    have k1 := hr'.cellAt (R.length * 2 + 1) (by omega)
    have hst := fun (V : World) (hV : V.heap[g]? = W.heap[g]?) u => World.ownsRow.stored (w := V) (base := hi) (e := 86) (size := 2) (g := g) (n := R.length + 1) (cap := cap) (xs := cs) (by
      have := (h.move (W' := V) (fun g' hg' => by simp [Value.ownBlock] at hg'; subst hg'; exact hV)).row
      rw [List.length_append] at this; exact this) (R.length * 2) u
    have hdl := hd.len
    obtain ⟨As', hAs, hAl⟩ : ∃ As', As = As' ++ [some ⟨b, o, none⟩] ∧ As'.length = R.length := by
      refine ⟨As.take R.length, ?_, by rw [List.length_take]; omega⟩
      have := List.take_append_drop R.length As
      rw [List.drop_eq_getElem_cons (by omega), List.drop_eq_nil_of_le (by omega)] at this
      rw [List.getElem?_eq_getElem (by omega)] at q9
      rw [Option.some.inj q9] at this
      exact this.symm
    subst hAs
    refine ⟨g, cap, b, o, sc, d0, l', As', rfl, ⟨rfl, hAl⟩, hbg, hg, hcap, rfl, hsc, k0.trans q0, k1.trans q1, hr'.frozenAt _, by simpa using hdoc, hdl, fun V hV => ⟨fun u => ⟨(hst V hV u).2, _, hAl, row_init (hst V hV u).1, fun j lj mj hj => ?_⟩, fun hl' => ⟨_, by simp [hAl], by rw [List.length_append]; exact (hst V hV _).1, fun j lj mj hj => ?_⟩⟩⟩
    · have hlt := (List.getElem?_eq_some_iff.1 hj).1
      obtain ⟨sa', sc', h0, h1, h2, h3, h4, h5⟩ := h.at' j lj mj (by rw [List.getElem?_append_left hlt]; exact hj)
      rw [List.getElem?_append_left (by omega)] at h0
      exact ⟨sa', sc', h0, h1, h2, h3, by rw [List.getElem?_take_of_lt (by omega), List.getElem?_set_ne (by omega)]; exact h4, by rw [List.getElem?_take_of_lt (by omega), List.getElem?_set_ne (by omega)]; exact h5⟩
    · by_cases hlt : j < R.length
      · rw [List.getElem?_append_left hlt] at hj
        obtain ⟨sa', sc', h0, h1, h2, h3, h4, h5⟩ := h.at' j lj mj (by rw [List.getElem?_append_left hlt]; exact hj)
        rw [List.getElem?_append_left (by omega)] at h0
        exact ⟨sa', sc', by rw [List.getElem?_append_left (by omega)]; exact h0, h1, h2, h3, by rw [List.getElem?_set_ne (by omega)]; exact h4, by rw [List.getElem?_set_ne (by omega)]; exact h5⟩
      · have := (List.getElem?_eq_some_iff.1 hj).1
        simp at this
        obtain rfl : j = R.length := by omega
        simp at hj
        obtain ⟨rfl, rfl⟩ := hj
        have hsc' : l'.length + 1 ≤ sc := hsc
        refine ⟨some ⟨b, o + 4, none⟩, sc - 1, by rw [List.getElem?_append_right (by omega), hAl, Nat.sub_self]; rfl, hl', hd.tail, by omega, ?_, ?_⟩
        · rw [List.getElem?_set_self (by omega)]
        · rw [List.getElem?_set_ne (by omega)]; exact q1
end
/-- Parts as they are told: they lie where it is said. -/
def Told (w : World) (n₀ f : Nat) (xs : List Px) : Prop := ∀ x ∈ xs, TermAt w n₀ f x.b x.o x.doc

/-- What is so when the next part is told: k parts are still to come. -/
structure PI (W : World) (n₀ f B2 : Nat) (A0 : Nat → Prop) (d : Tm) (b0 o0 : Nat) (J : (Nat → Prop) → List Px → World → Prop) (A : Nat → Prop) (xs : List Px) (x : Px) (R : List (List Tm × Nat)) (cs : List Value) (As : List (Option Addr)) (k : Nat) (rv : Value) (wr : World) : Prop where
  j : J A xs wr
  a2 : A B2
  ao : ∀ g, rv.ownBlock = some g → A g
  al : ∀ b, A b → b < wr.heap.size
  bel : Kp n₀ W wr
  c2 : wr.cell? ⟨B2, 0, none⟩ = some (.func (.func 36) #[] #[])
  rs : RS W wr W.heap.size n₀ f rv R cs As
  told : Told W n₀ f (xs ++ [x])
  eq : xs.map Px.say ++ ((x.doc, x.deep) :: preL x.doc.kids (x.deep + 1)) ++ restR R = pre d 1
  ea : xs ++ (x :: preLA W x.doc.kids (kidsAt W x.b x.o) (x.deep + 1)) ++ restA W R As = preA W d b0 o0 1
  dx : x.deep ≤ xs.length + 1
  dr : ∀ p ∈ R, p.2 ≤ xs.length + 1
  rest : (preL x.doc.kids (x.deep + 1) ++ restR R).length = k

def PE (W : World) (n₀ f B2 : Nat) (A0 : Nat → Prop) (d : Tm) (b0 o0 : Nat) (J : (Nat → Prop) → List Px → World → Prop) (rv pv dv : Value) (wr : World) (k : Nat) : Prop :=
  ∃ A xs x R cs As, pv = .pointer (some ⟨(x : Px).b, x.o, none⟩) ∧ dv = .int .i64 (x.deep : Int) ∧ PI W n₀ f B2 A0 d b0 o0 J A xs x R cs As k rv wr
theorem PI.next {W : World} {n₀ f B2 : Nat} {A0 : Nat → Prop} {d : Tm} {b0 o0 : Nat} {J : (Nat → Prop) → List Px → World → Prop} {A : Nat → Prop} {xs : List Px} {x : Px} {R : List (List Tm × Nat)} {cs : List Value} {As : List (Option Addr)} {rv : Value} {w' V V5 : World} {g : Nat}
    (hJ : Stays J) (hj : J A xs w') (a2 : A B2) (ag : A g) (al : ∀ b, A b → b < w'.heap.size) (hbel : Kp n₀ W w') (hn₀ : n₀ ≤ W.heap.size) (hB2 : B2 < W.heap.size) (hgi : W.heap.size ≤ g) (c2 : w'.cell? ⟨B2, 0, none⟩ = some (.func (.func 36) #[] #[]))
    (hg1 : w'.grownBy V none) (hg2 : V.grownBy V5 (some g)) (hrs : RS W V5 W.heap.size n₀ f rv R cs As) (hown : rv.ownBlock = some g) (told : Told W n₀ f (xs ++ [x])) (heq : xs.map Px.say ++ ((x.doc, x.deep) :: preL x.doc.kids (x.deep + 1)) ++ restR R = pre d 1) (hea : xs ++ (x :: preLA W x.doc.kids (kidsAt W x.b x.o) (x.deep + 1)) ++ restA W R As = preA W d b0 o0 1) (dx : x.deep ≤ xs.length + 1) (dr : ∀ p ∈ R, p.2 ≤ xs.length + 1) :
    PE W n₀ f B2 A0 d b0 o0 J rv (.pointer (some ⟨x.b, x.o, none⟩)) (.int .i64 (x.deep : Int)) V5 (preL x.doc.kids (x.deep + 1) ++ restR R).length := by
  have s1 := hg1.size
  have s2 := hg2.size
  have hbs := hbel.size
  have hi : Iter A w' V5 := ⟨hg2.os.trans hg1.os, hg2.tape.trans hg1.tape, hg2.output.trans hg1.output, by omega, fun b hb hA => (hg2.block b (by omega) (fun e => by cases e; exact hA ag)).trans (hg1.block b hb (by simp))⟩
  refine ⟨A, xs, x, R, cs, As, rfl, rfl, ⟨hJ A A xs w' V5 hj hi (fun b hb => .inl hb), a2, fun g' hg' => ?_, fun b hb => by have := al b hb; omega, ⟨hi.os.trans hbel.os, hi.tape.trans hbel.tape, hi.output.trans hbel.output, by omega, fun b q hb hq => ?_⟩, ?_, hrs, told, heq, hea, dx, dr, rfl⟩⟩
  · rw [hown] at hg'; cases hg'; exact ag
  · exact (World.cell?_of_block (a := ⟨b, q, none⟩) ((hg2.block b (by omega) (fun e => by cases e; omega)).trans (hg1.block b (by omega) (by simp)))).trans (hbel.cell b q hb hq)
  · exact (World.cell?_of_block (a := ⟨B2, 0, none⟩) ((hg2.block B2 (by omega) (fun e => by cases e; omega)).trans (hg1.block B2 (by omega) (by simp)))).trans c2
set_option maxRecDepth 100000 in
set_option maxHeartbeats 4000000 in
theorem parts1_in (n : Nat) (hn : 1 ≤ n) (l B1 B2 n₀ f b0 o0 : Nat) (d : Tm) (A0 : Nat → Prop) (J Jx : (Nat → Prop) → List Px → World → Prop) (W : World) (hn₀ : n₀ ≤ W.heap.size) (hJ : Stays J) (hd : TermAt W n₀ f b0 o0 d) (hlen : (pre d 1).length ≤ 1000000000000)
    (hA2 : A0 B2) (hlt : ∀ b, A0 b → b < W.heap.size)
    (hY : ∀ A ps x W1, J A ps W1 → ps.length < 1000000000000 → TermAt W n₀ f x.b x.o x.doc → (∃ r, ps.map Px.say ++ x.say :: r = pre d 1) → (∃ r, ps ++ x :: r = preA W d b0 o0 1) → YieldAt Fence.wide (n - 1) Tryd.prog l (Px.enc x) W1 fun e W' =>
      (e = .returned (.bool true) ∧ J A (ps ++ [x]) W' ∧ Keep n₀ A W1 W') ∨ (e = .returned (.bool false) ∧ Jx A (ps ++ [x]) W'))
    (c1 : W.cell? ⟨B1, 0, none⟩ = some (.pointer (some ⟨b0, o0, none⟩))) (c2 : W.cell? ⟨B2, 0, none⟩ = some (.func (.func 36) #[] #[])) (h0 : J A0 [] W) :
    CallsIn Fence.wide n Tryd.prog 56 #[.func (.yield l) #[] #[], .pointer (some ⟨B1, 0, none⟩), .pointer (some ⟨B2, 0, none⟩)] W fun e W' => (∃ v, e = .returned v) ∧
      ((∃ A xs, (xs.map Px.say = pre d 1 ∧ Told W n₀ f xs ∧ xs = preA W d b0 o0 1) ∧ J A xs W') ∨ (∃ A xs, ((∃ r, xs.map Px.say ++ r = pre d 1) ∧ Told W n₀ f xs) ∧ Jx A xs W')) := by
  obtain ⟨i0, hi0, hz0, hz1, hz2⟩ := info_parts infoRow
  refine callsIn_of_wp Tryd.func56 rfl trivial ?_ rfl
  simp only [Tryd.ntmps56, List.size_toArray, List.length_cons, List.length_nil, Nat.reduceAdd, Nat.reduceSub, Array.replicate_succ, Array.replicate_zero, List.push_toArray, List.append_toArray, List.nil_append, List.cons_append]
  gi_wp2
  gi_loopw [4, 5, 6] (fun rv pv dv wr => ∃ k, PE W n₀ f B2 A0 d b0 o0 J rv pv dv wr k) (fun rv pv dv wr => least (PE W n₀ f B2 A0 d b0 o0 J rv pv dv wr))
  case atStart =>
    refine ⟨_, A0, [], ⟨b0, o0, 1, d⟩, [], [], [], rfl, rfl, ⟨h0, hA2, fun g hg => (by cases hg), hlt, Kp.refl _ _, c2, RS.nil _ _ _ _ _, fun y hy => ?_, ?_, ?_, (by simp), fun p hp => (by cases hp), rfl⟩⟩
    · simp at hy; subst hy; exact hd
    · rw [restR_nil]; simp [pre_eq]
    · rw [restA_nil, preA_eq]; simp
  case round =>
    obtain ⟨k1, hk1⟩ := hrel
    obtain ⟨A, xs, x, R, cs, As, rfl, rfl, hP⟩ := least_spec hk1
    clear hk1
    generalize hkk : least (PE W n₀ f B2 A0 d b0 o0 J _ _ _ _) = k at hP
    have HKK : Hid _ := hkk
    clear hkk
    have hB2 := hlt B2 hA2
    have hxl : xs.length < 1000000000000 := by
      have := congrArg List.length hP.eq
      simp at this
      omega
    obtain ⟨fn, tmps, assign, body, hy0, hR⟩ := hY A xs x wr hP.j hxl (hP.told x (by simp)) ⟨preL x.doc.kids (x.deep + 1) ++ restR R, by rw [← hP.eq]; simp [Px.say]⟩ ⟨preLA W x.doc.kids (kidsAt W x.b x.o) (x.deep + 1) ++ restA W R As, by rw [← hP.ea]; simp⟩
    have hy : (Instr.yield l #[.pointer (some ⟨x.b, x.o, none⟩), .int .i64 (x.deep : Int)]).run Tryd.prog wr = .ok (.round l fn tmps assign body) wr := hy0
    clear hy0
    gi_wp2
    refine hR.mono ?_
    rintro e W3 (⟨rfl, hJ3, hK3⟩ | ⟨rfl, hJx3⟩)
    · have hB3 : Kp n₀ W W3 := hP.bel.trans hK3.1
      have c23 : W3.cell? ⟨B2, 0, none⟩ = some (.func (.func 36) #[] #[]) := (World.cell?_of_block (a := ⟨B2, 0, none⟩) (hK3.2 B2 hP.a2 (hP.al B2 hP.a2))).trans hP.c2
      have hrs3 := hP.rs.move (fun g hg => hK3.2 g (hP.ao g hg) (hP.al g (hP.ao g hg)))
      have hdW := hP.told x (by simp)
      have HDW : Hid _ := hdW
      obtain ⟨hbx, sa, sc, _, _, _, e3, hsc, hk3⟩ := hdW
      replace e3 := (hB3.cell x.b (x.o + 3) hbx.1 (by omega)).trans e3
      have HO : Hid _ := fun b o w => ofTerm_any b o w
      have hdl := hk3.len
      have hs3 := hB3.size
      have HJ3 : Hid _ := hJ3
      have HT : Hid _ := hP.told
      have HA : Hid (∀ g, (_ : Value).ownBlock = some g → A g) := hP.ao
      have HAl : Hid (∀ b, A b → b < W3.heap.size) := fun b hb => Nat.lt_of_lt_of_le (hP.al b hb) hK3.1.size
      have HA2 : Hid _ := hP.a2
      have heq := hP.eq
      have hea := hP.ea
      have hdx := hP.dx
      have hdr := hP.dr
      have hrst := hP.rest
      clear hP hK3 hR hy hJ3 hY
      by_cases hkids : x.doc.kids = []
      · rw [hkids] at e3 heq hrst hea
        rw [preLA_nil] at hea
        have e3' : W3.cell? ⟨x.b, x.o + 3, none⟩ = some (.slice sa 0 sc) := e3
        clear e3 hkids hsc hk3 hdl
        rcases List.eq_nil_or_concat R with rfl | ⟨R2, ⟨l, m⟩, hRR⟩
        · obtain ⟨a4, c4, rfl⟩ := row_slice hrs3.row
          have hall : (xs ++ [x]).map Px.say = pre d 1 := by rw [← heq]; simp [Px.say, preL, restR_nil]
          have halA : xs ++ [x] = preA W d b0 o0 1 := by rw [← hea, restA_nil]; simp
          clear hrs3 heq hrst hdr hea
          gi_wp2_with (refine ⟨trivial, ?_⟩; gi_at_call 36; refine (callsIn_wide.2 (HO.out _ _ _)).mono ?_; rintro e w' ⟨rfl, rfl⟩)
          first | go_end0 | refine bodyPost_ret (results_none rfl _ _ _) rfl ?_
          exact ⟨⟨_, rfl⟩, .inl ⟨A, xs ++ [x], ⟨hall, HT.out, halA⟩, HJ3.out⟩⟩
        · rw [List.concat_eq_append] at hRR
          subst hRR
          have hrs := hrs3
          have HJ' : Hid (J A (xs ++ [x]) W3) := HJ3.out
          have HA' := HA
          have HAl' := HAl
          have HA2' := HA2
          have heq' : (xs.map Px.say ++ [(x.doc, x.deep)]) ++ (preL l m ++ restR R2) = pre d 1 := by rw [← heq, restR_snoc]; simp [preL]
          have hrst' : (preL l m ++ restR R2).length = k := by rw [← hrst, restR_snoc]; simp [preL]
          have hRl : R2.length + 1 ≤ 1000000000000 := by
            have h1 := restR_len _ hrs.ne
            have h2 := congrArg List.length heq
            simp at h1 h2
            omega
          have hm : m ≤ xs.length + 2 := by have := hdr (l, m) (by simp); omega
          have hdr' : ∀ p ∈ R2, p.2 ≤ xs.length + 2 := fun p hp => by have := hdr p (by simp [hp]); omega
          clear hrs3 heq hrst hdr HJ3 HA HAl HA2
          obtain ⟨g, cap, b, o, sc2, d0, l', As2, hrv, ⟨hAs, hAl2⟩, hgi, hgs, hcap, rfl, hsc2, t0, t1, tf, hdoc, hl56, hnab⟩ := hrs.top
          subst hrv
          have HEA : Hid ((xs ++ [x]) ++ (preLA W (d0 :: l') (some ⟨b, o, none⟩) m ++ restA W R2 As2) = preA W d b0 o0 1) := by show _ = _; rw [← hea, hAs, restA_snoc W hAl2]; try simp
          have HAL : Hid _ := hAl2
          clear hea hAs hAl2
          have HG : Hid _ := HA'.out g rfl
          have hsb : IntKind.i64.wrap (((R2.length + 1 : Nat) : Int) - 1) = (R2.length : Int) := by rw [IntKind.wrap_i64]; omega
          have hR2 : (R2.length : Int) < ((R2.length + 1 : Nat) : Int) := by omega
          have HNn : Hid _ := fun nq => hnab (W3.drewN nq) rfl
          have HTo : Hid (Told W n₀ f ((xs ++ [x]) ++ [⟨b, o, m, d0⟩])) := fun y hy => by
            rcases List.mem_append.1 hy with h | h
            · exact HT.out y h
            · simp at h; subst h; exact hdoc
          have hz9 : (((R2.length : Int) + 1) == 0) = false := by simp; omega
          clear hnab hdoc hrs HT
          gi_wp2_with (refine ⟨trivial, ?_⟩; gi_at_call 36; refine (callsIn_wide.2 (HO.out _ _ _)).mono ?_; rintro e w' ⟨rfl, rfl⟩)
          gi_quiet (fail)
          obtain ⟨V, hV⟩ : ∃ V, w'.drewN nq = V := ⟨_, rfl⟩
          have v0 : V.cell? ⟨g, R2.length * 2, none⟩ = some (.slice (some ⟨b, o, none⟩) (l'.length + 1) sc2) := by rw [← hV]; exact t0
          have vf : V.frozen? ⟨g, R2.length * 2, none⟩ = false := by rw [← hV]; exact tf
          have HV : Hid (w'.grownBy V none) := by rw [← hV]; exact ⟨rfl, rfl, rfl, Nat.le_refl _, fun _ _ _ => rfl⟩
          have HN1 : Hid (∀ u, V.grownBy (V.setCell ⟨g, R2.length * 2, none⟩ u) (some g) ∧ ∃ cs', RS W (V.setCell ⟨g, R2.length * 2, none⟩ u) W.heap.size n₀ f (.slice (some ⟨g, 0, none⟩) R2.length cap) R2 cs' As2) := by rw [← hV]; exact (HNn.out nq).1
          have HN2 : Hid (l' ≠ [] → ∃ cs', RS W (V.setCell ⟨g, R2.length * 2, none⟩ (.slice (some ⟨b, o + 4, none⟩) l'.length (sc2 - 1))) W.heap.size n₀ f (.slice (some ⟨g, 0, none⟩) (R2.length + 1) cap) (R2 ++ [(l', m)]) cs' (As2 ++ [some ⟨b, o + 4, none⟩])) := by rw [← hV]; exact (HNn.out nq).2
          rw [hV]
          clear t0 t1 tf hV HNn
          have hgs' : g < V.heap.size := Nat.lt_of_lt_of_le hgs HV.out.size
          cases l' with
          | nil =>
            gi_wp2
            obtain ⟨hg2, cs', hrs'⟩ := HN1.out (.slice (if sc2 = 1 then some ⟨b, o, none⟩ else some ⟨b, o + 4, none⟩) 0 (sc2 - 1))
            have hfin := PI.next (A0 := A0) (x := ⟨b, o, m, d0⟩) hJ HJ'.out HA2'.out HG.out HAl'.out hB3 hn₀ hB2 hgi c23 HV.out hg2 hrs' rfl HTo.out (by rw [← heq']; simp [preL, pre_eq, Px.say]) (by rw [← HEA.out, preLA_cons, preLA_nil]; simp) (by simp; omega) (fun p hp => by have := hdr' p hp; simp; omega)
            refine ⟨⟨_, hfin⟩, ?_⟩
            rw [HKK.out]
            refine Nat.lt_of_le_of_lt (least_le hfin) ?_
            rw [← hrst']; simp [preL, pre_eq]
          | cons d1 l2 =>
            have hsc1 : ¬ sc2 = 1 := by simp at hsc2; omega
            obtain ⟨cs', hrs'⟩ := HN2.out (by simp)
            have hg2 := (HN1.out (.slice (some ⟨b, o + 4, none⟩) (d1 :: l2).length (sc2 - 1))).1
            have hfin := PI.next (A0 := A0) (x := ⟨b, o, m, d0⟩) hJ HJ'.out HA2'.out HG.out HAl'.out hB3 hn₀ hB2 hgi c23 HV.out hg2 hrs' rfl HTo.out (by rw [← heq', restR_snoc]; simp [preL, pre_eq, Px.say]) (by rw [← HEA.out, preLA_cons W d0, restA_snoc W HAL.out]; simp) (by simp; omega) (fun p hp => by
              rcases List.mem_append.1 hp with h | h
              · have := hdr' p h; simp; omega
              · simp at h; subst h; simp; omega)
            have HF : Hid _ := hfin
            clear hfin hg2 hrs'
            gi_wp2
            refine ⟨⟨_, HF.out⟩, ?_⟩
            rw [HKK.out]
            refine Nat.lt_of_le_of_lt (least_le HF.out) ?_
            rw [← hrst', restR_snoc]; simp [preL, pre_eq]
      · have hk0 : 0 < x.doc.kids.length := by
          cases hx : x.doc.kids with
          | nil => exact absurd hx hkids
          | cons _ _ => simp
        have hk0I : ((0 : Int) < (x.doc.kids.length : Int)) := by omega
        have hRl : R.length + 1 ≤ 1000000000000 := by
          have h1 := restR_len _ hrs3.ne
          have h2 := congrArg List.length heq
          have h3 := preL_pos hkids (x.deep + 1)
          simp at h1 h2
          omega
        have hrow := hrs3.row
        have hcells : Hid (∀ (w : World) j u, [Value.slice sa x.doc.kids.length sc, .int .i64 ((x.deep : Int) + 1)][j]? = some u → (w.alloc (.cells #[.slice sa x.doc.kids.length sc, .int .i64 ((x.deep : Int) + 1)] 86)).cell? ((⟨w.heap.size, 0, none⟩ : Addr).add j) = some u) := fun w j u hu => by
          have hadd : (⟨w.heap.size, 0, none⟩ : Addr).add j = ⟨w.heap.size, j, none⟩ := by unfold Addr.add; split <;> simp_all
          rw [hadd, World.cell?_alloc_at _ _ _ _ rfl]; simpa using hu
        gi_wp2_with (first | (refine ⟨trivial, ?_⟩; gi_at_call 36; refine (callsIn_wide.2 (HO.out _ _ _)).mono ?_; rintro e w' ⟨rfl, rfl⟩) | (gi_at_builtin; refine wpListIn_append_own_at _ rfl _ _ 84 rfl W.heap.size 86 i0 _ 2 32 Tryd.underlying84 hi0 hz0 hz1 hz2 rfl (by decide) _ _ _ rfl (hrow.alloc _) ⟨_, 0, none⟩ 1 1 [.slice sa x.doc.kids.length sc, .int .i64 ((x.deep : Int) + 1)] rfl rfl (hcells.out _) (by intro u hu; simp at hu; rcases hu with rfl | rfl <;> rfl) (by unfold maxLen; omega) (by omega) (by simp; omega) ?_))
        intro v' w4 hown hgrow _ hat
        obtain ⟨_, sa', sc', _, _, _, q3, _, hdk⟩ := HDW.out
        have hsa : sa' = sa := by
          have := ((hB3.cell x.b (x.o + 3) hbx.1 (by omega)).trans q3).symm.trans e3
          simpa using (Value.slice.inj (Option.some.inj this)).1
        rw [hsa] at hdk
        have hka : kidsAt W x.b x.o = sa := by unfold kidsAt; rw [q3]; exact hsa
        clear q3 hsa
        have hgr := (World.grownBy_alloc w' (.cells #[.slice sa x.doc.kids.length sc, .int .i64 ((x.deep : Int) + 1)] 86) _).trans hgrow
        have hs4 := hgr.size
        have hrs : RS W w4 W.heap.size n₀ f v' (R ++ [(x.doc.kids, x.deep + 1)]) _ (As ++ [sa]) := hrs3.push (m := x.deep + 1) hkids hdk hsc (by push_cast; exact hown)
        have hnew : ∀ g, v'.ownBlock = some g → A g ∨ (w'.heap.size ≤ g ∧ g < w4.heap.size) := fun g hg => by
          rcases hat with h | h
          · exact .inl (HA.out g (by rw [← h]; exact hg))
          · rw [h] at hg
            simp at hg
            have := hgrow.size
            simp at this
            have hlt4 := (hrs.row.lt g (by rw [h]; simp [hg])).2
            exact .inr ⟨by omega, hlt4⟩
        have hit : Iter A w' w4 := Iter.of_grown hgr (fun b hb => HA.out b hb)
        obtain ⟨A', hA'⟩ : ∃ A' : Nat → Prop, A' = fun b => b = B2 ∨ v'.ownBlock = some b := ⟨_, rfl⟩
        have HJ' : Hid (J A' (xs ++ [x]) w4) := hJ A A' _ _ _ HJ3.out hit (fun b hb => by
          rw [hA'] at hb
          rcases hb with rfl | hb
          · exact .inl HA2.out
          · exact hnew b hb)
        have HA' : Hid (∀ g, v'.ownBlock = some g → A' g) := fun g hg => by rw [hA']; exact .inr hg
        have HA2' : Hid (A' B2) := by show A' B2; rw [hA']; exact .inl rfl
        have HAl' : Hid (∀ b, A' b → b < w4.heap.size) := fun b hb => by
          rw [hA'] at hb
          rcases hb with rfl | hb
          · have := HAl.out _ HA2.out; omega
          · exact (hrs.row.lt b hb).2
        have hlo : ∀ g, (_ : Value).ownBlock = some g → W.heap.size ≤ g := fun g hg => (hrs3.row.lt g hg).1
        have hB4 : Kp n₀ W w4 := ⟨hgr.os.trans hB3.os, hgr.tape.trans hB3.tape, hgr.output.trans hB3.output, by omega, fun b q hb hq => (World.cell?_of_block (a := ⟨b, q, none⟩) (hgr.block b (by omega) (fun e => by have := hlo b e.symm; omega))).trans (hB3.cell b q hb hq)⟩
        have c24 : w4.cell? ⟨B2, 0, none⟩ = some (.func (.func 36) #[] #[]) := (World.cell?_of_block (a := ⟨B2, 0, none⟩) (hgr.block B2 (by omega) (fun e => by have := hlo B2 e.symm; omega))).trans c23
        obtain ⟨R2, hR2e⟩ : ∃ R2, R = R2 := ⟨_, rfl⟩
        obtain ⟨m, hm0⟩ : ∃ m, x.deep + 1 = m := ⟨_, rfl⟩
        obtain ⟨l9, hl9⟩ : ∃ l9, x.doc.kids = l9 := ⟨_, rfl⟩
        have heq' : (xs.map Px.say ++ [(x.doc, x.deep)]) ++ (preL x.doc.kids m ++ restR R2) = pre d 1 := by rw [← heq, ← hm0, ← hR2e]; simp
        have hrst' : (preL x.doc.kids m ++ restR R2).length = k := by rw [← hrst, ← hm0, ← hR2e]
        have hea' : (xs ++ [x]) ++ (preLA W x.doc.kids sa m ++ restA W R2 As) = preA W d b0 o0 1 := by rw [← hea, hka, ← hm0, ← hR2e]; simp
        have HAL0 : Hid _ := hrs3.al
        have hm : m ≤ xs.length + 2 := by omega
        have hdr' : ∀ p ∈ R2, p.2 ≤ xs.length + 2 := fun p hp => by have := hdr p (by rw [hR2e]; exact hp); omega
        rw [hm0, hR2e] at hrs
        rw [hR2e] at hRl
        rw [hR2e] at HAL0
        clear hea hka hrs3 heq hrst hdr HJ3 HA HAl HA2 hown hgrow hat hgr hnew hit hA' hlo hB3 c23 e3 hk3 hrow hcells hR2e HDW hdk
        rw [hl9] at hrs heq' hrst' hea'
        obtain ⟨g, cap, b, o, sc2, d0, l', As2, hrv, ⟨hAs, hAl2⟩, hgi, hgs, hcap, hl9', hsc2, t0, t1, tf, hdoc, hl56, hnab⟩ := hrs.top
        subst hrv
        rw [hl9'] at heq' hrst' hea'
        obtain ⟨hAe, hsae⟩ := List.append_inj hAs (by rw [hAl2]; exact HAL0.out)
        have HEA : Hid ((xs ++ [x]) ++ (preLA W (d0 :: l') (some ⟨b, o, none⟩) m ++ restA W R2 As2) = preA W d b0 o0 1) := by show _ = _; rw [← hAe, ← (List.cons.inj hsae).1]; exact hea'
        have HAL : Hid _ := hAl2
        clear hea' hAs hAl2 hAe hsae
        clear hl9' hl9
        have HG : Hid _ := HA'.out g rfl
        have hsb : IntKind.i64.wrap (((R2.length + 1 : Nat) : Int) - 1) = (R2.length : Int) := by rw [IntKind.wrap_i64]; omega
        have hR2 : (R2.length : Int) < ((R2.length + 1 : Nat) : Int) := by omega
        have HNn : Hid _ := fun nq => hnab (w4.drewN nq) rfl
        have HTo : Hid (Told W n₀ f ((xs ++ [x]) ++ [⟨b, o, m, d0⟩])) := fun y hy => by
          rcases List.mem_append.1 hy with h | h
          · exact HT.out y h
          · simp at h; subst h; exact hdoc
        have hz9 : (((R2.length : Int) + 1) == 0) = false := by simp; omega
        clear hnab hdoc hrs HT
        gi_wp2
        gi_quiet (fail)
        obtain ⟨V, hV⟩ : ∃ V, w4.drewN nq = V := ⟨_, rfl⟩
        have v0 : V.cell? ⟨g, R2.length * 2, none⟩ = some (.slice (some ⟨b, o, none⟩) (l'.length + 1) sc2) := by rw [← hV]; exact t0
        have vf : V.frozen? ⟨g, R2.length * 2, none⟩ = false := by rw [← hV]; exact tf
        have HV : Hid (w4.grownBy V none) := by rw [← hV]; exact ⟨rfl, rfl, rfl, Nat.le_refl _, fun _ _ _ => rfl⟩
        have HN1 : Hid (∀ u, V.grownBy (V.setCell ⟨g, R2.length * 2, none⟩ u) (some g) ∧ ∃ cs', RS W (V.setCell ⟨g, R2.length * 2, none⟩ u) W.heap.size n₀ f (.slice (some ⟨g, 0, none⟩) R2.length cap) R2 cs' As2) := by rw [← hV]; exact (HNn.out nq).1
        have HN2 : Hid (l' ≠ [] → ∃ cs', RS W (V.setCell ⟨g, R2.length * 2, none⟩ (.slice (some ⟨b, o + 4, none⟩) l'.length (sc2 - 1))) W.heap.size n₀ f (.slice (some ⟨g, 0, none⟩) (R2.length + 1) cap) (R2 ++ [(l', m)]) cs' (As2 ++ [some ⟨b, o + 4, none⟩])) := by rw [← hV]; exact (HNn.out nq).2
        rw [hV]
        clear t0 t1 tf hV HNn
        have hgs' : g < V.heap.size := Nat.lt_of_lt_of_le hgs HV.out.size
        cases l' with
        | nil =>
          gi_wp2
          obtain ⟨hg2, cs', hrs'⟩ := HN1.out (.slice (if sc2 = 1 then some ⟨b, o, none⟩ else some ⟨b, o + 4, none⟩) 0 (sc2 - 1))
          have hfin := PI.next (A0 := A0) (x := ⟨b, o, m, d0⟩) hJ HJ'.out HA2'.out HG.out HAl'.out hB4 hn₀ hB2 hgi c24 HV.out hg2 hrs' rfl HTo.out (by rw [← heq']; simp [preL, pre_eq, Px.say]) (by rw [← HEA.out, preLA_cons, preLA_nil]; simp) (by simp; omega) (fun p hp => by have := hdr' p hp; simp; omega)
          refine ⟨⟨_, hfin⟩, ?_⟩
          rw [HKK.out]
          refine Nat.lt_of_le_of_lt (least_le hfin) ?_
          rw [← hrst']; simp [preL, pre_eq]
        | cons d1 l2 =>
          have hsc1 : ¬ sc2 = 1 := by simp at hsc2; omega
          obtain ⟨cs', hrs'⟩ := HN2.out (by simp)
          have hg2 := (HN1.out (.slice (some ⟨b, o + 4, none⟩) (d1 :: l2).length (sc2 - 1))).1
          have hfin := PI.next (A0 := A0) (x := ⟨b, o, m, d0⟩) hJ HJ'.out HA2'.out HG.out HAl'.out hB4 hn₀ hB2 hgi c24 HV.out hg2 hrs' rfl HTo.out (by rw [← heq', restR_snoc]; simp [preL, pre_eq, Px.say]) (by rw [← HEA.out, preLA_cons W d0, restA_snoc W HAL.out]; simp) (by simp; omega) (fun p hp => by
            rcases List.mem_append.1 hp with h | h
            · have := hdr' p h; simp; omega
            · simp at h; subst h; simp; omega)
          have HF : Hid _ := hfin
          clear hfin hg2 hrs'
          gi_wp2
          refine ⟨⟨_, HF.out⟩, ?_⟩
          rw [HKK.out]
          refine Nat.lt_of_le_of_lt (least_le HF.out) ?_
          rw [← hrst', restR_snoc]; simp [preL, pre_eq]
    · have HE : Hid (∃ r, (xs ++ [x]).map Px.say ++ r = pre d 1) := ⟨preL x.doc.kids (x.deep + 1) ++ restR R, by rw [← hP.eq]; simp [Px.say]⟩
      have HT : Hid _ := hP.told
      clear hP
      gi_wp2
      go_end0
      exact ⟨⟨_, rfl⟩, .inr ⟨A, xs ++ [x], ⟨HE.out, HT.out⟩, hJx3⟩⟩
theorem MAt.cong {w w' : World} {B : Nat} (hk : ∀ b q, b < B → w'.cell? ⟨b, q, none⟩ = w.cell? ⟨b, q, none⟩) : ∀ {f : Nat} {a : Option Addr} {l : List Tm}, MAt w B f a l → MAt w' B f a l
  | 0, _, _, h => h
  | f + 1, a, l, h => by
    refine ⟨h.1, fun j d hj => ?_⟩
    obtain ⟨b, o, e, hlt, sa, sc, c0, c1, c2, c3, hc, hd⟩ := h.2 j d hj
    exact ⟨b, o, e, hlt, sa, sc, (hk _ _ hlt.1).trans c0, (hk _ _ hlt.1).trans c1, c2.keep hlt.1 hk, (hk _ _ hlt.1).trans c3, hc, hd.cong hk⟩
theorem TermAt.back {w w' : World} {B f b o n₀ : Nat} {d : Tm} (h : TermAt w' B f b o d) (hb : Below n₀ w w') (hB : B ≤ n₀) : TermAt w B f b o d := by
  obtain ⟨hlt, sa, sc, c0, c1, c2, c3, hc, hk⟩ := h
  have k : ∀ b q, b < B → w.cell? ⟨b, q, none⟩ = w'.cell? ⟨b, q, none⟩ := fun b q hb' => (hb.cell (p := ⟨b, q, none⟩) (by show b < _; omega)).symm
  exact ⟨hlt, sa, sc, (k _ _ hlt.1).trans c0, (k _ _ hlt.1).trans c1, c2.keep hlt.1 k, (k _ _ hlt.1).trans c3, hc, hk.cong k⟩
mutual
theorem preA_cell {w W : World} {n₀ : Nat} (hk : ∀ b q, b < n₀ → W.cell? ⟨b, q, none⟩ = w.cell? ⟨b, q, none⟩) : ∀ (d : Tm) {f b o : Nat}, TermAt w n₀ f b o d → ∀ m, preA W d b o m = preA w d b o m
  | .mk k c t l, f, b, o, h, m => by
    obtain ⟨hlt, sa, sc, c0, c1, c2, c3, hc, hd⟩ := h
    have e1 : kidsAt w b o = sa := by unfold kidsAt; rw [c3]
    have e2 : kidsAt W b o = sa := by unfold kidsAt; rw [hk _ _ hlt.1, c3]
    rw [preA, preA, e1, e2, preLA_cell hk l hd (m + 1)]
theorem preLA_cell {w W : World} {n₀ : Nat} (hk : ∀ b q, b < n₀ → W.cell? ⟨b, q, none⟩ = w.cell? ⟨b, q, none⟩) : ∀ (l : List Tm) {f : Nat} {a : Option Addr}, MAt w n₀ f a l → ∀ m, preLA W l a m = preLA w l a m
  | [], f, a, h, m => by rw [preLA, preLA]
  | d :: l, f, a, h, m => by
    obtain ⟨b, o, rfl, hT⟩ := h.one (j := 0) (d := d) rfl
    have e : o + 0 * 4 = o := by omega
    rw [e] at hT
    rw [preLA, preLA]
    show preA W d b o m ++ preLA W l (some ⟨b, o + 4, none⟩) m = preA w d b o m ++ preLA w l (some ⟨b, o + 4, none⟩) m
    rw [preA_cell hk d hT m, preLA_cell hk l h.tail m]
end
theorem preA_cong {w W : World} {n₀ f b o : Nat} {d : Tm} (hW : Below w.heap.size w W) (hn₀ : n₀ ≤ w.heap.size) (hd : TermAt w n₀ f b o d) (m : Nat) : preA W d b o m = preA w d b o m :=
  preA_cell (fun b q hb => hW.cell (p := ⟨b, q, none⟩) (by show b < _; omega)) d hd m
/-- As it is told, and in its order. -/
theorem parts_seq_t (n : Nat) (hn : 1 ≤ n) (B1 B2 n₀ f b0 o0 : Nat) (d : Tm) (w : World) (hn₀ : n₀ ≤ w.heap.size) (hd : TermAt w n₀ f b0 o0 d) (hlen : (pre d 1).length ≤ 1000000000000) (h1 : B1 < w.heap.size) (h2 : B2 < w.heap.size)
    (c1 : w.cell? ⟨B1, 0, none⟩ = some (.pointer (some ⟨b0, o0, none⟩))) (c2 : w.cell? ⟨B2, 0, none⟩ = some (.func (.func 36) #[] #[])) :
    SeqT Fence.wide n Tryd.prog 56 #[.pointer (some ⟨B1, 0, none⟩), .pointer (some ⟨B2, 0, none⟩)] Px.enc n₀ (fun b => b = B1 ∨ b = B2) (fun ps x => TermAt w n₀ f x.b x.o x.doc ∧ (∃ r, ps.map Px.say ++ x.say :: r = pre d 1) ∧ ∃ r, ps ++ x :: r = preA w d b0 o0 1) (fun xs => xs.map Px.say = pre d 1 ∧ Told w n₀ f xs ∧ xs = preA w d b0 o0 1) (fun xs => (∃ r, xs.map Px.say ++ r = pre d 1) ∧ Told w n₀ f xs) 1000000000000 w := by
  intro l J Jx W hW hJ _ hY h0
  have hsz := hW.size
  refine (parts1_in n hn l B1 B2 n₀ f b0 o0 d (fun b => b = B1 ∨ b = B2) J Jx W (by omega) hJ (hd.keep (hW.mono hn₀)) hlen (.inr rfl) (fun b hb => by rcases hb with rfl | rfl <;> omega) (fun A ps x W1 hj hl hx hr hra => hY A ps x W1 hj hl ⟨hx.back hW hn₀, hr, by rw [← preA_cong hW hn₀ hd 1]; exact hra⟩) ((hW.cell (p := ⟨B1, 0, none⟩) h1).trans c1) ((hW.cell (p := ⟨B2, 0, none⟩) h2).trans c2) h0).mono ?_
  rintro e W' ⟨hv, ⟨A, xs, ⟨he, ht, ha⟩, hj⟩ | ⟨A, xs, ⟨he, ht⟩, hj⟩⟩
  · exact ⟨hv, .inl ⟨A, xs, ⟨he, fun x hx => (ht x hx).back hW hn₀, by rw [ha]; exact preA_cong hW hn₀ hd 1⟩, hj⟩⟩
  · exact ⟨hv, .inr ⟨A, xs, ⟨he, fun x hx => (ht x hx).back hW hn₀⟩, hj⟩⟩

end Go.Proofs.YtlkcadibjmfmcaaDoor.Y
