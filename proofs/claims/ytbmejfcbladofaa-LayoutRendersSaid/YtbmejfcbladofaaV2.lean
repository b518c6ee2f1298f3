/- A page is made. -/
import Derived.Test.YtbmejfcbladofaaV1
import Derived.Stop.RegionWithIn
namespace Go.Proofs.Ytbmejfcbladofaa
open Go.RowKit Go.Shelf

attribute [local go_sem] Oper.semAt_some

theorem info90 : (Try.prog.info? 90).map (fun i => (i.zero, i.size, i.bytes)) = some (some (.agg #[.int .i64 0, .int .i64 0, .int .i64 0]), 3, 24) := by kernel_rfl
theorem listIn_make_full {F : Fence} {n : Nat} {P : Program} (w : World) {ops : Array Oper} {rest : List Oper} {o : Oper} {a : Act} {Q : Exit → Act → World → Prop}
    (hg : o.guard = none) (l c : Operand) (t : TypeId) (hop : o.op = Op.makeSlice t l c)
    (base : Nat) (e : TypeId) (i : TypeInfo) (z : Value) (size : Nat) (h1 : P.underlying t = some (.slice e)) (h2 : P.info? e = some i) (h3 : i.zero = some z) (h4 : i.size = size)
    (kl kc : IntKind) (L C : Int) (m : Nat) (hl : a.eval l = .int kl L) (hc : a.eval c = .int kc C) (hL : L = (m : Int)) (hC : C = (m : Int)) (b2 : i.bytes * m ≤ 281474976710656) (b3 : m ≤ maxLen) (b4 : base ≤ w.heap.size)
    (hK : ∀ w', w'.ownsRow base e size (.slice (some ⟨w.heap.size, 0, none⟩) m m) m (madeCells z.cells (m * size)).toList → w.grownBy w' none → wpListIn F n P ops Q rest (a.put o.dst (.slice (some ⟨w.heap.size, 0, none⟩) m m)) w') :
    wpListIn F n P ops Q (o :: rest) a w := by
  refine wpListIn_plain hg fun K hK' => ?_
  obtain ⟨w', hrun, r1, r2⟩ := run_make_full (P := P) (w := w) base t e i z size h1 h2 h3 h4 kl kc m b2 b3 b4
  subst hL
  subst hC
  unfold Oper.wpIn
  refine ⟨?_, ?_⟩
  · simp [Oper.about, hop]
  · rw [Oper.semAt_plain F _ _ (by rw [hop]; intro c hc'; cases hc')]
    simp [execOp, hop, hl, hc, hrun, Result.andThen]
    exact hK' _ _ (hK w' r1 r2)
theorem back_any (a : Option Addr) (n c : Nat) (w : World) : Calls Try.prog 44 #[.slice a n c] w fun e w' => e = .returned (.func (.func 50) #[] #[.pointer (some ⟨w.heap.size, 0, none⟩)]) ∧ w' = w.alloc (.cells #[.slice a n c] 65) := by
  have hmf : ∀ (fn : Fn) (first cap : Array Value) (w : World), (Instr.makeFunc fn first cap).run Try.prog w = .ok (.func fn first cap) w := fun _ _ _ _ => rfl
  go_enter Try.func44, Try.ntmps44
  go_wp2
  go_ret
  exact ⟨rfl, rfl⟩
theorem from_text (x : ByteArray) (w : World) : (method 232 93 (.string x) "tracery/layout.from").run Try.prog w = .ok (70, .string x) w := by kernel_rfl
theorem from_line (x : ByteArray) (i : Int) (w : World) : (method 232 95 (.agg #[.string x, .int .i64 i]) "tracery/layout.from").run Try.prog w = .ok (74, .agg #[.string x, .int .i64 i]) w := by kernel_rfl
theorem from_hard (i : Int) (w : World) : (method 232 97 (.agg #[.int .i64 i]) "tracery/layout.from").run Try.prog w = .ok (87, .agg #[.int .i64 i]) w := by kernel_rfl
theorem from_group (m : Nat) (w : World) : (method 232 99 (.agg #[.int .i64 (m : Int)]) "tracery/layout.from").run Try.prog w = .ok (90, .agg #[.int .i64 (m : Int)]) w := by kernel_rfl
theorem nila_text (x : ByteArray) (w : World) : (nilAhead 232 93 (.string x) "tracery/layout.from").run Try.prog w = .ok (some false) w := by kernel_rfl
theorem nila_line (x : ByteArray) (i : Int) (w : World) : (nilAhead 232 95 (.agg #[.string x, .int .i64 i]) "tracery/layout.from").run Try.prog w = .ok (some false) w := by kernel_rfl
theorem nila_hard (i : Int) (w : World) : (nilAhead 232 97 (.agg #[.int .i64 i]) "tracery/layout.from").run Try.prog w = .ok (some false) w := by kernel_rfl
theorem nila_group (m : Nat) (w : World) : (nilAhead 232 99 (.agg #[.int .i64 (m : Int)]) "tracery/layout.from").run Try.prog w = .ok (some false) w := by kernel_rfl
/-- While a page is made: what is so from the last things on is told. -/
structure NI (w : World) (l : List Th) (sb fb : Nat) (A : Nat → Prop) (xs : List (Nat × Th)) (W : World) : Prop where
  bx : Boxed W fb 67 (.slice (some ⟨sb, 0, none⟩) (l.length + 1) (l.length + 1))
  row : ∃ cur, W.heap[sb]? = some (.cells cur 90 (0, 0)) ∧ cur.size = (l.length + 1) * 3 ∧ ∀ j, j ≤ l.length → l.length ≤ j + xs.length → cur[j * 3]? = some (.int .i64 ((sr (l.drop j)).b : Int)) ∧ cur[j * 3 + 1]? = some (.int .i64 ((sr (l.drop j)).n : Int)) ∧ cur[j * 3 + 2]? = some (.int .i64 ((sr (l.drop j)).h : Int))
  len : xs.length ≤ l.length
  ab : ∀ b, A b → fb < b
  bel : Below w.heap.size w W
theorem NI.stays (w : World) (l : List Th) (sb fb : Nat) (hs : sb < fb) (hw : w.heap.size ≤ sb) : Stays (NI w l sb fb) := by
  intro A A' xs X Y h hi ha
  have hlf := box_lt h.bx
  have hk : ∀ b, b ≤ fb → Y.heap[b]? = X.heap[b]? := fun b hb => hi.keep b (by omega) (fun hA => by have := h.ab b hA; omega)
  obtain ⟨cur, h1, h2, h3⟩ := h.row
  refine ⟨(hk _ (Nat.le_refl _)).trans h.bx, ⟨cur, (hk _ (by omega)).trans h1, h2, h3⟩, h.len, fun b hb => ?_, ⟨hi.os.trans h.bel.os, hi.tape.trans h.bel.tape, hi.output.trans h.bel.output, Nat.le_trans h.bel.size hi.size, fun b hb => (hk b (by omega)).trans (h.bel.block b hb)⟩⟩
  rcases ha b hb with h' | h'
  · exact h.ab b h'
  · omega
theorem NI.noMind (w wd : World) (l : List Th) (sb fb : Nat) (hs : sb < fb) (hw : w.heap.size ≤ sb) (hd : fb < wd.heap.size) : NoMind wd.heap.size (NI w l sb fb) := by
  intro A xs W q o o' h hq ho _
  have hk : ∀ b, b ≤ fb → (W.putObj q o').heap[b]? = W.heap[b]? := fun b hb => World.putObj_heap_other (by omega)
  obtain ⟨cur, h1, h2, h3⟩ := h.row
  exact ⟨(hk _ (Nat.le_refl _)).trans h.bx, ⟨cur, (hk _ (by omega)).trans h1, h2, h3⟩, h.len, h.ab, ⟨h.bel.os, h.bel.tape, h.bel.output, by simpa using h.bel.size, fun b hb => (hk b (by omega)).trans (h.bel.block b hb)⟩⟩
theorem zero90 (n j : Nat) (h : j < n * 3) : (madeCells #[.int .i64 0, .int .i64 0, .int .i64 0] (n * 3))[j]? = some (.int .i64 0) := by
  simp [madeCells, h]
  have : j % 3 = 0 ∨ j % 3 = 1 ∨ j % 3 = 2 := by omega
  rcases this with h | h | h <;> rw [h] <;> rfl
end Go.Proofs.Ytbmejfcbladofaa
