/- Which documents are right. -/
import Derived.Test.YtbmejfcbladofaaI4
namespace Go.Proofs.Ytbmejfcbladofaa
open Go.RowKit Go.Shelf

attribute [local go_sem] Oper.semAt_some

theorem DAt.cong {w w' : World} {B : Nat} (hk : ∀ b q, b < B → w'.cell? ⟨b, q, none⟩ = w.cell? ⟨b, q, none⟩) : ∀ {f : Nat} {a : Option Addr} {l : List Dc}, DAt w B f a l → DAt w' B f a l
  | 0, _, _, h => h
  | f + 1, a, l, h => by
    refine ⟨h.1, fun j d hj => ?_⟩
    obtain ⟨b, o, e, hlt, sa, sc, c0, c1, c2, c3, hc, hd⟩ := h.2 j d hj
    exact ⟨b, o, e, hlt, sa, sc, (hk _ _ hlt).trans c0, (hk _ _ hlt).trans c1, (hk _ _ hlt).trans c2, (hk _ _ hlt).trans c3, hc, hd.cong hk⟩
theorem DocAt.back {w w' : World} {B f b o n₀ : Nat} {d : Dc} (h : DocAt w' B f b o d) (hb : Below n₀ w w') (hB : B ≤ n₀) : DocAt w B f b o d := by
  obtain ⟨hlt, sa, sc, c0, c1, c2, c3, hc, hk⟩ := h
  have k : ∀ b q, b < B → w.cell? ⟨b, q, none⟩ = w'.cell? ⟨b, q, none⟩ := fun b q hb' => (hb.cell (p := ⟨b, q, none⟩) (by show b < _; omega)).symm
  exact ⟨hlt, sa, sc, (k _ _ hlt).trans c0, (k _ _ hlt).trans c1, (k _ _ hlt).trans c2, (k _ _ hlt).trans c3, hc, hk.cong k⟩
theorem parts_seq (n : Nat) (hn : 1 ≤ n) (B1 B2 n₀ f b0 o0 : Nat) (d : Dc) (w : World) (hn₀ : n₀ ≤ w.heap.size) (hd : DocAt w n₀ f b0 o0 d) (hlen : (pre d 1).length ≤ 1000000000000) (h1 : B1 < w.heap.size) (h2 : B2 < w.heap.size)
    (c1 : w.cell? ⟨B1, 0, none⟩ = some (.pointer (some ⟨b0, o0, none⟩))) (c2 : w.cell? ⟨B2, 0, none⟩ = some (.func (.func 30) #[] #[])) :
    SeqI Fence.wide n Try.prog 42 #[.pointer (some ⟨B1, 0, none⟩), .pointer (some ⟨B2, 0, none⟩)] Px.enc n₀ (fun b => b = B1 ∨ b = B2) (fun x => DocAt w n₀ f x.b x.o x.doc) (fun xs => xs.map Px.say = pre d 1 ∧ Told w n₀ f xs) (fun xs => (∃ r, xs.map Px.say ++ r = pre d 1) ∧ Told w n₀ f xs) 1000000000000 w := by
  intro l J Jx W hW hJ _ hY h0
  have hsz := hW.size
  refine (parts1_in n hn l B1 B2 n₀ f b0 o0 d (fun b => b = B1 ∨ b = B2) J Jx W (by omega) hJ (hd.keep (hW.mono hn₀)) hlen (.inr rfl) (fun b hb => by rcases hb with rfl | rfl <;> omega) (fun A pre x W1 hj hl hx => hY A pre x W1 hj hl (hx.back hW hn₀)) ((hW.cell (p := ⟨B1, 0, none⟩) h1).trans c1) ((hW.cell (p := ⟨B2, 0, none⟩) h2).trans c2) h0).mono ?_
  rintro e W' ⟨hv, ⟨A, xs, ⟨he, ht⟩, hj⟩ | ⟨A, xs, ⟨he, ht⟩, hj⟩⟩
  · exact ⟨hv, .inl ⟨A, xs, ⟨he, fun x hx => (ht x hx).back hW hn₀⟩, hj⟩⟩
  · exact ⟨hv, .inr ⟨A, xs, ⟨he, fun x hx => (ht x hx).back hW hn₀⟩, hj⟩⟩

/-- A part that may stand where it stands. -/
def okP (p : Dc × Nat) : Bool := decide (p.2 ≤ 200) && okK p.1
/-- Is a document right? -/
def rightD (d : Dc) : Bool := decide ((pre d 1).length ≤ 20000) && (pre d 1).all okP
/-- While one goes through: so many have come, all of them may stand where they stand. -/
structure RI (w wd : World) (A : Nat → Prop) (xs : List Px) (W : World) : Prop where
  cnt : Boxed W (w.heap.size + 1 + 1) 3 (.int .i64 (xs.length : Int))
  res : Boxed W (w.heap.size + 1) 4 (.bool false)
  ab : ∀ b, A b → w.heap.size + 3 ≤ b
  bel : Below (w.heap.size + 1) wd W
  ok : ∀ x ∈ xs, okP x.say = true
  few : xs.length ≤ 20000
/-- One has come that may not. -/
structure RX (w wd : World) (c : Code) (A : Nat → Prop) (xs : List Px) (W : World) : Prop where
  code : c = .ret
  res : Boxed W (w.heap.size + 1) 4 (.bool false)
  ab : ∀ b, A b → w.heap.size + 3 ≤ b
  bel : Below (w.heap.size + 1) wd W
  bad : 20000 < xs.length ∨ ∃ x ∈ xs, okP x.say = false
theorem box_lt {W : World} {B : Nat} {t : TypeId} {v : Value} (h : Boxed W B t v) : B < W.heap.size := (Array.getElem?_eq_some_iff.1 (show W.heap[B]? = _ from h)).1
theorem RI.stays (w wd : World) : Stays (RI w wd) := by
  intro A A' xs X Y h hi ha
  have hl := box_lt h.cnt
  have hlr := box_lt h.res
  have hk : ∀ b, b < w.heap.size + 3 → b < X.heap.size → Y.heap[b]? = X.heap[b]? := fun b hb hx => hi.keep b hx (fun hA => by have := h.ab b hA; omega)
  refine ⟨(hk _ (by omega) hl).trans h.cnt, (hk _ (by omega) hlr).trans h.res, fun b hb => ?_, ⟨hi.os.trans h.bel.os, hi.tape.trans h.bel.tape, hi.output.trans h.bel.output, Nat.le_trans h.bel.size hi.size, fun b hb => (hk b (by omega) (by omega)).trans (h.bel.block b hb)⟩, h.ok, h.few⟩
  rcases ha b hb with h' | h'
  · exact h.ab b h'
  · omega
theorem RX.stays (w wd : World) (c : Code) (hw : w.heap.size + 3 ≤ wd.heap.size) : Stays (RX w wd c) := by
  intro A A' xs X Y h hi ha
  have hlr := box_lt h.res
  have hs := h.bel.size
  have hk : ∀ b, b < w.heap.size + 3 → b < X.heap.size → Y.heap[b]? = X.heap[b]? := fun b hb hx => hi.keep b hx (fun hA => by have := h.ab b hA; omega)
  refine ⟨h.code, (hk _ (by omega) hlr).trans h.res, fun b hb => ?_, ⟨hi.os.trans h.bel.os, hi.tape.trans h.bel.tape, hi.output.trans h.bel.output, Nat.le_trans h.bel.size hi.size, fun b hb => (hk b (by omega) (by omega)).trans (h.bel.block b hb)⟩, h.bad⟩
  rcases ha b hb with h' | h'
  · exact h.ab b h'
  · omega
theorem RI.noMind (w wd : World) {B : Nat} (hB : w.heap.size + 3 ≤ B) : NoMind B (RI w wd) := by
  intro A xs W l o o' h hl _ _
  have hk : ∀ b, b < w.heap.size + 3 → (W.putObj l o').heap[b]? = W.heap[b]? := fun b hb => World.putObj_heap_other (by omega)
  exact ⟨(hk _ (by omega)).trans h.cnt, (hk _ (by omega)).trans h.res, h.ab, ⟨h.bel.os, h.bel.tape, h.bel.output, by simpa using h.bel.size, fun b hb => (hk b (by omega)).trans (h.bel.block b hb)⟩, h.ok, h.few⟩
theorem RX.noMind (w wd : World) (c : Code) {B : Nat} (hB : w.heap.size + 3 ≤ B) : NoMind B (RX w wd c) := by
  intro A xs W l o o' h hl _ _
  have hk : ∀ b, b < w.heap.size + 3 → (W.putObj l o').heap[b]? = W.heap[b]? := fun b hb => World.putObj_heap_other (by omega)
  exact ⟨h.code, (hk _ (by omega)).trans h.res, h.ab, ⟨h.bel.os, h.bel.tape, h.bel.output, by simpa using h.bel.size, fun b hb => (hk b (by omega)).trans (h.bel.block b hb)⟩, h.bad⟩
end Go.Proofs.Ytbmejfcbladofaa
