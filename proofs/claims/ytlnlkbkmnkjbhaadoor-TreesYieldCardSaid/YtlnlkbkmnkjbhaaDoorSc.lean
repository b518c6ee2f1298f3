/- What Spans has in memory: a row of spans, a row of numbers, a place, each in a box. -/
import Derived.Test.YtlnlkbkmnkjbhaaDoorSb
namespace Go.Proofs.YtlnlkbkmnkjbhaaDoor
open Go.RowKit Go.Shelf

/-- The blocks of K are as they were. -/
structure Kp (K : Nat → Prop) (X Y : World) : Prop where
  os : Y.os = X.os
  tape : Y.tape = X.tape
  output : Y.output = X.output
  size : X.heap.size ≤ Y.heap.size
  blk : ∀ b, b < X.heap.size → K b → Y.heap[b]? = X.heap[b]?
theorem Kp.refl (K : Nat → Prop) (X : World) : Kp K X X := ⟨rfl, rfl, rfl, Nat.le_refl _, fun _ _ _ => rfl⟩
theorem Kp.trans {K : Nat → Prop} {X Y Z : World} (h : Kp K X Y) (k : Kp K Y Z) : Kp K X Z := ⟨k.os.trans h.os, k.tape.trans h.tape, k.output.trans h.output, Nat.le_trans h.size k.size, fun b hb hK => (k.blk b (Nat.lt_of_lt_of_le hb h.size) hK).trans (h.blk b hb hK)⟩
theorem Kp.set {K : Nat → Prop} (X : World) {b : Nat} (o : Nat) (u : Value) (h : ¬ K b) : Kp K X (X.setCell ⟨b, o, none⟩ u) := ⟨rfl, rfl, rfl, by simp [World.setCell], fun c _ hK => Below.heap_setCell X ⟨b, o, none⟩ u c (fun e => h (by have e' : c = b := e; rw [← e']; exact hK))⟩
theorem Kp.grown {K : Nat → Prop} {X Y : World} {row : Option Nat} (h : X.grownBy Y row) (hr : ∀ b, row = some b → ¬ K b) : Kp K X Y := ⟨h.os, h.tape, h.output, h.size, fun b hb hK => h.block b hb (fun e => hr b e.symm hK)⟩
theorem Kp.alloc (K : Nat → Prop) (X : World) (o : Obj) : Kp K X (X.alloc o) := Kp.grown (World.grownBy_alloc X o none) (fun b e => by cases e)
theorem Kp.drew (K : Nat → Prop) (X : World) : Kp K X X.drew := ⟨rfl, rfl, rfl, Nat.le_refl _, fun _ _ _ => rfl⟩
theorem Kp.cell {K : Nat → Prop} {X Y : World} (h : Kp K X Y) {b : Nat} (hb : b < X.heap.size) (hK : K b) (q : Nat) : Y.cell? ⟨b, q, none⟩ = X.cell? ⟨b, q, none⟩ := World.cell?_of_block (a := ⟨b, q, none⟩) (h.blk b hb hK)
/-- The boxes and what lies in them; s: where the function's own blocks begin. -/
structure SB (s : Nat) (K : Nat → Prop) (L : List (Nat × Nat)) (O : List Nat) (p : Nat) (v u : Value) (X : World) : Prop where
  bl : Boxed X (s + 1) 38 v
  bo : Boxed X (s + 1 + 1) 43 u
  bp : Boxed X (s + 1 + 1 + 1) 3 (.int .i64 (p : Int))
  rl : X.ownsRow (s + 7) 58 2 v L.length (rcs L)
  ro : X.ownsRow (s + 7) 3 1 u O.length (ics O)
  nl : ∀ b, v.ownBlock = some b → ¬ K b
  no : ∀ b, u.ownBlock = some b → ¬ K b
  k1 : ¬ K (s + 1)
  k2 : ¬ K (s + 1 + 1)
  k3 : ¬ K (s + 1 + 1 + 1)
  kl : ∀ b, K b → b < X.heap.size
  sz : s + 7 ≤ X.heap.size
section
variable {s : Nat} {K : Nat → Prop} {L : List (Nat × Nat)} {O : List Nat} {p : Nat} {v u : Value} {X : World}
theorem SB.apart (h : SB s K L O p v u X) {b c : Nat} (hb : v.ownBlock = some b) (hc : u.ownBlock = some c) : b ≠ c := by
  obtain ⟨c1, e1⟩ := row_type h.rl hb
  obtain ⟨c2, e2⟩ := row_type h.ro hc
  rintro rfl
  rw [e1] at e2
  simp at e2
theorem SB.drew (h : SB s K L O p v u X) : SB s K L O p v u X.drew := ⟨h.bl, h.bo, h.bp, h.rl.drew, h.ro.drew, h.nl, h.no, h.k1, h.k2, h.k3, h.kl, h.sz⟩
/-- A span's end is laid. -/
theorem SB.hi (h : SB s K L O p v u X) {o : Nat} (ho : o < L.length) : ∃ g c, v = .slice (some ⟨g, 0, none⟩) L.length c ∧ s + 7 ≤ g ∧ g < X.heap.size ∧ (∃ old : Nat, X.cell? ⟨g, o * 2 + 1, none⟩ = some (.int .i64 (old : Int))) ∧ X.frozen? ⟨g, o * 2 + 1, none⟩ = false ∧
    SB s K (hi1 p L o) O p v u (X.setCell ⟨g, o * 2 + 1, none⟩ (.int .i64 (p : Int))) ∧ Kp K X (X.setCell ⟨g, o * 2 + 1, none⟩ (.int .i64 (p : Int))) := by
  obtain ⟨g, c, rfl, hg, hgs, hc⟩ := row_at h.rl (by omega)
  obtain ⟨r, hr⟩ : ∃ r, L[o]? = some r := ⟨L[o], by simp⟩
  have hc2 := own_cell h.rl (rcs_get hr).2
  have hst := h.rl.stored (o * 2 + 1) (.int .i64 (p : Int))
  have hne : ∀ b, b ≠ g → (X.setCell ⟨g, o * 2 + 1, none⟩ (.int .i64 (p : Int))).heap[b]? = X.heap[b]? := fun b hb => Below.heap_setCell X ⟨g, o * 2 + 1, none⟩ _ b hb
  refine ⟨g, c, rfl, hg, hgs, ⟨r.2, hc2.1⟩, hc2.2, ⟨(hne _ (by omega)).trans h.bl, (hne _ (by omega)).trans h.bo, (hne _ (by omega)).trans h.bp, ?_, row_ab h.ro (fun b hb => hne b (fun e => h.apart rfl hb e.symm)), h.nl, h.no, h.k1, h.k2, h.k3, fun b hb => by have := h.kl b hb; simpa [World.setCell] using this, by have := h.sz; simpa [World.setCell] using this⟩, Kp.set X _ _ (h.nl g rfl)⟩
  rw [hi1_len, ← rcs_set]
  exact hst.1
/-- The last open one is taken off. -/
theorem SB.pop {o : Nat} (h : SB s K L (O ++ [o]) p v u X) : ∃ g c, u = .slice (some ⟨g, 0, none⟩) (O.length + 1) c ∧ s + 7 ≤ g ∧ g < X.heap.size ∧ O.length + 1 ≤ c ∧ X.cell? ⟨g, O.length, none⟩ = some (.int .i64 (o : Int)) ∧
    ∀ {L' : List (Nat × Nat)} {Y : World}, SB s K L' (O ++ [o]) p v u Y → SB s K L' O p v (.slice (some ⟨g, 0, none⟩) O.length c) (Y.setCell ⟨s + 1 + 1, 0, none⟩ (.slice (some ⟨g, 0, none⟩) O.length c)) := by
  have hl : (O ++ [o]).length = O.length + 1 := by simp
  have hro := h.ro
  rw [hl] at hro
  obtain ⟨g, c, rfl, hg, hgs, hc⟩ := row_at hro (by omega)
  have hcl := own_cell hro (ics_get (l := O ++ [o]) (k := O.length) (n := o) (by simp))
  refine ⟨g, c, rfl, hg, hgs, hc, hcl.1, fun {L' Y} h' => ?_⟩
  have hro' := h'.ro
  rw [hl] at hro'
  have hne : ∀ b, b ≠ s + 1 + 1 → (Y.setCell ⟨s + 1 + 1, 0, none⟩ (.slice (some ⟨g, 0, none⟩) O.length c)).heap[b]? = Y.heap[b]? := fun b hb => Below.heap_setCell Y ⟨s + 1 + 1, 0, none⟩ _ b hb
  have hri := row_init hro'
  have e : (ics (O ++ [o])).take (O.length * 1) = ics O := by rw [ics_append, Nat.mul_one]; simp [ics]
  rw [e] at hri
  exact ⟨(hne _ (by omega)).trans h'.bl, box_set h'.bo _, (hne _ (by omega)).trans h'.bp, row_ab h'.rl (fun b hb => hne b (by have := (h'.rl.lt b hb).1; omega)), row_ab hri (fun b hb => hne b (by have := (hri.lt b hb).1; omega)), h'.nl, fun b hb => h'.no b hb, h'.k1, h'.k2, h'.k3, fun b hb => by have := h'.kl b hb; simpa [World.setCell] using this, by have := h'.sz; simpa [World.setCell] using this⟩
/-- A number more is open. -/
theorem SB.pushO (h : SB s K L O p v u X) {q : Nat} {tmp : Obj} {w1 : World} {u' : Value} (hown : w1.ownsRow (s + 7) 3 1 u' (O.length + 1) (ics O ++ [.int .i64 (q : Int)])) (hg : (X.alloc tmp).grownBy w1 u.ownBlock) (hat : u'.ownBlock = u.ownBlock ∨ u'.ownBlock = some (X.alloc tmp).heap.size) :
    Boxed w1 (s + 1 + 1) 43 u ∧ SB s K L (O ++ [q]) p v u' (w1.setCell ⟨s + 1 + 1, 0, none⟩ u') ∧ Kp K X (w1.setCell ⟨s + 1 + 1, 0, none⟩ u') := by
  have hsz := h.sz
  have hs1 : X.heap.size + 1 ≤ w1.heap.size := by have := hg.size; simpa using this
  have lo : ∀ b, u.ownBlock = some b → s + 7 ≤ b := fun b hb => (h.ro.lt b hb).1
  have k1 : ∀ b, b < X.heap.size → u.ownBlock ≠ some b → w1.heap[b]? = X.heap[b]? := fun b hb hne => (hg.block b (by simp; omega) (fun e => hne e.symm)).trans (Below.heap_alloc X _ b hb)
  have hne : ∀ b, b ≠ s + 1 + 1 → (w1.setCell ⟨s + 1 + 1, 0, none⟩ u').heap[b]? = w1.heap[b]? := fun b hb => Below.heap_setCell w1 ⟨s + 1 + 1, 0, none⟩ _ b hb
  have hbo : Boxed w1 (s + 1 + 1) 43 u := (k1 _ (by omega) (fun e => by have := lo _ e; omega)).trans h.bo
  have hss : (w1.setCell ⟨s + 1 + 1, 0, none⟩ u').heap.size = w1.heap.size := by simp [World.setCell]
  have hnk : ∀ b, u.ownBlock = some b → ¬ K b := h.no
  refine ⟨hbo, ⟨(hne _ (by omega)).trans ((k1 _ (by omega) (fun e => by have := lo _ e; omega)).trans h.bl), box_set hbo _, (hne _ (by omega)).trans ((k1 _ (by omega) (fun e => by have := lo _ e; omega)).trans h.bp), row_ab h.rl (fun b hb => (hne b (by have := (h.rl.lt b hb).1; omega)).trans (k1 b (h.rl.lt b hb).2 (fun e => h.apart hb e rfl))), ?_, h.nl, fun b hb hK => ?_, h.k1, h.k2, h.k3, fun b hb => by have := h.kl b hb; omega, by omega⟩, ?_⟩
  · rw [ics_append, List.length_append]
    exact row_ab hown (fun b hb => hne b (by have := (hown.lt b hb).1; omega))
  · rcases hat with e | e
    · exact h.no b (by rw [← e]; exact hb) hK
    · rw [e] at hb
      have := h.kl b hK
      simp at hb
      omega
  · exact ((Kp.alloc K X tmp).trans (Kp.grown hg hnk)).trans (Kp.set w1 _ _ h.k2)
/-- A span more. -/
theorem SB.pushL (h : SB s K L O p v u X) {r : Nat × Nat} {tmp : Obj} {w1 : World} {v' : Value} (hown : w1.ownsRow (s + 7) 58 2 v' (L.length + 1) (rcs L ++ [.int .i64 (r.1 : Int), .int .i64 (r.2 : Int)])) (hg : (X.alloc tmp).grownBy w1 v.ownBlock) (hat : v'.ownBlock = v.ownBlock ∨ v'.ownBlock = some (X.alloc tmp).heap.size) :
    Boxed w1 (s + 1) 38 v ∧ SB s K (L ++ [r]) O p v' u (w1.setCell ⟨s + 1, 0, none⟩ v') ∧ Kp K X (w1.setCell ⟨s + 1, 0, none⟩ v') := by
  have hsz := h.sz
  have hs1 : X.heap.size + 1 ≤ w1.heap.size := by have := hg.size; simpa using this
  have lo : ∀ b, v.ownBlock = some b → s + 7 ≤ b := fun b hb => (h.rl.lt b hb).1
  have k1 : ∀ b, b < X.heap.size → v.ownBlock ≠ some b → w1.heap[b]? = X.heap[b]? := fun b hb hne => (hg.block b (by simp; omega) (fun e => hne e.symm)).trans (Below.heap_alloc X _ b hb)
  have hne : ∀ b, b ≠ s + 1 → (w1.setCell ⟨s + 1, 0, none⟩ v').heap[b]? = w1.heap[b]? := fun b hb => Below.heap_setCell w1 ⟨s + 1, 0, none⟩ _ b hb
  have hbl : Boxed w1 (s + 1) 38 v := (k1 _ (by omega) (fun e => by have := lo _ e; omega)).trans h.bl
  have hss : (w1.setCell ⟨s + 1, 0, none⟩ v').heap.size = w1.heap.size := by simp [World.setCell]
  refine ⟨hbl, ⟨box_set hbl _, (hne _ (by omega)).trans ((k1 _ (by omega) (fun e => by have := lo _ e; omega)).trans h.bo), (hne _ (by omega)).trans ((k1 _ (by omega) (fun e => by have := lo _ e; omega)).trans h.bp), ?_, row_ab h.ro (fun b hb => (hne b (by have := (h.ro.lt b hb).1; omega)).trans (k1 b (h.ro.lt b hb).2 (fun e => h.apart e hb rfl))), fun b hb hK => ?_, h.no, h.k1, h.k2, h.k3, fun b hb => by have := h.kl b hb; omega, by omega⟩, ?_⟩
  · rw [rcs_append, List.length_append]
    exact row_ab hown (fun b hb => hne b (by have := (hown.lt b hb).1; omega))
  · rcases hat with e | e
    · exact h.nl b (by rw [← e]; exact hb) hK
    · rw [e] at hb
      have := h.kl b hK
      simp at hb
      omega
  · exact ((Kp.alloc K X tmp).trans (Kp.grown hg h.nl)).trans (Kp.set w1 _ _ h.k1)
/-- The place goes on. -/
theorem SB.setP (h : SB s K L O p v u X) (q : Nat) : SB s K L O q v u (X.setCell ⟨s + 1 + 1 + 1, 0, none⟩ (.int .i64 (q : Int))) ∧ Kp K X (X.setCell ⟨s + 1 + 1 + 1, 0, none⟩ (.int .i64 (q : Int))) := by
  have hne : ∀ b, b ≠ s + 1 + 1 + 1 → (X.setCell ⟨s + 1 + 1 + 1, 0, none⟩ (.int .i64 (q : Int))).heap[b]? = X.heap[b]? := fun b hb => Below.heap_setCell X ⟨s + 1 + 1 + 1, 0, none⟩ _ b hb
  exact ⟨⟨(hne _ (by omega)).trans h.bl, (hne _ (by omega)).trans h.bo, box_set h.bp _, row_ab h.rl (fun b hb => hne b (by have := (h.rl.lt b hb).1; omega)), row_ab h.ro (fun b hb => hne b (by have := (h.ro.lt b hb).1; omega)), h.nl, h.no, h.k1, h.k2, h.k3, fun b hb => by have := h.kl b hb; simpa [World.setCell] using this, by have := h.sz; simpa [World.setCell] using this⟩, Kp.set X _ _ h.k3⟩
/-- Where other blocks are turned, all stays. -/
theorem SB.kept (h : SB s K L O p v u X) {K' : Nat → Prop} {Y : World} (hs : X.heap.size ≤ Y.heap.size) (h1 : ∀ b, s < b → b ≤ s + 3 → Y.heap[b]? = X.heap[b]?) (hl : ∀ b, v.ownBlock = some b → Y.heap[b]? = X.heap[b]? ∧ ¬ K' b) (ho : ∀ b, u.ownBlock = some b → Y.heap[b]? = X.heap[b]? ∧ ¬ K' b) (k1 : ¬ K' (s + 1)) (k2 : ¬ K' (s + 1 + 1)) (k3 : ¬ K' (s + 1 + 1 + 1)) (kl : ∀ b, K' b → b < Y.heap.size) : SB s K' L O p v u Y :=
  ⟨(h1 _ (by omega) (by omega)).trans h.bl, (h1 _ (by omega) (by omega)).trans h.bo, (h1 _ (by omega) (by omega)).trans h.bp, row_ab h.rl (fun b hb => (hl b hb).1), row_ab h.ro (fun b hb => (ho b hb).1), fun b hb => (hl b hb).2, fun b hb => (ho b hb).2, k1, k2, k3, kl, by have := h.sz; omega⟩
end
end Go.Proofs.YtlnlkbkmnkjbhaaDoor
