/- Boxes that stand while a statement makes new ones: plain bookkeeping for the law CharsetAlgebra. -/
import Derived.Test.YtpjnohpjdmgglabA3
namespace Go.Proofs.Ytpjnohpjdmgglab
open Go.RowKit

theorem Tri.two {w W' : World} {s t u : St} (h : Tri w s t u W') : W'.cell? ⟨w.heap.size, 0, none⟩ = some (.int .u64 s.a) ∧ W'.cell? ⟨w.heap.size, 1, none⟩ = some (.int .u64 s.b) ∧ W'.cell? ⟨w.heap.size, 2, none⟩ = some (.int .u64 s.c) ∧ W'.cell? ⟨w.heap.size, 3, none⟩ = some (.int .u64 s.d) ∧ W'.cell? ⟨w.heap.size + 1, 0, none⟩ = some (.int .u64 t.a) ∧ W'.cell? ⟨w.heap.size + 1, 1, none⟩ = some (.int .u64 t.b) ∧ W'.cell? ⟨w.heap.size + 1, 2, none⟩ = some (.int .u64 t.c) ∧ W'.cell? ⟨w.heap.size + 1, 3, none⟩ = some (.int .u64 t.d) := by
  obtain ⟨a0, a1, a2, a3⟩ := h.1.cells
  obtain ⟨b0, b1, b2, b3⟩ := h.2.1.cells
  exact ⟨a0, a1, a2, a3, b0, b1, b2, b3⟩
/-- The arguments' boxes stand, the boxes of ps hold their sets, and those of l are new and empty. -/
structure Hold (w : World) (s t u : St) (ps : List (St × Nat)) (l : List Nat) (W : World) : Prop where
  tri : Tri w s t u W
  box : ∀ p ∈ ps, SBox p.1 p.2 W
  new : ∀ B ∈ l, SBox St.zero B W ∧ w.heap.size + 1 + 1 < B
  ne : ∀ p ∈ ps, ∀ B ∈ l, p.2 ≠ B
  nd : l.Nodup
theorem Hold.drew {w W : World} {s t u : St} {ps : List (St × Nat)} {l : List Nat} (h : Hold w s t u ps l W) : Hold w s t u ps l W.drew := ⟨h.tri.drew, h.box, h.new, h.ne, h.nd⟩
theorem Hold.nx {w W W' : World} {s t u : St} {ps : List (St × Nat)} {l : List Nat} (hb : Below W.heap.size W W') (h : Hold w s t u ps l W) : Hold w s t u ps l W' :=
  ⟨h.tri.nx hb, fun p hp => (h.box p hp).below hb, fun B hB => ⟨(h.new B hB).1.below hb, (h.new B hB).2⟩, h.ne, h.nd⟩
theorem Hold.alloc {w W : World} {s t u : St} {ps : List (St × Nat)} {l : List Nat} (o : Obj) (h : Hold w s t u ps l W) : Hold w s t u ps l (W.alloc o) := h.nx ((Below.refl _ _).alloc (Nat.le_refl _) o)
theorem Hold.allocZ {w W : World} {s t u : St} {ps : List (St × Nat)} {l : List Nat} (h : Hold w s t u ps l W) : Hold w s t u ps (W.heap.size :: l) (W.alloc (.cells #[.int .u64 0, .int .u64 0, .int .u64 0, .int .u64 0] 24)) := by
  have h' := h.alloc (.cells #[.int .u64 0, .int .u64 0, .int .u64 0, .int .u64 0] 24)
  refine ⟨h'.tri, h'.box, ?_, ?_, ?_⟩
  · intro B hB
    rcases List.mem_cons.1 hB with rfl | hB
    · exact ⟨SBox.zero W, h.tri.lt⟩
    · exact h'.new B hB
  · intro p hp B hB
    rcases List.mem_cons.1 hB with rfl | hB
    · exact Nat.ne_of_lt (h.box p hp).lt
    · exact h.ne p hp B hB
  · exact List.nodup_cons.2 ⟨fun hm => Nat.lt_irrefl _ (h.new _ hm).1.lt, h.nd⟩
theorem Hold.allocZD {w W : World} {s t u : St} {ps : List (St × Nat)} {l : List Nat} (h : Hold w s t u ps l W) : Hold w s t u ps (W.heap.size :: l) (W.drew.alloc (.cells #[.int .u64 0, .int .u64 0, .int .u64 0, .int .u64 0] 24)) := h.drew.allocZ
theorem Hold.allocZZ {w W : World} {s t u : St} {ps : List (St × Nat)} {l : List Nat} (h : Hold w s t u ps l W) : Hold w s t u ps ((W.heap.size + 1) :: W.heap.size :: l) ((W.alloc (.cells #[.int .u64 0, .int .u64 0, .int .u64 0, .int .u64 0] 24)).alloc (.cells #[.int .u64 0, .int .u64 0, .int .u64 0, .int .u64 0] 24)) := by
  have := h.allocZ.allocZ
  rwa [World.size_alloc] at this
theorem Hold.allocZZD {w W : World} {s t u : St} {ps : List (St × Nat)} {l : List Nat} (h : Hold w s t u ps l W) : Hold w s t u ps ((W.heap.size + 1) :: W.heap.size :: l) ((W.drew.alloc (.cells #[.int .u64 0, .int .u64 0, .int .u64 0, .int .u64 0] 24)).alloc (.cells #[.int .u64 0, .int .u64 0, .int .u64 0, .int .u64 0] 24)) := h.drew.allocZZ
theorem Hold.fresh {w W : World} {s t u : St} {ps : List (St × Nat)} {l : List Nat} (q : St) (h : Hold w s t u ps l W) : Hold w s t u ((q, W.heap.size) :: ps) l (W.alloc (.cells #[.int .u64 q.a, .int .u64 q.b, .int .u64 q.c, .int .u64 q.d] 24)) := by
  have h' := h.alloc (.cells #[.int .u64 q.a, .int .u64 q.b, .int .u64 q.c, .int .u64 q.d] 24)
  refine ⟨h'.tri, ?_, h'.new, ?_, h.nd⟩
  · intro p hp
    rcases List.mem_cons.1 hp with rfl | hp
    · exact SBox.new q W
    · exact h'.box p hp
  · intro p hp B hB
    rcases List.mem_cons.1 hp with rfl | hp
    · exact (Nat.ne_of_lt (h.new B hB).1.lt).symm
    · exact h.ne p hp B hB
theorem Hold.store {w W : World} {s t u : St} {ps : List (St × Nat)} {l : List Nat} {B : Nat} (q : St) (h : Hold w s t u ps (B :: l) W) : Hold w s t u ((q, B) :: ps) l ((((W.setCell ⟨B, 0, none⟩ (.int .u64 q.a)).setCell ⟨B, 1, none⟩ (.int .u64 q.b)).setCell ⟨B, 2, none⟩ (.int .u64 q.c)).setCell ⟨B, 3, none⟩ (.int .u64 q.d)) := by
  obtain ⟨h1, h2⟩ := h.new B (by simp)
  have hn := List.nodup_cons.1 h.nd
  have ne : ∀ C ∈ l, C ≠ B := fun C hC e => hn.1 (e ▸ hC)
  refine ⟨h.tri.set4 _ _ _ _ h2, ?_, ?_, ?_, hn.2⟩
  · intro p hp
    rcases List.mem_cons.1 hp with rfl | hp
    · exact h1.store q
    · exact (h.box p hp).other4 _ _ _ _ (h.ne p hp B (by simp))
  · intro C hC
    exact ⟨(h.new C (by simp [hC])).1.other4 _ _ _ _ (ne C hC), (h.new C (by simp [hC])).2⟩
  · intro p hp C hC
    rcases List.mem_cons.1 hp with rfl | hp
    · exact (ne C hC).symm
    · exact h.ne p hp C (by simp [hC])
theorem Hold.swap {w W : World} {s t u : St} {ps : List (St × Nat)} {l : List Nat} {B C : Nat} (h : Hold w s t u ps (B :: C :: l) W) : Hold w s t u ps (C :: B :: l) W := by
  refine ⟨h.tri, h.box, fun D hD => h.new D ?_, fun p hp D hD => h.ne p hp D ?_, ?_⟩
  · simp only [List.mem_cons] at hD ⊢; rcases hD with h | h | h <;> simp [h]
  · simp only [List.mem_cons] at hD ⊢; rcases hD with h | h | h <;> simp [h]
  · have := h.nd; simp only [List.nodup_cons, List.mem_cons, not_or] at this ⊢
    exact ⟨⟨fun e => this.1.1 e.symm, this.2.1⟩, this.1.2, this.2.2⟩
theorem Hold.tail {w W : World} {s t u : St} {ps : List (St × Nat)} {l : List Nat} {B : Nat} (h : Hold w s t u ps (B :: l) W) : Hold w s t u ps l W :=
  ⟨h.tri, h.box, fun C hC => h.new C (by simp [hC]), fun p hp C hC => h.ne p hp C (by simp [hC]), (List.nodup_cons.1 h.nd).2⟩
theorem Hold.two {w W' : World} {s t u : St} {ps : List (St × Nat)} {l : List Nat} (h : Hold w s t u ps l W') : W'.cell? ⟨w.heap.size, 0, none⟩ = some (.int .u64 s.a) ∧ W'.cell? ⟨w.heap.size, 1, none⟩ = some (.int .u64 s.b) ∧ W'.cell? ⟨w.heap.size, 2, none⟩ = some (.int .u64 s.c) ∧ W'.cell? ⟨w.heap.size, 3, none⟩ = some (.int .u64 s.d) ∧ W'.cell? ⟨w.heap.size + 1, 0, none⟩ = some (.int .u64 t.a) ∧ W'.cell? ⟨w.heap.size + 1, 1, none⟩ = some (.int .u64 t.b) ∧ W'.cell? ⟨w.heap.size + 1, 2, none⟩ = some (.int .u64 t.c) ∧ W'.cell? ⟨w.heap.size + 1, 3, none⟩ = some (.int .u64 t.d) := h.tri.two
theorem Hold.z1 {w W : World} {s t u : St} {ps : List (St × Nat)} {l : List Nat} {B : Nat} (h : Hold w s t u ps (B :: l) W) : W.cell? ⟨B, 0, none⟩ = some (.int .u64 0) ∧ W.cell? ⟨B, 1, none⟩ = some (.int .u64 0) ∧ W.cell? ⟨B, 2, none⟩ = some (.int .u64 0) ∧ W.cell? ⟨B, 3, none⟩ = some (.int .u64 0) ∧ (∀ o, W.frozen? ⟨B, o, none⟩ = false) ∧ B < W.heap.size := by
  obtain ⟨a, b, c, d⟩ := (h.new B (by simp)).1.cells
  exact ⟨a, b, c, d, (h.new B (by simp)).1.frozen, (h.new B (by simp)).1.lt⟩
theorem Hold.z2 {w W : World} {s t u : St} {ps : List (St × Nat)} {l : List Nat} {B C : Nat} (h : Hold w s t u ps (C :: B :: l) W) : W.cell? ⟨B, 0, none⟩ = some (.int .u64 0) ∧ W.cell? ⟨B, 1, none⟩ = some (.int .u64 0) ∧ W.cell? ⟨B, 2, none⟩ = some (.int .u64 0) ∧ W.cell? ⟨B, 3, none⟩ = some (.int .u64 0) ∧ (∀ o, W.frozen? ⟨B, o, none⟩ = false) ∧ B < W.heap.size ∧ C ≠ B := by
  obtain ⟨a, b, c, d, e, f⟩ := h.tail.z1
  have := h.nd
  simp only [List.nodup_cons, List.mem_cons, not_or] at this
  exact ⟨a, b, c, d, e, f, this.1.1⟩
theorem Hold.cells {w W : World} {s t u q : St} {ps : List (St × Nat)} {l : List Nat} {B : Nat} (h : Hold w s t u ps l W) (hm : (q, B) ∈ ps) : W.cell? ⟨B, 0, none⟩ = some (.int .u64 q.a) ∧ W.cell? ⟨B, 1, none⟩ = some (.int .u64 q.b) ∧ W.cell? ⟨B, 2, none⟩ = some (.int .u64 q.c) ∧ W.cell? ⟨B, 3, none⟩ = some (.int .u64 q.d) := (h.box (q, B) hm).cells
theorem Hold.perm {w W : World} {s t u : St} {p q : St × Nat} {ps : List (St × Nat)} {l : List Nat} (h : Hold w s t u (p :: q :: ps) l W) : Hold w s t u (q :: p :: ps) l W := by
  refine ⟨h.tri, fun r hr => h.box r ?_, h.new, fun r hr B hB => h.ne r ?_ B hB, h.nd⟩
  · simp only [List.mem_cons] at hr ⊢; rcases hr with h | h | h <;> simp [h]
  · simp only [List.mem_cons] at hr ⊢; rcases hr with h | h | h <;> simp [h]
theorem Hold.fresh2 {w W : World} {s t u : St} {ps : List (St × Nat)} {l : List Nat} (q r : St) (h : Hold w s t u ps l W) : Hold w s t u ((r, W.heap.size + 1) :: (q, W.heap.size) :: ps) l ((W.alloc (.cells #[.int .u64 q.a, .int .u64 q.b, .int .u64 q.c, .int .u64 q.d] 24)).alloc (.cells #[.int .u64 r.a, .int .u64 r.b, .int .u64 r.c, .int .u64 r.d] 24)) := by
  have := (h.fresh q).fresh r
  rwa [World.size_alloc] at this
theorem Hold.storeFresh {w W : World} {s t u : St} {ps : List (St × Nat)} {l : List Nat} {B : Nat} (q r : St) (h : Hold w s t u ps (B :: l) W) : Hold w s t u ((r, W.heap.size) :: (q, B) :: ps) l (((((W.setCell ⟨B, 0, none⟩ (.int .u64 q.a)).setCell ⟨B, 1, none⟩ (.int .u64 q.b)).setCell ⟨B, 2, none⟩ (.int .u64 q.c)).setCell ⟨B, 3, none⟩ (.int .u64 q.d)).alloc (.cells #[.int .u64 r.a, .int .u64 r.b, .int .u64 r.c, .int .u64 r.d] 24)) := by
  have := (h.store q).fresh r
  simp only [World.size_setCell] at this
  exact this
theorem Hold.all {w W' : World} {s t u p1 p2 p3 p4 : St} {B1 B2 B3 B4 : Nat} (h : Hold w s t u [(p1, B1), (p2, B2), (p3, B3), (p4, B4)] [] W') : W'.cell? ⟨w.heap.size, 0, none⟩ = some (.int .u64 s.a) ∧ W'.cell? ⟨w.heap.size, 1, none⟩ = some (.int .u64 s.b) ∧ W'.cell? ⟨w.heap.size, 2, none⟩ = some (.int .u64 s.c) ∧ W'.cell? ⟨w.heap.size, 3, none⟩ = some (.int .u64 s.d) ∧ W'.cell? ⟨w.heap.size + 1, 0, none⟩ = some (.int .u64 t.a) ∧ W'.cell? ⟨w.heap.size + 1, 1, none⟩ = some (.int .u64 t.b) ∧ W'.cell? ⟨w.heap.size + 1, 2, none⟩ = some (.int .u64 t.c) ∧ W'.cell? ⟨w.heap.size + 1, 3, none⟩ = some (.int .u64 t.d) ∧ W'.cell? ⟨w.heap.size + 1 + 1, 0, none⟩ = some (.int .u64 u.a) ∧ W'.cell? ⟨w.heap.size + 1 + 1, 1, none⟩ = some (.int .u64 u.b) ∧ W'.cell? ⟨w.heap.size + 1 + 1, 2, none⟩ = some (.int .u64 u.c) ∧ W'.cell? ⟨w.heap.size + 1 + 1, 3, none⟩ = some (.int .u64 u.d) ∧ W'.cell? ⟨B1, 0, none⟩ = some (.int .u64 p1.a) ∧ W'.cell? ⟨B1, 1, none⟩ = some (.int .u64 p1.b) ∧ W'.cell? ⟨B1, 2, none⟩ = some (.int .u64 p1.c) ∧ W'.cell? ⟨B1, 3, none⟩ = some (.int .u64 p1.d) ∧ W'.cell? ⟨B2, 0, none⟩ = some (.int .u64 p2.a) ∧ W'.cell? ⟨B2, 1, none⟩ = some (.int .u64 p2.b) ∧ W'.cell? ⟨B2, 2, none⟩ = some (.int .u64 p2.c) ∧ W'.cell? ⟨B2, 3, none⟩ = some (.int .u64 p2.d) ∧ W'.cell? ⟨B3, 0, none⟩ = some (.int .u64 p3.a) ∧ W'.cell? ⟨B3, 1, none⟩ = some (.int .u64 p3.b) ∧ W'.cell? ⟨B3, 2, none⟩ = some (.int .u64 p3.c) ∧ W'.cell? ⟨B3, 3, none⟩ = some (.int .u64 p3.d) ∧ W'.cell? ⟨B4, 0, none⟩ = some (.int .u64 p4.a) ∧ W'.cell? ⟨B4, 1, none⟩ = some (.int .u64 p4.b) ∧ W'.cell? ⟨B4, 2, none⟩ = some (.int .u64 p4.c) ∧ W'.cell? ⟨B4, 3, none⟩ = some (.int .u64 p4.d) := by
  obtain ⟨a0, a1, a2, a3⟩ := h.tri.1.cells
  obtain ⟨b0, b1, b2, b3⟩ := h.tri.2.1.cells
  obtain ⟨c0, c1, c2, c3⟩ := h.tri.2.2.1.cells
  obtain ⟨d0, d1, d2, d3⟩ := h.cells (q := p1) (B := B1) (by simp)
  obtain ⟨e0, e1, e2, e3⟩ := h.cells (q := p2) (B := B2) (by simp)
  obtain ⟨f0, f1, f2, f3⟩ := h.cells (q := p3) (B := B3) (by simp)
  obtain ⟨g0, g1, g2, g3⟩ := h.cells (q := p4) (B := B4) (by simp)
  exact ⟨a0, a1, a2, a3, b0, b1, b2, b3, c0, c1, c2, c3, d0, d1, d2, d3, e0, e1, e2, e3, f0, f1, f2, f3, g0, g1, g2, g3⟩
end Go.Proofs.Ytpjnohpjdmgglab
