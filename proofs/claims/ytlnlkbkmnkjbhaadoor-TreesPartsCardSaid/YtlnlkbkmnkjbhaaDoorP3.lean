/- A tree with another part in its place: kin.Put, trees.Put. -/
import Derived.Test.YtlnlkbkmnkjbhaaDoorP2
namespace Go.Proofs.YtlnlkbkmnkjbhaaDoor
open Go.RowKit

/-- While a path is followed. -/
structure PtI (w : World) (d : Tr) (ps : List Int) (s : Tr) (ta : Option Addr) (tc f k : Nat) (x : Tr) (pb po : Nat) (W : World) : Prop where
  le : k ≤ ps.length
  goes : atP x (ps.drop k) = atP d ps
  bel : Below w.heap.size w W
  hole : Hole w f W pb po x (ps.take k) w.heap.size 0 d
  far : pb = w.heap.size ∨ w.heap.size + 1 + 1 < pb
  s0 : W.cell? ⟨w.heap.size + 1, 0, none⟩ = some (.int .i64 s.rule)
  s1 : W.cell? ⟨w.heap.size + 1, 1, none⟩ = some (.int .u8 (s.byte.toNat : Int))
  s2 : W.cell? ⟨w.heap.size + 1, 2, none⟩ = some (.slice ta s.kids.length tc)
  r0 : W.cell? ⟨w.heap.size + 1 + 1, 0, none⟩ = some (.int .i64 0)
  r1 : W.cell? ⟨w.heap.size + 1 + 1, 1, none⟩ = some (.int .u8 0)
  r2 : W.cell? ⟨w.heap.size + 1 + 1, 2, none⟩ = some (.slice none 0 0)
  rf : ∀ q, W.frozen? ⟨w.heap.size + 1 + 1, q, none⟩ = false
  lt : w.heap.size + 1 + 1 < W.heap.size
theorem PtI.start (w : World) (d : Tr) (ps : List Int) (s : Tr) (sa ta : Option Addr) (sc tc f : Nat) (hk : TAt w w.heap.size f sa d.kids) (hsc : d.kids.length ≤ sc) : PtI w d ps s ta tc f 0 d w.heap.size 0 (((w.alloc (.cells #[.int .i64 d.rule, .int .u8 (d.byte.toNat : Int), .slice sa d.kids.length sc] 27)).alloc (.cells #[.int .i64 s.rule, .int .u8 (s.byte.toNat : Int), .slice ta s.kids.length tc] 27)).alloc (.cells #[.int .i64 0, .int .u8 0, .slice none 0 0] 27)) := by
  obtain ⟨w1, hw1⟩ : ∃ w1, w.alloc (.cells #[.int .i64 d.rule, .int .u8 (d.byte.toNat : Int), .slice sa d.kids.length sc] 27) = w1 := ⟨_, rfl⟩
  obtain ⟨w2, hw2⟩ : ∃ w2, w1.alloc (.cells #[.int .i64 s.rule, .int .u8 (s.byte.toNat : Int), .slice ta s.kids.length tc] 27) = w2 := ⟨_, rfl⟩
  obtain ⟨w3, hw3⟩ : ∃ w3, w2.alloc (.cells #[.int .i64 0, .int .u8 0, .slice none 0 0] 27) = w3 := ⟨_, rfl⟩
  rw [hw1, hw2, hw3]
  have s1 : w1.heap.size = w.heap.size + 1 := by rw [← hw1]; simp
  have s2 : w2.heap.size = w.heap.size + 1 + 1 := by rw [← hw2]; simp [s1]
  have s3 : w3.heap.size = w.heap.size + 1 + 1 + 1 := by rw [← hw3]; simp [s2]
  have hB1 : Below w.heap.size w w1 := by rw [← hw1]; exact (Below.refl _ _).alloc (Nat.le_refl _) _
  have hB2 : Below w1.heap.size w1 w2 := by rw [← hw2]; exact (Below.refl _ _).alloc (Nat.le_refl _) _
  have hB3 : Below w2.heap.size w2 w3 := by rw [← hw3]; exact (Below.refl _ _).alloc (Nat.le_refl _) _
  have hB13 : Below w1.heap.size w1 w3 := hB2.trans (hB3.mono hB2.size)
  have c1 : ∀ j v, (#[.int .i64 d.rule, .int .u8 (d.byte.toNat : Int), .slice sa d.kids.length sc] : Array Value)[j]? = some v → w3.cell? ⟨w.heap.size, j, none⟩ = some v := fun j v hv => (hB13.cell (p := ⟨w.heap.size, j, none⟩) (by show w.heap.size < _; omega)).trans (by rw [← hw1]; exact cell_new j hv)
  have c2 : ∀ j v, (#[.int .i64 s.rule, .int .u8 (s.byte.toNat : Int), .slice ta s.kids.length tc] : Array Value)[j]? = some v → w3.cell? ⟨w.heap.size + 1, j, none⟩ = some v := fun j v hv => (hB3.cell (p := ⟨w.heap.size + 1, j, none⟩) (by show w.heap.size + 1 < _; omega)).trans (by rw [← hw2, ← s1]; exact cell_new j hv)
  have c3 : ∀ j v, (#[.int .i64 0, .int .u8 0, .slice none 0 0] : Array Value)[j]? = some v → w3.cell? ⟨w.heap.size + 1 + 1, j, none⟩ = some v := fun j v hv => by rw [← hw3, ← s2]; exact cell_new j hv
  have hf : ∀ q, w3.frozen? ⟨w.heap.size, q, none⟩ = false := fun q => (hB13.frozen (p := ⟨w.heap.size, q, none⟩) (by show w.heap.size < _; omega)).trans (by rw [← hw1]; exact World.frozen?_alloc_at _ _ _ _ rfl)
  exact ⟨Nat.zero_le _, rfl, hB1.trans (hB13.mono (by omega)), ⟨rfl, rfl, rfl, Nat.le_refl _, by omega, hf, sa, sc, ⟨c1 0 _ rfl, c1 1 _ rfl, c1 2 _ rfl⟩, hsc, hk⟩, .inl rfl, c2 0 _ rfl, c2 1 _ rfl, c2 2 _ rfl, c3 0 _ rfl, c3 1 _ rfl, c3 2 _ rfl, fun q => by rw [← hw3, ← s2]; exact World.frozen?_alloc_at _ _ _ _ rfl, by omega⟩
theorem PtI.step {w : World} {d : Tr} {ps : List Int} {s : Tr} {ta : Option Addr} {tc f k : Nat} {x : Tr} {pb po : Nat} {W : World} (h : PtI w d ps s ta tc f k x pb po W) {v : Int} (hv : ps[k]? = some v) {y : Tr} (hy : kidAt x v = some y) {w5 : World} {g cap : Nat} (hb : Below W.heap.size W w5) (hcap : x.kids.length ≤ cap) (hg : W.heap.size ≤ g) (hgl : g < w5.heap.size) (hf : ∀ q, w5.frozen? ⟨g, q, none⟩ = false) (hl : x.kids.length * 40 ≤ 140737488355328) (hz : ∀ j z, x.kids[j]? = some z → ∃ za zc, TCell w5 g (j * 3) z za zc ∧ z.kids.length ≤ zc ∧ TAt w w.heap.size f za z.kids) :
    PtI w d ps s ta tc f (k + 1) y g (v.toNat * 3) (w5.setCell ⟨pb, po + 2, none⟩ (.slice (some ⟨g, 0, none⟩) x.kids.length cap)) := by
  have hlt : k < ps.length := (List.getElem?_eq_some_iff.1 hv).1
  obtain ⟨l1, l2, l3, l4⟩ := h.hole.lo
  obtain ⟨⟨xa, xc, ⟨x0, x1, x2⟩, hxc, hxk⟩, hxf⟩ := h.hole.here
  have hpb : w.heap.size ≤ pb := by rcases h.far with e | e <;> omega
  have hW := h.lt
  obtain ⟨X, hX⟩ : ∃ X, w5.setCell ⟨pb, po + 2, none⟩ (.slice (some ⟨g, 0, none⟩) x.kids.length cap) = X := ⟨_, rfl⟩
  rw [hX]
  have hXs : X.heap.size = w5.heap.size := by rw [← hX]; simp [World.setCell]
  have far : ∀ b q, ¬ (b = pb ∧ q = po + 2) → X.cell? ⟨b, q, none⟩ = w5.cell? ⟨b, q, none⟩ := fun b q hne => by
    rw [← hX]; exact World.cell?_setCell_other _ _ _ _ (fun e => by cases e; exact hne ⟨rfl, rfl⟩)
  have same : X.cell? ⟨pb, po + 2, none⟩ = some (.slice (some ⟨g, 0, none⟩) x.kids.length cap) := by
    rw [← hX]; exact World.cell?_setCell_same' _ _ _ (by rw [hb.cell (p := ⟨pb, po + 2, none⟩) l4, x2]; rfl)
  have fz : ∀ b q, X.frozen? ⟨b, q, none⟩ = w5.frozen? ⟨b, q, none⟩ := fun b q => by rw [← hX, World.frozen?_setCell]
  have c5 : ∀ b q, b < W.heap.size → w5.cell? ⟨b, q, none⟩ = W.cell? ⟨b, q, none⟩ := fun b q hlt => hb.cell (p := ⟨b, q, none⟩) hlt
  have bX : Below w.heap.size w X := by rw [← hX]; exact (below_of h.bel hb).setCell hpb _
  have s1' : ∀ q, X.cell? ⟨w.heap.size + 1, q, none⟩ = W.cell? ⟨w.heap.size + 1, q, none⟩ := fun q => (far _ _ (fun e => by rcases h.far with e' | e' <;> omega)).trans (c5 _ _ (by omega))
  have s2' : ∀ q, X.cell? ⟨w.heap.size + 1 + 1, q, none⟩ = W.cell? ⟨w.heap.size + 1 + 1, q, none⟩ := fun q => (far _ _ (fun e => by rcases h.far with e' | e' <;> omega)).trans (c5 _ _ (by omega))
  refine ⟨hlt, ?_, bX, ?_, .inr (by omega), (s1' 0).trans h.s0, (s1' 1).trans h.s1, (s1' 2).trans h.s2, (s2' 0).trans h.r0, (s2' 1).trans h.r1, (s2' 2).trans h.r2, fun q => (fz _ _).trans ((hb.frozen (p := ⟨w.heap.size + 1 + 1, q, none⟩) hW).trans (h.rf q)), by have := hb.size; omega⟩
  · rw [← h.goes, atP_drop hv, hy]; rfl
  · have e : ps.take (k + 1) = ps.take k ++ [v] := by
      rw [List.take_add_one, hv]; rfl
    rw [e]
    refine Hole.down hy hg (by omega) (fun b q hlt hne => (far b q hne).trans (c5 b q hlt)) (fun q => (fz _ _).trans (hf q)) same hcap hl (fun j z hj => ?_) h.hole
    obtain ⟨za, zc, ⟨z0, z1, z2⟩, hzc, hzk⟩ := hz j z hj
    exact ⟨za, zc, ⟨(far _ _ (by omega)).trans z0, (far _ _ (by omega)).trans z1, (far _ _ (by omega)).trans z2⟩, hzc, hzk⟩
/-- The part is written. -/
theorem PtI.fill {w : World} {d : Tr} {ps : List Int} {s : Tr} {ta : Option Addr} {tc f : Nat} {x : Tr} {pb po : Nat} {W X : World} (h : PtI w d ps s ta tc f ps.length x pb po W) (hsc : s.kids.length ≤ tc) (hsk : TAt w w.heap.size f ta s.kids) (hX : X = ((W.setCell ⟨pb, po, none⟩ (.int .i64 s.rule)).setCell ⟨pb, po + 1, none⟩ (.int .u8 (s.byte.toNat : Int))).setCell ⟨pb, po + 2, none⟩ (.slice ta s.kids.length tc)) :
    (∃ d', putP d ps s = some d' ∧ ∃ da dc, TCell X w.heap.size 0 d' da dc ∧ d'.kids.length ≤ dc ∧ TAt X X.heap.size (f + ps.length) da d'.kids) ∧ Below w.heap.size w X ∧ X.heap.size = W.heap.size ∧ (∀ q, X.cell? ⟨w.heap.size + 1 + 1, q, none⟩ = W.cell? ⟨w.heap.size + 1 + 1, q, none⟩) ∧ (∀ q, X.frozen? ⟨w.heap.size + 1 + 1, q, none⟩ = false) := by
  obtain ⟨⟨xa, xc, ⟨x0, x1, x2⟩, hxc, hxk⟩, hxf⟩ := h.hole.here
  obtain ⟨l1, l2, l3, l4⟩ := h.hole.lo
  have hpb : w.heap.size ≤ pb := by rcases h.far with e | e <;> omega
  obtain ⟨A1, e1⟩ : ∃ A, W.setCell ⟨pb, po, none⟩ (.int .i64 s.rule) = A := ⟨_, rfl⟩
  obtain ⟨A2, e2⟩ : ∃ A, A1.setCell ⟨pb, po + 1, none⟩ (.int .u8 (s.byte.toNat : Int)) = A := ⟨_, rfl⟩
  obtain ⟨A3, e3⟩ : ∃ A, A2.setCell ⟨pb, po + 2, none⟩ (.slice ta s.kids.length tc) = A := ⟨_, rfl⟩
  have hBX : Below w.heap.size w X := by rw [hX]; exact ((h.bel.setCell hpb _).setCell hpb _).setCell hpb _
  rw [e1, e2, e3] at hX
  subst hX
  have z3 : X.heap.size = W.heap.size := by rw [← e3, ← e2, ← e1]; simp [World.setCell]
  have fz : ∀ a, X.frozen? a = W.frozen? a := fun a => by rw [← e3, ← e2, ← e1, World.frozen?_setCell, World.frozen?_setCell, World.frozen?_setCell]
  have f1 : ∀ b q, ¬ (b = pb ∧ q = po) → A1.cell? ⟨b, q, none⟩ = W.cell? ⟨b, q, none⟩ := fun b q hne => by rw [← e1]; exact World.cell?_setCell_other _ _ _ _ (fun e => by cases e; exact hne ⟨rfl, rfl⟩)
  have f2 : ∀ b q, ¬ (b = pb ∧ q = po + 1) → A2.cell? ⟨b, q, none⟩ = A1.cell? ⟨b, q, none⟩ := fun b q hne => by rw [← e2]; exact World.cell?_setCell_other _ _ _ _ (fun e => by cases e; exact hne ⟨rfl, rfl⟩)
  have f3 : ∀ b q, ¬ (b = pb ∧ q = po + 2) → X.cell? ⟨b, q, none⟩ = A2.cell? ⟨b, q, none⟩ := fun b q hne => by rw [← e3]; exact World.cell?_setCell_other _ _ _ _ (fun e => by cases e; exact hne ⟨rfl, rfl⟩)
  have k0 : A1.cell? ⟨pb, po, none⟩ = some (.int .i64 s.rule) := by rw [← e1]; exact World.cell?_setCell_same' _ _ _ (by rw [x0]; rfl)
  have k1 : A2.cell? ⟨pb, po + 1, none⟩ = some (.int .u8 (s.byte.toNat : Int)) := by rw [← e2]; exact World.cell?_setCell_same' _ _ _ (by rw [f1 _ _ (by omega), x1]; rfl)
  have k2 : X.cell? ⟨pb, po + 2, none⟩ = some (.slice ta s.kids.length tc) := by rw [← e3]; exact World.cell?_setCell_same' _ _ _ (by rw [f2 _ _ (by omega), f1 _ _ (by omega), x2]; rfl)
  have hT : TCell X pb po s ta tc := ⟨(f3 _ _ (by omega)).trans ((f2 _ _ (by omega)).trans k0), (f3 _ _ (by omega)).trans k1, k2⟩
  have keep : ∀ b q, ¬ (b = pb ∧ po ≤ q ∧ q < po + 3) → X.cell? ⟨b, q, none⟩ = W.cell? ⟨b, q, none⟩ := fun b q hne => (f3 b q (by omega)).trans ((f2 b q (by omega)).trans (f1 b q (by omega)))
  obtain ⟨d', hp, _, da, dc, d0, d1, d2, hdc, hdk⟩ := Hole.fill (W' := X) (fun b q _ hne => keep b q hne) (by omega) hT hsc ((hsk.keep hBX).mono hBX.size) hBX h.hole
  rw [List.take_length] at hp hdk
  refine ⟨⟨d', hp, da, dc, ⟨d0, d1, d2⟩, hdc, hdk⟩, hBX, z3, fun q => keep _ _ (fun e => by rcases h.far with e' | e' <;> omega), fun q => (fz _).trans (h.rf q)⟩
end Go.Proofs.YtlnlkbkmnkjbhaaDoor
