/- What the law TreesParts has in memory: trees in boxes, each in blocks of its own. -/
import Derived.Test.YtlnlkbkmnkjbhaaDoorXs
import Derived.Test.YtlnlkbkmnkjbhaaDoorXc
import Derived.Test.YtlnlkbkmnkjbhaaDoorXp
import Derived.Test.YtlnlkbkmnkjbhaaDoorXu
import Derived.Test.YtlnlkbkmnkjbhaaDoorLl
import Derived.Test.YtlnlkbkmnkjbhaaDoorEe
namespace Go.Proofs.YtlnlkbkmnkjbhaaDoor
open Go.RowKit

/-- Between two blocks. -/
def Iv (l h b : Nat) : Prop := l ≤ b ∧ b < h
/-- All is as it was, but between two blocks. -/
abbrev Sv (l h : Nat) (X Y : World) : Prop := Ab (fun b => b < X.heap.size ∧ ¬ Iv l h b) X Y
theorem Sv.of_below {l h : Nat} {X Y : World} (hb : Below X.heap.size X Y) : Sv l h X Y := ⟨hb.os, hb.tape, hb.output, hb.size, fun b hq => hb.block b hq.1⟩
theorem Sv.set {X : World} (c : Nat) (u v x : Value) : Sv c (c + 1) X (((X.setCell ⟨c, 0, none⟩ u).setCell ⟨c, 1, none⟩ v).setCell ⟨c, 2, none⟩ x) :=
  ⟨rfl, rfl, rfl, by simp [World.setCell], fun b hb => set3_block (fun e => hb.2 ⟨by omega, by omega⟩) _ _ _ _ _ _⟩
/-- The two trees that were handed in, in their boxes. -/
structure Tp (w : World) (a b : Tr) (sa sb : Option Addr) (sc sd : Nat) (W : World) : Prop where
  bel : Below w.heap.size w W
  a0 : W.cell? ⟨w.heap.size, 0, none⟩ = some (.int .i64 a.rule)
  a1 : W.cell? ⟨w.heap.size, 1, none⟩ = some (.int .u8 (a.byte.toNat : Int))
  a2 : W.cell? ⟨w.heap.size, 2, none⟩ = some (.slice sa a.kids.length sc)
  b0 : W.cell? ⟨w.heap.size + 1, 0, none⟩ = some (.int .i64 b.rule)
  b1 : W.cell? ⟨w.heap.size + 1, 1, none⟩ = some (.int .u8 (b.byte.toNat : Int))
  b2 : W.cell? ⟨w.heap.size + 1, 2, none⟩ = some (.slice sb b.kids.length sd)
  lt : w.heap.size + 2 ≤ W.heap.size
section
variable {w : World} {a b : Tr} {sa sb : Option Addr} {sc sd : Nat} {X Y : World}
theorem Tp.sv {l h : Nat} (t : Tp w a b sa sb sc sd X) (hs : Sv l h X Y) (hl : w.heap.size + 2 ≤ l) : Tp w a b sa sb sc sd Y := by
  have hlt := t.lt
  have k : ∀ c q, c < w.heap.size + 2 → Y.cell? ⟨c, q, none⟩ = X.cell? ⟨c, q, none⟩ := fun c q hc => hs.cell (p := ⟨c, q, none⟩) ⟨by show c < _; omega, fun hi => by have := hi.1; have h' : l ≤ c := this; omega⟩
  exact ⟨⟨hs.os.trans t.bel.os, hs.tape.trans t.bel.tape, hs.output.trans t.bel.output, Nat.le_trans t.bel.size hs.size, fun c hc => (hs.block c ⟨by omega, fun hi => by have h' : l ≤ c := hi.1; omega⟩).trans (t.bel.block c hc)⟩, (k _ _ (by omega)).trans t.a0, (k _ _ (by omega)).trans t.a1, (k _ _ (by omega)).trans t.a2, (k _ _ (by omega)).trans t.b0, (k _ _ (by omega)).trans t.b1, (k _ _ (by omega)).trans t.b2, Nat.le_trans hlt hs.size⟩
theorem Tp.nx (t : Tp w a b sa sb sc sd X) (hb : Below X.heap.size X Y) : Tp w a b sa sb sc sd Y := t.sv (l := X.heap.size + w.heap.size + 2) (h := 0) (Sv.of_below hb) (by omega)
theorem Tp.facts (t : Tp w a b sa sb sc sd X) : X.cell? ⟨w.heap.size, 0, none⟩ = some (.int .i64 a.rule) ∧ X.cell? ⟨w.heap.size, 1, none⟩ = some (.int .u8 (a.byte.toNat : Int)) ∧ X.cell? ⟨w.heap.size, 2, none⟩ = some (.slice sa a.kids.length sc) ∧ X.cell? ⟨w.heap.size + 1, 0, none⟩ = some (.int .i64 b.rule) ∧ X.cell? ⟨w.heap.size + 1, 1, none⟩ = some (.int .u8 (b.byte.toNat : Int)) ∧ X.cell? ⟨w.heap.size + 1, 2, none⟩ = some (.slice sb b.kids.length sd) := ⟨t.a0, t.a1, t.a2, t.b0, t.b1, t.b2⟩
theorem Tp.start (w : World) (a b : Tr) (sa sb : Option Addr) (sc sd : Nat) : Tp w a b sa sb sc sd ((w.alloc (.cells #[.int .i64 a.rule, .int .u8 (a.byte.toNat : Int), .slice sa a.kids.length sc] 27)).alloc (.cells #[.int .i64 b.rule, .int .u8 (b.byte.toNat : Int), .slice sb b.kids.length sd] 27)) := by
  obtain ⟨A, hA⟩ : ∃ A, w.alloc (.cells #[.int .i64 a.rule, .int .u8 (a.byte.toNat : Int), .slice sa a.kids.length sc] 27) = A := ⟨_, rfl⟩
  obtain ⟨B, hB⟩ : ∃ B, A.alloc (.cells #[.int .i64 b.rule, .int .u8 (b.byte.toNat : Int), .slice sb b.kids.length sd] 27) = B := ⟨_, rfl⟩
  rw [hA, hB]
  have sA : A.heap.size = w.heap.size + 1 := by rw [← hA]; simp
  have sB : B.heap.size = w.heap.size + 2 := by rw [← hB]; simp [sA]
  have bA : Below w.heap.size w A := by rw [← hA]; exact (Below.refl _ _).alloc (Nat.le_refl _) _
  have bB : Below A.heap.size A B := by rw [← hB]; exact (Below.refl _ _).alloc (Nat.le_refl _) _
  have c1 : ∀ j v, (#[.int .i64 a.rule, .int .u8 (a.byte.toNat : Int), .slice sa a.kids.length sc] : Array Value)[j]? = some v → B.cell? ⟨w.heap.size, j, none⟩ = some v := fun j v hv => (bB.cell (p := ⟨w.heap.size, j, none⟩) (by show w.heap.size < _; omega)).trans (by rw [← hA]; exact cell_new j hv)
  have c2 : ∀ j v, (#[.int .i64 b.rule, .int .u8 (b.byte.toNat : Int), .slice sb b.kids.length sd] : Array Value)[j]? = some v → B.cell? ⟨w.heap.size + 1, j, none⟩ = some v := fun j v hv => by rw [← hB, ← sA]; exact cell_new j hv
  exact ⟨below_of bA bB, c1 0 _ rfl, c1 1 _ rfl, c1 2 _ rfl, c2 0 _ rfl, c2 1 _ rfl, c2 2 _ rfl, by omega⟩
end
/-- A tree's kids lie between two blocks. -/
structure Kx (d : Tr) (f : Nat) (va : Option Addr) (vc l h : Nat) (W : World) : Prop where
  t : TIx W (Iv l h) f va d.kids
  c : d.kids.length ≤ vc
  hi : h ≤ W.heap.size
theorem Kx.sv {d : Tr} {f : Nat} {va : Option Addr} {vc l h l' h' : Nat} {X Y : World} (k : Kx d f va vc l h X) (hs : Sv l' h' X Y) (hd : h ≤ l' ∨ h' ≤ l) : Kx d f va vc l h Y :=
  ⟨k.t.keep (fun b hb => hs.block b ⟨by have := k.hi; have := hb.2; omega, fun hi => by have h1 := hb.1; have h2 := hb.2; have h3 := hi.1; have h4 := hi.2; omega⟩), k.c, Nat.le_trans k.hi hs.size⟩
theorem Kx.nx {d : Tr} {f : Nat} {va : Option Addr} {vc l h : Nat} {X Y : World} (k : Kx d f va vc l h X) (hb : Below X.heap.size X Y) : Kx d f va vc l h Y := k.sv (l' := h) (h' := 0) (Sv.of_below hb) (.inl (Nat.le_refl _))
theorem Kx.tat {d : Tr} {f : Nat} {va : Option Addr} {vc l h : Nat} {X : World} (k : Kx d f va vc l h X) : TAt X X.heap.size f va d.kids := k.t.tin.tat (fun _ hb => Nat.lt_of_lt_of_le hb.2 k.hi)
/-- The same of a tree that is not written. -/
structure Kn (d : Tr) (f : Nat) (va : Option Addr) (vc l h : Nat) (W : World) : Prop where
  t : TIn W (Iv l h) f va d.kids
  c : d.kids.length ≤ vc
  hi : h ≤ W.heap.size
theorem Kn.sv {d : Tr} {f : Nat} {va : Option Addr} {vc l h l' h' : Nat} {X Y : World} (k : Kn d f va vc l h X) (hs : Sv l' h' X Y) (hd : h ≤ l' ∨ h' ≤ l) : Kn d f va vc l h Y :=
  ⟨k.t.keep (fun b hb q => hs.cell (p := ⟨b, q, none⟩) ⟨by show b < _; have := k.hi; have := hb.2; omega, fun hi => by have h1 := hb.1; have h2 := hb.2; have h3 : l' ≤ b := hi.1; have h4 : b < h' := hi.2; omega⟩), k.c, Nat.le_trans k.hi hs.size⟩
theorem Kn.nx {d : Tr} {f : Nat} {va : Option Addr} {vc l h : Nat} {X Y : World} (k : Kn d f va vc l h X) (hb : Below X.heap.size X Y) : Kn d f va vc l h Y := k.sv (l' := h) (h' := 0) (Sv.of_below hb) (.inl (Nat.le_refl _))
theorem Kn.tat {d : Tr} {f : Nat} {va : Option Addr} {vc l h : Nat} {X : World} (k : Kn d f va vc l h X) : TAt X X.heap.size f va d.kids := k.t.tat (fun _ hb => Nat.lt_of_lt_of_le hb.2 k.hi)
theorem Kx.kn {d : Tr} {f : Nat} {va : Option Addr} {vc l h : Nat} {X : World} (k : Kx d f va vc l h X) : Kn d f va vc l h X := ⟨k.t.tin, k.c, k.hi⟩
/-- A box that holds three cells. -/
structure Zb (c : Nat) (u v x : Value) (W : World) : Prop where
  z0 : W.cell? ⟨c, 0, none⟩ = some u
  z1 : W.cell? ⟨c, 1, none⟩ = some v
  z2 : W.cell? ⟨c, 2, none⟩ = some x
  fz : ∀ q, W.frozen? ⟨c, q, none⟩ = false
  lt : c < W.heap.size
section
variable {c : Nat} {u v x : Value} {X Y : World}
theorem Zb.sv {l h : Nat} (z : Zb c u v x X) (hs : Sv l h X Y) (hd : c < l ∨ h ≤ c) : Zb c u v x Y := by
  have hB := hs.block c ⟨z.lt, fun hi => by have h1 := hi.1; have h2 := hi.2; omega⟩
  have k : ∀ q, Y.cell? ⟨c, q, none⟩ = X.cell? ⟨c, q, none⟩ := fun q => World.cell?_of_block (a := ⟨c, q, none⟩) hB
  exact ⟨(k 0).trans z.z0, (k 1).trans z.z1, (k 2).trans z.z2, fun q => (frozen_of_block hB q).trans (z.fz q), Nat.lt_of_lt_of_le z.lt hs.size⟩
theorem Zb.nx (z : Zb c u v x X) (hb : Below X.heap.size X Y) : Zb c u v x Y := z.sv (l := c + 1) (h := 0) (Sv.of_below hb) (.inl (by omega))
theorem Zb.new (X : World) (u v x : Value) : Zb X.heap.size u v x (X.alloc (.cells #[u, v, x] 27)) := ⟨cell_new 0 rfl, cell_new 1 rfl, cell_new 2 rfl, fun q => World.frozen?_alloc_at _ _ _ _ rfl, by simp⟩
theorem Zb.set (z : Zb c u v x X) (u' v' x' : Value) : Zb c u' v' x' (((X.setCell ⟨c, 0, none⟩ u').setCell ⟨c, 1, none⟩ v').setCell ⟨c, 2, none⟩ x') := by
  obtain ⟨A1, e1⟩ : ∃ A, X.setCell ⟨c, 0, none⟩ u' = A := ⟨_, rfl⟩
  obtain ⟨A2, e2⟩ : ∃ A, A1.setCell ⟨c, 1, none⟩ v' = A := ⟨_, rfl⟩
  obtain ⟨A3, e3⟩ : ∃ A, A2.setCell ⟨c, 2, none⟩ x' = A := ⟨_, rfl⟩
  rw [e1, e2, e3]
  have hz : A3.heap.size = X.heap.size := by rw [← e3, ← e2, ← e1]; simp [World.setCell]
  have p0 : A1.cell? ⟨c, 0, none⟩ = some u' := by rw [← e1]; exact World.cell?_setCell_same' _ _ _ (by rw [z.z0]; rfl)
  have p1' : A1.cell? ⟨c, 1, none⟩ = X.cell? ⟨c, 1, none⟩ := by rw [← e1]; exact World.cell?_setCell_other _ _ _ _ (by simp)
  have p2' : A1.cell? ⟨c, 2, none⟩ = X.cell? ⟨c, 2, none⟩ := by rw [← e1]; exact World.cell?_setCell_other _ _ _ _ (by simp)
  have q0 : A2.cell? ⟨c, 0, none⟩ = A1.cell? ⟨c, 0, none⟩ := by rw [← e2]; exact World.cell?_setCell_other _ _ _ _ (by simp)
  have q1 : A2.cell? ⟨c, 1, none⟩ = some v' := by rw [← e2]; exact World.cell?_setCell_same' _ _ _ (by rw [p1', z.z1]; rfl)
  have q2 : A2.cell? ⟨c, 2, none⟩ = A1.cell? ⟨c, 2, none⟩ := by rw [← e2]; exact World.cell?_setCell_other _ _ _ _ (by simp)
  have u0 : A3.cell? ⟨c, 0, none⟩ = A2.cell? ⟨c, 0, none⟩ := by rw [← e3]; exact World.cell?_setCell_other _ _ _ _ (by simp)
  have u1 : A3.cell? ⟨c, 1, none⟩ = A2.cell? ⟨c, 1, none⟩ := by rw [← e3]; exact World.cell?_setCell_other _ _ _ _ (by simp)
  have u2 : A3.cell? ⟨c, 2, none⟩ = some x' := by rw [← e3]; exact World.cell?_setCell_same' _ _ _ (by rw [q2, p2', z.z2]; rfl)
  exact ⟨u0.trans (q0.trans p0), u1.trans q1, u2, fun q => by rw [← e3, ← e2, ← e1, World.frozen?_setCell, World.frozen?_setCell, World.frozen?_setCell]; exact z.fz q, by rw [hz]; exact z.lt⟩
end
/-- A tree in a box. -/
abbrev Zt (c : Nat) (d : Tr) (va : Option Addr) (vc : Nat) (W : World) : Prop := Zb c (.int .i64 d.rule) (.int .u8 (d.byte.toNat : Int)) (.slice va d.kids.length vc) W
def zeroT : Tr := .mk 0 0 []
/-- What is told of a part that may be none, in one form. -/
def codeOf : Option Tr → Int | some _ => 0 | none => 4
theorem apostX_one {w : World} {q : Option Tr} {e : Ending} {w' : World} (h : X.APost w q e w') : ∃ F va vc, e = .returned (.tuple #[.agg #[.int .i64 (q.getD zeroT).rule, .int .u8 ((q.getD zeroT).byte.toNat : Int), .slice va (q.getD zeroT).kids.length vc], .int .i64 (codeOf q)]) ∧ Kx (q.getD zeroT) F va vc w.heap.size w'.heap.size w' ∧ Below w.heap.size w w' := by
  cases q with
  | none => exact ⟨0, none, 0, h.1, ⟨rfl, Nat.le_refl _, Nat.le_refl _⟩, h.2⟩
  | some x =>
    obtain ⟨⟨F, va, vc, rfl, hvc, ht⟩, hb⟩ := h
    exact ⟨F, va, vc, rfl, ⟨ht, hvc, Nat.le_refl _⟩, hb⟩
theorem apost_one {w : World} {q : Option Tr} {e : Ending} {w' : World} (h : APost w q e w') : ∃ F va vc, e = .returned (.tuple #[.agg #[.int .i64 (q.getD zeroT).rule, .int .u8 ((q.getD zeroT).byte.toNat : Int), .slice va (q.getD zeroT).kids.length vc], .int .i64 (codeOf q)]) ∧ Kn (q.getD zeroT) F va vc w.heap.size w'.heap.size w' ∧ Below w.heap.size w w' := by
  cases q with
  | none => exact ⟨0, none, 0, h.1, ⟨rfl, Nat.le_refl _, Nat.le_refl _⟩, h.2⟩
  | some x =>
    obtain ⟨⟨F, va, vc, rfl, hvc, ht⟩, hb⟩ := h
    exact ⟨F, va, vc, rfl, ⟨ht, hvc, Nat.le_refl _⟩, hb⟩
/-- A tree is spoiled: nothing but its own blocks is written. -/
theorem spoil_kx {d : Tr} {f : Nat} {va : Option Addr} {vc l h : Nat} {W : World} (k : Kx d f va vc l h W) :
    Calls Tryd.prog 32 #[.agg #[.int .i64 d.rule, .int .u8 (d.byte.toNat : Int), .slice va d.kids.length vc]] W fun e w' => (∃ v, e = .returned v) ∧ Sv l h W w' := by
  have hS : ∀ b, Iv l h b → b < W.heap.size := fun b hb => Nat.lt_of_lt_of_le hb.2 k.hi
  refine (spoil_any (placesOf W (Iv l h)) (dpL d.kids + 1) d.rule d.byte va d.kids.length vc W (spl_places hS) (k.t.kd hS)).mono ?_
  rintro e w' ⟨h1, _, h3⟩
  exact ⟨h1, h3.mono (fun b hb => ⟨hb.1, fun ⟨R, o, hU⟩ => hb.2 hU.1⟩)⟩
end Go.Proofs.YtlnlkbkmnkjbhaaDoor
