/- Trees in memory, and in what order their parts come. -/
import Derived.Test.YtlnlkbkmnkjbhaaDoorI0
import Derived.Test.YtlnlkbkmnkjbhaaDoorProg
import Derived.WalkKit
import Derived.ProofKit
namespace Go.Proofs.YtlnlkbkmnkjbhaaDoor
open Go.RowKit

inductive Tr where
  | mk (rule : Int) (byte : UInt8) (kids : List Tr)
def Tr.rule : Tr → Int | .mk r _ _ => r
def Tr.byte : Tr → UInt8 | .mk _ b _ => b
def Tr.kids : Tr → List Tr | .mk _ _ l => l
instance : Inhabited Tr := ⟨.mk 0 0 []⟩

mutual
/-- A tree and all that lies in it, each ahead of its kids, with how deep it lies. -/
def pre : Tr → Nat → List (Tr × Nat)
  | .mk r b l, m => (.mk r b l, m) :: preL l (m + 1)
def preL : List Tr → Nat → List (Tr × Nat)
  | [], _ => []
  | d :: l, m => pre d m ++ preL l m
end
theorem pre_eq (d : Tr) (m : Nat) : pre d m = (d, m) :: preL d.kids (m + 1) := by
  cases d; rw [pre]; rfl

/-- Trees in a row at an address below block B, no deeper than f. -/
def TAt (w : World) (B : Nat) : Nat → Option Addr → List Tr → Prop
  | 0, _, l => l = []
  | f + 1, a, l => l.length * 40 ≤ 140737488355328 ∧ ∀ j d, l[j]? = some d → ∃ b o, a = some ⟨b, o, none⟩ ∧ b < B ∧ ∃ sa sc, w.cell? ⟨b, o + j * 3, none⟩ = some (.int .i64 d.rule) ∧ w.cell? ⟨b, o + j * 3 + 1, none⟩ = some (.int .u8 (d.byte.toNat : Int)) ∧ w.cell? ⟨b, o + j * 3 + 2, none⟩ = some (.slice sa d.kids.length sc) ∧ d.kids.length ≤ sc ∧ TAt w B f sa d.kids
/-- A tree at an address. -/
def TreeAt (w : World) (B f b o : Nat) (d : Tr) : Prop := b < B ∧ ∃ sa sc, w.cell? ⟨b, o, none⟩ = some (.int .i64 d.rule) ∧ w.cell? ⟨b, o + 1, none⟩ = some (.int .u8 (d.byte.toNat : Int)) ∧ w.cell? ⟨b, o + 2, none⟩ = some (.slice sa d.kids.length sc) ∧ d.kids.length ≤ sc ∧ TAt w B f sa d.kids
theorem TAt.keep {w w' : World} {B : Nat} (hb : Below B w w') : ∀ {f : Nat} {a : Option Addr} {l : List Tr}, TAt w B f a l → TAt w' B f a l
  | 0, _, _, h => h
  | f + 1, a, l, h => by
    refine ⟨h.1, fun j d hj => ?_⟩
    obtain ⟨b, o, e, hlt, sa, sc, c0, c1, c3, hc, hk⟩ := h.2 j d hj
    have k : ∀ q, w'.cell? ⟨b, q, none⟩ = w.cell? ⟨b, q, none⟩ := fun q => hb.cell (p := ⟨b, q, none⟩) hlt
    exact ⟨b, o, e, hlt, sa, sc, (k _).trans c0, (k _).trans c1, (k _).trans c3, hc, hk.keep hb⟩
theorem TAt.mono {w : World} {B B' : Nat} (hb : B ≤ B') : ∀ {f : Nat} {a : Option Addr} {l : List Tr}, TAt w B f a l → TAt w B' f a l
  | 0, _, _, h => h
  | f + 1, a, l, h => by
    refine ⟨h.1, fun j d hj => ?_⟩
    obtain ⟨b, o, e, hlt, sa, sc, c0, c1, c3, hc, hk⟩ := h.2 j d hj
    exact ⟨b, o, e, by omega, sa, sc, c0, c1, c3, hc, hk.mono hb⟩
theorem TAt.up {w : World} {B : Nat} : ∀ {f : Nat} {a : Option Addr} {l : List Tr}, TAt w B f a l → TAt w B (f + 1) a l
  | 0, a, l, h => by
    have h' : l = [] := h
    subst h'
    exact ⟨by decide, fun j d hj => by cases hj⟩
  | f + 1, a, l, h => by
    refine ⟨h.1, fun j d hj => ?_⟩
    obtain ⟨b, o, e, hlt, sa, sc, c0, c1, c3, hc, hk⟩ := h.2 j d hj
    exact ⟨b, o, e, hlt, sa, sc, c0, c1, c3, hc, hk.up⟩
theorem TreeAt.keep {w w' : World} {B f b o : Nat} {d : Tr} (h : TreeAt w B f b o d) (hb : Below B w w') : TreeAt w' B f b o d := by
  obtain ⟨hlt, sa, sc, c0, c1, c3, hc, hk⟩ := h
  have k : ∀ q, w'.cell? ⟨b, q, none⟩ = w.cell? ⟨b, q, none⟩ := fun q => hb.cell (p := ⟨b, q, none⟩) hlt
  exact ⟨hlt, sa, sc, (k _).trans c0, (k _).trans c1, (k _).trans c3, hc, hk.keep hb⟩
theorem TreeAt.mono {w : World} {B B' f b o : Nat} {d : Tr} (h : TreeAt w B f b o d) (hb : B ≤ B') : TreeAt w B' f b o d := by
  obtain ⟨hlt, sa, sc, c0, c1, c3, hc, hk⟩ := h
  exact ⟨by omega, sa, sc, c0, c1, c3, hc, hk.mono hb⟩
/-- One of a row. -/
theorem TAt.one {w : World} {B f : Nat} {a : Option Addr} {l : List Tr} (h : TAt w B f a l) {j : Nat} {d : Tr} (hj : l[j]? = some d) : ∃ b o, a = some ⟨b, o, none⟩ ∧ TreeAt w B f b (o + j * 3) d := by
  match f, h with
  | 0, h =>
    have h' : l = [] := h
    subst h'; cases hj
  | f + 1, h =>
    obtain ⟨b, o, e, hlt, sa, sc, c0, c1, c3, hc, hk⟩ := h.2 j d hj
    exact ⟨b, o, e, hlt, sa, sc, c0, c1, c3, hc, hk.up⟩
theorem TAt.len {w : World} {B f : Nat} {a : Option Addr} {l : List Tr} (h : TAt w B f a l) : l.length * 40 ≤ 140737488355328 := by
  match f, h with
  | 0, h =>
    have h' : l = [] := h
    subst h'; decide
  | f + 1, h => exact h.1
/-- The row without its first one. -/
theorem TAt.tail {w : World} {B f b o : Nat} {d : Tr} {l : List Tr} (h : TAt w B f (some ⟨b, o, none⟩) (d :: l)) : TAt w B f (some ⟨b, o + 3, none⟩) l := by
  match f, h with
  | 0, h => cases h
  | f + 1, h =>
    refine ⟨by have := h.1; simp at this; omega, fun j x hj => ?_⟩
    obtain ⟨b', o', e, hlt, sa, sc, c0, c1, c3, hc, hk⟩ := h.2 (j + 1) x (by simpa using hj)
    cases e
    have e4 : o + (j + 1) * 3 = o + 3 + j * 3 := by omega
    rw [e4] at c0 c1 c3
    exact ⟨b, o + 3, rfl, hlt, sa, sc, c0, c1, c3, hc, hk⟩
end Go.Proofs.YtlnlkbkmnkjbhaaDoor
