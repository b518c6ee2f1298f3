/- Terms in memory, and in what order their parts come. -/
import Derived.Test.YtlkcadibjmfmcaaDoorI0
import Derived.Test.YtlkcadibjmfmcaaDoorProg
import Derived.WalkKit
import Derived.ProofKit
namespace Go.Proofs.YtlkcadibjmfmcaaDoor
open Go.RowKit

inductive Tm where
  | mk (kind : Int) (cons : ByteArray) (text : List UInt8) (kids : List Tm)
def Tm.kind : Tm → Int | .mk k _ _ _ => k
def Tm.cons : Tm → ByteArray | .mk _ c _ _ => c
def Tm.text : Tm → List UInt8 | .mk _ _ t _ => t
def Tm.kids : Tm → List Tm | .mk _ _ _ l => l
instance : Inhabited Tm := ⟨.mk 0 ⟨#[]⟩ [] []⟩
/-- Bytes in memory, below block B. -/
def BAt (w : World) (B : Nat) (ta : Option Addr) (t : List UInt8) : Prop := ∀ i c, t[i]? = some c → ∃ b o, ta = some ⟨b, o, none⟩ ∧ b < B ∧ w.cell? ⟨b, o + i, none⟩ = some (.int .u8 (c.toNat : Int))
theorem BAt.keep {w w' : World} {B : Nat} {ta : Option Addr} {t : List UInt8} (h : BAt w B ta t) (hk : ∀ b q, b < B → w'.cell? ⟨b, q, none⟩ = w.cell? ⟨b, q, none⟩) : BAt w' B ta t := fun i c hi => by
  obtain ⟨b, o, e, hlt, hc⟩ := h i c hi
  exact ⟨b, o, e, hlt, (hk _ _ hlt).trans hc⟩
theorem BAt.mono {w : World} {B B' : Nat} {ta : Option Addr} {t : List UInt8} (h : BAt w B ta t) (hb : B ≤ B') : BAt w B' ta t := fun i c hi => by
  obtain ⟨b, o, e, hlt, hc⟩ := h i c hi
  exact ⟨b, o, e, by omega, hc⟩
/-- A cell that holds a text. -/
def TxC (w : World) (B : Nat) (p : Addr) (t : List UInt8) : Prop := ∃ ta tc, w.cell? p = some (.slice ta t.length tc) ∧ t.length ≤ tc ∧ t.length ≤ 140737488355328 ∧ BAt w B ta t
theorem TxC.keep {w w' : World} {B b o : Nat} {t : List UInt8} (h : TxC w B ⟨b, o, none⟩ t) (hlt : b < B) (hk : ∀ b q, b < B → w'.cell? ⟨b, q, none⟩ = w.cell? ⟨b, q, none⟩) : TxC w' B ⟨b, o, none⟩ t := by
  obtain ⟨ta, tc, h1, h2, h3, h4⟩ := h
  exact ⟨ta, tc, (hk _ _ hlt).trans h1, h2, h3, h4.keep hk⟩
theorem TxC.mono {w : World} {B B' : Nat} {p : Addr} {t : List UInt8} (h : TxC w B p t) (hb : B ≤ B') : TxC w B' p t := by
  obtain ⟨ta, tc, h1, h2, h3, h4⟩ := h
  exact ⟨ta, tc, h1, h2, h3, h4.mono hb⟩

mutual
/-- A term and all that lies in it, each ahead of its kids, with how deep it lies. -/
def pre : Tm → Nat → List (Tm × Nat)
  | .mk k c t l, m => (.mk k c t l, m) :: preL l (m + 1)
def preL : List Tm → Nat → List (Tm × Nat)
  | [], _ => []
  | d :: l, m => pre d m ++ preL l m
end
theorem pre_eq (d : Tm) (m : Nat) : pre d m = (d, m) :: preL d.kids (m + 1) := by
  cases d; rw [pre]; rfl

/-- Terms in a row at an address below block B, no deeper than f. -/
def MAt (w : World) (B : Nat) : Nat → Option Addr → List Tm → Prop
  | 0, _, l => l = []
  | f + 1, a, l => l.length * 72 ≤ 140737488355328 ∧ ∀ j d, l[j]? = some d → ∃ b o, a = some ⟨b, o, none⟩ ∧ b < B ∧ ∃ sa sc, w.cell? ⟨b, o + j * 4, none⟩ = some (.int .i64 d.kind) ∧ w.cell? ⟨b, o + j * 4 + 1, none⟩ = some (.string d.cons) ∧ TxC w B ⟨b, o + j * 4 + 2, none⟩ d.text ∧ w.cell? ⟨b, o + j * 4 + 3, none⟩ = some (.slice sa d.kids.length sc) ∧ d.kids.length ≤ sc ∧ MAt w B f sa d.kids
/-- A term at an address. -/
def TermAt (w : World) (B f b o : Nat) (d : Tm) : Prop := b < B ∧ ∃ sa sc, w.cell? ⟨b, o, none⟩ = some (.int .i64 d.kind) ∧ w.cell? ⟨b, o + 1, none⟩ = some (.string d.cons) ∧ TxC w B ⟨b, o + 2, none⟩ d.text ∧ w.cell? ⟨b, o + 3, none⟩ = some (.slice sa d.kids.length sc) ∧ d.kids.length ≤ sc ∧ MAt w B f sa d.kids
theorem MAt.keep {w w' : World} {B : Nat} (hb : Below B w w') : ∀ {f : Nat} {a : Option Addr} {l : List Tm}, MAt w B f a l → MAt w' B f a l
  | 0, _, _, h => h
  | f + 1, a, l, h => by
    refine ⟨h.1, fun j d hj => ?_⟩
    obtain ⟨b, o, e, hlt, sa, sc, c0, c1, c2, c3, hc, hk⟩ := h.2 j d hj
    have k : ∀ q, w'.cell? ⟨b, q, none⟩ = w.cell? ⟨b, q, none⟩ := fun q => hb.cell (p := ⟨b, q, none⟩) hlt
    exact ⟨b, o, e, hlt, sa, sc, (k _).trans c0, (k _).trans c1, c2.keep hlt (fun b q hb' => hb.cell (p := ⟨b, q, none⟩) hb'), (k _).trans c3, hc, hk.keep hb⟩
theorem MAt.mono {w : World} {B B' : Nat} (hb : B ≤ B') : ∀ {f : Nat} {a : Option Addr} {l : List Tm}, MAt w B f a l → MAt w B' f a l
  | 0, _, _, h => h
  | f + 1, a, l, h => by
    refine ⟨h.1, fun j d hj => ?_⟩
    obtain ⟨b, o, e, hlt, sa, sc, c0, c1, c2, c3, hc, hk⟩ := h.2 j d hj
    exact ⟨b, o, e, by omega, sa, sc, c0, c1, c2.mono hb, c3, hc, hk.mono hb⟩
theorem MAt.up {w : World} {B : Nat} : ∀ {f : Nat} {a : Option Addr} {l : List Tm}, MAt w B f a l → MAt w B (f + 1) a l
  | 0, a, l, h => by
    have h' : l = [] := h
    subst h'
    exact ⟨by decide, fun j d hj => by cases hj⟩
  | f + 1, a, l, h => by
    refine ⟨h.1, fun j d hj => ?_⟩
    obtain ⟨b, o, e, hlt, sa, sc, c0, c1, c2, c3, hc, hk⟩ := h.2 j d hj
    exact ⟨b, o, e, hlt, sa, sc, c0, c1, c2, c3, hc, hk.up⟩
theorem TermAt.keep {w w' : World} {B f b o : Nat} {d : Tm} (h : TermAt w B f b o d) (hb : Below B w w') : TermAt w' B f b o d := by
  obtain ⟨hlt, sa, sc, c0, c1, c2, c3, hc, hk⟩ := h
  have k : ∀ q, w'.cell? ⟨b, q, none⟩ = w.cell? ⟨b, q, none⟩ := fun q => hb.cell (p := ⟨b, q, none⟩) hlt
  exact ⟨hlt, sa, sc, (k _).trans c0, (k _).trans c1, c2.keep hlt (fun b q hb' => hb.cell (p := ⟨b, q, none⟩) hb'), (k _).trans c3, hc, hk.keep hb⟩
theorem TermAt.mono {w : World} {B B' f b o : Nat} {d : Tm} (h : TermAt w B f b o d) (hb : B ≤ B') : TermAt w B' f b o d := by
  obtain ⟨hlt, sa, sc, c0, c1, c2, c3, hc, hk⟩ := h
  exact ⟨by omega, sa, sc, c0, c1, c2.mono hb, c3, hc, hk.mono hb⟩
/-- One of a row. -/
theorem MAt.one {w : World} {B f : Nat} {a : Option Addr} {l : List Tm} (h : MAt w B f a l) {j : Nat} {d : Tm} (hj : l[j]? = some d) : ∃ b o, a = some ⟨b, o, none⟩ ∧ TermAt w B f b (o + j * 4) d := by
  match f, h with
  | 0, h =>
    have h' : l = [] := h
    subst h'; cases hj
  | f + 1, h =>
    obtain ⟨b, o, e, hlt, sa, sc, c0, c1, c2, c3, hc, hk⟩ := h.2 j d hj
    exact ⟨b, o, e, hlt, sa, sc, c0, c1, c2, c3, hc, hk.up⟩
theorem MAt.len {w : World} {B f : Nat} {a : Option Addr} {l : List Tm} (h : MAt w B f a l) : l.length * 72 ≤ 140737488355328 := by
  match f, h with
  | 0, h =>
    have h' : l = [] := h
    subst h'; decide
  | f + 1, h => exact h.1
/-- The row without its first one. -/
theorem MAt.tail {w : World} {B f b o : Nat} {d : Tm} {l : List Tm} (h : MAt w B f (some ⟨b, o, none⟩) (d :: l)) : MAt w B f (some ⟨b, o + 4, none⟩) l := by
  match f, h with
  | 0, h => cases h
  | f + 1, h =>
    refine ⟨by have := h.1; simp at this; omega, fun j x hj => ?_⟩
    obtain ⟨b', o', e, hlt, sa, sc, c0, c1, c2, c3, hc, hk⟩ := h.2 (j + 1) x (by simpa using hj)
    cases e
    have e4 : o + (j + 1) * 4 = o + 4 + j * 4 := by omega
    rw [e4] at c0 c1 c2 c3
    exact ⟨b, o + 4, rfl, hlt, sa, sc, c0, c1, c2, c3, hc, hk⟩
end Go.Proofs.YtlkcadibjmfmcaaDoor
