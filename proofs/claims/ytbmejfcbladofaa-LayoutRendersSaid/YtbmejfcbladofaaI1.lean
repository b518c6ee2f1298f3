/- Documents in memory, and in what order their parts come. -/
import Derived.Test.YtbmejfcbladofaaI0
import Derived.Test.YtbmejfcbladofaaProg
import Derived.WalkKit
import Derived.ProofKit
namespace Go.Proofs.Ytbmejfcbladofaa
open Go.RowKit

inductive Dc where
  | mk (kind : Int) (text : ByteArray) (n : Int) (kids : List Dc)
def Dc.kind : Dc → Int | .mk k _ _ _ => k
def Dc.text : Dc → ByteArray | .mk _ t _ _ => t
def Dc.n : Dc → Int | .mk _ _ n _ => n
def Dc.kids : Dc → List Dc | .mk _ _ _ l => l
instance : Inhabited Dc := ⟨.mk 0 ⟨#[]⟩ 0 []⟩

mutual
/-- A document and all that lies in it, each ahead of its kids, with how deep it lies. -/
def pre : Dc → Nat → List (Dc × Nat)
  | .mk k t n l, m => (.mk k t n l, m) :: preL l (m + 1)
def preL : List Dc → Nat → List (Dc × Nat)
  | [], _ => []
  | d :: l, m => pre d m ++ preL l m
end
theorem pre_eq (d : Dc) (m : Nat) : pre d m = (d, m) :: preL d.kids (m + 1) := by
  cases d; rw [pre]; rfl

/-- Documents in a row at an address below block B, no deeper than f. -/
def DAt (w : World) (B : Nat) : Nat → Option Addr → List Dc → Prop
  | 0, _, l => l = []
  | f + 1, a, l => l.length * 56 ≤ 140737488355328 ∧ ∀ j d, l[j]? = some d → ∃ b o, a = some ⟨b, o, none⟩ ∧ b < B ∧ ∃ sa sc, w.cell? ⟨b, o + j * 4, none⟩ = some (.int .i64 d.kind) ∧ w.cell? ⟨b, o + j * 4 + 1, none⟩ = some (.string d.text) ∧ w.cell? ⟨b, o + j * 4 + 2, none⟩ = some (.int .i64 d.n) ∧ w.cell? ⟨b, o + j * 4 + 3, none⟩ = some (.slice sa d.kids.length sc) ∧ d.kids.length ≤ sc ∧ DAt w B f sa d.kids
/-- A document at an address. -/
def DocAt (w : World) (B f b o : Nat) (d : Dc) : Prop := b < B ∧ ∃ sa sc, w.cell? ⟨b, o, none⟩ = some (.int .i64 d.kind) ∧ w.cell? ⟨b, o + 1, none⟩ = some (.string d.text) ∧ w.cell? ⟨b, o + 2, none⟩ = some (.int .i64 d.n) ∧ w.cell? ⟨b, o + 3, none⟩ = some (.slice sa d.kids.length sc) ∧ d.kids.length ≤ sc ∧ DAt w B f sa d.kids
theorem DAt.keep {w w' : World} {B : Nat} (hb : Below B w w') : ∀ {f : Nat} {a : Option Addr} {l : List Dc}, DAt w B f a l → DAt w' B f a l
  | 0, _, _, h => h
  | f + 1, a, l, h => by
    refine ⟨h.1, fun j d hj => ?_⟩
    obtain ⟨b, o, e, hlt, sa, sc, c0, c1, c2, c3, hc, hk⟩ := h.2 j d hj
    have k : ∀ q, w'.cell? ⟨b, q, none⟩ = w.cell? ⟨b, q, none⟩ := fun q => hb.cell (p := ⟨b, q, none⟩) hlt
    exact ⟨b, o, e, hlt, sa, sc, (k _).trans c0, (k _).trans c1, (k _).trans c2, (k _).trans c3, hc, hk.keep hb⟩
theorem DAt.mono {w : World} {B B' : Nat} (hb : B ≤ B') : ∀ {f : Nat} {a : Option Addr} {l : List Dc}, DAt w B f a l → DAt w B' f a l
  | 0, _, _, h => h
  | f + 1, a, l, h => by
    refine ⟨h.1, fun j d hj => ?_⟩
    obtain ⟨b, o, e, hlt, sa, sc, c0, c1, c2, c3, hc, hk⟩ := h.2 j d hj
    exact ⟨b, o, e, by omega, sa, sc, c0, c1, c2, c3, hc, hk.mono hb⟩
theorem DAt.up {w : World} {B : Nat} : ∀ {f : Nat} {a : Option Addr} {l : List Dc}, DAt w B f a l → DAt w B (f + 1) a l
  | 0, a, l, h => by
    have h' : l = [] := h
    subst h'
    exact ⟨by decide, fun j d hj => by cases hj⟩
  | f + 1, a, l, h => by
    refine ⟨h.1, fun j d hj => ?_⟩
    obtain ⟨b, o, e, hlt, sa, sc, c0, c1, c2, c3, hc, hk⟩ := h.2 j d hj
    exact ⟨b, o, e, hlt, sa, sc, c0, c1, c2, c3, hc, hk.up⟩
theorem DocAt.keep {w w' : World} {B f b o : Nat} {d : Dc} (h : DocAt w B f b o d) (hb : Below B w w') : DocAt w' B f b o d := by
  obtain ⟨hlt, sa, sc, c0, c1, c2, c3, hc, hk⟩ := h
  have k : ∀ q, w'.cell? ⟨b, q, none⟩ = w.cell? ⟨b, q, none⟩ := fun q => hb.cell (p := ⟨b, q, none⟩) hlt
  exact ⟨hlt, sa, sc, (k _).trans c0, (k _).trans c1, (k _).trans c2, (k _).trans c3, hc, hk.keep hb⟩
theorem DocAt.mono {w : World} {B B' f b o : Nat} {d : Dc} (h : DocAt w B f b o d) (hb : B ≤ B') : DocAt w B' f b o d := by
  obtain ⟨hlt, sa, sc, c0, c1, c2, c3, hc, hk⟩ := h
  exact ⟨by omega, sa, sc, c0, c1, c2, c3, hc, hk.mono hb⟩
/-- One of a row. -/
theorem DAt.one {w : World} {B f : Nat} {a : Option Addr} {l : List Dc} (h : DAt w B f a l) {j : Nat} {d : Dc} (hj : l[j]? = some d) : ∃ b o, a = some ⟨b, o, none⟩ ∧ DocAt w B f b (o + j * 4) d := by
  match f, h with
  | 0, h =>
    have h' : l = [] := h
    subst h'; cases hj
  | f + 1, h =>
    obtain ⟨b, o, e, hlt, sa, sc, c0, c1, c2, c3, hc, hk⟩ := h.2 j d hj
    exact ⟨b, o, e, hlt, sa, sc, c0, c1, c2, c3, hc, hk.up⟩
theorem DAt.len {w : World} {B f : Nat} {a : Option Addr} {l : List Dc} (h : DAt w B f a l) : l.length * 56 ≤ 140737488355328 := by
  match f, h with
  | 0, h =>
    have h' : l = [] := h
    subst h'; decide
  | f + 1, h => exact h.1
/-- The row without its first one. -/
theorem DAt.tail {w : World} {B f b o : Nat} {d : Dc} {l : List Dc} (h : DAt w B f (some ⟨b, o, none⟩) (d :: l)) : DAt w B f (some ⟨b, o + 4, none⟩) l := by
  match f, h with
  | 0, h => cases h
  | f + 1, h =>
    refine ⟨by have := h.1; simp at this; omega, fun j x hj => ?_⟩
    obtain ⟨b', o', e, hlt, sa, sc, c0, c1, c2, c3, hc, hk⟩ := h.2 (j + 1) x (by simpa using hj)
    cases e
    have e4 : o + (j + 1) * 4 = o + 4 + j * 4 := by omega
    rw [e4] at c0 c1 c2 c3
    exact ⟨b, o + 4, rfl, hlt, sa, sc, c0, c1, c2, c3, hc, hk⟩
end Go.Proofs.Ytbmejfcbladofaa
