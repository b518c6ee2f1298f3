/- Trees in a row, and how the lists lie: by threes, in blocks that may be written. -/
import Derived.Test.YtlnlkbkmnkjbhaaDoorC1
import Derived.Test.YtlnlkbkmnkjbhaaDoorKk
namespace Go.Proofs.YtlnlkbkmnkjbhaaDoor
open Go.RowKit

/-- Trees in a row, all that they are made of in blocks of S that may be written, each at a place by threes. -/
def TIx (w : World) (S : Nat → Prop) : Nat → Option Addr → List Tr → Prop
  | 0, _, l => l = []
  | f + 1, a, l => l.length * 40 ≤ 140737488355328 ∧ ∀ j d, l[j]? = some d → ∃ b o, a = some ⟨b, o, none⟩ ∧ S b ∧ (o % 3 = 0 ∧ ∀ q, w.frozen? ⟨b, q, none⟩ = false) ∧ ∃ sa sc, w.cell? ⟨b, o + j * 3, none⟩ = some (.int .i64 d.rule) ∧ w.cell? ⟨b, o + j * 3 + 1, none⟩ = some (.int .u8 (d.byte.toNat : Int)) ∧ w.cell? ⟨b, o + j * 3 + 2, none⟩ = some (.slice sa d.kids.length sc) ∧ d.kids.length ≤ sc ∧ TIx w S f sa d.kids
theorem frozen_of_block {w w' : World} {b : Nat} (h : w'.heap[b]? = w.heap[b]?) (q : Nat) : w'.frozen? ⟨b, q, none⟩ = w.frozen? ⟨b, q, none⟩ := by simp [World.frozen?, h]
theorem TIx.keep {w w' : World} {S : Nat → Prop} (hk : ∀ b, S b → w'.heap[b]? = w.heap[b]?) : ∀ {f : Nat} {a : Option Addr} {l : List Tr}, TIx w S f a l → TIx w' S f a l
  | 0, _, _, h => h
  | f + 1, a, l, h => by
    refine ⟨h.1, fun j d hj => ?_⟩
    obtain ⟨b, o, e, hs, ⟨ho, hf⟩, sa, sc, c0, c1, c2, hc, hd⟩ := h.2 j d hj
    have k : ∀ q, w'.cell? ⟨b, q, none⟩ = w.cell? ⟨b, q, none⟩ := fun q => World.cell?_of_block (a := ⟨b, q, none⟩) (hk b hs)
    exact ⟨b, o, e, hs, ⟨ho, fun q => (frozen_of_block (hk b hs) q).trans (hf q)⟩, sa, sc, (k _).trans c0, (k _).trans c1, (k _).trans c2, hc, hd.keep hk⟩
theorem TIx.wide {w : World} {S S' : Nat → Prop} (hk : ∀ b, S b → S' b) : ∀ {f : Nat} {a : Option Addr} {l : List Tr}, TIx w S f a l → TIx w S' f a l
  | 0, _, _, h => h
  | f + 1, a, l, h => by
    refine ⟨h.1, fun j d hj => ?_⟩
    obtain ⟨b, o, e, hs, hx, sa, sc, c0, c1, c2, hc, hd⟩ := h.2 j d hj
    exact ⟨b, o, e, hk b hs, hx, sa, sc, c0, c1, c2, hc, hd.wide hk⟩
theorem TIx.tin {w : World} {S : Nat → Prop} : ∀ {f : Nat} {a : Option Addr} {l : List Tr}, TIx w S f a l → TIn w S f a l
  | 0, _, _, h => h
  | f + 1, a, l, h => by
    refine ⟨h.1, fun j d hj => ?_⟩
    obtain ⟨b, o, e, hs, _, sa, sc, c0, c1, c2, hc, hd⟩ := h.2 j d hj
    exact ⟨b, o, e, hs, sa, sc, c0, c1, c2, hc, hd.tin⟩
theorem TIx.up {w : World} {S : Nat → Prop} : ∀ {f : Nat} {a : Option Addr} {l : List Tr}, TIx w S f a l → TIx w S (f + 1) a l
  | 0, a, l, h => by
    have h' : l = [] := h
    subst h'
    exact ⟨by decide, fun j d hj => by cases hj⟩
  | f + 1, a, l, h => by
    refine ⟨h.1, fun j d hj => ?_⟩
    obtain ⟨b, o, e, hs, hx, sa, sc, c0, c1, c2, hc, hd⟩ := h.2 j d hj
    exact ⟨b, o, e, hs, hx, sa, sc, c0, c1, c2, hc, hd.up⟩
theorem set3_block {W : World} {c b : Nat} (h : c ≠ b) (i j k : Nat) (u v x : Value) : (((W.setCell ⟨c, i, none⟩ u).setCell ⟨c, j, none⟩ v).setCell ⟨c, k, none⟩ x).heap[b]? = W.heap[b]? :=
  ((Below.heap_setCell _ ⟨c, k, none⟩ x b (fun e => h e.symm)).trans (Below.heap_setCell _ ⟨c, j, none⟩ v b (fun e => h e.symm))).trans (Below.heap_setCell W ⟨c, i, none⟩ u b (fun e => h e.symm))
end Go.Proofs.YtlnlkbkmnkjbhaaDoor
