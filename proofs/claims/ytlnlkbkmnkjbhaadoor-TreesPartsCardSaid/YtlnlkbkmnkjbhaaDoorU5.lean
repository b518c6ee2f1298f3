/- The iterator over a tree's parts keeps its promise, wherever the tree lies. -/
import Derived.Test.YtlnlkbkmnkjbhaaDoorU3
import Derived.Test.YtlnlkbkmnkjbhaaDoorI5
namespace Go.Proofs.YtlnlkbkmnkjbhaaDoor
open Go.RowKit Go.Shelf

theorem TreeIn.back {w w' : World} {U : Nat → Prop} {f b o n₀ : Nat} {d : Tr} (h : TreeIn w' U f b o d) (hb : Below n₀ w w') (hU : ∀ b, U b → b < n₀) : TreeIn w U f b o d := by
  obtain ⟨hlt, sa, sc, c0, c1, c3, hc, hk⟩ := h
  have k : ∀ b, U b → ∀ q, w.cell? ⟨b, q, none⟩ = w'.cell? ⟨b, q, none⟩ := fun b hb' q => (hb.cell (p := ⟨b, q, none⟩) (hU b hb')).symm
  exact ⟨hlt, sa, sc, (k _ hlt _).trans c0, (k _ hlt _).trans c1, (k _ hlt _).trans c3, hc, hk.keep k⟩
/-- The first ones of a tree's parts, and one of them. -/
def Firsts (d : Tr) (l : List Px) (x : Px) : Prop := ∃ r, l.map Px.say ++ x.say :: r = pre d 1
theorem parts_sequ (n : Nat) (hn : 1 ≤ n) (B1 B2 : Nat) (U : Nat → Prop) (f b0 o0 : Nat) (d : Tr) (w : World) (hU : ∀ b, U b → b < w.heap.size) (hd : TreeIn w U f b0 o0 d) (hlen : (pre d 1).length ≤ 1000000000000) (h1 : B1 < w.heap.size) (h2 : B2 < w.heap.size)
    (c1 : w.cell? ⟨B1, 0, none⟩ = some (.pointer (some ⟨b0, o0, none⟩))) (c2 : w.cell? ⟨B2, 0, none⟩ = some (.func (.func 45) #[] #[])) :
    SeqG False Fence.wide n Tryd.prog 84 #[.pointer (some ⟨B1, 0, none⟩), .pointer (some ⟨B2, 0, none⟩)] Px.enc U (fun b => b = B1 ∨ b = B2) (fun l x => TreeIn w U f x.b x.o x.doc ∧ Firsts d l x) (fun xs => xs.map Px.say = pre d 1 ∧ ToldU w U f xs) (fun xs => (∃ r, xs.map Px.say ++ r = pre d 1) ∧ ToldU w U f xs) 1000000000000 w := by
  intro l J Jx W hW hJ _ hY h0
  have hsz := hW.size
  refine (parts1_u n hn l B1 B2 U f b0 o0 d (fun b => b = B1 ∨ b = B2) J Jx W (fun b hb => Nat.lt_of_lt_of_le (hU b hb) hsz) hJ (hd.keep (Ab.of_below hW hU)) hlen (.inr rfl) (fun b hb => by rcases hb with rfl | rfl <;> omega) (fun A pre x W1 hj hl hx => ?_) ((hW.cell (p := ⟨B1, 0, none⟩) h1).trans c1) ((hW.cell (p := ⟨B2, 0, none⟩) h2).trans c2) h0).mono ?_
  · obtain ⟨fn, tmps, assign, body, hy, hR⟩ := hY A pre x W1 hj hl ⟨hx.1.back hW hU, hx.2⟩
    exact ⟨fn, tmps, assign, body, hy, hR.mono (fun e W' he => he.elim .inl (fun h => .inr ⟨h.1, h.2.1⟩))⟩
  rintro e W' ⟨hv, ⟨A, xs, ⟨he, ht⟩, hj⟩ | ⟨A, xs, ⟨he, ht⟩, hj⟩⟩
  · exact ⟨hv, .inl ⟨A, xs, ⟨he, fun x hx => (ht x hx).back hW hU⟩, hj⟩⟩
  · exact ⟨hv, .inr ⟨A, xs, ⟨he, fun x hx => (ht x hx).back hW hU⟩, hj⟩⟩
end Go.Proofs.YtlnlkbkmnkjbhaaDoor
