/- The iterator over a term's parts keeps its promise. -/
import Derived.Test.YtlkcadibjmfmcaaDoorI4
import Derived.Test.YtlkcadibjmfmcaaDoorV0
namespace Go.Proofs.YtlkcadibjmfmcaaDoor
open Go.RowKit Go.Shelf

attribute [local go_sem] Oper.semAt_some

theorem MAt.cong {w w' : World} {B : Nat} (hk : ∀ b q, b < B → w'.cell? ⟨b, q, none⟩ = w.cell? ⟨b, q, none⟩) : ∀ {f : Nat} {a : Option Addr} {l : List Tm}, MAt w B f a l → MAt w' B f a l
  | 0, _, _, h => h
  | f + 1, a, l, h => by
    refine ⟨h.1, fun j d hj => ?_⟩
    obtain ⟨b, o, e, hlt, sa, sc, c0, c1, c2, c3, hc, hd⟩ := h.2 j d hj
    exact ⟨b, o, e, hlt, sa, sc, (hk _ _ hlt).trans c0, (hk _ _ hlt).trans c1, c2.keep hlt hk, (hk _ _ hlt).trans c3, hc, hd.cong hk⟩
theorem TermAt.back {w w' : World} {B f b o n₀ : Nat} {d : Tm} (h : TermAt w' B f b o d) (hb : Below n₀ w w') (hB : B ≤ n₀) : TermAt w B f b o d := by
  obtain ⟨hlt, sa, sc, c0, c1, c2, c3, hc, hk⟩ := h
  have k : ∀ b q, b < B → w.cell? ⟨b, q, none⟩ = w'.cell? ⟨b, q, none⟩ := fun b q hb' => (hb.cell (p := ⟨b, q, none⟩) (by show b < _; omega)).symm
  exact ⟨hlt, sa, sc, (k _ _ hlt).trans c0, (k _ _ hlt).trans c1, c2.keep hlt k, (k _ _ hlt).trans c3, hc, hk.cong k⟩
theorem parts_seq (n : Nat) (hn : 1 ≤ n) (B1 B2 n₀ f b0 o0 : Nat) (d : Tm) (w : World) (hn₀ : n₀ ≤ w.heap.size) (hd : TermAt w n₀ f b0 o0 d) (hlen : (pre d 1).length ≤ 1000000000000) (h1 : B1 < w.heap.size) (h2 : B2 < w.heap.size)
    (c1 : w.cell? ⟨B1, 0, none⟩ = some (.pointer (some ⟨b0, o0, none⟩))) (c2 : w.cell? ⟨B2, 0, none⟩ = some (.func (.func 36) #[] #[])) :
    SeqI Fence.wide n Tryd.prog 56 #[.pointer (some ⟨B1, 0, none⟩), .pointer (some ⟨B2, 0, none⟩)] Px.enc n₀ (fun b => b = B1 ∨ b = B2) (fun x => TermAt w n₀ f x.b x.o x.doc) (fun xs => xs.map Px.say = pre d 1 ∧ Told w n₀ f xs) (fun xs => (∃ r, xs.map Px.say ++ r = pre d 1) ∧ Told w n₀ f xs) 1000000000000 w := by
  intro l J Jx W hW hJ _ hY h0
  have hsz := hW.size
  refine (parts1_in n hn l B1 B2 n₀ f b0 o0 d (fun b => b = B1 ∨ b = B2) J Jx W (by omega) hJ (hd.keep (hW.mono hn₀)) hlen (.inr rfl) (fun b hb => by rcases hb with rfl | rfl <;> omega) (fun A ps x W1 hj hl hx _ => hY A ps x W1 hj hl (hx.back hW hn₀)) ((hW.cell (p := ⟨B1, 0, none⟩) h1).trans c1) ((hW.cell (p := ⟨B2, 0, none⟩) h2).trans c2) h0).mono ?_
  rintro e W' ⟨hv, ⟨A, xs, ⟨he, ht⟩, hj⟩ | ⟨A, xs, ⟨he, ht⟩, hj⟩⟩
  · exact ⟨hv, .inl ⟨A, xs, ⟨he, fun x hx => (ht x hx).back hW hn₀⟩, hj⟩⟩
  · exact ⟨hv, .inr ⟨A, xs, ⟨he, fun x hx => (ht x hx).back hW hn₀⟩, hj⟩⟩
/-- As it is told, and in its order. -/
theorem parts_seq_t (n : Nat) (hn : 1 ≤ n) (B1 B2 n₀ f b0 o0 : Nat) (d : Tm) (w : World) (hn₀ : n₀ ≤ w.heap.size) (hd : TermAt w n₀ f b0 o0 d) (hlen : (pre d 1).length ≤ 1000000000000) (h1 : B1 < w.heap.size) (h2 : B2 < w.heap.size)
    (c1 : w.cell? ⟨B1, 0, none⟩ = some (.pointer (some ⟨b0, o0, none⟩))) (c2 : w.cell? ⟨B2, 0, none⟩ = some (.func (.func 36) #[] #[])) :
    SeqT Fence.wide n Tryd.prog 56 #[.pointer (some ⟨B1, 0, none⟩), .pointer (some ⟨B2, 0, none⟩)] Px.enc n₀ (fun b => b = B1 ∨ b = B2) (fun ps x => TermAt w n₀ f x.b x.o x.doc ∧ ∃ r, ps.map Px.say ++ x.say :: r = pre d 1) (fun xs => xs.map Px.say = pre d 1 ∧ Told w n₀ f xs) (fun xs => (∃ r, xs.map Px.say ++ r = pre d 1) ∧ Told w n₀ f xs) 1000000000000 w := by
  intro l J Jx W hW hJ _ hY h0
  have hsz := hW.size
  refine (parts1_in n hn l B1 B2 n₀ f b0 o0 d (fun b => b = B1 ∨ b = B2) J Jx W (by omega) hJ (hd.keep (hW.mono hn₀)) hlen (.inr rfl) (fun b hb => by rcases hb with rfl | rfl <;> omega) (fun A ps x W1 hj hl hx hr => hY A ps x W1 hj hl ⟨hx.back hW hn₀, hr⟩) ((hW.cell (p := ⟨B1, 0, none⟩) h1).trans c1) ((hW.cell (p := ⟨B2, 0, none⟩) h2).trans c2) h0).mono ?_
  rintro e W' ⟨hv, ⟨A, xs, ⟨he, ht⟩, hj⟩ | ⟨A, xs, ⟨he, ht⟩, hj⟩⟩
  · exact ⟨hv, .inl ⟨A, xs, ⟨he, fun x hx => (ht x hx).back hW hn₀⟩, hj⟩⟩
  · exact ⟨hv, .inr ⟨A, xs, ⟨he, fun x hx => (ht x hx).back hW hn₀⟩, hj⟩⟩

theorem box_lt {W : World} {B : Nat} {t : TypeId} {v : Value} (h : Boxed W B t v) : B < W.heap.size := (Array.getElem?_eq_some_iff.1 (show W.heap[B]? = _ from h)).1
end Go.Proofs.YtlkcadibjmfmcaaDoor
