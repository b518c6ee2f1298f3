/- Kg, Xs, Xw, Xx, Ga, Xr, Cz, Cy, Xt, Px, Xv, Xu, Gg, Ja, Jb in one. -/
import Derived.Test.YtlkcadibjmfmcaaDoorKf
import Derived.Test.YtlkcadibjmfmcaaDoorAa
import Derived.Test.YtlkcadibjmfmcaaDoorR0
import Derived.Test.YtlkcadibjmfmcaaDoorC1
import Derived.Deep.DeepAppendRoom
/- A clone whose texts are its own: terms.clone. -/
namespace Go.Proofs.YtlkcadibjmfmcaaDoor
open Go.RowKit

theorem four_set (W : World) (n : Nat) (v0 v1 v2 v3 : Value) (z0 z1 z2 z3 : Value) (c0 : W.cell? ⟨n, 0, none⟩ = some z0) (c1 : W.cell? ⟨n, 1, none⟩ = some z1) (c2 : W.cell? ⟨n, 2, none⟩ = some z2) (c3 : W.cell? ⟨n, 3, none⟩ = some z3) (W4 : World) (hW : (((W.setCell ⟨n, 0, none⟩ v0).setCell ⟨n, 1, none⟩ v1).setCell ⟨n, 2, none⟩ v2).setCell ⟨n, 3, none⟩ v3 = W4) :
    W4.cell? ⟨n, 0, none⟩ = some v0 ∧ W4.cell? ⟨n, 1, none⟩ = some v1 ∧ W4.cell? ⟨n, 2, none⟩ = some v2 ∧ W4.cell? ⟨n, 3, none⟩ = some v3 ∧ (∀ a, W4.frozen? a = W.frozen? a) ∧ W4.heap.size = W.heap.size ∧ (∀ b, b ≠ n → W4.heap[b]? = W.heap[b]?) ∧ ∀ B, B ≤ n → Below B W W4 := by
  obtain ⟨A1, e1⟩ : ∃ A, W.setCell ⟨n, 0, none⟩ v0 = A := ⟨_, rfl⟩
  obtain ⟨A2, e2⟩ : ∃ A, A1.setCell ⟨n, 1, none⟩ v1 = A := ⟨_, rfl⟩
  obtain ⟨A3, e3⟩ : ∃ A, A2.setCell ⟨n, 2, none⟩ v2 = A := ⟨_, rfl⟩
  rw [e1, e2, e3] at hW
  have o11 : A1.cell? ⟨n, 1, none⟩ = W.cell? ⟨n, 1, none⟩ := by rw [← e1]; exact World.cell?_setCell_other _ _ _ _ (by simp)
  have o12 : A1.cell? ⟨n, 2, none⟩ = W.cell? ⟨n, 2, none⟩ := by rw [← e1]; exact World.cell?_setCell_other _ _ _ _ (by simp)
  have o13 : A1.cell? ⟨n, 3, none⟩ = W.cell? ⟨n, 3, none⟩ := by rw [← e1]; exact World.cell?_setCell_other _ _ _ _ (by simp)
  have o20 : A2.cell? ⟨n, 0, none⟩ = A1.cell? ⟨n, 0, none⟩ := by rw [← e2]; exact World.cell?_setCell_other _ _ _ _ (by simp)
  have o22 : A2.cell? ⟨n, 2, none⟩ = A1.cell? ⟨n, 2, none⟩ := by rw [← e2]; exact World.cell?_setCell_other _ _ _ _ (by simp)
  have o23 : A2.cell? ⟨n, 3, none⟩ = A1.cell? ⟨n, 3, none⟩ := by rw [← e2]; exact World.cell?_setCell_other _ _ _ _ (by simp)
  have o30 : A3.cell? ⟨n, 0, none⟩ = A2.cell? ⟨n, 0, none⟩ := by rw [← e3]; exact World.cell?_setCell_other _ _ _ _ (by simp)
  have o31 : A3.cell? ⟨n, 1, none⟩ = A2.cell? ⟨n, 1, none⟩ := by rw [← e3]; exact World.cell?_setCell_other _ _ _ _ (by simp)
  have o33 : A3.cell? ⟨n, 3, none⟩ = A2.cell? ⟨n, 3, none⟩ := by rw [← e3]; exact World.cell?_setCell_other _ _ _ _ (by simp)
  have o40 : W4.cell? ⟨n, 0, none⟩ = A3.cell? ⟨n, 0, none⟩ := by rw [← hW]; exact World.cell?_setCell_other _ _ _ _ (by simp)
  have o41 : W4.cell? ⟨n, 1, none⟩ = A3.cell? ⟨n, 1, none⟩ := by rw [← hW]; exact World.cell?_setCell_other _ _ _ _ (by simp)
  have o42 : W4.cell? ⟨n, 2, none⟩ = A3.cell? ⟨n, 2, none⟩ := by rw [← hW]; exact World.cell?_setCell_other _ _ _ _ (by simp)
  have u0 : A1.cell? ⟨n, 0, none⟩ = some v0 := by rw [← e1]; exact World.cell?_setCell_same' _ _ _ (by rw [c0]; rfl)
  have u1 : A2.cell? ⟨n, 1, none⟩ = some v1 := by rw [← e2]; exact World.cell?_setCell_same' _ _ _ (by rw [o11, c1]; rfl)
  have u2 : A3.cell? ⟨n, 2, none⟩ = some v2 := by rw [← e3]; exact World.cell?_setCell_same' _ _ _ (by rw [o22, o12, c2]; rfl)
  have u3 : W4.cell? ⟨n, 3, none⟩ = some v3 := by rw [← hW]; exact World.cell?_setCell_same' _ _ _ (by rw [o33, o23, o13, c3]; rfl)
  refine ⟨(o40).trans ((o30).trans ((o20).trans (u0))), (o41).trans ((o31).trans (u1)), (o42).trans (u2), u3, fun a => by rw [← hW, ← e3, ← e2, ← e1, World.frozen?_setCell, World.frozen?_setCell, World.frozen?_setCell, World.frozen?_setCell], by rw [← hW, ← e3, ← e2, ← e1]; simp [World.setCell], fun b hb => ?_, fun B hB => ?_⟩
  · rw [← hW, ← e3, ← e2, ← e1]
    exact (Below.heap_setCell _ _ _ b hb).trans ((Below.heap_setCell _ _ _ b hb).trans ((Below.heap_setCell _ _ _ b hb).trans (Below.heap_setCell _ _ _ b hb)))
  · rw [← hW, ← e3, ← e2, ← e1]
    exact ((((Below.refl _ _).setCell hB _).setCell hB _).setCell hB _).setCell hB _
set_option maxRecDepth 100000 in
set_option maxHeartbeats 4000000 in
theorem tclone_any (d : Tm) (ta : Option Addr) (tc : Nat) (sa : Option Addr) (sc f : Nat) (w : World) (htv : Txt w w.heap.size (.slice ta d.text.length tc) d.text) (hk : MAt w w.heap.size f sa d.kids) (hsc : d.kids.length ≤ sc) (hlen : sz d ≤ 1000000000000) :
    Calls Tryd.prog 73 #[.agg #[.int .i64 d.kind, .string d.cons, .slice ta d.text.length tc, .slice sa d.kids.length sc]] w fun e w' => (∃ ua uc va vc, e = .returned (.agg #[.int .i64 d.kind, .string d.cons, .slice ua d.text.length uc, .slice va d.kids.length vc]) ∧ Txx w' (fun b => w.heap.size ≤ b ∧ b < w'.heap.size) (.slice ua d.text.length uc) d.text ∧ d.kids.length ≤ vc ∧ MIx w' (fun b => w.heap.size ≤ b ∧ b < w'.heap.size) f va d.kids) ∧ Below w.heap.size w w' := by
  have hX0 := AI.start w d [] ta tc sa sc f htv hk hsc hlen
  obtain ⟨w2, hw2⟩ : ∃ w2, (w.alloc (.cells #[.int .i64 d.kind, .string d.cons, .slice ta d.text.length tc, .slice sa d.kids.length sc] 25)).alloc (.cells #[.int .i64 0, .string ⟨#[]⟩, .slice none 0 0, .slice none 0 0] 25) = w2 := ⟨_, rfl⟩
  rw [hw2] at hX0
  have hB := hX0.bel
  have HC : Hid _ := fun (_ : Unit) => clone_any d ta tc sa sc f w2 w.heap.size hB.size (htv.keep hB) (hk.keep hB) hsc hlen
  have x0 := hX0.x0
  have x1 := hX0.x1
  have x2 := hX0.x2
  have x3 := hX0.x3
  have hlt2 := hX0.lt
  have HX0 : Hid _ := hX0
  have HLN : Hid _ := hlen
  clear hX0 hk htv hlen
  have HL : Hid _ := hlt2
  have HB : Hid _ := hB
  have HOWN : Hid (∀ (w7 : World) (ua : Option Addr) (uc : Nat) (va : Option Addr) (vc : Nat), Txt w7 w.heap.size (.slice ua d.text.length uc) d.text → d.kids.length ≤ vc → Mz w7 (fun b => w2.heap.size ≤ b ∧ b < w7.heap.size) w.heap.size f va d.kids → Below w2.heap.size w2 w7 → Calls Tryd.prog 45 #[.pointer (some ⟨w.heap.size, 0, none⟩)] ((((w7.setCell ⟨w.heap.size, 0, none⟩ (.int .i64 d.kind)).setCell ⟨w.heap.size, 1, none⟩ (.string d.cons)).setCell ⟨w.heap.size, 2, none⟩ (.slice ua d.text.length uc)).setCell ⟨w.heap.size, 3, none⟩ (.slice va d.kids.length vc)) fun e w9 => e = .returned (.tuple #[]) ∧ (∃ ub ud, w9.cell? ⟨w.heap.size, 0, none⟩ = some (.int .i64 d.kind) ∧ w9.cell? ⟨w.heap.size, 1, none⟩ = some (.string d.cons) ∧ w9.cell? ⟨w.heap.size, 2, none⟩ = some (.slice ub d.text.length ud) ∧ w9.cell? ⟨w.heap.size, 3, none⟩ = some (.slice va d.kids.length vc) ∧ Txx w9 (fun b => w2.heap.size ≤ b ∧ b < w9.heap.size) (.slice ub d.text.length ud) d.text ∧ MIx w9 (fun b => w2.heap.size ≤ b ∧ b < w9.heap.size) f va d.kids) ∧ (w9.cell? ⟨w.heap.size + 1, 0, none⟩ = some (.int .i64 0) ∧ w9.cell? ⟨w.heap.size + 1, 1, none⟩ = some (.string ⟨#[]⟩) ∧ w9.cell? ⟨w.heap.size + 1, 2, none⟩ = some (.slice none 0 0) ∧ w9.cell? ⟨w.heap.size + 1, 3, none⟩ = some (.slice none 0 0) ∧ ∀ q, w9.frozen? ⟨w.heap.size + 1, q, none⟩ = false) ∧ Below w.heap.size w w9 ∧ w2.heap.size ≤ w9.heap.size) := fun w7 ua uc va vc ht hc hm hb7 => by
    have hX0 := HX0.out
    have h27 := hb7.size
    have k7 : ∀ b q, b < w2.heap.size → w7.cell? ⟨b, q, none⟩ = w2.cell? ⟨b, q, none⟩ := fun b q hlt => hb7.cell (p := ⟨b, q, none⟩) hlt
    obtain ⟨W8, hW8⟩ : ∃ W8, (((w7.setCell ⟨w.heap.size, 0, none⟩ (.int .i64 d.kind)).setCell ⟨w.heap.size, 1, none⟩ (.string d.cons)).setCell ⟨w.heap.size, 2, none⟩ (.slice ua d.text.length uc)).setCell ⟨w.heap.size, 3, none⟩ (.slice va d.kids.length vc) = W8 := ⟨_, rfl⟩
    obtain ⟨c0, c1, c2, c3, hf, hs, hk8, hb8⟩ := four_set w7 w.heap.size _ _ _ _ _ _ _ _ ((k7 _ _ (by omega)).trans hX0.x0) ((k7 _ _ (by omega)).trans hX0.x1) ((k7 _ _ (by omega)).trans hX0.x2) ((k7 _ _ (by omega)).trans hX0.x3) W8 hW8
    rw [hW8]
    have hbw := hb8 w.heap.size (Nat.le_refl _)
    refine (ownBox W8 w.heap.size f w.heap.size d ua uc va vc (fun b => w2.heap.size ≤ b ∧ b < w7.heap.size) (by omega) (fun b hb => by have := hb.2; omega) (by omega) c0 c1 c2 c3 (fun q => (hf _).trans ((hb7.frozen (p := ⟨w.heap.size, q, none⟩) (by show w.heap.size < _; omega)).trans (hX0.xf q))) (ht.keep hbw) hc (hm.keep (fun b hb => hk8 b (by have := hb.1; omega)) hbw) HLN.out).mono ?_
    rintro e w9 ⟨rfl, ub, ud, ho⟩
    have hs9 := ho.size
    have hr : w9.heap[w.heap.size + 1]? = w2.heap[w.heap.size + 1]? := (ho.blk _ (by omega) (by omega) (fun h => by have := h.1; omega)).trans ((hk8 _ (by omega)).trans (hb7.block _ (by omega)))
    have kr : ∀ q, w9.cell? ⟨w.heap.size + 1, q, none⟩ = w2.cell? ⟨w.heap.size + 1, q, none⟩ := fun q => World.cell?_of_block (a := ⟨w.heap.size + 1, q, none⟩) hr
    refine ⟨rfl, ⟨ub, ud, ho.c0, ho.c1, ho.c2, ho.c3, ho.tx.wide (fun b hb => ⟨by have := hb.1; omega, hb.2⟩), ho.kd.wide (fun b hb => ?_)⟩, ⟨(kr 0).trans hX0.r0, (kr 1).trans hX0.r1, (kr 2).trans hX0.r2, (kr 3).trans hX0.r3, fun q => (frozen_of_block hr q).trans (hX0.rf q)⟩, ?_, by omega⟩
    · rcases hb with hb | hb
      · exact ⟨hb.1, by have := hb.2; omega⟩
      · exact ⟨by have := hb.1; omega, hb.2⟩
    · refine hX0.bel.trans ((hb7.mono (by omega)).trans (hbw.trans ⟨ho.os, ho.tape, ho.output, ho.size, fun b hb => ho.blk b (by omega) (by omega) (fun h => by have := h.1; omega)⟩))
  have k2f : ∀ q, w2.frozen? ⟨w.heap.size, q, none⟩ = false := fun q => HX0.out.xf q
  have HKF : Hid _ := k2f
  clear hB k2f hlt2
  have HW2 : Hid _ := hw2
  subst hw2
  go_enter Tryd.func73, Tryd.ntmps73
  go_wp2_with (first
    | (go_at_call 60; refine (HC.out ()).mono ?_; rintro e w7 ⟨⟨ua, uc, va, vc, rfl, hut, hvc, htin⟩, hb7⟩; have k7 : ∀ q, w7.cell? ⟨w.heap.size, q, none⟩ = _ := fun q => hb7.cell (p := ⟨w.heap.size, q, none⟩) (Nat.lt_of_succ_lt HL.out); have f7 : ∀ q, w7.frozen? ⟨w.heap.size, q, none⟩ = false := fun q => (hb7.frozen (p := ⟨w.heap.size, q, none⟩) (Nat.lt_of_succ_lt HL.out)).trans (HKF.out q); have y0 := (k7 0).trans x0; have y1 := (k7 1).trans x1; have y2 := (k7 2).trans x2; have y3 := (k7 3).trans x3; have HH : Hid _ := And.intro hut (And.intro hvc (And.intro htin hb7)); have HVC : Hid _ := hvc; clear hut hvc htin hb7 k7)
    | (go_at_call 45; refine (HOWN.out w7 ua uc va vc HH.out.1 HH.out.2.1 HH.out.2.2.1 HH.out.2.2.2).mono ?_; rintro e w9 ⟨rfl, ⟨ub, ud, c0, c1, c2, c3, h4, h5⟩, ⟨r0, r1, r2, r3, rf⟩, h6, h7⟩; have HE : Hid _ := And.intro h4 (And.intro h5 (And.intro h6 h7)); clear h4 h5 h6 h7))
  refine bodyPost_ret (v := .agg #[.int .i64 d.kind, .string d.cons, .slice ub d.text.length ud, .slice va d.kids.length vc]) (by simp [results, Tryd.results73, go_sem, r0, r1, r2, r3]) rfl ?_
  obtain ⟨h4, h5, h6, h7⟩ := HE.out
  obtain ⟨W4, hW4⟩ : ∃ W4, (((w9.setCell ⟨w.heap.size + 1, 0, none⟩ (.int .i64 d.kind)).setCell ⟨w.heap.size + 1, 1, none⟩ (.string d.cons)).setCell ⟨w.heap.size + 1, 2, none⟩ (.slice ub d.text.length ud)).setCell ⟨w.heap.size + 1, 3, none⟩ (.slice va d.kids.length vc) = W4 := ⟨_, rfl⟩
  obtain ⟨_, _, _, _, _, hs4, hk4, hb4⟩ := four_set w9 (w.heap.size + 1) _ _ _ _ _ _ _ _ r0 r1 r2 r3 W4 hW4
  rw [hW4]
  have hl := HL.out
  refine ⟨⟨ub, ud, va, vc, rfl, ?_, HVC.out, ?_⟩, h6.trans (hb4 _ (by omega))⟩
  · exact (h4.keep (fun b hb => hk4 b (by have := hb.1; omega))).wide (fun b hb => ⟨by have := hb.1; omega, by have := hb.2; omega⟩)
  · exact (h5.keep (fun b hb => hk4 b (by have := hb.1; omega))).wide (fun b hb => ⟨by have := hb.1; omega, by have := hb.2; omega⟩)
end Go.Proofs.YtlkcadibjmfmcaaDoor

/- What is written over when a term is spoiled. -/
namespace Go.Proofs.YtlkcadibjmfmcaaDoor
open Go.RowKit

/-- The world is as it was, but for blocks that are not of A. -/
structure Abx (A : Nat → Prop) (w w' : World) : Prop where
  os : w'.os = w.os
  tape : w'.tape = w.tape
  output : w'.output = w.output
  size : w.heap.size ≤ w'.heap.size
  block : ∀ b, A b → w'.heap[b]? = w.heap[b]?
theorem Abx.refl (A : Nat → Prop) (w : World) : Abx A w w := ⟨rfl, rfl, rfl, Nat.le_refl _, fun _ _ => rfl⟩
theorem Abx.trans {A : Nat → Prop} {w w' w'' : World} (h : Abx A w w') (h' : Abx A w' w'') : Abx A w w'' := ⟨h'.os.trans h.os, h'.tape.trans h.tape, h'.output.trans h.output, Nat.le_trans h.size h'.size, fun b hb => (h'.block b hb).trans (h.block b hb)⟩
theorem Abx.mono {A A' : Nat → Prop} {w w' : World} (h : Abx A w w') (hk : ∀ b, A' b → A b) : Abx A' w w' := ⟨h.os, h.tape, h.output, h.size, fun b hb => h.block b (hk b hb)⟩
/-- Bytes, whichever, in blocks of V. -/
def Tb (V : Nat → Prop) (w : World) (ta : Option Addr) (tn : Nat) : Prop := tn ≤ 140737488355328 ∧ ∀ i, i < tn → ∃ b o, ta = some ⟨b, o, none⟩ ∧ V b ∧ ∃ u : Int, w.cell? ⟨b, o + i, none⟩ = some (.int .u8 u)
/-- Places by fours that hold terms whose kids lie at places of lower rank, and whose texts lie in blocks of V; all of them may be written. -/
structure Spl (U : Nat → Nat → Nat → Prop) (V : Nat → Prop) (w : World) : Prop where
  al : ∀ R b o, U R b o → o % 4 = 0 ∧ ¬ V b
  vb : ∀ b, V b → b < w.heap.size ∧ ∀ q, w.frozen? ⟨b, q, none⟩ = false
  one : ∀ R b o, U R b o → (∀ q, w.frozen? ⟨b, q, none⟩ = false) ∧ b < w.heap.size ∧ ∃ (r : Int) (y : ByteArray) (ta : Option Addr) (tn tc : Nat) (sa : Option Addr) (n sc : Nat), w.cell? ⟨b, o, none⟩ = some (.int .i64 r) ∧ w.cell? ⟨b, o + 1, none⟩ = some (.string y) ∧ w.cell? ⟨b, o + 2, none⟩ = some (.slice ta tn tc) ∧ w.cell? ⟨b, o + 3, none⟩ = some (.slice sa n sc) ∧ Tb V w ta tn ∧ n * 72 ≤ 140737488355328 ∧ ∀ j, j < n → ∃ b' o', sa = some ⟨b', o', none⟩ ∧ ∃ R', R' < R ∧ U R' b' (o' + j * 4)
def SplB (U : Nat → Nat → Nat → Prop) (V : Nat → Prop) (b : Nat) : Prop := V b ∨ ∃ R o, U R b o
section
variable {U : Nat → Nat → Nat → Prop} {V : Nat → Prop} {w w' : World}
theorem Tb.keep {ta : Option Addr} {tn : Nat} (h : Tb V w ta tn) (hk : ∀ b q (u : Int), V b → w.cell? ⟨b, q, none⟩ = some (.int .u8 u) → ∃ u' : Int, w'.cell? ⟨b, q, none⟩ = some (.int .u8 u')) : Tb V w' ta tn := by
  refine ⟨h.1, fun i hi => ?_⟩
  obtain ⟨b, o, e, hV, u, hc⟩ := h.2 i hi
  exact ⟨b, o, e, hV, hk b _ u hV hc⟩
theorem Spl.keep (h : Spl U V w) (hs : w.heap.size ≤ w'.heap.size) (hk : ∀ b, SplB U V b → w'.heap[b]? = w.heap[b]?) : Spl U V w' := by
  refine ⟨h.al, fun b hb => ⟨Nat.lt_of_lt_of_le (h.vb b hb).1 hs, fun q => (frozen_of_block (hk b (.inl hb)) q).trans ((h.vb b hb).2 q)⟩, fun R b o hU => ?_⟩
  obtain ⟨hf, hlt, r, y, ta, tn, tc, sa, n, sc, c0, c1, c2, c3, ht, hb, hk'⟩ := h.one R b o hU
  have hB := hk b (.inr ⟨R, o, hU⟩)
  have k : ∀ q, w'.cell? ⟨b, q, none⟩ = w.cell? ⟨b, q, none⟩ := fun q => World.cell?_of_block (a := ⟨b, q, none⟩) hB
  exact ⟨fun q => (frozen_of_block hB q).trans (hf q), by omega, r, y, ta, tn, tc, sa, n, sc, (k _).trans c0, (k _).trans c1, (k _).trans c2, (k _).trans c3, ht.keep (fun b q u hV hc => ⟨u, (World.cell?_of_block (a := ⟨b, q, none⟩) (hk b (.inl hV))).trans hc⟩), hb, hk'⟩
theorem byte_keep {b q : Nat} {u : Int} (hc : w.cell? ⟨b, q, none⟩ = some (.int .u8 u)) (v : Int) : ∀ b' q' (u' : Int), w.cell? ⟨b', q', none⟩ = some (.int .u8 u') → ∃ u'' : Int, (w.setCell ⟨b, q, none⟩ (.int .u8 v)).cell? ⟨b', q', none⟩ = some (.int .u8 u'') := fun b' q' u' h => by
  by_cases e : b' = b ∧ q' = q
  · obtain ⟨rfl, rfl⟩ := e
    exact ⟨v, World.cell?_setCell_same' _ _ _ (by rw [hc]; rfl)⟩
  · exact ⟨u', (World.cell?_setCell_other _ _ _ _ (fun e' => by cases e'; exact e ⟨rfl, rfl⟩)).trans h⟩
/-- A byte is written over. -/
theorem Spl.byte (h : Spl U V w) {b q : Nat} {u : Int} (hV : V b) (hc : w.cell? ⟨b, q, none⟩ = some (.int .u8 u)) (v : Int) : Spl U V (w.setCell ⟨b, q, none⟩ (.int .u8 v)) := by
  refine ⟨h.al, fun b' hb => ⟨by simp [World.setCell]; exact (h.vb b' hb).1, fun q => by rw [World.frozen?_setCell]; exact (h.vb b' hb).2 q⟩, fun R b' o hU => ?_⟩
  obtain ⟨hf, hlt, r, y, ta, tn, tc, sa, n, sc, c0, c1, c2, c3, ht, hb, hk'⟩ := h.one R b' o hU
  have hne : b ≠ b' := fun e => (h.al R b' o hU).2 (e ▸ hV)
  have k : ∀ q', (w.setCell ⟨b, q, none⟩ (.int .u8 v)).cell? ⟨b', q', none⟩ = w.cell? ⟨b', q', none⟩ := fun q' => World.cell?_setCell_far _ _ _ _ hne
  exact ⟨fun q => by rw [World.frozen?_setCell]; exact hf q, by simp [World.setCell]; exact hlt, r, y, ta, tn, tc, sa, n, sc, (k _).trans c0, (k _).trans c1, (k _).trans c2, (k _).trans c3, ht.keep (fun b q u _ h => byte_keep hc v b q u h), hb, hk'⟩
/-- A place is written over. -/
theorem Spl.put (h : Spl U V w) {R b o : Nat} (hU : U R b o) (r : Int) (y : ByteArray) : Spl U V ((((w.setCell ⟨b, o, none⟩ (.int .i64 r)).setCell ⟨b, o + 1, none⟩ (.string y)).setCell ⟨b, o + 2, none⟩ (.slice none 0 0)).setCell ⟨b, o + 3, none⟩ (.slice none 0 0)) := by
  obtain ⟨A1, e1⟩ : ∃ A, w.setCell ⟨b, o, none⟩ (.int .i64 r) = A := ⟨_, rfl⟩
  obtain ⟨A2, e2⟩ : ∃ A, A1.setCell ⟨b, o + 1, none⟩ (.string y) = A := ⟨_, rfl⟩
  obtain ⟨A3, e3⟩ : ∃ A, A2.setCell ⟨b, o + 2, none⟩ (.slice none 0 0) = A := ⟨_, rfl⟩
  obtain ⟨A4, e4⟩ : ∃ A, A3.setCell ⟨b, o + 3, none⟩ (.slice none 0 0) = A := ⟨_, rfl⟩
  rw [e1, e2, e3, e4]
  have hz : A4.heap.size = w.heap.size := by rw [← e4, ← e3, ← e2, ← e1]; simp [World.setCell]
  have hfz : ∀ a, A4.frozen? a = w.frozen? a := fun a => by rw [← e4, ← e3, ← e2, ← e1, World.frozen?_setCell, World.frozen?_setCell, World.frozen?_setCell, World.frozen?_setCell]
  have hfar : ∀ b' q, b ≠ b' → A4.cell? ⟨b', q, none⟩ = w.cell? ⟨b', q, none⟩ := fun b' q hne => by rw [← e4, ← e3, ← e2, ← e1, World.cell?_setCell_far _ _ _ _ hne, World.cell?_setCell_far _ _ _ _ hne, World.cell?_setCell_far _ _ _ _ hne, World.cell?_setCell_far _ _ _ _ hne]
  have f1 : ∀ q, q ≠ o → A1.cell? ⟨b, q, none⟩ = w.cell? ⟨b, q, none⟩ := fun q hne => by rw [← e1]; exact World.cell?_setCell_other _ _ _ _ (fun e => by cases e; exact hne rfl)
  have f2 : ∀ q, q ≠ o + 1 → A2.cell? ⟨b, q, none⟩ = A1.cell? ⟨b, q, none⟩ := fun q hne => by rw [← e2]; exact World.cell?_setCell_other _ _ _ _ (fun e => by cases e; exact hne rfl)
  have f3 : ∀ q, q ≠ o + 2 → A3.cell? ⟨b, q, none⟩ = A2.cell? ⟨b, q, none⟩ := fun q hne => by rw [← e3]; exact World.cell?_setCell_other _ _ _ _ (fun e => by cases e; exact hne rfl)
  have f4 : ∀ q, q ≠ o + 3 → A4.cell? ⟨b, q, none⟩ = A3.cell? ⟨b, q, none⟩ := fun q hne => by rw [← e4]; exact World.cell?_setCell_other _ _ _ _ (fun e => by cases e; exact hne rfl)
  have hoth : ∀ q, q ≠ o → q ≠ o + 1 → q ≠ o + 2 → q ≠ o + 3 → A4.cell? ⟨b, q, none⟩ = w.cell? ⟨b, q, none⟩ := fun q h0 h1 h2 h3 => (f4 q h3).trans ((f3 q h2).trans ((f2 q h1).trans (f1 q h0)))
  obtain ⟨_, _, r0, y0, ta0, tn0, tc0, sa0, n0, sc0, x0, x1, x2, x3, _⟩ := h.one R b o hU
  have p0 : A1.cell? ⟨b, o, none⟩ = some (.int .i64 r) := by rw [← e1]; exact World.cell?_setCell_same' _ _ _ (by rw [x0]; rfl)
  have p1 : A2.cell? ⟨b, o + 1, none⟩ = some (.string y) := by rw [← e2]; exact World.cell?_setCell_same' _ _ _ (by rw [f1 _ (by omega), x1]; rfl)
  have p2 : A3.cell? ⟨b, o + 2, none⟩ = some (.slice none 0 0) := by rw [← e3]; exact World.cell?_setCell_same' _ _ _ (by rw [f2 _ (by omega), f1 _ (by omega), x2]; rfl)
  have p3 : A4.cell? ⟨b, o + 3, none⟩ = some (.slice none 0 0) := by rw [← e4]; exact World.cell?_setCell_same' _ _ _ (by rw [f3 _ (by omega), f2 _ (by omega), f1 _ (by omega), x3]; rfl)
  have ao := (h.al R b o hU).1
  have hvk : ∀ b' q (u : Int), V b' → w.cell? ⟨b', q, none⟩ = some (.int .u8 u) → ∃ u' : Int, A4.cell? ⟨b', q, none⟩ = some (.int .u8 u') := fun b' q u hV hc => ⟨u, (hfar b' q (fun e => (h.al R b o hU).2 (by rw [e]; exact hV))).trans hc⟩
  refine ⟨h.al, fun b' hb => ⟨by rw [hz]; exact (h.vb b' hb).1, fun q => (hfz _).trans ((h.vb b' hb).2 q)⟩, fun R' b' o' hU' => ?_⟩
  obtain ⟨hf, hlt, r', y', ta, tn, tc, sa, n, sc, c0, c1, c2, c3, ht, hb, hk'⟩ := h.one R' b' o' hU'
  have ao' := (h.al R' b' o' hU').1
  by_cases hb' : b = b'
  · subst hb'
    by_cases ho : o' = o
    · subst ho
      exact ⟨fun q => (hfz _).trans (hf q), by omega, r, y, none, 0, 0, none, 0, 0, (f4 _ (by omega)).trans ((f3 _ (by omega)).trans ((f2 _ (by omega)).trans p0)), (f4 _ (by omega)).trans ((f3 _ (by omega)).trans p1), (f4 _ (by omega)).trans p2, p3, ⟨by decide, fun i hi => by omega⟩, by decide, fun j hj => by omega⟩
    · exact ⟨fun q => (hfz _).trans (hf q), by omega, r', y', ta, tn, tc, sa, n, sc, (hoth _ (by omega) (by omega) (by omega) (by omega)).trans c0, (hoth _ (by omega) (by omega) (by omega) (by omega)).trans c1, (hoth _ (by omega) (by omega) (by omega) (by omega)).trans c2, (hoth _ (by omega) (by omega) (by omega) (by omega)).trans c3, ht.keep hvk, hb, hk'⟩
  · exact ⟨fun q => (hfz _).trans (hf q), by omega, r', y', ta, tn, tc, sa, n, sc, (hfar _ _ hb').trans c0, (hfar _ _ hb').trans c1, (hfar _ _ hb').trans c2, (hfar _ _ hb').trans c3, ht.keep hvk, hb, hk'⟩
end
end Go.Proofs.YtlkcadibjmfmcaaDoor

/- A term is spoiled. -/
namespace Go.Proofs.YtlkcadibjmfmcaaDoor
open Go.RowKit

theorem Abx.cell {A : Nat → Prop} {X Y : World} (h : Abx A X Y) {p : Addr} (hp : A p.block) : Y.cell? p = X.cell? p := World.cell?_of_block (h.block _ hp)
/-- A list that leads to places below a rank. -/
def Kl (U : Nat → Nat → Nat → Prop) (R : Nat) (sa : Option Addr) (n : Nat) : Prop := n * 72 ≤ 140737488355328 ∧ ∀ j, j < n → ∃ b' o', sa = some ⟨b', o', none⟩ ∧ ∃ R', R' < R ∧ U R' b' (o' + j * 4)
set_option maxRecDepth 100000 in
set_option maxHeartbeats 4000000 in
theorem spoil_any (U : Nat → Nat → Nat → Prop) (V : Nat → Prop) : ∀ (R : Nat) (r : Int) (y : ByteArray) (ta : Option Addr) (tn tc : Nat) (sa : Option Addr) (n sc : Nat) (w : World), Spl U V w → Tb V w ta tn → Kl U R sa n →
    Calls Tryd.prog 27 #[.agg #[.int .i64 r, .string y, .slice ta tn tc, .slice sa n sc]] w fun e w' => (∃ v, e = .returned v) ∧ Spl U V w' ∧ Abx (fun b => b < w.heap.size ∧ ¬ SplB U V b) w w' := by
  intro R
  induction R using Nat.strongRecOn with
  | ind R ih =>
  intro r y ta tn tc sa n sc w hS hT hK
  have hlow : ∀ b, SplB U V b → b < w.heap.size := fun b hb => by
    rcases hb with hb | ⟨R, o, hU⟩
    · exact (hS.vb b hb).1
    · exact (hS.one R b o hU).2.1
  obtain ⟨w1, hw1⟩ : ∃ w1, w.alloc (.cells #[.int .i64 r, .string y, .slice ta tn tc, .slice sa n sc] 25) = w1 := ⟨_, rfl⟩
  have hB1 : Below w.heap.size w w1 := by rw [← hw1]; exact (Below.refl _ _).alloc (Nat.le_refl _) _
  have s1 : w1.heap.size = w.heap.size + 1 := by rw [← hw1]; simp
  have a2 : w1.cell? ⟨w.heap.size, 2, none⟩ = some (.slice ta tn tc) := by rw [← hw1]; exact cell_new 2 rfl
  have a3 : w1.cell? ⟨w.heap.size, 3, none⟩ = some (.slice sa n sc) := by rw [← hw1]; exact cell_new 3 rfl
  have hS1 : Spl U V w1 := hS.keep hB1.size (fun b hb => hB1.block b (hlow b hb))
  have hT1 : Tb V w1 ta tn := hT.keep (fun b q u hV hc => ⟨u, (hB1.cell (p := ⟨b, q, none⟩) (hlow b (.inl hV))).trans hc⟩)
  have hnb : ¬ SplB U V w.heap.size := fun h => by have := hlow _ h; omega
  have hn72 := hK.1
  have htn := hT.1
  have HS1 : Hid _ := hS1
  have HT1 : Hid _ := hT1
  have HSZ : Hid _ := s1
  have HI : Hid _ := ih
  have HKD : Hid _ := hK.2
  have HB1 : Hid _ := hB1
  have HA2 : Hid _ := a2
  have HA3 : Hid _ := a3
  clear ih hK hS hS1 hB1 s1 hlow hT hT1 a3
  go_enter Tryd.func27, Tryd.ntmps27
  go_wp2
  go_loopw [2] (fun i W => ∃ k : Nat, k ≤ tn ∧ i = .int .i64 (k : Int) ∧ Spl U V W ∧ Tb V W ta tn ∧ Abx (fun b => b < w1.heap.size ∧ ¬ SplB U V b) w1 W) (fun i _ => tn - (intOf i).toNat)
  case atStart => exact ⟨0, by omega, rfl, HS1.out, HT1.out, Abx.refl _ _⟩
  case round =>
    obtain ⟨k, hk, rfl, hS, hT, hA⟩ := hrel
    have b2 := (hA.cell (p := ⟨w.heap.size, 2, none⟩) ⟨by have := HSZ.out; show w.heap.size < _; omega, hnb⟩).trans HA2.out
    have HA : Hid _ := hA
    have hkI : (k : Int) ≤ 140737488355328 := by omega
    clear hA a2
    by_cases hlt : k < tn
    · obtain ⟨b, o, rfl, hV, u, hc⟩ := hT.2 k hlt
      have hf := (hS.vb b hV).2 (o + k)
      have HST : Hid _ := hS.byte hV hc 99
      have HTT : Hid _ := hT.keep (w' := wr.setCell ⟨b, o + k, none⟩ (.int .u8 99)) (fun b' q' u' _ h' => byte_keep hc 99 b' q' u' h')
      have HV : Hid _ := hV
      have hkl : (k : Int) < (tn : Int) := by omega
      clear hS hT hV
      go_wp2
      refine ⟨⟨k + 1, by omega, by go_num, HST.out, HTT.out, ?_⟩, by simp [intOf]; omega⟩
      exact HA.out.trans ⟨rfl, rfl, rfl, by simp [World.setCell], fun b' hb' => Below.heap_setCell _ _ _ _ (fun e => hb'.2 (.inl (by rw [e]; exact HV.out)))⟩
    · obtain rfl : k = tn := by omega
      have HS2 : Hid _ := hS
      have hkl : ¬ (k : Int) < (k : Int) := by omega
      clear hS hT
      go_wp2
      go_loopw [3] (fun i W => ∃ k : Nat, k ≤ n ∧ i = .int .i64 (k : Int) ∧ Spl U V W ∧ Abx (fun b => b < w1.heap.size ∧ ¬ SplB U V b) w1 W) (fun i _ => n - (intOf i).toNat)
      case atStart => exact ⟨0, by omega, rfl, HS2.out, HA.out⟩
      case round =>
        clear HA b2
        obtain ⟨k, hk, rfl, hS, hA⟩ := hrel
        have b3 := (hA.cell (p := ⟨w.heap.size, 3, none⟩) ⟨by have := HSZ.out; show w.heap.size < _; omega, hnb⟩).trans HA3.out
        have HA : Hid _ := hA
        have hkI : (k : Int) ≤ 4000000000000 := by omega
        clear hA
        by_cases hlt : k < n
        · obtain ⟨b', o', hsa, R', hR', hU⟩ := HKD.out k hlt
          obtain ⟨hf, hbl, r', y', ta', tn', tc', sa', n', sc', c0, c1, c2, c3, ht', hb', hk'⟩ := hS.one R' b' _ hU
          have HC : Hid _ := fun (_ : Unit) => HI.out R' hR' r' y' ta' tn' tc' sa' n' sc' wr hS ht' ⟨hb', hk'⟩
          have HU : Hid _ := hU
          subst hsa
          clear hf ht' hb' hk' hU hS
          go_wp2_with (go_at_call 27; refine (HC.out ()).mono ?_)
          rintro e w2 ⟨⟨v, rfl⟩, hS2, hA2⟩
          have HA4 : Hid (Abx (fun b => b < w1.heap.size ∧ ¬ SplB U V b) w1 w2) := HA.out.trans (hA2.mono (fun b hb => ⟨Nat.lt_of_lt_of_le hb.1 HA.out.size, hb.2⟩))
          have d3 := (HA4.out.cell (p := ⟨w.heap.size, 3, none⟩) ⟨by have := HSZ.out; show w.heap.size < _; omega, hnb⟩).trans HA3.out
          obtain ⟨hf, hbl2, r3, y3, ta3, tn3, tc3, sa3, n3, sc3, g0, g1, g2, g3, _⟩ := hS2.one R' b' _ HU.out
          have f0 := hf (o' + k * 4)
          have f1 := hf (o' + k * 4 + 1)
          have f2 := hf (o' + k * 4 + 2)
          have f3 := hf (o' + k * 4 + 3)
          have HP : Hid _ := hS2.put HU.out 99 ⟨#[]⟩
          have HNB : Hid (∀ b, ¬ SplB U V b → b ≠ b') := fun b hb e => hb (by rw [e]; exact .inr ⟨_, _, HU.out⟩)
          clear hS2 hA2 hf c0 c1 c2 c3 b3
          go_wp2
          refine ⟨⟨k + 1, by omega, by go_num, HP.out, ?_⟩, by simp [intOf]; omega⟩
          exact HA4.out.trans ⟨rfl, rfl, rfl, by simp [World.setCell], fun b hb => (Below.heap_setCell _ _ _ b (HNB.out b hb.2)).trans ((Below.heap_setCell _ _ _ b (HNB.out b hb.2)).trans ((Below.heap_setCell _ _ _ b (HNB.out b hb.2)).trans (Below.heap_setCell _ _ _ b (HNB.out b hb.2))))⟩
        · obtain rfl : k = n := by omega
          have HF : Hid (Spl U V wr ∧ Abx (fun b => b < w.heap.size ∧ ¬ SplB U V b) w wr) := ⟨hS, ⟨HA.out.os.trans HB1.out.os, HA.out.tape.trans HB1.out.tape, HA.out.output.trans HB1.out.output, Nat.le_trans HB1.out.size HA.out.size, fun b hb => (HA.out.block b ⟨by have := HSZ.out; omega, hb.2⟩).trans (HB1.out.block b hb.1)⟩⟩
          clear hS
          go_wp2
          go_end0
          exact ⟨⟨_, rfl⟩, HF.out⟩
end Go.Proofs.YtlkcadibjmfmcaaDoor

/- The places of a term that lies in blocks of its own. -/
namespace Go.Proofs.YtlkcadibjmfmcaaDoor
open Go.RowKit

theorem Tag.uni {w : World} {b : Nat} {s t : TypeId} (h : Tag w b s) (h' : Tag w b t) : s = t := by
  obtain ⟨cs, fz, h⟩ := h
  obtain ⟨cs', fz', h'⟩ := h'
  rw [h] at h'
  cases h'
  rfl
/-- The blocks of texts. -/
def textsOf (w : World) (S : Nat → Prop) (b : Nat) : Prop := S b ∧ Tag w b 5 ∧ ∀ q, w.frozen? ⟨b, q, none⟩ = false
/-- The places of a term that lies so. -/
def placesOf (w : World) (S : Nat → Prop) (R b o : Nat) : Prop := S b ∧ o % 4 = 0 ∧ (Tag w b 25 ∧ ∀ q, w.frozen? ⟨b, q, none⟩ = false) ∧ ∃ (d : Tm) (f : Nat) (tv : Value) (sa : Option Addr) (sc : Nat), dp d ≤ R ∧ w.cell? ⟨b, o, none⟩ = some (.int .i64 d.kind) ∧ w.cell? ⟨b, o + 1, none⟩ = some (.string d.cons) ∧ w.cell? ⟨b, o + 2, none⟩ = some tv ∧ w.cell? ⟨b, o + 3, none⟩ = some (.slice sa d.kids.length sc) ∧ Txx w S tv d.text ∧ MIx w S f sa d.kids
theorem MIx.len' {w : World} {S : Nat → Prop} {f : Nat} {a : Option Addr} {l : List Tm} (h : MIx w S f a l) : l.length * 72 ≤ 140737488355328 := by
  match f, h with
  | 0, h =>
    have h' : l = [] := h
    subst h'; decide
  | f + 1, h => exact h.1
theorem MIx.place {w : World} {S : Nat → Prop} {f : Nat} {a : Option Addr} {l : List Tm} (h : MIx w S f a l) {j : Nat} {d : Tm} (hj : l[j]? = some d) : ∃ b o, a = some ⟨b, o, none⟩ ∧ placesOf w S (dp d) b (o + j * 4) := by
  match f, h with
  | 0, h =>
    have h' : l = [] := h
    subst h'; cases hj
  | f + 1, h =>
    obtain ⟨b, o, e, hs, ⟨ho, hg, hf⟩, tv, sa, sc, c0, c1, c2, c3, ht, hc, hk⟩ := h.2 j d hj
    exact ⟨b, o, e, hs, by omega, ⟨hg, hf⟩, d, f, tv, sa, sc, Nat.le_refl _, c0, c1, c2, c3, ht, hk⟩
theorem MIx.kl {w : World} {S : Nat → Prop} {f : Nat} {a : Option Addr} {l : List Tm} (h : MIx w S f a l) : Kl (placesOf w S) (dpL l + 1) a l.length := by
  refine ⟨h.len', fun j hj => ?_⟩
  obtain ⟨x, hx⟩ : ∃ x, l[j]? = some x := ⟨l[j], by simp⟩
  obtain ⟨b', o', e, hp⟩ := h.place hx
  have := dpL_mem hx
  exact ⟨b', o', e, dp x, by omega, hp⟩
theorem Txx.tb {w : World} {S : Nat → Prop} {ta : Option Addr} {tn tc : Nat} {t : List UInt8} (h : Txx w S (.slice ta tn tc) t) : Tb (textsOf w S) w ta tn := by
  obtain ⟨ta', tc', e, h1, h2, h3⟩ := h
  cases e
  refine ⟨h2, fun i hi => ?_⟩
  obtain ⟨b, o, e, hs, hx, hc⟩ := h3 i t[i] (by simp)
  exact ⟨b, o, e, ⟨hs, hx⟩, _, hc⟩
theorem spl_places {w : World} {S : Nat → Prop} (hS : ∀ b, S b → b < w.heap.size) : Spl (placesOf w S) (textsOf w S) w := by
  refine ⟨fun R b o h => ⟨h.2.1, fun hV => by have := Tag.uni h.2.2.1.1 hV.2.1; exact absurd this (by decide)⟩, fun b hb => ⟨hS b hb.1, hb.2.2⟩, fun R b o h => ?_⟩
  obtain ⟨hs, ho, ⟨hg, hf⟩, d, f, tv, sa, sc, hd, c0, c1, c2, c3, ht, hk⟩ := h
  obtain ⟨ta, tc, rfl, h1, h2, h3⟩ := ht
  refine ⟨hf, hS b hs, d.kind, d.cons, ta, d.text.length, tc, sa, d.kids.length, sc, c0, c1, c2, c3, Txx.tb ⟨ta, tc, rfl, h1, h2, h3⟩, hk.len', fun j hj => ?_⟩
  obtain ⟨x, hx⟩ : ∃ x, d.kids[j]? = some x := ⟨d.kids[j], by simp⟩
  obtain ⟨b', o', e, hp⟩ := hk.place hx
  refine ⟨b', o', e, dp x, ?_, hp⟩
  have := dpL_mem hx
  rw [dp_eq] at hd
  omega
/-- A term that lies in blocks of S is spoiled: all other blocks are as they were. -/
theorem spoil_in {w : World} {S : Nat → Prop} (hS : ∀ b, S b → b < w.heap.size) (d : Tm) (ta : Option Addr) (tc : Nat) (sa : Option Addr) (sc f : Nat) (ht : Txx w S (.slice ta d.text.length tc) d.text) (hk : MIx w S f sa d.kids) :
    Calls Tryd.prog 27 #[.agg #[.int .i64 d.kind, .string d.cons, .slice ta d.text.length tc, .slice sa d.kids.length sc]] w fun e w' => (∃ v, e = .returned v) ∧ Abx (fun b => b < w.heap.size ∧ ¬ S b) w w' := by
  refine (spoil_any (placesOf w S) (textsOf w S) (dpL d.kids + 1) d.kind d.cons ta d.text.length tc sa d.kids.length sc w (spl_places hS) ht.tb hk.kl).mono ?_
  rintro e w' ⟨hv, _, hA⟩
  refine ⟨hv, hA.mono (fun b hb => ⟨hb.1, fun h => hb.2 ?_⟩)⟩
  rcases h with h | ⟨R, o, h⟩
  · exact h.1
  · exact h.1
end Go.Proofs.YtlkcadibjmfmcaaDoor

/- The law TermsSame, walked. -/
namespace Go.Proofs.YtlkcadibjmfmcaaDoor
open Go.RowKit

/-- Both terms in their boxes. -/
structure Tw (w : World) (a b : Tm) (ta : Option Addr) (tc : Nat) (sa : Option Addr) (sc : Nat) (tb : Option Addr) (td : Nat) (sb : Option Addr) (sd : Nat) (W : World) : Prop where
  bel : Below w.heap.size w W
  a0 : W.cell? ⟨w.heap.size, 0, none⟩ = some (.int .i64 a.kind)
  a1 : W.cell? ⟨w.heap.size, 1, none⟩ = some (.string a.cons)
  a2 : W.cell? ⟨w.heap.size, 2, none⟩ = some (.slice ta a.text.length tc)
  a3 : W.cell? ⟨w.heap.size, 3, none⟩ = some (.slice sa a.kids.length sc)
  b0 : W.cell? ⟨w.heap.size + 1, 0, none⟩ = some (.int .i64 b.kind)
  b1 : W.cell? ⟨w.heap.size + 1, 1, none⟩ = some (.string b.cons)
  b2 : W.cell? ⟨w.heap.size + 1, 2, none⟩ = some (.slice tb b.text.length td)
  b3 : W.cell? ⟨w.heap.size + 1, 3, none⟩ = some (.slice sb b.kids.length sd)
  ka : TA W a ta tc sa sc
  kb : TA W b tb td sb sd
  lt : w.heap.size + 1 < W.heap.size
section
variable {w : World} {a b : Tm} {ta : Option Addr} {tc : Nat} {sa : Option Addr} {sc : Nat} {tb : Option Addr} {td : Nat} {sb : Option Addr} {sd : Nat} {W W' : World}
theorem Tw.nx (hb : Below W.heap.size W W') (h : Tw w a b ta tc sa sc tb td sb sd W) : Tw w a b ta tc sa sc tb td sb sd W' := by
  have hl := h.lt
  have k : ∀ b q, b < W.heap.size → W'.cell? ⟨b, q, none⟩ = W.cell? ⟨b, q, none⟩ := fun b q hlt => hb.cell (p := ⟨b, q, none⟩) hlt
  exact ⟨below_of h.bel hb, (k _ _ (by omega)).trans h.a0, (k _ _ (by omega)).trans h.a1, (k _ _ (by omega)).trans h.a2, (k _ _ (by omega)).trans h.a3, (k _ _ (by omega)).trans h.b0, (k _ _ (by omega)).trans h.b1, (k _ _ (by omega)).trans h.b2, (k _ _ (by omega)).trans h.b3, h.ka.nx hb, h.kb.nx hb, Nat.lt_of_lt_of_le hl hb.size⟩
theorem Tw.drew (h : Tw w a b ta tc sa sc tb td sb sd W) : Tw w a b ta tc sa sc tb td sb sd W.drew := Tw.nx (show Below W.heap.size W W.drew from ⟨rfl, rfl, rfl, Nat.le_refl _, fun _ _ => rfl⟩) h
theorem Tw.facts (h : Tw w a b ta tc sa sc tb td sb sd W) : W.cell? ⟨w.heap.size, 0, none⟩ = some (.int .i64 a.kind) ∧ W.cell? ⟨w.heap.size, 1, none⟩ = some (.string a.cons) ∧ W.cell? ⟨w.heap.size, 2, none⟩ = some (.slice ta a.text.length tc) ∧ W.cell? ⟨w.heap.size, 3, none⟩ = some (.slice sa a.kids.length sc) ∧ W.cell? ⟨w.heap.size + 1, 0, none⟩ = some (.int .i64 b.kind) ∧ W.cell? ⟨w.heap.size + 1, 1, none⟩ = some (.string b.cons) ∧ W.cell? ⟨w.heap.size + 1, 2, none⟩ = some (.slice tb b.text.length td) ∧ W.cell? ⟨w.heap.size + 1, 3, none⟩ = some (.slice sb b.kids.length sd) := ⟨h.a0, h.a1, h.a2, h.a3, h.b0, h.b1, h.b2, h.b3⟩
theorem Tw.first (ha : TA w a ta tc sa sc) (hb : TA w b tb td sb sd) (W : World) (hW : (w.alloc (.cells #[.int .i64 a.kind, .string a.cons, .slice ta a.text.length tc, .slice sa a.kids.length sc] 25)).alloc (.cells #[.int .i64 b.kind, .string b.cons, .slice tb b.text.length td, .slice sb b.kids.length sd] 25) = W) : Tw w a b ta tc sa sc tb td sb sd W := by
  obtain ⟨w1, hw1⟩ : ∃ w1, w.alloc (.cells #[.int .i64 a.kind, .string a.cons, .slice ta a.text.length tc, .slice sa a.kids.length sc] 25) = w1 := ⟨_, rfl⟩
  rw [hw1] at hW
  have s1 : w1.heap.size = w.heap.size + 1 := by rw [← hw1]; simp
  have hB1 : Below w.heap.size w w1 := by rw [← hw1]; exact (Below.refl _ _).alloc (Nat.le_refl _) _
  have hB2' : Below w1.heap.size w1 W := by rw [← hW]; exact (Below.refl _ _).alloc (Nat.le_refl _) _
  have hB2 : Below w.heap.size w W := hB1.trans (hB2'.mono (by omega))
  have c1 : ∀ j v, (#[.int .i64 a.kind, .string a.cons, .slice ta a.text.length tc, .slice sa a.kids.length sc] : Array Value)[j]? = some v → W.cell? ⟨w.heap.size, j, none⟩ = some v := fun j v hv => (hB2'.cell (p := ⟨w.heap.size, j, none⟩) (by show w.heap.size < _; omega)).trans (by rw [← hw1]; exact cell_new j hv)
  have c2 : ∀ j v, (#[.int .i64 b.kind, .string b.cons, .slice tb b.text.length td, .slice sb b.kids.length sd] : Array Value)[j]? = some v → W.cell? ⟨w.heap.size + 1, j, none⟩ = some v := fun j v hv => by rw [← hW, ← s1]; exact cell_new j hv
  exact ⟨hB2, c1 0 _ rfl, c1 1 _ rfl, c1 2 _ rfl, c1 3 _ rfl, c2 0 _ rfl, c2 1 _ rfl, c2 2 _ rfl, c2 3 _ rfl, ha.nx hB2, hb.nx hB2, by rw [← hW]; simp; omega⟩
end
theorem copy_t (d : Tm) (ta : Option Addr) (tc : Nat) (sa : Option Addr) (sc : Nat) (w : World) (h : TA w d ta tc sa sc) :
    Calls Tryd.prog 14 #[.agg #[.int .i64 d.kind, .string d.cons, .slice ta d.text.length tc, .slice sa d.kids.length sc]] w fun e w' => (∃ xa xc va vc, e = .returned (.agg #[.int .i64 d.kind, .string d.cons, .slice xa d.text.length xc, .slice va d.kids.length vc]) ∧ TA w' d xa xc va vc) ∧ Below w.heap.size w w' := by
  obtain ⟨f, hf⟩ := h.mat
  refine (copy_any f d _ sa sc w h.txt hf).mono ?_
  rintro e w' ⟨⟨uv, va, vc, rfl, h1, h2, h3⟩, hb⟩
  obtain ⟨xa, xc, rfl, h4, h5, h6⟩ := h2.txt (fun b hb => hb.2)
  exact ⟨⟨xa, xc, va, vc, rfl, ⟨h4, h5, h6, h1, f, h3.mat (fun b hb => hb.2)⟩⟩, hb⟩
set_option maxRecDepth 100000 in
set_option maxHeartbeats 8000000 in
theorem termsSame_walk (a : Tm) (ta : Option Addr) (tc : Nat) (sa : Option Addr) (sc : Nat) (b : Tm) (tb : Option Addr) (td : Nat) (sb : Option Addr) (sd : Nat) (w : World) (hka : TA w a ta tc sa sc) (hkb : TA w b tb td sb sd) :
    Calls Tryd.prog 4 #[.agg #[.int .i64 a.kind, .string a.cons, .slice ta a.text.length tc, .slice sa a.kids.length sc], .agg #[.int .i64 b.kind, .string b.cons, .slice tb b.text.length td, .slice sb b.kids.length sd]] w fun e w' => e = .returned (.bool true) ∧ Below w.heap.size w w' := by
  obtain ⟨w2, hw2⟩ : ∃ w2, (w.alloc (.cells #[.int .i64 a.kind, .string a.cons, .slice ta a.text.length tc, .slice sa a.kids.length sc] 25)).alloc (.cells #[.int .i64 b.kind, .string b.cons, .slice tb b.text.length td, .slice sb b.kids.length sd] 25) = w2 := ⟨_, rfl⟩
  have T0 := Tw.first hka hkb w2 hw2
  obtain ⟨e0, e1, e2, e3, g0, g1, g2, g3⟩ := T0.facts
  have HT0 : Hid _ := T0
  clear hka hkb T0
  have HALV : Hid (∀ W, Calls Tryd.prog 13 #[] W fun e w' => e = .returned (.bool true) ∧ Below W.heap.size W w') := fun W => alive_any W
  have HHA : Hid (∀ W, Tw w a b ta tc sa sc tb td sb sd W → Calls Tryd.prog 12 #[.agg #[.int .i64 a.kind, .string a.cons, .slice ta a.text.length tc, .slice sa a.kids.length sc]] W fun e w' => e = .returned (.bool (decide (1000 < wt a))) ∧ Below W.heap.size W w') := fun W h => heavy_t a ta tc sa sc W h.ka
  have HHB : Hid (∀ W, Tw w a b ta tc sa sc tb td sb sd W → Calls Tryd.prog 12 #[.agg #[.int .i64 b.kind, .string b.cons, .slice tb b.text.length td, .slice sb b.kids.length sd]] W fun e w' => e = .returned (.bool (decide (1000 < wt b))) ∧ Below W.heap.size W w') := fun W h => heavy_t b tb td sb sd W h.kb
  by_cases ha : 1000 < wt a
  · rw [decide_eq_true ha] at HHA
    clear ha
    obtain ⟨w1, hw1⟩ : ∃ w1, w.alloc (.cells #[.int .i64 a.kind, .string a.cons, .slice ta a.text.length tc, .slice sa a.kids.length sc] 25) = w1 := ⟨_, rfl⟩
    rw [hw1] at hw2
    have s1 : w1.heap.size = w.heap.size + 1 := by rw [← hw1]; simp
    go_enter Tryd.func4, Tryd.ntmps4
    go_wp2_with (go_at_call 12; refine (HHA.out _ HT0.out).mono ?_; rintro e w3 ⟨rfl, hb3⟩; have HT3 : Hid _ := HT0.out.nx hb3; clear hb3)
    refine (HALV.out _).mono ?_
    rintro e w4 ⟨rfl, hb4⟩
    have HT4 : Hid _ := HT3.out.nx hb4
    clear hb4
    go_wp2
    go_ret
    exact ⟨rfl, HT4.out.bel⟩
  · rw [decide_eq_false ha] at HHA
    by_cases hb : 1000 < wt b
    · rw [decide_eq_true hb] at HHB
      clear ha hb
      obtain ⟨w1, hw1⟩ : ∃ w1, w.alloc (.cells #[.int .i64 a.kind, .string a.cons, .slice ta a.text.length tc, .slice sa a.kids.length sc] 25) = w1 := ⟨_, rfl⟩
      rw [hw1] at hw2
      have s1 : w1.heap.size = w.heap.size + 1 := by rw [← hw1]; simp
      go_enter Tryd.func4, Tryd.ntmps4
      go_wp2_with (go_at_call 12; refine (HHA.out _ HT0.out).mono ?_; rintro e w3 ⟨rfl, hb3⟩; have HT3 : Hid _ := HT0.out.nx hb3; clear hb3; obtain ⟨e0, e1, e2, e3, g0, g1, g2, g3⟩ := HT3.out.facts)
      refine (HHB.out _ HT3.out).mono ?_
      rintro e w5 ⟨rfl, hb5⟩
      have HT5 : Hid _ := HT3.out.nx hb5
      clear hb5
      go_wp2_with (go_at_call 13; refine (HALV.out _).mono ?_; rintro e w4 ⟨rfl, hb4⟩)
      go_ret
      exact ⟨rfl, (HT5.out.nx hb4).bel⟩
    · rw [decide_eq_false hb] at HHB
      have hsz := sz_wt a
      have HS1 : Hid (∀ W, Tw w a b ta tc sa sc tb td sb sd W → Calls Tryd.prog 22 #[.agg #[.int .i64 a.kind, .string a.cons, .slice ta a.text.length tc, .slice sa a.kids.length sc], .agg #[.int .i64 b.kind, .string b.cons, .slice tb b.text.length td, .slice sb b.kids.length sd]] W fun e w' => e = .returned (.bool (eqT a b)) ∧ Below W.heap.size W w') := fun W h => same_t a b ta tc sa sc tb td sb sd W h.ka h.kb (by omega)
      have HS2 : Hid (∀ W, Tw w a b ta tc sa sc tb td sb sd W → Calls Tryd.prog 21 #[.agg #[.int .i64 a.kind, .string a.cons, .slice ta a.text.length tc, .slice sa a.kids.length sc], .agg #[.int .i64 b.kind, .string b.cons, .slice tb b.text.length td, .slice sb b.kids.length sd]] W fun e w' => e = .returned (.bool (eqT a b)) ∧ Below W.heap.size W w') := fun W h => refSame_t a b ta tc sa sc tb td sb sd W h.ka h.kb
      have HCP : Hid (∀ W, Tw w a b ta tc sa sc tb td sb sd W → Calls Tryd.prog 14 #[.agg #[.int .i64 a.kind, .string a.cons, .slice ta a.text.length tc, .slice sa a.kids.length sc]] W fun e w' => (∃ xa xc va vc, e = .returned (.agg #[.int .i64 a.kind, .string a.cons, .slice xa a.text.length xc, .slice va a.kids.length vc]) ∧ TA w' a xa xc va vc) ∧ Below W.heap.size W w') := fun W h => copy_t a ta tc sa sc W h.ka
      have HS3 : Hid (∀ W xa xc va vc, Tw w a b ta tc sa sc tb td sb sd W → TA W a xa xc va vc → Calls Tryd.prog 22 #[.agg #[.int .i64 a.kind, .string a.cons, .slice ta a.text.length tc, .slice sa a.kids.length sc], .agg #[.int .i64 a.kind, .string a.cons, .slice xa a.text.length xc, .slice va a.kids.length vc]] W fun e w' => e = .returned (.bool true) ∧ Below W.heap.size W w') := fun W xa xc va vc h hv => by
        have h' := same_t a a ta tc sa sc xa xc va vc W h.ka hv (by omega)
        rw [eqT_true rfl] at h'
        exact h'
      generalize eqT a b = q at HS1 HS2
      clear ha hb hsz
      obtain ⟨w1, hw1⟩ : ∃ w1, w.alloc (.cells #[.int .i64 a.kind, .string a.cons, .slice ta a.text.length tc, .slice sa a.kids.length sc] 25) = w1 := ⟨_, rfl⟩
      rw [hw1] at hw2
      have s1 : w1.heap.size = w.heap.size + 1 := by rw [← hw1]; simp
      go_enter Tryd.func4, Tryd.ntmps4
      go_wp2_with (go_at_call 12; refine (HHA.out _ HT0.out).mono ?_; rintro e w3 ⟨rfl, hb3⟩; have HT3 : Hid _ := HT0.out.nx hb3; clear hb3; obtain ⟨e0, e1, e2, e3, g0, g1, g2, g3⟩ := HT3.out.facts)
      refine (HHB.out _ HT3.out).mono ?_
      rintro e w5 ⟨rfl, hb5⟩
      have HT5 : Hid _ := HT3.out.nx hb5
      clear hb5
      go_wp2
      have T := HT5.out
      have hqq : (q == q) = true := by simp
      clear e0 e1 e2 e3 g0 g1 g2 g3 HT3 HT0 HHA HHB
      go_region_held3 (fun W => W.cell? ⟨w.heap.size, 0, none⟩ = some (.int .i64 a.kind) ∧ W.cell? ⟨w.heap.size, 1, none⟩ = some (.string a.cons) ∧ W.cell? ⟨w.heap.size, 2, none⟩ = some (.slice ta a.text.length tc) ∧ W.cell? ⟨w.heap.size, 3, none⟩ = some (.slice sa a.kids.length sc) ∧ W.cell? ⟨w.heap.size + 1, 0, none⟩ = some (.int .i64 b.kind) ∧ W.cell? ⟨w.heap.size + 1, 1, none⟩ = some (.string b.cons) ∧ W.cell? ⟨w.heap.size + 1, 2, none⟩ = some (.slice tb b.text.length td) ∧ W.cell? ⟨w.heap.size + 1, 3, none⟩ = some (.slice sb b.kids.length sd)) (first | exact T.facts | exact T.drew.facts) (first
        | (go_at_call 13; refine (HALV.out _).mono ?_; rintro e w6 ⟨rfl, hb6⟩; replace T : Tw w a b ta tc sa sc tb td sb sd w6 := (by first | exact Tw.nx hb6 T | exact Tw.nx hb6 T.drew); clear hb6)
        | (go_at_call 21; refine (HS2.out _ (by first | exact T | exact T.drew)).mono ?_; rintro e w7 ⟨rfl, hb7⟩; replace T : Tw w a b ta tc sa sc tb td sb sd w7 := (by first | exact Tw.nx hb7 T | exact Tw.nx hb7 T.drew); clear hb7)
        | (go_at_call 14; refine (HCP.out _ (by first | exact T | exact T.drew)).mono ?_; rintro e w8 ⟨⟨xa, xc, va, vc, rfl, htin⟩, hb8⟩; replace T : Tw w a b ta tc sa sc tb td sb sd w8 := (by first | exact Tw.nx hb8 T | exact Tw.nx hb8 T.drew); clear hb8)
        | (go_at_call 22; refine (HS1.out _ (by first | exact T | exact T.drew)).mono ?_; rintro e w9 ⟨rfl, hb9⟩; replace T : Tw w a b ta tc sa sc tb td sb sd w9 := (by first | exact Tw.nx hb9 T | exact Tw.nx hb9 T.drew); clear hb9)
        | (go_at_call 22; refine (HS3.out _ xa xc va vc (by first | exact T | exact T.drew) htin).mono ?_; rintro e w10 ⟨rfl, hb10⟩; replace T : Tw w a b ta tc sa sc tb td sb sd w10 := (by first | exact Tw.nx hb10 T | exact Tw.nx hb10 T.drew); clear hb10 htin))
      all_goals go_wp2
      all_goals go_ret
      all_goals exact ⟨by simp, T.bel⟩
end Go.Proofs.YtlkcadibjmfmcaaDoor

/- The document's At. -/
namespace Go.Proofs.YtlkcadibjmfmcaaDoor
open Go.RowKit Go.Shelf

/-- What was told within a call, laid into the call's own result. -/
theorem apost_lift {w W w7 : World} {c : Nat} {q : Option Tm} {e : Ending} (hB : Below w.heap.size w W) (hc : w.heap.size ≤ c) (hlt : c < W.heap.size) (r0 : W.cell? ⟨c, 0, none⟩ = some (.int .i64 0)) (r1 : W.cell? ⟨c, 1, none⟩ = some (.string ⟨#[]⟩)) (r2 : W.cell? ⟨c, 2, none⟩ = some (.slice none 0 0)) (r3 : W.cell? ⟨c, 3, none⟩ = some (.slice none 0 0)) (rf : ∀ q, W.frozen? ⟨c, q, none⟩ = false) (h : OPost W q e w7) :
    ∃ r u ua un uc va vn vc er, e = .returned (.tuple #[.agg #[.int .i64 r, .string u, .slice ua un uc, .slice va vn vc], .int .i64 er]) ∧ (w7.cell? ⟨c, 0, none⟩ = some (.int .i64 0) ∧ w7.cell? ⟨c, 1, none⟩ = some (.string ⟨#[]⟩) ∧ w7.cell? ⟨c, 2, none⟩ = some (.slice none 0 0) ∧ w7.cell? ⟨c, 3, none⟩ = some (.slice none 0 0) ∧ ∀ q, w7.frozen? ⟨c, q, none⟩ = false) ∧ Below W.heap.size W w7 ∧
      OPost w q (.returned (.tuple #[.agg #[.int .i64 r, .string u, .slice ua un uc, .slice va vn vc], .int .i64 er])) ((((w7.setCell ⟨c, 0, none⟩ (.int .i64 r)).setCell ⟨c, 1, none⟩ (.string u)).setCell ⟨c, 2, none⟩ (.slice ua un uc)).setCell ⟨c, 3, none⟩ (.slice va vn vc)) := by
  cases q with
  | none =>
    obtain ⟨⟨ua, uc, rfl⟩, hb7⟩ := h
    have k7 : ∀ q, w7.cell? ⟨c, q, none⟩ = _ := fun q => hb7.cell (p := ⟨c, q, none⟩) hlt
    have hbb : Below w.heap.size w w7 := hB.trans (hb7.mono hB.size)
    exact ⟨_, _, _, _, _, _, _, _, _, rfl, ⟨(k7 0).trans r0, (k7 1).trans r1, (k7 2).trans r2, (k7 3).trans r3, fun q => (hb7.frozen (p := ⟨c, q, none⟩) hlt).trans (rf q)⟩, hb7, ⟨ua, uc, rfl⟩, (((hbb.setCell hc _).setCell hc _).setCell hc _).setCell hc _⟩
  | some x =>
    obtain ⟨⟨F, ua, uc, va, vc, rfl, hut, hvc, htin⟩, hb7⟩ := h
    have k7 : ∀ q, w7.cell? ⟨c, q, none⟩ = _ := fun q => hb7.cell (p := ⟨c, q, none⟩) hlt
    have hbb : Below w.heap.size w w7 := hB.trans (hb7.mono hB.size)
    have hws := hB.size
    refine ⟨_, _, _, _, _, _, _, _, _, rfl, ⟨(k7 0).trans r0, (k7 1).trans r1, (k7 2).trans r2, (k7 3).trans r3, fun q => (hb7.frozen (p := ⟨c, q, none⟩) hlt).trans (rf q)⟩, hb7, ⟨F, ua, uc, va, vc, rfl, ?_, hvc, ?_⟩, (((hbb.setCell hc _).setCell hc _).setCell hc _).setCell hc _⟩
    · refine (hut.keep (fun b hb => ?_)).wide (fun b hb => ⟨Nat.le_trans hB.size hb.1, by simp [World.setCell]; exact hb.2⟩)
      have hne : b ≠ c := by have := hb.1; omega
      exact (Below.heap_setCell _ _ _ b hne).trans ((Below.heap_setCell _ _ _ b hne).trans ((Below.heap_setCell _ _ _ b hne).trans (Below.heap_setCell _ _ _ b hne)))
    · refine (htin.keep (fun b hb => ?_)).wide (fun b hb => ⟨Nat.le_trans hB.size hb.1, by simp [World.setCell]; exact hb.2⟩)
      have hne : b ≠ c := by have := hb.1; omega
      exact (Below.heap_setCell _ _ _ b hne).trans ((Below.heap_setCell _ _ _ b hne).trans ((Below.heap_setCell _ _ _ b hne).trans (Below.heap_setCell _ _ _ b hne)))
theorem far4 {W : World} {c b : Nat} (h : c ≠ b) (q : Nat) (u v x y : Value) : ((((W.setCell ⟨c, 0, none⟩ u).setCell ⟨c, 1, none⟩ v).setCell ⟨c, 2, none⟩ x).setCell ⟨c, 3, none⟩ y).cell? ⟨b, q, none⟩ = W.cell? ⟨b, q, none⟩ := by
  rw [World.cell?_setCell_far _ _ _ _ h, World.cell?_setCell_far _ _ _ _ h, World.cell?_setCell_far _ _ _ _ h, World.cell?_setCell_far _ _ _ _ h]
theorem IAt.tail {w : World} {B pb po : Nat} {v : Int} {ps : List Int} (h : IAt w B (some ⟨pb, po, none⟩) (v :: ps)) : IAt w B (some ⟨pb, po + 1, none⟩) ps := fun j u hj => by
  obtain ⟨b, o, e, hlt, hc⟩ := h (j + 1) u (by simpa using hj)
  cases e
  exact ⟨pb, po + 1, rfl, hlt, by rw [show po + 1 + j = po + (j + 1) by omega]; exact hc⟩
set_option maxRecDepth 100000 in
set_option maxHeartbeats 8000000 in
theorem refAt_any : ∀ (ps : List Int) (d : Tm) (ta : Option Addr) (tc : Nat) (sa : Option Addr) (sc f : Nat) (pa : Option Addr) (pc : Nat) (w : World), Txt w w.heap.size (.slice ta d.text.length tc) d.text → MAt w w.heap.size f sa d.kids → d.kids.length ≤ sc → sz d ≤ 1000000000000 → IAt w w.heap.size pa ps → ps.length ≤ pc → ps.length ≤ 1000000000000 →
    Calls Tryd.prog 24 #[.agg #[.int .i64 d.kind, .string d.cons, .slice ta d.text.length tc, .slice sa d.kids.length sc], .slice pa ps.length pc] w fun e w' => OPost w (atP d ps) e w' := by
  intro ps
  induction ps with
  | nil =>
    intro d ta tc sa sc f pa pc w htv hk hsc hz _ _ _
    have hX0 := AI.start w d [] ta tc sa sc f htv hk hsc hz
    obtain ⟨w2, hw2⟩ : ∃ w2, (w.alloc (.cells #[.int .i64 d.kind, .string d.cons, .slice ta d.text.length tc, .slice sa d.kids.length sc] 25)).alloc (.cells #[.int .i64 0, .string ⟨#[]⟩, .slice none 0 0, .slice none 0 0] 25) = w2 := ⟨_, rfl⟩
    rw [hw2] at hX0
    have hB := hX0.bel
    have HC : Hid _ := fun (_ : Unit) => copy_any f d _ sa sc w2 ((htv.keep hB).mono hB.size) ((hk.keep hB).mono hB.size)
    have r0 := hX0.r0
    have r1 := hX0.r1
    have r2 := hX0.r2
    have r3 := hX0.r3
    have rf := hX0.rf
    have hlt2 := hX0.lt
    have HB : Hid _ := hB
    have hsB : w.heap.size ≤ w.heap.size + 1 := by omega
    have HF : Hid (∀ ua uc va vc w7, d.kids.length ≤ vc → Txx w7 (fun b => w2.heap.size ≤ b ∧ b < w7.heap.size) (.slice ua d.text.length uc) d.text → MIx w7 (fun b => w2.heap.size ≤ b ∧ b < w7.heap.size) f va d.kids → Below w2.heap.size w2 w7 → OPost w2 (some d) (.returned (.tuple #[.agg #[.int .i64 d.kind, .string d.cons, .slice ua d.text.length uc, .slice va d.kids.length vc], .int .i64 0])) w7) := fun ua uc va vc w7 h1 h0 h2 h3 => ⟨⟨f, ua, uc, va, vc, rfl, h0, h1, h2⟩, h3⟩
    have HL : Hid (∀ e w7, OPost w2 (some d) e w7 → _) := fun e w7 h => apost_lift hB hsB hlt2 r0 r1 r2 r3 rf h
    clear hX0 hk hB htv
    subst hw2
    go_enter Tryd.func24, Tryd.ntmps24
    go_wp2_with (go_at_call 14; refine (HC.out ()).mono ?_; rintro e w7 ⟨⟨uv, va, vc, rfl, hvc, hut, htin⟩, hb7⟩; obtain ⟨ua, uc, rfl, hut0⟩ := hut; obtain ⟨r, u, ua', un', uc', va', vn', vc', er, he, ⟨r0, r1, r2, r3, rf⟩, _, hp7⟩ := HL.out _ _ (HF.out ua uc va vc w7 hvc ⟨_, _, rfl, hut0⟩ htin hb7); injection he with he; injection he with he; have HP7 : Hid _ := And.intro he hp7; clear he hp7 hvc htin hb7 hut0)
    refine bodyPost_ret (v := .tuple #[.agg #[.int .i64 d.kind, .string d.cons, .slice ua d.text.length uc, .slice va d.kids.length vc], .int .i64 0]) (by simp [results, Tryd.results24, go_sem, r0, r1, r2, r3]) rfl ?_
    obtain ⟨he, hp7⟩ := HP7.out
    simp at he
    obtain ⟨⟨rfl, rfl, ⟨rfl, rfl, rfl⟩, rfl, rfl, rfl⟩, rfl⟩ := he
    exact hp7
  | cons v ps ih =>
    intro d ta tc sa sc f pa pc w htv hk hsc hz hp hpc hpl
    obtain ⟨pb, po, rfl, hpb, hpv⟩ := hp 0 v rfl
    rw [Nat.add_zero] at hpv
    have hX0 := AI.start w d [] ta tc sa sc f htv hk hsc hz
    obtain ⟨w2, hw2⟩ : ∃ w2, (w.alloc (.cells #[.int .i64 d.kind, .string d.cons, .slice ta d.text.length tc, .slice sa d.kids.length sc] 25)).alloc (.cells #[.int .i64 0, .string ⟨#[]⟩, .slice none 0 0, .slice none 0 0] 25) = w2 := ⟨_, rfl⟩
    rw [hw2] at hX0
    have hB := hX0.bel
    have r0 := hX0.r0
    have r1 := hX0.r1
    have r2 := hX0.r2
    have r3 := hX0.r3
    have rf := hX0.rf
    have hlt2 := hX0.lt
    have hsB : w.heap.size ≤ w.heap.size + 1 := by omega
    have hpv2 := (hB.cell (p := ⟨pb, po, none⟩) hpb).trans hpv
    have x2 := hX0.x3
    have HS3 : Hid (w2.drew.cell? ⟨w.heap.size, 3, none⟩ = some (.slice sa d.kids.length sc) ∧ w2.drew.cell? ⟨pb, po, none⟩ = some (.int .i64 v)) := ⟨x2, hpv2⟩
    have HBD : Hid (Below w.heap.size w w2.drew) := ⟨hB.os, hB.tape, hB.output, hB.size, hB.block⟩
    have hln : ((ps.length : Int) + 1 == 0) = false := by simp; omega
    have hl0 : (0 : Int) < (ps.length : Int) + 1 := by omega
    have hlN : 0 < ps.length + 1 := by omega
    obtain ⟨n, hn⟩ : ∃ n, ps.length = n := ⟨_, rfl⟩
    have HN0 : Hid _ := hn
    rw [List.length_cons] at hpc hpl ⊢
    rw [hn] at hln hl0 hlN hpc hpl ⊢
    have HW2 : Hid _ := hw2
    by_cases hv0 : v < 0
    · have HN : Hid (atP d (v :: ps) = none) := by show _ = _; rw [atP]; unfold kidAt; rw [if_neg (by omega)]; rfl
      have hd0 : decide (v < 0) = true := by simpa using hv0
      clear hX0 hk hB ih hp hpv hn hw2 htv
      subst_vars
      go_enter Tryd.func24, Tryd.ntmps24
      go_wp2
      refine wp_region_held_drew (S := (fun W => W.cell? ⟨w.heap.size, 3, none⟩ = some (.slice sa d.kids.length sc) ∧ W.cell? ⟨pb, po, none⟩ = some (.int .i64 v))) (by kernel_rfl) HS3.out (fun hHeld => ?_)
      refine wpAnyH_take (i := 0) (v := ?v39) rfl (by kernel_rfl) (by kernel_rfl) (by kernel_rfl) (fun _ _ _ h => h) (Or.inl ⟨by rfl, ?y39⟩) (by assumption) ?_
      case y39 => (intro w hSw; (try dsimp only at hSw); go_simp <;> with_reducible rfl)
      try simp only [Act.put, List.getElem_toArray, List.getElem_cons_zero, List.setIfInBounds_toArray, List.set_cons_zero, List.set_cons_succ]
      refine wpAnyH_take (i := 1) (v := ?v40) rfl (by kernel_rfl) (by kernel_rfl) (by kernel_rfl) (fun _ _ _ h => h) (Or.inl ⟨by rfl, ?y40⟩) (by assumption) ?_
      case y40 => (intro w hSw; (try dsimp only at hSw); go_simp <;> with_reducible rfl)
      try simp only [Act.put, List.getElem_toArray, List.getElem_cons_zero, List.getElem_cons_succ, List.setIfInBounds_toArray, List.set_cons_zero, List.set_cons_succ]
      refine wpAnyH_take (i := 2) (v := ?v41) rfl (by kernel_rfl) (by kernel_rfl) (by kernel_rfl) (fun _ _ _ h => h) (Or.inl ⟨by rfl, ?y41⟩) (by assumption) ?_
      case y41 => (intro w hSw; (try dsimp only at hSw); go_simp <;> with_reducible rfl)
      try simp only [Act.put, List.getElem_toArray, List.getElem_cons_zero, List.getElem_cons_succ, List.setIfInBounds_toArray, List.set_cons_zero, List.set_cons_succ]
      refine wpAnyH_take (i := 3) (v := ?v42) rfl (by kernel_rfl) (by kernel_rfl) (by kernel_rfl) (fun _ _ _ h => h) (Or.inl ⟨by rfl, ?y42⟩) (by assumption) ?_
      case y42 => (intro w hSw; (try dsimp only at hSw); go_simp <;> with_reducible rfl)
      try simp only [Act.put, List.getElem_toArray, List.getElem_cons_zero, List.getElem_cons_succ, List.setIfInBounds_toArray, List.set_cons_zero, List.set_cons_succ]
      refine wpAnyH_take (i := 4) (v := ?v43) rfl (by kernel_rfl) (by kernel_rfl) (by kernel_rfl) (fun _ _ _ h => h) (Or.inl ⟨by rfl, ?y43⟩) (by assumption) ?_
      case y43 => (intro w hSw; (try dsimp only at hSw); go_simp <;> with_reducible rfl)
      try simp only [Act.put, List.getElem_toArray, List.getElem_cons_zero, List.getElem_cons_succ, List.setIfInBounds_toArray, List.set_cons_zero, List.set_cons_succ]
      refine wpAnyH_take (i := 5) (v := undef) rfl (by kernel_rfl) (by kernel_rfl) (by kernel_rfl) (fun _ _ _ h => h) (Or.inr ⟨by rfl, rfl⟩) (by assumption) ?_
      try simp only [Act.put, List.getElem_toArray, List.getElem_cons_zero, List.getElem_cons_succ, List.setIfInBounds_toArray, List.set_cons_zero, List.set_cons_succ]
      refine wpAnyH_take (i := 6) (v := undef) rfl (by kernel_rfl) (by kernel_rfl) (by kernel_rfl) (fun _ _ _ h => h) (Or.inr ⟨by rfl, rfl⟩) (by assumption) ?_
      try simp only [Act.put, List.getElem_toArray, List.getElem_cons_zero, List.getElem_cons_succ, List.setIfInBounds_toArray, List.set_cons_zero, List.set_cons_succ]
      refine wpAnyH_take (i := 7) (v := undef) rfl (by kernel_rfl) (by kernel_rfl) (by kernel_rfl) (fun _ _ _ h => h) (Or.inr ⟨by rfl, rfl⟩) (by assumption) ?_
      try simp only [Act.put, List.getElem_toArray, List.getElem_cons_zero, List.getElem_cons_succ, List.setIfInBounds_toArray, List.set_cons_zero, List.set_cons_succ]
      refine wpAnyH_take (i := 8) (v := undef) rfl (by kernel_rfl) (by kernel_rfl) (by kernel_rfl) (fun _ _ _ h => h) (Or.inr ⟨by rfl, rfl⟩) (by assumption) ?_
      try simp only [Act.put, List.getElem_toArray, List.getElem_cons_zero, List.getElem_cons_succ, List.setIfInBounds_toArray, List.set_cons_zero, List.set_cons_succ]
      refine wpAnyH_take (i := 9) (v := undef) rfl (by kernel_rfl) (by kernel_rfl) (by kernel_rfl) (fun _ _ _ h => h) (Or.inr ⟨by rfl, rfl⟩) (by assumption) ?_
      try simp only [Act.put, List.getElem_toArray, List.getElem_cons_zero, List.getElem_cons_succ, List.setIfInBounds_toArray, List.set_cons_zero, List.set_cons_succ]
      refine wpAnyH_take (i := 10) (v := undef) rfl (by kernel_rfl) (by kernel_rfl) (by kernel_rfl) (fun _ _ _ h => h) (Or.inr ⟨by rfl, rfl⟩) (by assumption) ?_
      try simp only [Act.put, List.getElem_toArray, List.getElem_cons_zero, List.getElem_cons_succ, List.setIfInBounds_toArray, List.set_cons_zero, List.set_cons_succ]
      refine wpAnyH_take (i := 11) (v := undef) rfl (by kernel_rfl) (by kernel_rfl) (by kernel_rfl) (fun _ _ _ h => h) (Or.inr ⟨by rfl, rfl⟩) (by assumption) ?_
      try simp only [Act.put, List.getElem_toArray, List.getElem_cons_zero, List.getElem_cons_succ, List.setIfInBounds_toArray, List.set_cons_zero, List.set_cons_succ]
      refine wpAnyH_take (i := 12) (v := ?v44) rfl (by kernel_rfl) (by kernel_rfl) (by kernel_rfl) (fun _ _ _ h => h) (Or.inl ⟨by rfl, ?y44⟩) (by assumption) ?_
      case y44 => (intro w hSw; (try dsimp only at hSw); go_simp <;> with_reducible rfl)
      try simp only [Act.put, List.getElem_toArray, List.getElem_cons_zero, List.getElem_cons_succ, List.setIfInBounds_toArray, List.set_cons_zero, List.set_cons_succ]
      refine wpAnyH_done (by kernel_rfl) ?_ _
      clear hHeld
      go_wp2
      refine bodyPost_ret (v := .tuple #[.agg #[.int .i64 0, .string ⟨#[]⟩, .slice none 0 0, .slice none 0 0], .int .i64 4]) (by simp [results, Tryd.results24, go_sem, r0, r1, r2, r3]) rfl ?_
      rw [HN.out]
      exact ⟨⟨_, _, rfl⟩, HBD.out⟩
    · by_cases hv1 : (d.kids.length : Int) ≤ v
      · have HN : Hid (atP d (v :: ps) = none) := by
          show _ = _
          rw [atP]
          unfold kidAt
          rw [if_pos (by omega), List.getElem?_eq_none (by omega)]
          rfl
        have hd0 : decide (v < 0) = false := by simpa using hv0
        have hd1 : decide ((d.kids.length : Int) ≤ v) = true := by simpa using hv1
        clear hX0 hk hB ih hp hpv hn hw2 htv
        subst_vars
        go_enter Tryd.func24, Tryd.ntmps24
        go_wp2
        refine wp_region_held_drew (S := (fun W => W.cell? ⟨w.heap.size, 3, none⟩ = some (.slice sa d.kids.length sc) ∧ W.cell? ⟨pb, po, none⟩ = some (.int .i64 v))) (by kernel_rfl) HS3.out (fun hHeld => ?_)
        refine wpAnyH_take (i := 0) (v := ?v17) rfl (by kernel_rfl) (by kernel_rfl) (by kernel_rfl) (fun _ _ _ h => h) (Or.inl ⟨by rfl, ?y17⟩) (by assumption) ?_
        case y17 => (intro w hSw; (try dsimp only at hSw); go_simp <;> with_reducible rfl)
        try simp only [Act.put, List.getElem_toArray, List.getElem_cons_zero, List.setIfInBounds_toArray, List.set_cons_zero, List.set_cons_succ]
        refine wpAnyH_take (i := 1) (v := ?v18) rfl (by kernel_rfl) (by kernel_rfl) (by kernel_rfl) (fun _ _ _ h => h) (Or.inl ⟨by rfl, ?y18⟩) (by assumption) ?_
        case y18 => (intro w hSw; (try dsimp only at hSw); go_simp <;> with_reducible rfl)
        try simp only [Act.put, List.getElem_toArray, List.getElem_cons_zero, List.getElem_cons_succ, List.setIfInBounds_toArray, List.set_cons_zero, List.set_cons_succ]
        refine wpAnyH_take (i := 2) (v := ?v19) rfl (by kernel_rfl) (by kernel_rfl) (by kernel_rfl) (fun _ _ _ h => h) (Or.inl ⟨by rfl, ?y19⟩) (by assumption) ?_
        case y19 => (intro w hSw; (try dsimp only at hSw); go_simp <;> with_reducible rfl)
        try simp only [Act.put, List.getElem_toArray, List.getElem_cons_zero, List.getElem_cons_succ, List.setIfInBounds_toArray, List.set_cons_zero, List.set_cons_succ]
        refine wpAnyH_take (i := 3) (v := ?v20) rfl (by kernel_rfl) (by kernel_rfl) (by kernel_rfl) (fun _ _ _ h => h) (Or.inl ⟨by rfl, ?y20⟩) (by assumption) ?_
        case y20 => (intro w hSw; (try dsimp only at hSw); go_simp <;> with_reducible rfl)
        try simp only [Act.put, List.getElem_toArray, List.getElem_cons_zero, List.getElem_cons_succ, List.setIfInBounds_toArray, List.set_cons_zero, List.set_cons_succ]
        refine wpAnyH_take (i := 4) (v := ?v21) rfl (by kernel_rfl) (by kernel_rfl) (by kernel_rfl) (fun _ _ _ h => h) (Or.inl ⟨by rfl, ?y21⟩) (by assumption) ?_
        case y21 => (intro w hSw; (try dsimp only at hSw); go_simp <;> with_reducible rfl)
        try simp only [Act.put, List.getElem_toArray, List.getElem_cons_zero, List.getElem_cons_succ, List.setIfInBounds_toArray, List.set_cons_zero, List.set_cons_succ]
        refine wpAnyH_take (i := 5) (v := ?v22) rfl (by kernel_rfl) (by kernel_rfl) (by kernel_rfl) (fun _ _ _ h => h) (Or.inl ⟨by rfl, ?y22⟩) (by assumption) ?_
        case y22 => (intro w hSw; (try dsimp only at hSw); go_simp <;> with_reducible rfl)
        try simp only [Act.put, List.getElem_toArray, List.getElem_cons_zero, List.getElem_cons_succ, List.setIfInBounds_toArray, List.set_cons_zero, List.set_cons_succ]
        refine wpAnyH_take (i := 6) (v := ?v23) rfl (by kernel_rfl) (by kernel_rfl) (by kernel_rfl) (fun _ _ _ h => h) (Or.inl ⟨by rfl, ?y23⟩) (by assumption) ?_
        case y23 => (intro w hSw; (try dsimp only at hSw); go_simp <;> with_reducible rfl)
        try simp only [Act.put, List.getElem_toArray, List.getElem_cons_zero, List.getElem_cons_succ, List.setIfInBounds_toArray, List.set_cons_zero, List.set_cons_succ]
        refine wpAnyH_take (i := 7) (v := ?v24) rfl (by kernel_rfl) (by kernel_rfl) (by kernel_rfl) (fun _ _ _ h => h) (Or.inl ⟨by rfl, ?y24⟩) (by assumption) ?_
        case y24 => (intro w hSw; (try dsimp only at hSw); go_simp <;> with_reducible rfl)
        try simp only [Act.put, List.getElem_toArray, List.getElem_cons_zero, List.getElem_cons_succ, List.setIfInBounds_toArray, List.set_cons_zero, List.set_cons_succ]
        refine wpAnyH_take (i := 8) (v := ?v25) rfl (by kernel_rfl) (by kernel_rfl) (by kernel_rfl) (fun _ _ _ h => h) (Or.inl ⟨by rfl, ?y25⟩) (by assumption) ?_
        case y25 => (intro w hSw; (try dsimp only at hSw); go_simp <;> with_reducible rfl)
        try simp only [Act.put, List.getElem_toArray, List.getElem_cons_zero, List.getElem_cons_succ, List.setIfInBounds_toArray, List.set_cons_zero, List.set_cons_succ]
        refine wpAnyH_take (i := 9) (v := ?v26) rfl (by kernel_rfl) (by kernel_rfl) (by kernel_rfl) (fun _ _ _ h => h) (Or.inl ⟨by rfl, ?y26⟩) (by assumption) ?_
        case y26 => (intro w hSw; (try dsimp only at hSw); go_simp <;> with_reducible rfl)
        try simp only [Act.put, List.getElem_toArray, List.getElem_cons_zero, List.getElem_cons_succ, List.setIfInBounds_toArray, List.set_cons_zero, List.set_cons_succ]
        refine wpAnyH_take (i := 10) (v := ?v27) rfl (by kernel_rfl) (by kernel_rfl) (by kernel_rfl) (fun _ _ _ h => h) (Or.inl ⟨by rfl, ?y27⟩) (by assumption) ?_
        case y27 => (intro w hSw; (try dsimp only at hSw); go_simp <;> with_reducible rfl)
        try simp only [Act.put, List.getElem_toArray, List.getElem_cons_zero, List.getElem_cons_succ, List.setIfInBounds_toArray, List.set_cons_zero, List.set_cons_succ]
        refine wpAnyH_take (i := 11) (v := ?v28) rfl (by kernel_rfl) (by kernel_rfl) (by kernel_rfl) (fun _ _ _ h => h) (Or.inl ⟨by rfl, ?y28⟩) (by assumption) ?_
        case y28 => (intro w hSw; (try dsimp only at hSw); go_simp <;> with_reducible rfl)
        try simp only [Act.put, List.getElem_toArray, List.getElem_cons_zero, List.getElem_cons_succ, List.setIfInBounds_toArray, List.set_cons_zero, List.set_cons_succ]
        refine wpAnyH_take (i := 12) (v := ?v29) rfl (by kernel_rfl) (by kernel_rfl) (by kernel_rfl) (fun _ _ _ h => h) (Or.inl ⟨by rfl, ?y29⟩) (by assumption) ?_
        case y29 => (intro w hSw; (try dsimp only at hSw); go_simp <;> with_reducible rfl)
        try simp only [Act.put, List.getElem_toArray, List.getElem_cons_zero, List.getElem_cons_succ, List.setIfInBounds_toArray, List.set_cons_zero, List.set_cons_succ]
        refine wpAnyH_done (by kernel_rfl) ?_ _
        clear hHeld
        go_wp2
        refine bodyPost_ret (v := .tuple #[.agg #[.int .i64 0, .string ⟨#[]⟩, .slice none 0 0, .slice none 0 0], .int .i64 4]) (by simp [results, Tryd.results24, go_sem, r0, r1, r2, r3]) rfl ?_
        rw [HN.out]
        exact ⟨⟨_, _, rfl⟩, HBD.out⟩
      · obtain ⟨m, rfl⟩ : ∃ m : Nat, v = (m : Int) := ⟨v.toNat, by omega⟩
        have hmN : m < d.kids.length := by omega
        obtain ⟨x, hx⟩ : ∃ x, d.kids[m]? = some x := ⟨d.kids[m], by simp⟩
        have HN : Hid (atP d ((m : Int) :: ps) = atP x ps) := by
          show _ = _
          rw [atP]
          unfold kidAt
          rw [if_pos (by omega), Int.toNat_natCast, hx]
          rfl
        obtain ⟨b, o, rfl, hb, xa, xc, c0, c1, ⟨xt, xtc, c2, xl, xm, xb⟩, c3, hxc, hxk⟩ := hk.one hx
        have hd0 : decide ((m : Int) < 0) = false := by simp
        have hd1 : decide (d.kids.length ≤ m) = false := by simp; omega
        have hd2 : ¬ d.kids.length ≤ m := by omega
        have hzx : sz x ≤ 1000000000000 := by have := szL_mem hx; have := sz_eq d; omega
        have HS5 : Hid (∀ W, Below w2.heap.size w2 W → W.cell? ⟨w.heap.size, 3, none⟩ = some (.slice (some ⟨b, o, none⟩) d.kids.length sc) ∧ W.cell? ⟨pb, po, none⟩ = some (.int .i64 (m : Int)) ∧ W.cell? ⟨b, o + m * 4, none⟩ = some (.int .i64 x.kind) ∧ W.cell? ⟨b, o + m * 4 + 1, none⟩ = some (.string x.cons) ∧ W.cell? ⟨b, o + m * 4 + 2, none⟩ = some (.slice xt x.text.length xtc) ∧ W.cell? ⟨b, o + m * 4 + 3, none⟩ = some (.slice xa x.kids.length xc)) := fun W hW => by
          have hs := hB.size
          have k : ∀ b q, b < w2.heap.size → W.cell? ⟨b, q, none⟩ = w2.cell? ⟨b, q, none⟩ := fun b q hb => hW.cell (p := ⟨b, q, none⟩) hb
          have k' : ∀ b q, b < w.heap.size → W.cell? ⟨b, q, none⟩ = w.cell? ⟨b, q, none⟩ := fun b q hb => (k b q (by omega)).trans (hB.cell (p := ⟨b, q, none⟩) hb)
          exact ⟨(k _ _ (by omega)).trans x2, (k' _ _ hpb).trans hpv, (k' _ _ hb).trans c0, (k' _ _ hb).trans c1, (k' _ _ hb).trans c2, (k' _ _ hb).trans c3⟩
        have HC : Hid (∀ W, Below w2.heap.size w2 W → Calls Tryd.prog 24 #[.agg #[.int .i64 x.kind, .string x.cons, .slice xt x.text.length xtc, .slice xa x.kids.length xc], .slice (if pc = 1 then some ⟨pb, po, none⟩ else some ⟨pb, po + 1, none⟩) n (pc - 1)] W fun e w' => OPost W (atP x ps) e w') := fun W hW => by
          have hBW := below_of hB hW
          have hI : IAt W W.heap.size (if pc = 1 then some ⟨pb, po, none⟩ else some ⟨pb, po + 1, none⟩) ps := by
            split
            · have h0 : ps = [] := List.length_eq_zero_iff.1 (by omega)
              rw [h0]
              exact fun j u hj => by cases hj
            · exact (hp.tail.keepB hBW).monoB hBW.size
          have h' := ih x xt xtc xa xc f (if pc = 1 then some ⟨pb, po, none⟩ else some ⟨pb, po + 1, none⟩) (pc - 1) W ((Txt.keep (w := w) ⟨_, _, rfl, xl, xm, xb⟩ hBW).mono hBW.size) ((hxk.keep hBW).mono hBW.size) hxc hzx hI (by omega) (by omega)
          rw [hn] at h'
          exact h'
        have HL : Hid (∀ W e w7, Below w2.heap.size w2 W → OPost W (atP x ps) e w7 → _) := fun W e w7 hW h => apost_lift (w := w) (below_of hB hW) hsB (Nat.lt_of_lt_of_le hlt2 hW.size) ((hW.cell (p := ⟨w.heap.size + 1, 0, none⟩) hlt2).trans r0) ((hW.cell (p := ⟨w.heap.size + 1, 1, none⟩) hlt2).trans r1) ((hW.cell (p := ⟨w.heap.size + 1, 2, none⟩) hlt2).trans r2) ((hW.cell (p := ⟨w.heap.size + 1, 3, none⟩) hlt2).trans r3) (fun q => (hW.frozen (p := ⟨w.heap.size + 1, q, none⟩) hlt2).trans (rf q)) h
        have TT : Below w2.heap.size w2 w2.drew.drew := ⟨rfl, rfl, rfl, Nat.le_refl _, fun _ _ => rfl⟩
        have HTT : Hid _ := TT
        have hm0 : (0 : Int) ≤ (m : Int) := by omega
        have hmI : (m : Int) < (d.kids.length : Int) := by omega
        have hp1 : (1 : Int) ≤ (n : Int) + 1 := by omega
        have hp2 : (n : Int) + 1 ≤ (pc : Int) := by omega
        have hp3 : n + 1 ≤ pc := hpc
        have HNB : Hid (w.heap.size + 1 ≠ b ∧ w.heap.size + 1 ≠ pb ∧ w.heap.size + 1 ≠ w.heap.size) := ⟨by omega, by omega, by omega⟩
        clear hX0 hk hB ih hp hpv hn hxk c0 c1 c2 c3 xl xm xb htv hx hv0 hv1 TT r0 r1 r2 r3 rf
        obtain ⟨V, hV⟩ : ∃ V, V = w2.drew.drew := ⟨_, rfl⟩
        go_enter Tryd.func24, Tryd.ntmps24
        go_wp2
        refine wp_region_held_drew (S := (fun W => W.cell? ⟨w.heap.size, 3, none⟩ = some (.slice (some ⟨b, o, none⟩) d.kids.length sc) ∧ W.cell? ⟨pb, po, none⟩ = some (.int .i64 (m : Int)))) (by kernel_rfl) HS3.out (fun hHeld => ?_)
        refine wpAnyH_take (i := 0) (v := ?v4) rfl (by kernel_rfl) (by kernel_rfl) (by kernel_rfl) (fun _ _ _ h => h) (Or.inl ⟨by rfl, ?y4⟩) (by assumption) ?_
        case y4 => (intro w hSw; (try dsimp only at hSw); go_simp <;> with_reducible rfl)
        try simp only [Act.put, List.getElem_toArray, List.getElem_cons_zero, List.setIfInBounds_toArray, List.set_cons_zero, List.set_cons_succ]
        refine wpAnyH_take (i := 1) (v := ?v5) rfl (by kernel_rfl) (by kernel_rfl) (by kernel_rfl) (fun _ _ _ h => h) (Or.inl ⟨by rfl, ?y5⟩) (by assumption) ?_
        case y5 => (intro w hSw; (try dsimp only at hSw); go_simp <;> with_reducible rfl)
        try simp only [Act.put, List.getElem_toArray, List.getElem_cons_zero, List.getElem_cons_succ, List.setIfInBounds_toArray, List.set_cons_zero, List.set_cons_succ]
        refine wpAnyH_take (i := 2) (v := ?v6) rfl (by kernel_rfl) (by kernel_rfl) (by kernel_rfl) (fun _ _ _ h => h) (Or.inl ⟨by rfl, ?y6⟩) (by assumption) ?_
        case y6 => (intro w hSw; (try dsimp only at hSw); go_simp <;> with_reducible rfl)
        try simp only [Act.put, List.getElem_toArray, List.getElem_cons_zero, List.getElem_cons_succ, List.setIfInBounds_toArray, List.set_cons_zero, List.set_cons_succ]
        refine wpAnyH_take (i := 3) (v := ?v7) rfl (by kernel_rfl) (by kernel_rfl) (by kernel_rfl) (fun _ _ _ h => h) (Or.inl ⟨by rfl, ?y7⟩) (by assumption) ?_
        case y7 => (intro w hSw; (try dsimp only at hSw); go_simp <;> with_reducible rfl)
        try simp only [Act.put, List.getElem_toArray, List.getElem_cons_zero, List.getElem_cons_succ, List.setIfInBounds_toArray, List.set_cons_zero, List.set_cons_succ]
        refine wpAnyH_take (i := 4) (v := ?v8) rfl (by kernel_rfl) (by kernel_rfl) (by kernel_rfl) (fun _ _ _ h => h) (Or.inl ⟨by rfl, ?y8⟩) (by assumption) ?_
        case y8 => (intro w hSw; (try dsimp only at hSw); go_simp <;> with_reducible rfl)
        try simp only [Act.put, List.getElem_toArray, List.getElem_cons_zero, List.getElem_cons_succ, List.setIfInBounds_toArray, List.set_cons_zero, List.set_cons_succ]
        refine wpAnyH_take (i := 5) (v := ?v9) rfl (by kernel_rfl) (by kernel_rfl) (by kernel_rfl) (fun _ _ _ h => h) (Or.inl ⟨by rfl, ?y9⟩) (by assumption) ?_
        case y9 => (intro w hSw; (try dsimp only at hSw); go_simp <;> with_reducible rfl)
        try simp only [Act.put, List.getElem_toArray, List.getElem_cons_zero, List.getElem_cons_succ, List.setIfInBounds_toArray, List.set_cons_zero, List.set_cons_succ]
        refine wpAnyH_take (i := 6) (v := ?v10) rfl (by kernel_rfl) (by kernel_rfl) (by kernel_rfl) (fun _ _ _ h => h) (Or.inl ⟨by rfl, ?y10⟩) (by assumption) ?_
        case y10 => (intro w hSw; (try dsimp only at hSw); go_simp <;> with_reducible rfl)
        try simp only [Act.put, List.getElem_toArray, List.getElem_cons_zero, List.getElem_cons_succ, List.setIfInBounds_toArray, List.set_cons_zero, List.set_cons_succ]
        refine wpAnyH_take (i := 7) (v := ?v11) rfl (by kernel_rfl) (by kernel_rfl) (by kernel_rfl) (fun _ _ _ h => h) (Or.inl ⟨by rfl, ?y11⟩) (by assumption) ?_
        case y11 => (intro w hSw; (try dsimp only at hSw); go_simp <;> with_reducible rfl)
        try simp only [Act.put, List.getElem_toArray, List.getElem_cons_zero, List.getElem_cons_succ, List.setIfInBounds_toArray, List.set_cons_zero, List.set_cons_succ]
        refine wpAnyH_take (i := 8) (v := ?v12) rfl (by kernel_rfl) (by kernel_rfl) (by kernel_rfl) (fun _ _ _ h => h) (Or.inl ⟨by rfl, ?y12⟩) (by assumption) ?_
        case y12 => (intro w hSw; (try dsimp only at hSw); go_simp <;> with_reducible rfl)
        try simp only [Act.put, List.getElem_toArray, List.getElem_cons_zero, List.getElem_cons_succ, List.setIfInBounds_toArray, List.set_cons_zero, List.set_cons_succ]
        refine wpAnyH_take (i := 9) (v := ?v13) rfl (by kernel_rfl) (by kernel_rfl) (by kernel_rfl) (fun _ _ _ h => h) (Or.inl ⟨by rfl, ?y13⟩) (by assumption) ?_
        case y13 => (intro w hSw; (try dsimp only at hSw); go_simp <;> with_reducible rfl)
        try simp only [Act.put, List.getElem_toArray, List.getElem_cons_zero, List.getElem_cons_succ, List.setIfInBounds_toArray, List.set_cons_zero, List.set_cons_succ]
        refine wpAnyH_take (i := 10) (v := ?v14) rfl (by kernel_rfl) (by kernel_rfl) (by kernel_rfl) (fun _ _ _ h => h) (Or.inl ⟨by rfl, ?y14⟩) (by assumption) ?_
        case y14 => (intro w hSw; (try dsimp only at hSw); go_simp <;> with_reducible rfl)
        try simp only [Act.put, List.getElem_toArray, List.getElem_cons_zero, List.getElem_cons_succ, List.setIfInBounds_toArray, List.set_cons_zero, List.set_cons_succ]
        refine wpAnyH_take (i := 11) (v := ?v15) rfl (by kernel_rfl) (by kernel_rfl) (by kernel_rfl) (fun _ _ _ h => h) (Or.inl ⟨by rfl, ?y15⟩) (by assumption) ?_
        case y15 => (intro w hSw; (try dsimp only at hSw); go_simp <;> with_reducible rfl)
        try simp only [Act.put, List.getElem_toArray, List.getElem_cons_zero, List.getElem_cons_succ, List.setIfInBounds_toArray, List.set_cons_zero, List.set_cons_succ]
        refine wpAnyH_take (i := 12) (v := ?v16) rfl (by kernel_rfl) (by kernel_rfl) (by kernel_rfl) (fun _ _ _ h => h) (Or.inl ⟨by rfl, ?y16⟩) (by assumption) ?_
        case y16 => (intro w hSw; (try dsimp only at hSw); go_simp <;> with_reducible rfl)
        try simp only [Act.put, List.getElem_toArray, List.getElem_cons_zero, List.getElem_cons_succ, List.setIfInBounds_toArray, List.set_cons_zero, List.set_cons_succ]
        refine wpAnyH_done (by kernel_rfl) ?_ _
        clear hHeld
        go_wp2
        refine wp_region_held_drew (S := (fun W => W.cell? ⟨w.heap.size, 3, none⟩ = some (.slice (some ⟨b, o, none⟩) d.kids.length sc) ∧ W.cell? ⟨pb, po, none⟩ = some (.int .i64 (m : Int)) ∧ W.cell? ⟨b, o + m * 4, none⟩ = some (.int .i64 x.kind) ∧ W.cell? ⟨b, o + m * 4 + 1, none⟩ = some (.string x.cons) ∧ W.cell? ⟨b, o + m * 4 + 2, none⟩ = some (.slice xt x.text.length xtc) ∧ W.cell? ⟨b, o + m * 4 + 3, none⟩ = some (.slice xa x.kids.length xc))) (by kernel_rfl) (HS5.out _ HTT.out) (fun hHeld => ?_)
        refine wpAnyH_take (i := 0) (v := ?v30) rfl (by kernel_rfl) (by kernel_rfl) (by kernel_rfl) (fun _ _ _ h => h) (Or.inl ⟨by rfl, ?y30⟩) (by assumption) ?_
        case y30 => (intro w hSw; (try dsimp only at hSw); go_simp <;> with_reducible rfl)
        try simp only [Act.put, List.getElem_toArray, List.getElem_cons_zero, List.setIfInBounds_toArray, List.set_cons_zero, List.set_cons_succ]
        refine wpAnyH_take (i := 1) (v := ?v31) rfl (by kernel_rfl) (by kernel_rfl) (by kernel_rfl) (fun _ _ _ h => h) (Or.inl ⟨by rfl, ?y31⟩) (by assumption) ?_
        case y31 => (intro w hSw; (try dsimp only at hSw); go_simp <;> with_reducible rfl)
        try simp only [Act.put, List.getElem_toArray, List.getElem_cons_zero, List.getElem_cons_succ, List.setIfInBounds_toArray, List.set_cons_zero, List.set_cons_succ]
        refine wpAnyH_take (i := 2) (v := ?v32) rfl (by kernel_rfl) (by kernel_rfl) (by kernel_rfl) (fun _ _ _ h => h) (Or.inl ⟨by rfl, ?y32⟩) (by assumption) ?_
        case y32 => (intro w hSw; (try dsimp only at hSw); go_simp <;> with_reducible rfl)
        try simp only [Act.put, List.getElem_toArray, List.getElem_cons_zero, List.getElem_cons_succ, List.setIfInBounds_toArray, List.set_cons_zero, List.set_cons_succ]
        refine wpAnyH_take (i := 3) (v := ?v33) rfl (by kernel_rfl) (by kernel_rfl) (by kernel_rfl) (fun _ _ _ h => h) (Or.inl ⟨by rfl, ?y33⟩) (by assumption) ?_
        case y33 => (intro w hSw; (try dsimp only at hSw); go_simp <;> with_reducible rfl)
        try simp only [Act.put, List.getElem_toArray, List.getElem_cons_zero, List.getElem_cons_succ, List.setIfInBounds_toArray, List.set_cons_zero, List.set_cons_succ]
        refine wpAnyH_take (i := 4) (v := ?v34) rfl (by kernel_rfl) (by kernel_rfl) (by kernel_rfl) (fun _ _ _ h => h) (Or.inl ⟨by rfl, ?y34⟩) (by assumption) ?_
        case y34 => (intro w hSw; (try dsimp only at hSw); go_simp <;> with_reducible rfl)
        try simp only [Act.put, List.getElem_toArray, List.getElem_cons_zero, List.getElem_cons_succ, List.setIfInBounds_toArray, List.set_cons_zero, List.set_cons_succ]
        refine wpAnyH_take (i := 5) (v := ?v35) rfl (by kernel_rfl) (by kernel_rfl) (by kernel_rfl) (fun _ _ _ h => h) (Or.inl ⟨by rfl, ?y35⟩) (by assumption) ?_
        case y35 => (intro w hSw; (try dsimp only at hSw); go_simp <;> with_reducible rfl)
        try simp only [Act.put, List.getElem_toArray, List.getElem_cons_zero, List.getElem_cons_succ, List.setIfInBounds_toArray, List.set_cons_zero, List.set_cons_succ]
        refine wpAnyH_take (i := 6) (v := ?v36) rfl (by kernel_rfl) (by kernel_rfl) (by kernel_rfl) (fun _ _ _ h => h) (Or.inl ⟨by rfl, ?y36⟩) (by assumption) ?_
        case y36 => (intro w hSw; (try dsimp only at hSw); go_simp <;> with_reducible rfl)
        try simp only [Act.put, List.getElem_toArray, List.getElem_cons_zero, List.getElem_cons_succ, List.setIfInBounds_toArray, List.set_cons_zero, List.set_cons_succ]
        refine wpAnyH_take (i := 7) (v := ?v37) rfl (by kernel_rfl) (by kernel_rfl) (by kernel_rfl) (fun _ _ _ h => h) (Or.inl ⟨by rfl, ?y37⟩) (by assumption) ?_
        case y37 => (intro w hSw; (try dsimp only at hSw); go_simp <;> with_reducible rfl)
        try simp only [Act.put, List.getElem_toArray, List.getElem_cons_zero, List.getElem_cons_succ, List.setIfInBounds_toArray, List.set_cons_zero, List.set_cons_succ]
        refine wpAnyH_take (i := 8) (v := ?v38) rfl (by kernel_rfl) (by kernel_rfl) (by kernel_rfl) (fun _ _ _ h => h) (Or.inl ⟨by rfl, ?y38⟩) (by assumption) ?_
        case y38 => (intro w hSw; (try dsimp only at hSw); go_simp <;> with_reducible rfl)
        try simp only [Act.put, List.getElem_toArray, List.getElem_cons_zero, List.getElem_cons_succ, List.setIfInBounds_toArray, List.set_cons_zero, List.set_cons_succ]
        generalize (if pc = 1 then (some ⟨pb, po, none⟩ : Option Addr) else some ⟨pb, po + 1, none⟩) = qa at HC ⊢
        refine wpAnyH_ready (rs := [9]) (by kernel_rfl) (by simp) ?_
        refine (AllReadyH.cons rfl (fun K hK => ?_) AllReadyH.nil)
        go_simp
        refine (HC.out _ HTT.out).mono ?_
        intro e w7 h7
        obtain ⟨r, u, ua, un, uc, va, vn, vc, er, rfl, ⟨r0, r1, r2, r3, rf⟩, hb7, hp7⟩ := HL.out _ e w7 HTT.out h7
        have hS7 := HS5.out w7 (below_of HTT.out hb7)
        have HP7 : Hid _ := hp7
        have HS7 : Hid _ := hS7
        have HSS : Hid (_ ∧ _ ∧ _ ∧ _ ∧ _ ∧ _) := ⟨(far4 HNB.out.2.2 3 (.int .i64 r) (.string u) (.slice ua un uc) (.slice va vn vc)).trans hS7.1, (far4 HNB.out.2.1 po (.int .i64 r) (.string u) (.slice ua un uc) (.slice va vn vc)).trans hS7.2.1, (far4 HNB.out.1 (o + m * 4) (.int .i64 r) (.string u) (.slice ua un uc) (.slice va vn vc)).trans hS7.2.2.1, (far4 HNB.out.1 (o + m * 4 + 1) (.int .i64 r) (.string u) (.slice ua un uc) (.slice va vn vc)).trans hS7.2.2.2.1, (far4 HNB.out.1 (o + m * 4 + 2) (.int .i64 r) (.string u) (.slice ua un uc) (.slice va vn vc)).trans hS7.2.2.2.2.1, (far4 HNB.out.1 (o + m * 4 + 3) (.int .i64 r) (.string u) (.slice ua un uc) (.slice va vn vc)).trans hS7.2.2.2.2.2⟩
        clear h7 hp7 hb7 hS7
        go_wp2_with fail
        refine hK.out _ _ HS7.out (fun hHeld => ?_)
        clear hK K
        try simp only [Act.put, List.getElem_toArray, List.getElem_cons_zero, List.getElem_cons_succ, List.setIfInBounds_toArray, List.set_cons_zero, List.set_cons_succ]
        refine wpAnyH_take (i := 10) (v := ?v1) rfl (by kernel_rfl) (by kernel_rfl) (by kernel_rfl) (fun _ _ _ h => h) (Or.inl ⟨by rfl, ?y1⟩) (by assumption) ?_
        case y1 => (intro w hSw; (try dsimp only at hSw); go_simp <;> with_reducible rfl)
        try simp only [Act.put, List.getElem_toArray, List.getElem_cons_zero, List.getElem_cons_succ, List.setIfInBounds_toArray, List.set_cons_zero, List.set_cons_succ]
        refine wpAnyH_take (i := 11) (v := ?v2) rfl (by kernel_rfl) (by kernel_rfl) (by kernel_rfl) (fun _ _ _ h => h) (Or.inl ⟨by rfl, ?y2⟩) (by assumption) ?_
        case y2 => (intro w hSw; (try dsimp only at hSw); go_simp <;> with_reducible rfl)
        try simp only [Act.put, List.getElem_toArray, List.getElem_cons_zero, List.getElem_cons_succ, List.setIfInBounds_toArray, List.set_cons_zero, List.set_cons_succ]
        refine wpAnyH_ready (rs := [12]) (by kernel_rfl) (by simp) ?_
        refine (AllReadyH.cons rfl (fun K hK => ?_) AllReadyH.nil)
        go_simp
        refine hK.out _ _ HSS.out (fun hHeld => ?_)
        clear hK K
        try simp only [Act.put, List.getElem_toArray, List.getElem_cons_zero, List.getElem_cons_succ, List.setIfInBounds_toArray, List.set_cons_zero, List.set_cons_succ]
        refine wpAnyH_take (i := 13) (v := ?v3) rfl (by kernel_rfl) (by kernel_rfl) (by kernel_rfl) (fun _ _ _ h => h) (Or.inl ⟨by rfl, ?y3⟩) (by assumption) ?_
        case y3 => (intro w hSw; (try dsimp only at hSw); go_simp <;> with_reducible rfl)
        try simp only [Act.put, List.getElem_toArray, List.getElem_cons_zero, List.getElem_cons_succ, List.setIfInBounds_toArray, List.set_cons_zero, List.set_cons_succ]
        refine wpAnyH_done (by kernel_rfl) ?_ _
        clear hHeld
        go_wp2
        refine bodyPost_ret (v := .tuple #[.agg #[.int .i64 r, .string u, .slice ua un uc, .slice va vn vc], .int .i64 er]) (by simp [results, Tryd.results24, go_sem, r0, r1, r2, r3]) rfl ?_
        rw [HN.out]
        exact HP7.out
end Go.Proofs.YtlkcadibjmfmcaaDoor

/- A term is copied: the kids' row in a block of its own. -/
namespace Go.Proofs.YtlkcadibjmfmcaaDoor
open Go.RowKit

def Ctop (f : Nat) (d : Tm) (w : World) (e : Ending) (w' : World) : Prop := (∃ ua uc la lc xs, e = .returned (.agg #[.int .i64 d.kind, .string d.cons, .slice ua d.text.length uc, .slice la d.kids.length lc]) ∧ d.kids.length ≤ lc ∧ w'.ownsRow (w.heap.size + 3) 25 4 (.slice la d.kids.length lc) d.kids.length xs ∧ Cx f (w.heap.size + 3) w' (.slice la d.kids.length lc) d.kids xs ∧ ∃ S, Txx w' S (.slice ua d.text.length uc) d.text ∧ ∀ b, S b → w.heap.size + 3 ≤ b ∧ b < w'.heap.size ∧ (Value.slice la d.kids.length lc).ownBlock ≠ some b) ∧ Below w.heap.size w w'
set_option maxRecDepth 100000 in
set_option maxHeartbeats 8000000 in
theorem copy_top0 : ∀ (f : Nat) (d : Tm) (tv : Value) (sa : Option Addr) (sc : Nat) (w : World), (∀ x ∈ d.kids, ∀ (xv : Value) (xa : Option Addr) (xc : Nat) (w : World), Txt w w.heap.size xv x.text → MAt w w.heap.size f xa x.kids → Calls Tryd.prog 14 #[.agg #[.int .i64 x.kind, .string x.cons, xv, .slice xa x.kids.length xc]] w (Cpd f x w)) → Txt w w.heap.size tv d.text → MAt w w.heap.size (f + 1) sa d.kids →
    Calls Tryd.prog 14 #[.agg #[.int .i64 d.kind, .string d.cons, tv, .slice sa d.kids.length sc]] w (Ctop f d w) := by
  intro f d tv sa sc w ih htv hk
  have hlen := hk.1
  obtain ⟨i0, hinf, hz0, hz1, hz2⟩ := info_parts infoTerm
  obtain ⟨ta, tc, rfl, htc, htl, hta⟩ := htv
  have HI : Hid _ := ih
  have HK : Hid _ := hk.2
  unfold Ctop
  obtain ⟨n, hn⟩ : ∃ n, d.kids.length = n := ⟨_, rfl⟩
  rw [hn] at hlen ⊢
  have hBW : Below w.heap.size w (((w.alloc (.cells #[.int .i64 d.kind, .string d.cons, .slice ta d.text.length tc, .slice sa n sc] 25)).alloc (.cells #[.int .i64 0, .string ⟨#[]⟩, .slice none 0 0, .slice none 0 0] 25)).alloc (.cells #[.int .i64 d.kind, .string d.cons, .slice none 0 0, .slice none 0 0] 25)) := (((Below.refl _ _).alloc (Nat.le_refl _) _).alloc (by simp) _).alloc (by simp; omega) _
  have HT : Hid (BAt (((w.alloc (.cells #[.int .i64 d.kind, .string d.cons, .slice ta d.text.length tc, .slice sa n sc] 25)).alloc (.cells #[.int .i64 0, .string ⟨#[]⟩, .slice none 0 0, .slice none 0 0] 25)).alloc (.cells #[.int .i64 d.kind, .string d.cons, .slice none 0 0, .slice none 0 0] 25)) w.heap.size ta d.text) := hta.keep (fun b q hb => hBW.cell (p := ⟨b, q, none⟩) hb)
  have HC0 : Hid (∀ (uv : Value) (w4 : World), _ → _ → _) := fun (uv : Value) (w4 : World) hx hb => CC.start (w := w) (uv := uv) (w4 := w4) (t := d.text) (r := d.kind) (c := d.cons) (tv := .slice ta d.text.length tc) (rv := .slice sa n sc) rfl hx hb f
  clear ih hk hta hBW
  go_enter Tryd.func14, Tryd.ntmps14
  go_wp2_with (at_builtin; refine wpList_append_bytes rfl _ _ rfl d.text ta tc w.heap.size rfl rfl ?ca1 htl ?_)
  case ca1 => exact HT.out
  intro uv w4 hx hb
  have hX0 := HC0.out uv w4 hx hb
  obtain ⟨ua, uc, rfl, _⟩ := hx
  have q2 : w4.cell? ⟨w.heap.size + 1 + 1, 2, none⟩ = some (.slice none 0 0) := (hb.cell (p := ⟨w.heap.size + 1 + 1, 2, none⟩) (by show w.heap.size + 1 + 1 < _; simp)).trans (by
    have := cell_new (w := ((w.alloc (.cells #[.int .i64 d.kind, .string d.cons, .slice ta d.text.length tc, .slice sa n sc] 25)).alloc (.cells #[.int .i64 0, .string ⟨#[]⟩, .slice none 0 0, .slice none 0 0] 25))) (cs := #[.int .i64 d.kind, .string d.cons, .slice none 0 0, .slice none 0 0]) (t := 25) 2 rfl
    simpa using this)
  have f2 : w4.frozen? ⟨w.heap.size + 1 + 1, 2, none⟩ = false := (hb.frozen (p := ⟨w.heap.size + 1 + 1, 2, none⟩) (by show w.heap.size + 1 + 1 < _; simp)).trans (by
    have := World.frozen?_alloc_new (((w.alloc (.cells #[.int .i64 d.kind, .string d.cons, .slice ta d.text.length tc, .slice sa n sc] 25)).alloc (.cells #[.int .i64 0, .string ⟨#[]⟩, .slice none 0 0, .slice none 0 0] 25))) #[.int .i64 d.kind, .string d.cons, .slice none 0 0, .slice none 0 0] 25 2
    simpa using this)
  have HX0 : Hid _ := hX0
  clear hX0 hb HC0 HT
  go_wp2
  clear q2 f2
  go_loopw [4] (fun iv W => ∃ (k : Nat) (lv : Value) (xs : List Value), k ≤ n ∧ iv = .int .i64 k ∧ CC w f d.kind d.cons d.text (.slice ua d.text.length uc) (.slice sa n sc) (d.kids.take k) lv xs W) (fun iv _ => n - (intOf iv).toNat)
  case atStart => exact ⟨0, _, _, by omega, rfl, HX0.out⟩
  case round =>
    obtain ⟨k, lv, xs, hk, rfl, hX⟩ := hrel
    clear HX0
    by_cases hlt : k < n
    · obtain ⟨x, hx⟩ : ∃ x, d.kids[k]? = some x := ⟨d.kids[k]'(by omega), by simp⟩
      obtain ⟨b, o, rfl, hb, xa, xc, e0, e1, ⟨ya, yc, e2, hyc, hyl, hya⟩, e3, hxc, hxk⟩ := HK.out k x hx
      have hps : (d.kids.take k).length = k := by rw [List.length_take]; omega
      have HP : Hid (d.kids.take (k + 1) = d.kids.take k ++ [x]) := by show _ = _; rw [List.take_add_one, hx]; rfl
      generalize d.kids.take k = ps at hX hps HP
      have hg3 := hX.g3
      have hXl := hX.lt
      have hXb := hX.bel
      have hbs := hXb.size
      have e0' := (hXb.cell (p := ⟨b, o + k * 4, none⟩) hb).trans e0
      have e1' := (hXb.cell (p := ⟨b, o + k * 4 + 1, none⟩) hb).trans e1
      have e2' := (hXb.cell (p := ⟨b, o + k * 4 + 2, none⟩) hb).trans e2
      have e3' := (hXb.cell (p := ⟨b, o + k * 4 + 3, none⟩) hb).trans e3
      have hkI : (k : Int) < n := by omega
      have HC : Hid _ := fun (_ : Unit) => HI.out x (List.mem_of_getElem? hx) (.slice ya x.text.length yc) xa xc wr ⟨ya, yc, rfl, hyc, hyl, (hya.keep (fun b q hb => hXb.cell (p := ⟨b, q, none⟩) hb)).mono hbs⟩ ((hxk.keep hXb).mono hbs)
      have HX : Hid _ := hX
      clear e0 e1 e2 e3 hxk hx hX HK HI hXb hya
      go_wp2_with (go_at_call 14; refine (HC.out ()).mono ?_)
      rintro e w2 ⟨⟨yv, va, vc, rfl, hvc, htx, htin⟩, hb2⟩
      have htx' := htx
      obtain ⟨va', vc', rfl, _⟩ := htx'
      have hX2 := HX.out.below hb2
      have hl2 := hX2.lt
      obtain ⟨W6, hW6⟩ : ∃ W6, w2.alloc (.cells #[.int .i64 x.kind, .string x.cons, (.slice va' x.text.length vc'), .slice va x.kids.length vc] 25) = W6 := ⟨_, rfl⟩
      have hB6 : Below w2.heap.size w2 W6 := by rw [← hW6]; exact (Below.refl _ _).alloc (Nat.le_refl _) _
      have s6 : W6.heap.size = w2.heap.size + 1 := by rw [← hW6]; simp
      have t0 : W6.cell? ⟨w2.heap.size, 0, none⟩ = some (.int .i64 x.kind) := by rw [← hW6]; exact cell_new 0 rfl
      have t1 : W6.cell? ⟨w2.heap.size, 1, none⟩ = some (.string x.cons) := by rw [← hW6]; exact cell_new 1 rfl
      have t2 : W6.cell? ⟨w2.heap.size, 2, none⟩ = some (.slice va' x.text.length vc') := by rw [← hW6]; exact cell_new 2 rfl
      have t3 : W6.cell? ⟨w2.heap.size, 3, none⟩ = some (.slice va x.kids.length vc) := by rw [← hW6]; exact cell_new 3 rfl
      have hX6 := hX2.below hB6
      have hrow := hX6.row
      have o3 : W6.cell? ⟨w.heap.size + 1 + 1, 3, none⟩ = some lv := hX6.o3
      have htin6 : MIx W6 (fun b => wr.heap.size ≤ b ∧ b < w2.heap.size) f va x.kids ∧ Txx W6 (fun b => wr.heap.size ≤ b ∧ b < w2.heap.size) (.slice va' x.text.length vc') x.text := ⟨htin.keep (fun b hb => hB6.block b hb.2), htx.keep (fun b hb => hB6.block b hb.2)⟩
      have hfar : ∀ b, (wr.heap.size ≤ b ∧ b < w2.heap.size) → w.heap.size + 3 ≤ b ∧ b < W6.heap.size ∧ lv.ownBlock ≠ some b := fun b hb => ⟨by omega, by omega, fun e => by have := (HX.out.row.lt b e).2; omega⟩
      have hone : (Value.slice va' x.text.length vc').oneCell' = true := rfl
      have HT : Hid _ := fun (_ : Unit) => htin6
      have HF : Hid _ := hfar
      have HX6 : Hid _ := hX6
      have HROW : Hid _ := fun (_ : Unit) => hrow
      have hl6 := hX6.lt
      clear s6
      clear htin htx hX2 hb2 hg3 e0' e1' e2' e3' HC htin6 hfar hX6 hB6
      go_wp2_with (at_builtin; refine wpList_append_lies _ rfl _ _ 23 rfl (w.heap.size + 3) 25 i0 _ 4 72 Tryd.underlying23 hinf hz0 hz1 hz2 rfl (by decide) lv ps.length xs rfl ((HROW.out ()).alloc _) ⟨W6.heap.size, 0, none⟩ 1 1 [.int .i64 x.kind, .string x.cons, (.slice va' x.text.length vc'), .slice va x.kids.length vc] rfl rfl ?ca1 ?ca2 (by decide) ?ca3 ?ca4 ?ca5 (W6.heap.size + 1) (by simp) ?_)
      case ca1 => exact cell_four_new _ _ _ _ _ _
      case ca2 => intro u hu; simp at hu; rcases hu with rfl | rfl | rfl | rfl <;> first | rfl | exact hone
      case ca3 => unfold maxLen; omega
      case ca4 => omega
      case ca5 => simp; omega
      intro g1 cap1 w7 hown7 hgrow hat _
      have hBm : Below W6.heap.size W6 (W6.alloc (.cells #[.int .i64 x.kind, .string x.cons, (.slice va' x.text.length vc'), .slice va x.kids.length vc] 25)) := (Below.refl _ _).alloc (Nat.le_refl _) _
      have hsm : (W6.alloc (.cells #[.int .i64 x.kind, .string x.cons, (.slice va' x.text.length vc'), .slice va x.kids.length vc] 25)).heap.size = W6.heap.size + 1 := by simp
      have n2 : lv.ownBlock ≠ some (w.heap.size + 1 + 1) := fun e => by have := ((HROW.out ()).lt _ e).1; omega
      have p2 : w7.cell? ⟨w.heap.size + 1 + 1, 3, none⟩ = some lv := (hgrow.cell_far ⟨w.heap.size + 1 + 1, 3, none⟩ (by show w.heap.size + 1 + 1 < _; omega) (fun e => n2 e.symm)).trans ((hBm.cell (p := ⟨w.heap.size + 1 + 1, 3, none⟩) (by show w.heap.size + 1 + 1 < _; omega)).trans o3)
      have pf : w7.frozen? ⟨w.heap.size + 1 + 1, 3, none⟩ = false := (hgrow.frozen_far ⟨w.heap.size + 1 + 1, 3, none⟩ (by show w.heap.size + 1 + 1 < _; omega) (fun e => n2 e.symm)).trans ((hBm.frozen (p := ⟨w.heap.size + 1 + 1, 3, none⟩) (by show w.heap.size + 1 + 1 < _; omega)).trans HX6.out.fo)
      have hst := HX6.out.step (g1 := g1) (cap1 := cap1) (sc := vc) hBm (HT.out ()) HF.out hvc hgrow (by rw [hps]; exact hown7) (by rw [hsm]; exact hat)
      rw [hps] at hst
      have HS : Hid _ := hst
      clear hst hgrow hown7 hat hBm hsm n2 hrow o3 t0 t1 t2 t3
      go_wp2
      refine ⟨⟨k + 1, .slice (some ⟨g1, 0, none⟩) (k + 1) cap1, xs ++ [.int .i64 x.kind, .string x.cons, (.slice va' x.text.length vc'), .slice va x.kids.length vc], by omega, by go_num, ?_⟩, by simp [intOf]; omega⟩
      rw [HP.out]
      exact HS.out
    · obtain rfl : k = n := by omega
      rw [List.take_of_length_le (by omega)] at hX
      have hrow := hX.row
      have HROW : Hid _ := fun (_ : Unit) => hrow
      have HCX : Hid _ := fun (_ : Unit) => hX.cx
      have htin := hX.cx.tin hrow (by rw [hn]; exact hlen)
      have a0 := hX.a 0 _ rfl
      have a1 := hX.a 1 _ rfl
      have a2 := hX.a 2 _ rfl
      have a3 := hX.a 3 _ rfl
      have f0 := hX.fa 0
      have f1 := hX.fa 1
      have f2 := hX.fa 2
      have f3 := hX.fa 3
      have g3 := hX.g3
      have o0 : wr.cell? ⟨w.heap.size + 1 + 1, 0, none⟩ = some (.int .i64 d.kind) := hX.o0
      have o1 : wr.cell? ⟨w.heap.size + 1 + 1, 1, none⟩ = some (.string d.cons) := hX.o1
      have o2 : wr.cell? ⟨w.heap.size + 1 + 1, 2, none⟩ = some (.slice ua d.text.length uc) := hX.o2
      have o3 : wr.cell? ⟨w.heap.size + 1 + 1, 3, none⟩ = some lv := hX.o3
      have hbel := hX.bel
      have hl := hX.lt
      obtain ⟨S, hx1, hx2⟩ := hX.tx
      obtain ⟨la, lc, rfl, hlc, hti⟩ := htin
      rw [hn] at o3 hlc
      have HT : Hid _ := fun (_ : Unit) => hti
      have HXT : Hid (Txx wr S (.slice ua d.text.length uc) d.text) := hx1
      have HX2 : Hid _ := fun (_ : Unit) => hx2
      have HB : Hid _ := hbel
      clear hX hrow hti HI HK hbel hx2 hx1
      go_wp2
      refine bodyPost_ret (v := .agg #[.int .i64 d.kind, .string d.cons, .slice ua d.text.length uc, .slice la k lc]) (by simp [results, Tryd.results14, go_sem, a0, a1, a2, a3]) rfl ?_
      have hsB : w.heap.size ≤ w.heap.size + 1 := by omega
      have h4 : ∀ b, w.heap.size + 3 ≤ b → _ := fun b hb => set4_block (W := wr) (c := w.heap.size + 1) (b := b) (by omega) 0 1 2 3 (.int .i64 d.kind) (.string d.cons) (.slice ua d.text.length uc) (.slice la k lc)
      have hr := HROW.out ()
      rw [hn] at hr
      have hc := HCX.out ()
      rw [hn] at hc
      refine ⟨⟨ua, uc, la, lc, xs, rfl, hlc, ?_, ?_, S, ?_, fun b hb => ?_⟩, (((HB.out.setCell hsB _).setCell hsB _).setCell hsB _).setCell hsB _⟩
      · exact row_set (row_set (row_set (row_set hr (by show w.heap.size + 1 < _; omega) _) (by show w.heap.size + 1 < _; omega) _) (by show w.heap.size + 1 < _; omega) _) (by show w.heap.size + 1 < _; omega) _
      · exact hc.move (by simp [World.setCell]) (fun b h1 _ _ => h4 b h1) (fun _ _ e => e)
      · exact (show Txx wr S _ _ from HXT.out).keep (fun b hb => h4 b (HX2.out () b hb).1)
      · have h := HX2.out () b hb
        rw [hn] at h
        exact ⟨h.1, by simp [World.setCell]; exact h.2.1, h.2.2⟩
theorem copy_top (f : Nat) (d : Tm) (tv : Value) (sa : Option Addr) (sc : Nat) (w : World) (ht : Txt w w.heap.size tv d.text) (hk : MAt w w.heap.size (f + 1) sa d.kids) : Calls Tryd.prog 14 #[.agg #[.int .i64 d.kind, .string d.cons, tv, .slice sa d.kids.length sc]] w (Ctop f d w) :=
  copy_top0 f d tv sa sc w (fun x _ xv xa xc W hW hK => copy_any f x xv xa xc W hW hK) ht hk
end Go.Proofs.YtlkcadibjmfmcaaDoor

/- A kid of a copy is written over. -/
namespace Go.Proofs.YtlkcadibjmfmcaaDoor
open Go.RowKit

theorem Cx.putk {f lo : Nat} {W : World} {g n c : Nat} {ps : List Tm} {xs : List Value} (h : Cx f lo W (.slice (some ⟨g, 0, none⟩) n c) ps xs) (hr : W.ownsRow lo 25 4 (.slice (some ⟨g, 0, none⟩) n c) n xs) (hn : ps.length = n) (hl : n * 72 ≤ 140737488355328) {m : Nat} (hm : m < n) {y : Tm} {yt ya : Option Addr} {ytc yc : Nat} {Sy : Nat → Prop} (hy : MIx W Sy f ya y.kids) (hyt : Txx W Sy (.slice yt y.text.length ytc) y.text) (hyc : y.kids.length ≤ yc) (hS : ∀ b, Sy b → b ≠ g) (T : Nat → Prop) (hTg : T g) (hT1 : ∀ b, lo ≤ b → b < W.heap.size → T b) (hT2 : ∀ b, Sy b → T b) :
    MIx ((((W.setCell ⟨g, m * 4, none⟩ (.int .i64 y.kind)).setCell ⟨g, m * 4 + 1, none⟩ (.string y.cons)).setCell ⟨g, m * 4 + 2, none⟩ (.slice yt y.text.length ytc)).setCell ⟨g, m * 4 + 3, none⟩ (.slice ya y.kids.length yc)) T (f + 1) (some ⟨g, 0, none⟩) (ps.set m y) := by
  have r1 := (hr.stored (m * 4) (.int .i64 y.kind)).1
  have r2 := (r1.stored (m * 4 + 1) (.string y.cons)).1
  have r3 := (r2.stored (m * 4 + 2) (.slice yt y.text.length ytc)).1
  have r4 := (r3.stored (m * 4 + 3) (.slice ya y.kids.length yc)).1
  have hb : ∀ b, b ≠ g → ((((W.setCell ⟨g, m * 4, none⟩ (.int .i64 y.kind)).setCell ⟨g, m * 4 + 1, none⟩ (.string y.cons)).setCell ⟨g, m * 4 + 2, none⟩ (.slice yt y.text.length ytc)).setCell ⟨g, m * 4 + 3, none⟩ (.slice ya y.kids.length yc)).heap[b]? = W.heap[b]? := fun b hne => set4_block (fun e => hne e.symm) _ _ _ _ _ _ _ _
  obtain ⟨W', hW'⟩ : ∃ W', (((W.setCell ⟨g, m * 4, none⟩ (.int .i64 y.kind)).setCell ⟨g, m * 4 + 1, none⟩ (.string y.cons)).setCell ⟨g, m * 4 + 2, none⟩ (.slice yt y.text.length ytc)).setCell ⟨g, m * 4 + 3, none⟩ (.slice ya y.kids.length yc) = W' := ⟨_, rfl⟩
  rw [hW'] at r4 hb ⊢
  have xl : xs.length = n * 4 := by rw [h.len, hn]
  refine ⟨by rw [List.length_set, hn]; exact hl, fun j d hj => ?_⟩
  have hlt : j < n := by have := (List.getElem?_eq_some_iff.1 hj).1; rw [List.length_set, hn] at this; exact this
  have cl : ∀ r, r < 4 → W'.cell? ⟨g, j * 4 + r, none⟩ = ((((xs.set (m * 4) (.int .i64 y.kind)).set (m * 4 + 1) (.string y.cons)).set (m * 4 + 2) (.slice yt y.text.length ytc)).set (m * 4 + 3) (.slice ya y.kids.length yc))[j * 4 + r]? := fun r hr' => r4.cellAt (j * 4 + r) (by omega)
  by_cases hjm : j = m
  · subst hjm
    rw [List.getElem?_set_self (by omega)] at hj
    cases hj
    refine ⟨g, 0, rfl, hTg, ⟨rfl, row_tag r4, fun q => r4.frozenAt q⟩, .slice yt y.text.length ytc, ya, yc, ?_, ?_, ?_, ?_, (hyt.keep (fun b hs => hb b (hS b hs))).wide hT2, hyc, (hy.keep (fun b hs => hb b (hS b hs))).wide hT2⟩
    · have := cl 0 (by omega)
      rw [Nat.zero_add]; rw [Nat.add_zero] at this; rw [this, List.getElem?_set_ne (by omega), List.getElem?_set_ne (by omega), List.getElem?_set_ne (by omega), List.getElem?_set_self (by omega)]
    · rw [Nat.zero_add, cl 1 (by omega), List.getElem?_set_ne (by omega), List.getElem?_set_ne (by omega), List.getElem?_set_self (by rw [List.length_set]; omega)]
    · rw [Nat.zero_add, cl 2 (by omega), List.getElem?_set_ne (by omega), List.getElem?_set_self (by rw [List.length_set, List.length_set]; omega)]
    · rw [Nat.zero_add, cl 3 (by omega), List.getElem?_set_self (by rw [List.length_set, List.length_set, List.length_set]; omega)]
  · rw [List.getElem?_set_ne (fun e => hjm e.symm)] at hj
    obtain ⟨tv, sa, sc, S, ⟨t1, t2⟩, t3, t4, x0, x1, x2, x3⟩ := h.cells j d hj
    have hSg : ∀ b, S b → b ≠ g := fun b hs e => (t3 b hs).2.2 (by rw [e]; rfl)
    have hST : ∀ b, S b → T b := fun b hs => hT1 b (t3 b hs).1 (t3 b hs).2.1
    have q : ∀ r, r < 4 → W'.cell? ⟨g, j * 4 + r, none⟩ = xs[j * 4 + r]? := fun r hr' => by rw [cl r hr', List.getElem?_set_ne (by omega), List.getElem?_set_ne (by omega), List.getElem?_set_ne (by omega), List.getElem?_set_ne (by omega)]
    refine ⟨g, 0, rfl, hTg, ⟨rfl, row_tag r4, fun q => r4.frozenAt q⟩, tv, sa, sc, ?_, ?_, ?_, ?_, (t2.keep (fun b hs => hb b (hSg b hs))).wide hST, t4, (t1.keep (fun b hs => hb b (hSg b hs))).wide hST⟩
    · rw [Nat.zero_add]; exact (q 0 (by omega)).trans x0
    · rw [Nat.zero_add]; exact (q 1 (by omega)).trans x1
    · rw [Nat.zero_add]; exact (q 2 (by omega)).trans x2
    · rw [Nat.zero_add]; exact (q 3 (by omega)).trans x3
end Go.Proofs.YtlkcadibjmfmcaaDoor

/- The document's Put: what it has in memory. -/
namespace Go.Proofs.YtlkcadibjmfmcaaDoor
open Go.RowKit

/-- Where Put begins: two terms in their boxes, and the place of what is told. -/
structure P3 (w : World) (d s : Tm) (dt : Option Addr) (dtc : Nat) (sa : Option Addr) (sc : Nat) (st : Option Addr) (stc : Nat) (ta : Option Addr) (tc : Nat) (W : World) : Prop where
  bel : Below w.heap.size w W
  d0 : W.cell? ⟨w.heap.size, 0, none⟩ = some (.int .i64 d.kind)
  d1 : W.cell? ⟨w.heap.size, 1, none⟩ = some (.string d.cons)
  d2 : W.cell? ⟨w.heap.size, 2, none⟩ = some (.slice dt d.text.length dtc)
  d3 : W.cell? ⟨w.heap.size, 3, none⟩ = some (.slice sa d.kids.length sc)
  s0 : W.cell? ⟨w.heap.size + 1, 0, none⟩ = some (.int .i64 s.kind)
  s1 : W.cell? ⟨w.heap.size + 1, 1, none⟩ = some (.string s.cons)
  s2 : W.cell? ⟨w.heap.size + 1, 2, none⟩ = some (.slice st s.text.length stc)
  s3 : W.cell? ⟨w.heap.size + 1, 3, none⟩ = some (.slice ta s.kids.length tc)
  r0 : W.cell? ⟨w.heap.size + 1 + 1, 0, none⟩ = some (.int .i64 0)
  r1 : W.cell? ⟨w.heap.size + 1 + 1, 1, none⟩ = some (.string ⟨#[]⟩)
  r2 : W.cell? ⟨w.heap.size + 1 + 1, 2, none⟩ = some (.slice none 0 0)
  r3 : W.cell? ⟨w.heap.size + 1 + 1, 3, none⟩ = some (.slice none 0 0)
  rf : ∀ q, W.frozen? ⟨w.heap.size + 1 + 1, q, none⟩ = false
  lt : w.heap.size + 1 + 1 < W.heap.size
theorem P3.nx {w : World} {d s : Tm} {dt : Option Addr} {dtc : Nat} {sa : Option Addr} {sc : Nat} {st : Option Addr} {stc : Nat} {ta : Option Addr} {tc : Nat} {W W' : World} (h : P3 w d s dt dtc sa sc st stc ta tc W) (hb : Below W.heap.size W W') : P3 w d s dt dtc sa sc st stc ta tc W' := by
  have hl := h.lt
  have k : ∀ b q, b < W.heap.size → W'.cell? ⟨b, q, none⟩ = W.cell? ⟨b, q, none⟩ := fun b q hlt => hb.cell (p := ⟨b, q, none⟩) hlt
  exact ⟨below_of h.bel hb, (k _ _ (by omega)).trans h.d0, (k _ _ (by omega)).trans h.d1, (k _ _ (by omega)).trans h.d2, (k _ _ (by omega)).trans h.d3, (k _ _ (by omega)).trans h.s0, (k _ _ (by omega)).trans h.s1, (k _ _ (by omega)).trans h.s2, (k _ _ (by omega)).trans h.s3, (k _ _ (by omega)).trans h.r0, (k _ _ (by omega)).trans h.r1, (k _ _ (by omega)).trans h.r2, (k _ _ (by omega)).trans h.r3, fun q => (hb.frozen (p := ⟨w.heap.size + 1 + 1, q, none⟩) hl).trans (h.rf q), Nat.lt_of_lt_of_le hl hb.size⟩
theorem P3.start (w : World) (d s : Tm) (dt : Option Addr) (dtc : Nat) (sa : Option Addr) (sc : Nat) (st : Option Addr) (stc : Nat) (ta : Option Addr) (tc : Nat) : P3 w d s dt dtc sa sc st stc ta tc (((w.alloc (.cells #[.int .i64 d.kind, .string d.cons, .slice dt d.text.length dtc, .slice sa d.kids.length sc] 25)).alloc (.cells #[.int .i64 s.kind, .string s.cons, .slice st s.text.length stc, .slice ta s.kids.length tc] 25)).alloc (.cells #[.int .i64 0, .string ⟨#[]⟩, .slice none 0 0, .slice none 0 0] 25)) := by
  obtain ⟨A, hA⟩ : ∃ A, w.alloc (.cells #[.int .i64 d.kind, .string d.cons, .slice dt d.text.length dtc, .slice sa d.kids.length sc] 25) = A := ⟨_, rfl⟩
  obtain ⟨B, hB⟩ : ∃ B, A.alloc (.cells #[.int .i64 s.kind, .string s.cons, .slice st s.text.length stc, .slice ta s.kids.length tc] 25) = B := ⟨_, rfl⟩
  obtain ⟨C, hC⟩ : ∃ C, B.alloc (.cells #[.int .i64 0, .string ⟨#[]⟩, .slice none 0 0, .slice none 0 0] 25) = C := ⟨_, rfl⟩
  rw [hA, hB, hC]
  have sA : A.heap.size = w.heap.size + 1 := by rw [← hA]; simp
  have sB : B.heap.size = w.heap.size + 1 + 1 := by rw [← hB]; simp [sA]
  have sC : C.heap.size = w.heap.size + 1 + 1 + 1 := by rw [← hC]; simp [sB]
  have bA : Below w.heap.size w A := by rw [← hA]; exact (Below.refl _ _).alloc (Nat.le_refl _) _
  have bB : Below A.heap.size A B := by rw [← hB]; exact (Below.refl _ _).alloc (Nat.le_refl _) _
  have bC : Below B.heap.size B C := by rw [← hC]; exact (Below.refl _ _).alloc (Nat.le_refl _) _
  have a : ∀ j v, (#[.int .i64 d.kind, .string d.cons, .slice dt d.text.length dtc, .slice sa d.kids.length sc] : Array Value)[j]? = some v → C.cell? ⟨w.heap.size, j, none⟩ = some v := fun j v hv => (bC.cell (p := ⟨w.heap.size, j, none⟩) (by show w.heap.size < _; omega)).trans ((bB.cell (p := ⟨w.heap.size, j, none⟩) (by show w.heap.size < _; omega)).trans (by rw [← hA]; exact cell_new j hv))
  have b : ∀ j v, (#[.int .i64 s.kind, .string s.cons, .slice st s.text.length stc, .slice ta s.kids.length tc] : Array Value)[j]? = some v → C.cell? ⟨w.heap.size + 1, j, none⟩ = some v := fun j v hv => (bC.cell (p := ⟨w.heap.size + 1, j, none⟩) (by show w.heap.size + 1 < _; omega)).trans (by rw [← hB, ← sA]; exact cell_new j hv)
  have c : ∀ j v, (#[.int .i64 0, .string ⟨#[]⟩, .slice none 0 0, .slice none 0 0] : Array Value)[j]? = some v → C.cell? ⟨w.heap.size + 1 + 1, j, none⟩ = some v := fun j v hv => by rw [← hC, ← sB]; exact cell_new j hv
  exact ⟨below_of bA (bB.trans (bC.mono (by omega))), a 0 _ rfl, a 1 _ rfl, a 2 _ rfl, a 3 _ rfl, b 0 _ rfl, b 1 _ rfl, b 2 _ rfl, b 3 _ rfl, c 0 _ rfl, c 1 _ rfl, c 2 _ rfl, c 3 _ rfl, fun q => by rw [← hC, ← sB]; exact World.frozen?_alloc_at _ _ _ _ rfl, by omega⟩
/-- What was told of a part lies in a box of its own. -/
structure KB (W0 : World) (c : Nat) (y : Tm) (F : Nat) (yt : Option Addr) (ytc : Nat) (ya : Option Addr) (yc : Nat) (V : World) : Prop where
  bel : Below W0.heap.size W0 V
  lo : W0.heap.size ≤ c
  lt : c < V.heap.size
  y0 : V.cell? ⟨c, 0, none⟩ = some (.int .i64 y.kind)
  y1 : V.cell? ⟨c, 1, none⟩ = some (.string y.cons)
  y2 : V.cell? ⟨c, 2, none⟩ = some (.slice yt y.text.length ytc)
  y3 : V.cell? ⟨c, 3, none⟩ = some (.slice ya y.kids.length yc)
  yc : y.kids.length ≤ yc
  tx : Txx V (fun b => W0.heap.size ≤ b ∧ b < V.heap.size) (.slice yt y.text.length ytc) y.text
  ty : MIx V (fun b => W0.heap.size ≤ b ∧ b < V.heap.size) F ya y.kids
theorem KB.of_set {W0 w7 : World} {c : Nat} {y : Tm} {F : Nat} {yt : Option Addr} {ytc : Nat} {ya : Option Addr} {yc : Nat} (hb : Below W0.heap.size W0 w7) (hlo : W0.heap.size ≤ c) (hlt : c < w7.heap.size) {v0 v1 v2 v3 : Value} (z0 : w7.cell? ⟨c, 0, none⟩ = some v0) (z1 : w7.cell? ⟨c, 1, none⟩ = some v1) (z2 : w7.cell? ⟨c, 2, none⟩ = some v2) (z3 : w7.cell? ⟨c, 3, none⟩ = some v3) (hyc : y.kids.length ≤ yc) (hx : Txx w7 (fun b => c + 1 ≤ b ∧ b < w7.heap.size) (.slice yt y.text.length ytc) y.text) (ht : MIx w7 (fun b => c + 1 ≤ b ∧ b < w7.heap.size) F ya y.kids) :
    KB W0 c y F yt ytc ya yc ((((w7.setCell ⟨c, 0, none⟩ (.int .i64 y.kind)).setCell ⟨c, 1, none⟩ (.string y.cons)).setCell ⟨c, 2, none⟩ (.slice yt y.text.length ytc)).setCell ⟨c, 3, none⟩ (.slice ya y.kids.length yc)) := by
  obtain ⟨X, hX⟩ : ∃ X, (((w7.setCell ⟨c, 0, none⟩ (.int .i64 y.kind)).setCell ⟨c, 1, none⟩ (.string y.cons)).setCell ⟨c, 2, none⟩ (.slice yt y.text.length ytc)).setCell ⟨c, 3, none⟩ (.slice ya y.kids.length yc) = X := ⟨_, rfl⟩
  obtain ⟨u0, u1, u2, u3, _, hs, hk, hbl⟩ := four_set w7 c _ _ _ _ _ _ _ _ z0 z1 z2 z3 X hX
  rw [hX]
  have hkk : ∀ b, (c + 1 ≤ b ∧ b < w7.heap.size) → X.heap[b]? = w7.heap[b]? := fun b h => hk b (by have := h.1; omega)
  exact ⟨hb.trans (hbl _ hlo), hlo, by omega, u0, u1, u2, u3, hyc, (hx.keep hkk).wide (fun b h => ⟨by have := h.1; omega, by have := h.2; omega⟩), (ht.keep hkk).wide (fun b h => ⟨by have := h.1; omega, by have := h.2; omega⟩)⟩
end Go.Proofs.YtlkcadibjmfmcaaDoor

/- Pu, Pv, Pw, Px in one. -/
/- A term with another part in its place: plain; a term in memory with a place that is to be written. -/
namespace Go.Proofs.YtlkcadibjmfmcaaDoor
open Go.RowKit

/-- A tree with another one where a path leads. -/
def putP : Tm → List Int → Tm → Option Tm
  | _, [], s => some s
  | d, v :: ps, s => (kidAt d v).bind (fun x => (putP x ps s).map (fun y => .mk d.kind d.cons d.text (d.kids.set v.toNat y)))
theorem kidAt_some {d x : Tm} {v : Int} (h : kidAt d v = some x) : 0 ≤ v ∧ d.kids[v.toNat]? = some x := by
  unfold kidAt at h
  split at h
  · rename_i h0; exact ⟨h0, h⟩
  · cases h
theorem putP_none : ∀ {ps : List Int} {d : Tm} (s : Tm), atP d ps = none → putP d ps s = none
  | [], d, s, h => by rw [atP] at h; cases h
  | v :: ps, d, s, h => by
    rw [atP] at h
    rw [putP]
    cases hk : kidAt d v with
    | none => rfl
    | some x =>
      rw [hk] at h
      simp only [Option.bind_some] at h ⊢
      rw [putP_none s h]; rfl
theorem putP_some : ∀ {ps : List Int} {d x : Tm} (s : Tm), atP d ps = some x → ∃ d', putP d ps s = some d'
  | [], d, x, s, h => ⟨s, rfl⟩
  | v :: ps, d, x, s, h => by
    rw [atP] at h
    rw [putP]
    cases hk : kidAt d v with
    | none => rw [hk] at h; cases h
    | some y =>
      rw [hk] at h
      simp only [Option.bind_some] at h ⊢
      obtain ⟨d', hd'⟩ := putP_some s h
      rw [hd']; exact ⟨_, rfl⟩
theorem put_cons {v : Int} {ps : List Int} {d s d' : Tm} (h : putP d (v :: ps) s = some d') : ∃ x y, kidAt d v = some x ∧ putP x ps s = some y ∧ d' = .mk d.kind d.cons d.text (d.kids.set v.toNat y) := by
  rw [putP] at h
  cases hk : kidAt d v with
  | none => rw [hk] at h; cases h
  | some x =>
    rw [hk] at h
    simp only [Option.bind_some] at h
    cases hp : putP x ps s with
    | none => rw [hp] at h; cases h
    | some y => rw [hp] at h; cases h; exact ⟨x, y, rfl, hp, rfl⟩
theorem kid_set {d x y : Tm} {v : Int} (h : kidAt d v = some x) : kidAt (.mk d.kind d.cons d.text (d.kids.set v.toNat y)) v = some y := by
  obtain ⟨h0, h1⟩ := kidAt_some h
  have hlt := (List.getElem?_eq_some_iff.1 h1).1
  unfold kidAt
  rw [if_pos h0]
  show (d.kids.set v.toNat y)[v.toNat]? = some y
  rw [List.getElem?_set_self hlt]
/-- What is put is there. -/
theorem put_at : ∀ {ps : List Int} {d s d' : Tm}, putP d ps s = some d' → atP d' ps = some s
  | [], d, s, d', h => by rw [putP] at h; cases h; rfl
  | v :: ps, d, s, d', h => by
    obtain ⟨x, y, h1, h2, rfl⟩ := put_cons h
    rw [atP, kid_set h1]
    exact put_at h2
/-- What is put back leaves all as it was. -/
theorem put_back : ∀ {ps : List Int} {d s d' old : Tm}, atP d ps = some old → putP d ps s = some d' → putP d' ps old = some d
  | [], d, s, d', old, h, h' => by rw [atP] at h; cases h; rfl
  | v :: ps, d, s, d', old, h, h' => by
    obtain ⟨x, y, h1, h2, rfl⟩ := put_cons h'
    rw [atP, h1] at h
    rw [putP, kid_set h1]
    simp only [Option.bind_some] at h ⊢
    rw [put_back h h2]
    obtain ⟨h0, h3⟩ := kidAt_some h1
    obtain ⟨r, b, tt, l⟩ := d
    simp only [Option.map_some, Tm.kind, Tm.cons, Tm.text, Tm.kids, List.set_set] at h3 ⊢
    obtain ⟨hlt, e⟩ := List.getElem?_eq_some_iff.1 h3
    rw [← e, List.set_getElem_self]
theorem put_same {ps : List Int} {d old : Tm} (h : atP d ps = some old) : putP d ps old = some d := by
  obtain ⟨d', h'⟩ := putP_some old h
  have h2 := put_back h h'
  have h3 := put_back (put_at h') h2
  have : d' = d := by
    clear h2 h3
    induction ps generalizing d d' with
    | nil => rw [atP] at h; rw [putP] at h'; cases h; cases h'; rfl
    | cons v ps ih =>
      obtain ⟨x, y, h1, h2, rfl⟩ := put_cons h'
      rw [atP, h1] at h
      simp only [Option.bind_some] at h
      have e := ih h y h2
      subst e
      obtain ⟨h0, h3⟩ := kidAt_some h1
      obtain ⟨r, b, tt, l⟩ := d
      simp only [Tm.kind, Tm.cons, Tm.text, Tm.kids] at h3 ⊢
      obtain ⟨hlt, e⟩ := List.getElem?_eq_some_iff.1 h3
      rw [← e, List.set_getElem_self]
  rw [h', this]
theorem szL_set : ∀ {l : List Tm} {i : Nat} {x : Tm} (y : Tm), l[i]? = some x → szL (l.set i y) + sz x = szL l + sz y
  | [], i, x, y, h => by cases h
  | d :: l, 0, x, y, h => by cases h; rw [List.set_cons_zero, szL, szL]; omega
  | d :: l, i + 1, x, y, h => by
    have := szL_set (l := l) (i := i) y h
    rw [List.set_cons_succ, szL, szL]; omega
theorem put_sz : ∀ {ps : List Int} {d s d' : Tm}, putP d ps s = some d' → sz d' ≤ sz d + sz s
  | [], d, s, d', h => by rw [putP] at h; cases h; omega
  | v :: ps, d, s, d', h => by
    obtain ⟨x, y, h1, h2, rfl⟩ := put_cons h
    have h3 := put_sz h2
    have h4 := szL_set y (kidAt_some h1).2
    rw [sz, sz_eq d]; omega
theorem at_sz : ∀ {ps : List Int} {d x : Tm}, atP d ps = some x → sz x ≤ sz d
  | [], d, x, h => by rw [atP] at h; cases h; omega
  | v :: ps, d, x, h => by
    rw [atP] at h
    cases hk : kidAt d v with
    | none => rw [hk] at h; cases h
    | some y =>
      rw [hk] at h
      have h1 := at_sz (ps := ps) h
      have h2 := szL_mem (kidAt_some hk).2
      rw [sz_eq d]; omega
/-- A term's four cells, its text where it was. -/
def TCell (w W : World) (b o : Nat) (d : Tm) (sa : Option Addr) (sc : Nat) : Prop := W.cell? ⟨b, o, none⟩ = some (.int .i64 d.kind) ∧ W.cell? ⟨b, o + 1, none⟩ = some (.string d.cons) ∧ (∃ tv, W.cell? ⟨b, o + 2, none⟩ = some tv ∧ Txt w w.heap.size tv d.text) ∧ W.cell? ⟨b, o + 3, none⟩ = some (.slice sa d.kids.length sc)
/-- A tree in new memory along a path, up to a place that holds a part; all that lies beside is where it was. -/
def Hole (w : World) (f : Nat) (W : World) (pb po : Nat) (x : Tm) : List Int → Nat → Nat → Tm → Prop
  | [], b, o, d => b = pb ∧ o = po ∧ d = x ∧ w.heap.size ≤ b ∧ b < W.heap.size ∧ (∀ q, W.frozen? ⟨b, q, none⟩ = false) ∧ ∃ sa sc, TCell w W b o d sa sc ∧ d.kids.length ≤ sc ∧ MAt w w.heap.size f sa d.kids
  | v :: vs, b, o, d => w.heap.size ≤ b ∧ b < W.heap.size ∧ ∃ g c y, TCell w W b o d (some ⟨g, 0, none⟩) c ∧ b < g ∧ d.kids.length ≤ c ∧ d.kids.length * 72 ≤ 140737488355328 ∧ kidAt d v = some y ∧ (∀ j z, j ≠ v.toNat → d.kids[j]? = some z → ∃ za zc, TCell w W g (j * 4) z za zc ∧ z.kids.length ≤ zc ∧ MAt w w.heap.size f za z.kids) ∧ Hole w f W pb po x vs g (v.toNat * 4) y
section
variable {w : World} {f : Nat} {W W' : World} {pb po : Nat} {x : Tm}
theorem Hole.lo : ∀ {vs : List Int} {b o : Nat} {d : Tm}, Hole w f W pb po x vs b o d → (b < pb ∨ (b = pb ∧ o = po ∧ vs = [])) ∧ w.heap.size ≤ b ∧ b < W.heap.size ∧ pb < W.heap.size
  | [], b, o, d, h => by
    obtain ⟨h1, h2, _, h3, h4, _⟩ := h
    exact ⟨.inr ⟨h1, h2, rfl⟩, h3, h4, by omega⟩
  | v :: vs, b, o, d, h => by
    obtain ⟨h1, h2, g, c, y, _, h3, _, _, _, _, h4⟩ := h
    obtain ⟨h5, _, _, h6⟩ := h4.lo
    exact ⟨.inl (by rcases h5 with h5 | h5 <;> omega), h1, h2, h6⟩
theorem Hole.here : ∀ {vs : List Int} {b o : Nat} {d : Tm}, Hole w f W pb po x vs b o d → (∃ xa xc, TCell w W pb po x xa xc ∧ x.kids.length ≤ xc ∧ MAt w w.heap.size f xa x.kids) ∧ (∀ q, W.frozen? ⟨pb, q, none⟩ = false)
  | [], b, o, d, h => by
    obtain ⟨rfl, rfl, rfl, _, _, h1, h2⟩ := h
    exact ⟨h2, h1⟩
  | v :: vs, b, o, d, h => by
    obtain ⟨_, _, g, c, y, _, _, _, _, _, _, h4⟩ := h
    exact h4.here
/-- What is written there is the tree with it in the place. -/
theorem MAt.more {w : World} {B : Nat} {f : Nat} {a : Option Addr} {l : List Tm} (h : MAt w B f a l) : ∀ k, MAt w B (f + k) a l
  | 0 => h
  | k + 1 => (h.more k).up
theorem Hole.fill {s : Tm} {sa : Option Addr} {sc : Nat} (hk : ∀ b q, b < W.heap.size → ¬ (b = pb ∧ po ≤ q ∧ q < po + 4) → W'.cell? ⟨b, q, none⟩ = W.cell? ⟨b, q, none⟩) (hz : W.heap.size ≤ W'.heap.size) (hs : TCell w W' pb po s sa sc) (hsc : s.kids.length ≤ sc) (hsk : MAt W' W'.heap.size f sa s.kids) (hb : Below w.heap.size w W') :
    ∀ {vs : List Int} {b o : Nat} {d : Tm}, Hole w f W pb po x vs b o d → ∃ d', putP d vs s = some d' ∧ TermAt W' W'.heap.size (f + vs.length) b o d'
  | [], b, o, d, h => by
    obtain ⟨rfl, rfl, rfl, _, h1, _⟩ := h
    obtain ⟨s0, s1, ⟨tv, s2, st⟩, s3⟩ := hs
    exact ⟨s, rfl, by omega, sa, sc, s0, s1, (st.keep hb).cell hb.size s2, s3, hsc, hsk⟩
  | v :: vs, b, o, d, h => by
    obtain ⟨h1, h2, g, c, y, ⟨t0, t1, ⟨tv, t2, tt⟩, t3⟩, h3, h4, h5, h6, h7, h8⟩ := h
    obtain ⟨y', e1, hgl, ya, yc, y0, y1, y2, y3, hyc, hyk⟩ := Hole.fill hk hz hs hsc hsk hb h8
    obtain ⟨l1, l2, l3, l4⟩ := h8.lo
    have hbp : b ≠ pb := by rcases l1 with l1 | l1 <;> omega
    obtain ⟨hv0, hv1⟩ := kidAt_some h6
    refine ⟨.mk d.kind d.cons d.text (d.kids.set v.toNat y'), by rw [putP, h6]; simp only [Option.bind_some]; rw [e1]; rfl, by omega, some ⟨g, 0, none⟩, c, (hk b _ h2 (fun e => hbp e.1)).trans t0, (hk b _ h2 (fun e => hbp e.1)).trans t1, (tt.keep hb).cell hb.size ((hk b _ h2 (fun e => hbp e.1)).trans t2), ?_, ?_, ?_⟩
    · show W'.cell? ⟨b, o + 3, none⟩ = some (Value.slice (some ⟨g, 0, none⟩) (d.kids.set v.toNat y').length c)
      rw [List.length_set]; exact (hk b _ h2 (fun e => hbp e.1)).trans t3
    · show (d.kids.set v.toNat y').length ≤ c
      rw [List.length_set]; exact h4
    · show MAt W' W'.heap.size (f + vs.length + 1) _ (d.kids.set v.toNat y')
      refine ⟨by rw [List.length_set]; exact h5, fun j z hj => ⟨g, 0, rfl, hgl, ?_⟩⟩
      by_cases hjv : j = v.toNat
      · subst hjv
        have hlt := (List.getElem?_eq_some_iff.1 hv1).1
        rw [List.getElem?_set_self hlt] at hj
        cases hj
        rw [Nat.zero_add]
        exact ⟨ya, yc, y0, y1, y2, y3, hyc, hyk⟩
      · rw [List.getElem?_set_ne (fun e => hjv e.symm)] at hj
        obtain ⟨za, zc, ⟨z0, z1, ⟨zt, z2, ztt⟩, z3⟩, hzc, hzk⟩ := h7 j z hjv hj
        have far : ∀ r, r < 4 → W'.cell? ⟨g, j * 4 + r, none⟩ = W.cell? ⟨g, j * 4 + r, none⟩ := fun r hr => hk g _ l3 (fun e => by
          rcases l1 with l1 | ⟨_, l1, _⟩
          · omega
          · omega)
        rw [Nat.zero_add]
        exact ⟨za, zc, (far 0 (by omega)).trans z0, (far 1 (by omega)).trans z1, (ztt.keep hb).cell hb.size ((far 2 (by omega)).trans z2), (far 3 (by omega)).trans z3, hzc, ((hzk.keep hb).mono hb.size).more vs.length⟩
/-- One step further down. -/
theorem Hole.down {v : Int} {y : Tm} (hy : kidAt x v = some y) {g c : Nat} (hg : W.heap.size ≤ g) (hgl : g < W'.heap.size) (hk : ∀ b q, b < W.heap.size → ¬ (b = pb ∧ q = po + 3) → W'.cell? ⟨b, q, none⟩ = W.cell? ⟨b, q, none⟩) (hf : ∀ q, W'.frozen? ⟨g, q, none⟩ = false) (hn : W'.cell? ⟨pb, po + 3, none⟩ = some (.slice (some ⟨g, 0, none⟩) x.kids.length c)) (hc : x.kids.length ≤ c) (hl : x.kids.length * 72 ≤ 140737488355328) (hz : ∀ j z, x.kids[j]? = some z → ∃ za zc, TCell w W' g (j * 4) z za zc ∧ z.kids.length ≤ zc ∧ MAt w w.heap.size f za z.kids) :
    ∀ {vs : List Int} {b o : Nat} {d : Tm}, Hole w f W pb po x vs b o d → Hole w f W' g (v.toNat * 4) y (vs ++ [v]) b o d
  | [], b, o, d, h => by
    obtain ⟨rfl, rfl, rfl, h1, h2, _, sa, sc, ⟨t0, t1, ⟨tv, t2, tt⟩, _⟩, _, _⟩ := h
    refine ⟨h1, by omega, g, c, y, ⟨(hk b _ h2 (by omega)).trans t0, (hk b _ h2 (by omega)).trans t1, ⟨tv, (hk b _ h2 (by omega)).trans t2, tt⟩, hn⟩, by omega, hc, hl, hy, fun j z _ hj => hz j z hj, ?_⟩
    exact ⟨rfl, rfl, rfl, by omega, hgl, hf, hz _ _ (kidAt_some hy).2⟩
  | u :: vs, b, o, d, h => by
    obtain ⟨h1, h2, g', c', y', ⟨t0, t1, ⟨tv, t2, tt⟩, t3⟩, h3, h4, h5, h6, h7, h8⟩ := h
    obtain ⟨l1, l2, l3, l4⟩ := h8.lo
    have hbp : b ≠ pb := by rcases l1 with l1 | l1 <;> omega
    refine ⟨h1, by omega, g', c', y', ⟨(hk b _ h2 (fun e => hbp e.1)).trans t0, (hk b _ h2 (fun e => hbp e.1)).trans t1, ⟨tv, (hk b _ h2 (fun e => hbp e.1)).trans t2, tt⟩, (hk b _ h2 (fun e => hbp e.1)).trans t3⟩, h3, h4, h5, h6, fun j z hj hjz => ?_, Hole.down hy hg hgl hk hf hn hc hl hz h8⟩
    obtain ⟨za, zc, ⟨z0, z1, ⟨zt, z2, ztt⟩, z3⟩, hzc, hzk⟩ := h7 j z hj hjz
    have far : ∀ r, r < 4 → W'.cell? ⟨g', j * 4 + r, none⟩ = W.cell? ⟨g', j * 4 + r, none⟩ := fun r hr => hk g' _ l3 (fun e => by
      rcases l1 with l1 | ⟨_, l1, _⟩
      · omega
      · omega)
    exact ⟨za, zc, ⟨(far 0 (by omega)).trans z0, (far 1 (by omega)).trans z1, ⟨zt, (far 2 (by omega)).trans z2, ztt⟩, (far 3 (by omega)).trans z3⟩, hzc, hzk⟩
end
end Go.Proofs.YtlkcadibjmfmcaaDoor

/- A term with another part in its place: slices.Clone; while a path is followed. -/
namespace Go.Proofs.YtlkcadibjmfmcaaDoor
open Go.RowKit

theorem cell_new_out (w : World) (cs : Array Value) (t : TypeId) (q : Nat) (h : cs.size ≤ q) : (w.alloc (.cells cs t)).cell? ⟨w.heap.size, q, none⟩ = none := by
  have e : (w.alloc (.cells cs t)).heap[w.heap.size]? = some (.cells cs t) := World.alloc_heap_new _ _
  unfold World.cell?
  show (match (w.alloc (.cells cs t)).heap[w.heap.size]? with | some (.cells c _ _) => _ | _ => none) = none
  rw [e]
  exact Array.getElem?_eq_none h

theorem nil_eq (ad : Addr) (n c : Nat) (w : World) : (Go.binOp .eql 23 (.slice (some ad) n c) (.slice none 0 0)).run Tryd.prog w = .ok (.bool false) w := by kernel_rfl
set_option maxRecDepth 100000 in
set_option maxHeartbeats 4000000 in
theorem lclone_any (w0 : World) (l : List Tm) (a : Option Addr) (c f : Nat) (w : World) (hk : MAt w0 w0.heap.size f a l) (hb : Below w0.heap.size w0 w) (hpos : 0 < l.length) :
    Calls Tryd.prog 61 #[.slice a l.length c] w fun e w' => (∃ g cap, e = .returned (.slice (some ⟨g, 0, none⟩) l.length cap) ∧ l.length ≤ cap ∧ w.heap.size ≤ g ∧ g < w'.heap.size ∧ (∀ q, w'.frozen? ⟨g, q, none⟩ = false) ∧ ∀ j z, l[j]? = some z → ∃ za zc, TCell w0 w' g (j * 4) z za zc ∧ z.kids.length ≤ zc ∧ MAt w0 w0.heap.size f za z.kids) ∧ Below w.heap.size w w' := by
  obtain ⟨i0, hinf, hz0, hz1, hz2⟩ := info_parts infoTerm
  cases f with
  | zero => cases (show l = [] from hk); simp at hpos
  | succ f =>
  obtain ⟨x0, hx0⟩ : ∃ x, l[0]? = some x := ⟨l[0], by simp⟩
  obtain ⟨b, o, rfl, hlt, _⟩ := hk.2 0 x0 hx0
  obtain ⟨news, hnl, hnc, hno, hnk⟩ := kid_cells hk
  have hl72 := hk.1
  have key : ∀ j z, l[j]? = some z → news[j * 4]? = some (.int .i64 z.kind) ∧ news[j * 4 + 1]? = some (.string z.cons) ∧ (∃ s, news[j * 4 + 2]? = some s ∧ Txt w0 w0.heap.size s z.text) ∧ ∃ za zc, news[j * 4 + 3]? = some (.slice za z.kids.length zc) ∧ z.kids.length ≤ zc ∧ MAt w0 w0.heap.size (f + 1) za z.kids := fun j z hj => by
    obtain ⟨h0, h1, ht, f', a', c', h2, h3, h4⟩ := hnk j z hj
    obtain ⟨b', o', e, _, sa, sc, c0, c1, c2, c3, hsc, hsk⟩ := hk.2 j z hj
    cases e
    have h5 := hnc _ _ h2
    rw [show b = b from rfl, show o + (j * 4 + 3) = o + j * 4 + 3 by omega, c3] at h5
    cases h5
    exact ⟨h0, h1, ht, _, _, h2, hsc, hsk.up⟩
  have hnc' : ∀ j u, news[j]? = some u → (w.alloc (.cells #[] 25)).cell? ((⟨b, o, none⟩ : Addr).add j) = some u := fun j u hu => by
    have hadd : (⟨b, o, none⟩ : Addr).add j = ⟨b, o + j, none⟩ := by unfold Addr.add; split <;> simp_all
    rw [hadd]
    exact ((((Below.refl _ w).alloc (Nat.le_refl _) (.cells #[] 25)).cell (p := ⟨b, o + j, none⟩) (Nat.lt_of_lt_of_le hlt hb.size)).trans (hb.cell (p := ⟨b, o + j, none⟩) hlt)).trans (hnc j u hu)
  have hrow : (w.alloc (.cells #[] 25)).ownsRow w.heap.size 25 4 (.slice (some ⟨w.heap.size, 0, none⟩) 0 0) 0 [] := World.ownsRow_made w #[] 0 (Nat.le_refl _) (by unfold maxLen; omega) rfl
  have HKY : Hid _ := key
  obtain ⟨n, hn⟩ : ∃ n, l.length = n := ⟨_, rfl⟩
  rw [hn] at hpos hl72 hnl ⊢
  have hne := fun W => nil_eq ⟨b, o, none⟩ n c W
  clear hnk hnc hk key hx0 hn
  go_enter Tryd.func61, Tryd.ntmps61
  go_wp2_with (at_builtin; refine wpList_append_lies _ rfl _ _ 23 rfl w.heap.size 25 i0 _ 4 72 Tryd.underlying23 hinf hz0 hz1 hz2 rfl (by decide) _ _ _ rfl hrow ⟨b, o, none⟩ n c news rfl hnl hnc' hno hpos ?ca3 ?ca4 ?ca5 (w.heap.size + 1) (by simp) ?_)
  case ca3 => unfold maxLen; omega
  case ca4 => omega
  case ca5 => simp
  intro g cap w7 hown hgrow hat hg7
  go_wp2
  go_ret
  have hgw : w.heap.size ≤ g := by
    rcases hat with h | h
    · simp [Value.ownBlock] at h; omega
    · omega
  have hcap : n ≤ cap ∧ ∃ cur, w7.heap[g]? = some (.cells cur 25 (0, 0)) := by
    rcases hown.2 with ⟨h, _⟩ | ⟨g', cap', cur, h, _, h2, h3, _⟩
    · cases h
    · cases h; exact ⟨h3, cur, h2⟩
  obtain ⟨hcap, cur, hcur⟩ := hcap
  have hs7 := hgrow.size
  have hsa : (w.alloc (.cells #[] 25)).heap.size = w.heap.size + 1 := by simp
  refine ⟨⟨g, cap, rfl, hcap, hgw, hg7, fun q => by simp [World.frozen?, hcur], fun j z hj => ?_⟩, ⟨hgrow.os, hgrow.tape, hgrow.output, by omega, fun b hb => (hgrow.block b (by omega) (by simp [Value.ownBlock]; omega)).trans (((Below.refl _ w).alloc (Nat.le_refl _) (.cells #[] 25)).block b hb)⟩⟩
  obtain ⟨k0, k1, ⟨zt, k2, ztt⟩, za, zc, k3, hzc, hzk⟩ := HKY.out j z hj
  have hlt0 := (List.getElem?_eq_some_iff.1 k3).1
  have kk : ∀ r u, r < 4 → news[j * 4 + r]? = some u → w7.cell? ⟨g, j * 4 + r, none⟩ = some u := fun r u hr hu => by
    have h := hown.cellAt (j * 4 + r) (by omega)
    rw [h]
    simpa using hu
  exact ⟨za, zc, ⟨kk 0 _ (by omega) k0, kk 1 _ (by omega) k1, ⟨zt, kk 2 _ (by omega) k2, ztt⟩, kk 3 _ (by omega) k3⟩, hzc, hzk⟩

/-- While a path is followed. -/
structure PtI (w : World) (d : Tm) (ps : List Int) (s : Tm) (st : Option Addr) (stc : Nat) (ta : Option Addr) (tc f k : Nat) (x : Tm) (pb po : Nat) (W : World) : Prop where
  le : k ≤ ps.length
  goes : atP x (ps.drop k) = atP d ps
  bel : Below w.heap.size w W
  hole : Hole w f W pb po x (ps.take k) w.heap.size 0 d
  far : pb = w.heap.size ∨ w.heap.size + 1 + 1 < pb
  s0 : W.cell? ⟨w.heap.size + 1, 0, none⟩ = some (.int .i64 s.kind)
  s1 : W.cell? ⟨w.heap.size + 1, 1, none⟩ = some (.string s.cons)
  s2 : W.cell? ⟨w.heap.size + 1, 2, none⟩ = some (.slice st s.text.length stc)
  s3 : W.cell? ⟨w.heap.size + 1, 3, none⟩ = some (.slice ta s.kids.length tc)
  r0 : W.cell? ⟨w.heap.size + 1 + 1, 0, none⟩ = some (.int .i64 0)
  r1 : W.cell? ⟨w.heap.size + 1 + 1, 1, none⟩ = some (.string ⟨#[]⟩)
  r2 : W.cell? ⟨w.heap.size + 1 + 1, 2, none⟩ = some (.slice none 0 0)
  r3 : W.cell? ⟨w.heap.size + 1 + 1, 3, none⟩ = some (.slice none 0 0)
  rb : ∀ q v, W.cell? ⟨w.heap.size + 1 + 1, q, none⟩ ≠ some (.int .u8 v)
  rf : ∀ q, W.frozen? ⟨w.heap.size + 1 + 1, q, none⟩ = false
  lt : w.heap.size + 1 + 1 < W.heap.size
theorem PtI.start (w : World) (d : Tm) (ps : List Int) (s : Tm) (dt st : Option Addr) (dtc stc : Nat) (sa ta : Option Addr) (sc tc f : Nat) (hdt : Txt w w.heap.size (.slice dt d.text.length dtc) d.text) (hk : MAt w w.heap.size f sa d.kids) (hsc : d.kids.length ≤ sc) : PtI w d ps s st stc ta tc f 0 d w.heap.size 0 (((w.alloc (.cells #[.int .i64 d.kind, .string d.cons, .slice dt d.text.length dtc, .slice sa d.kids.length sc] 25)).alloc (.cells #[.int .i64 s.kind, .string s.cons, .slice st s.text.length stc, .slice ta s.kids.length tc] 25)).alloc (.cells #[.int .i64 0, .string ⟨#[]⟩, .slice none 0 0, .slice none 0 0] 25)) := by
  obtain ⟨w1, hw1⟩ : ∃ w1, w.alloc (.cells #[.int .i64 d.kind, .string d.cons, .slice dt d.text.length dtc, .slice sa d.kids.length sc] 25) = w1 := ⟨_, rfl⟩
  obtain ⟨w2, hw2⟩ : ∃ w2, w1.alloc (.cells #[.int .i64 s.kind, .string s.cons, .slice st s.text.length stc, .slice ta s.kids.length tc] 25) = w2 := ⟨_, rfl⟩
  obtain ⟨w3, hw3⟩ : ∃ w3, w2.alloc (.cells #[.int .i64 0, .string ⟨#[]⟩, .slice none 0 0, .slice none 0 0] 25) = w3 := ⟨_, rfl⟩
  rw [hw1, hw2, hw3]
  have s1 : w1.heap.size = w.heap.size + 1 := by rw [← hw1]; simp
  have s2 : w2.heap.size = w.heap.size + 1 + 1 := by rw [← hw2]; simp [s1]
  have s3 : w3.heap.size = w.heap.size + 1 + 1 + 1 := by rw [← hw3]; simp [s2]
  have hB1 : Below w.heap.size w w1 := by rw [← hw1]; exact (Below.refl _ _).alloc (Nat.le_refl _) _
  have hB2 : Below w1.heap.size w1 w2 := by rw [← hw2]; exact (Below.refl _ _).alloc (Nat.le_refl _) _
  have hB3 : Below w2.heap.size w2 w3 := by rw [← hw3]; exact (Below.refl _ _).alloc (Nat.le_refl _) _
  have hB13 : Below w1.heap.size w1 w3 := hB2.trans (hB3.mono hB2.size)
  have c1 : ∀ j v, (#[.int .i64 d.kind, .string d.cons, .slice dt d.text.length dtc, .slice sa d.kids.length sc] : Array Value)[j]? = some v → w3.cell? ⟨w.heap.size, j, none⟩ = some v := fun j v hv => (hB13.cell (p := ⟨w.heap.size, j, none⟩) (by show w.heap.size < _; omega)).trans (by rw [← hw1]; exact cell_new j hv)
  have c2 : ∀ j v, (#[.int .i64 s.kind, .string s.cons, .slice st s.text.length stc, .slice ta s.kids.length tc] : Array Value)[j]? = some v → w3.cell? ⟨w.heap.size + 1, j, none⟩ = some v := fun j v hv => (hB3.cell (p := ⟨w.heap.size + 1, j, none⟩) (by show w.heap.size + 1 < _; omega)).trans (by rw [← hw2, ← s1]; exact cell_new j hv)
  have c3 : ∀ j v, (#[.int .i64 0, .string ⟨#[]⟩, .slice none 0 0, .slice none 0 0] : Array Value)[j]? = some v → w3.cell? ⟨w.heap.size + 1 + 1, j, none⟩ = some v := fun j v hv => by rw [← hw3, ← s2]; exact cell_new j hv
  have hf : ∀ q, w3.frozen? ⟨w.heap.size, q, none⟩ = false := fun q => (hB13.frozen (p := ⟨w.heap.size, q, none⟩) (by show w.heap.size < _; omega)).trans (by rw [← hw1]; exact World.frozen?_alloc_at _ _ _ _ rfl)
  have hrb : ∀ q v, w3.cell? ⟨w.heap.size + 1 + 1, q, none⟩ ≠ some (.int .u8 v) := fun q v h => by
    match q, h with
    | 0, h => rw [c3 0 _ rfl] at h; cases h
    | 1, h => rw [c3 1 _ rfl] at h; cases h
    | 2, h => rw [c3 2 _ rfl] at h; cases h
    | 3, h => rw [c3 3 _ rfl] at h; cases h
    | q + 4, h =>
      rw [← hw3, ← s2, cell_new_out _ _ _ _ (by simp)] at h
      cases h
  exact ⟨Nat.zero_le _, rfl, hB1.trans (hB13.mono (by omega)), ⟨rfl, rfl, rfl, Nat.le_refl _, by omega, hf, sa, sc, ⟨c1 0 _ rfl, c1 1 _ rfl, ⟨_, c1 2 _ rfl, hdt⟩, c1 3 _ rfl⟩, hsc, hk⟩, .inl rfl, c2 0 _ rfl, c2 1 _ rfl, c2 2 _ rfl, c2 3 _ rfl, c3 0 _ rfl, c3 1 _ rfl, c3 2 _ rfl, c3 3 _ rfl, hrb, fun q => by rw [← hw3, ← s2]; exact World.frozen?_alloc_at _ _ _ _ rfl, by omega⟩
theorem PtI.step {w : World} {d : Tm} {ps : List Int} {s : Tm} {st : Option Addr} {stc : Nat} {ta : Option Addr} {tc f k : Nat} {x : Tm} {pb po : Nat} {W : World} (h : PtI w d ps s st stc ta tc f k x pb po W) {v : Int} (hv : ps[k]? = some v) {y : Tm} (hy : kidAt x v = some y) {w5 : World} {g cap : Nat} (hb : Below W.heap.size W w5) (hcap : x.kids.length ≤ cap) (hg : W.heap.size ≤ g) (hgl : g < w5.heap.size) (hf : ∀ q, w5.frozen? ⟨g, q, none⟩ = false) (hl : x.kids.length * 72 ≤ 140737488355328) (hz : ∀ j z, x.kids[j]? = some z → ∃ za zc, TCell w w5 g (j * 4) z za zc ∧ z.kids.length ≤ zc ∧ MAt w w.heap.size f za z.kids) :
    PtI w d ps s st stc ta tc f (k + 1) y g (v.toNat * 4) (w5.setCell ⟨pb, po + 3, none⟩ (.slice (some ⟨g, 0, none⟩) x.kids.length cap)) := by
  have hlt : k < ps.length := (List.getElem?_eq_some_iff.1 hv).1
  obtain ⟨l1, l2, l3, l4⟩ := h.hole.lo
  obtain ⟨⟨xa, xc, ⟨x0, x1, ⟨xt, x2, xtt⟩, x3⟩, hxc, hxk⟩, hxf⟩ := h.hole.here
  have hpb : w.heap.size ≤ pb := by rcases h.far with e | e <;> omega
  have hW := h.lt
  obtain ⟨X, hX⟩ : ∃ X, w5.setCell ⟨pb, po + 3, none⟩ (.slice (some ⟨g, 0, none⟩) x.kids.length cap) = X := ⟨_, rfl⟩
  rw [hX]
  have hXs : X.heap.size = w5.heap.size := by rw [← hX]; simp [World.setCell]
  have far : ∀ b q, ¬ (b = pb ∧ q = po + 3) → X.cell? ⟨b, q, none⟩ = w5.cell? ⟨b, q, none⟩ := fun b q hne => by
    rw [← hX]; exact World.cell?_setCell_other _ _ _ _ (fun e => by cases e; exact hne ⟨rfl, rfl⟩)
  have same : X.cell? ⟨pb, po + 3, none⟩ = some (.slice (some ⟨g, 0, none⟩) x.kids.length cap) := by
    rw [← hX]; exact World.cell?_setCell_same' _ _ _ (by rw [hb.cell (p := ⟨pb, po + 3, none⟩) l4, x3]; rfl)
  have fz : ∀ b q, X.frozen? ⟨b, q, none⟩ = w5.frozen? ⟨b, q, none⟩ := fun b q => by rw [← hX, World.frozen?_setCell]
  have c5 : ∀ b q, b < W.heap.size → w5.cell? ⟨b, q, none⟩ = W.cell? ⟨b, q, none⟩ := fun b q hlt => hb.cell (p := ⟨b, q, none⟩) hlt
  have bX : Below w.heap.size w X := by rw [← hX]; exact (below_of h.bel hb).setCell hpb _
  have s1' : ∀ q, X.cell? ⟨w.heap.size + 1, q, none⟩ = W.cell? ⟨w.heap.size + 1, q, none⟩ := fun q => (far _ _ (fun e => by rcases h.far with e' | e' <;> omega)).trans (c5 _ _ (by omega))
  have s2' : ∀ q, X.cell? ⟨w.heap.size + 1 + 1, q, none⟩ = W.cell? ⟨w.heap.size + 1 + 1, q, none⟩ := fun q => (far _ _ (fun e => by rcases h.far with e' | e' <;> omega)).trans (c5 _ _ (by omega))
  refine ⟨hlt, ?_, bX, ?_, .inr (by omega), (s1' 0).trans h.s0, (s1' 1).trans h.s1, (s1' 2).trans h.s2, (s1' 3).trans h.s3, (s2' 0).trans h.r0, (s2' 1).trans h.r1, (s2' 2).trans h.r2, (s2' 3).trans h.r3, fun q v hq => h.rb q v ((s2' q).symm.trans hq), fun q => (fz _ _).trans ((hb.frozen (p := ⟨w.heap.size + 1 + 1, q, none⟩) hW).trans (h.rf q)), by have := hb.size; omega⟩
  · rw [← h.goes, atP_drop hv, hy]; rfl
  · have e : ps.take (k + 1) = ps.take k ++ [v] := by
      rw [List.take_add_one, hv]; rfl
    rw [e]
    refine Hole.down hy hg (by omega) (fun b q hlt hne => (far b q hne).trans (c5 b q hlt)) (fun q => (fz _ _).trans (hf q)) same hcap hl (fun j z hj => ?_) h.hole
    obtain ⟨za, zc, ⟨z0, z1, ⟨zt, z2, ztt⟩, z3⟩, hzc, hzk⟩ := hz j z hj
    exact ⟨za, zc, ⟨(far _ _ (by omega)).trans z0, (far _ _ (by omega)).trans z1, ⟨zt, (far _ _ (by omega)).trans z2, ztt⟩, (far _ _ (by omega)).trans z3⟩, hzc, hzk⟩
/-- The part is written. -/
theorem PtI.fill {w : World} {d : Tm} {ps : List Int} {s : Tm} {st : Option Addr} {stc : Nat} {ta : Option Addr} {tc f : Nat} {x : Tm} {pb po : Nat} {W X : World} (h : PtI w d ps s st stc ta tc f ps.length x pb po W) (hst : Txt w w.heap.size (.slice st s.text.length stc) s.text) (hsc : s.kids.length ≤ tc) (hsk : MAt w w.heap.size f ta s.kids) (hX : X = (((W.setCell ⟨pb, po, none⟩ (.int .i64 s.kind)).setCell ⟨pb, po + 1, none⟩ (.string s.cons)).setCell ⟨pb, po + 2, none⟩ (.slice st s.text.length stc)).setCell ⟨pb, po + 3, none⟩ (.slice ta s.kids.length tc)) :
    (∃ d', putP d ps s = some d' ∧ ∃ va vc da dc, (X.cell? ⟨w.heap.size, 0, none⟩ = some (.int .i64 d'.kind) ∧ X.cell? ⟨w.heap.size, 1, none⟩ = some (.string d'.cons) ∧ X.cell? ⟨w.heap.size, 2, none⟩ = some (.slice va d'.text.length vc) ∧ X.cell? ⟨w.heap.size, 3, none⟩ = some (.slice da d'.kids.length dc)) ∧ Txt X X.heap.size (.slice va d'.text.length vc) d'.text ∧ d'.kids.length ≤ dc ∧ MAt X X.heap.size (f + ps.length) da d'.kids) ∧ Below w.heap.size w X ∧ X.heap.size = W.heap.size ∧ (∀ q, X.cell? ⟨w.heap.size + 1 + 1, q, none⟩ = W.cell? ⟨w.heap.size + 1 + 1, q, none⟩) ∧ (∀ q, X.frozen? ⟨w.heap.size + 1 + 1, q, none⟩ = false) := by
  obtain ⟨⟨xa, xc, ⟨x0, x1, ⟨xt, x2, xtt⟩, x3⟩, hxc, hxk⟩, hxf⟩ := h.hole.here
  obtain ⟨l1, l2, l3, l4⟩ := h.hole.lo
  have hpb : w.heap.size ≤ pb := by rcases h.far with e | e <;> omega
  obtain ⟨A1, e1⟩ : ∃ A, W.setCell ⟨pb, po, none⟩ (.int .i64 s.kind) = A := ⟨_, rfl⟩
  obtain ⟨A2, e2⟩ : ∃ A, A1.setCell ⟨pb, po + 1, none⟩ (.string s.cons) = A := ⟨_, rfl⟩
  obtain ⟨A3, e3⟩ : ∃ A, A2.setCell ⟨pb, po + 2, none⟩ (.slice st s.text.length stc) = A := ⟨_, rfl⟩
  obtain ⟨A4, e4⟩ : ∃ A, A3.setCell ⟨pb, po + 3, none⟩ (.slice ta s.kids.length tc) = A := ⟨_, rfl⟩
  have hBX : Below w.heap.size w X := by rw [hX]; exact (((h.bel.setCell hpb _).setCell hpb _).setCell hpb _).setCell hpb _
  rw [e1, e2, e3, e4] at hX
  subst hX
  have z3 : X.heap.size = W.heap.size := by rw [← e4, ← e3, ← e2, ← e1]; simp [World.setCell]
  have fz : ∀ a, X.frozen? a = W.frozen? a := fun a => by rw [← e4, ← e3, ← e2, ← e1, World.frozen?_setCell, World.frozen?_setCell, World.frozen?_setCell, World.frozen?_setCell]
  have f1 : ∀ b q, ¬ (b = pb ∧ q = po) → A1.cell? ⟨b, q, none⟩ = W.cell? ⟨b, q, none⟩ := fun b q hne => by rw [← e1]; exact World.cell?_setCell_other _ _ _ _ (fun e => by cases e; exact hne ⟨rfl, rfl⟩)
  have f2 : ∀ b q, ¬ (b = pb ∧ q = po + 1) → A2.cell? ⟨b, q, none⟩ = A1.cell? ⟨b, q, none⟩ := fun b q hne => by rw [← e2]; exact World.cell?_setCell_other _ _ _ _ (fun e => by cases e; exact hne ⟨rfl, rfl⟩)
  have f3 : ∀ b q, ¬ (b = pb ∧ q = po + 2) → A3.cell? ⟨b, q, none⟩ = A2.cell? ⟨b, q, none⟩ := fun b q hne => by rw [← e3]; exact World.cell?_setCell_other _ _ _ _ (fun e => by cases e; exact hne ⟨rfl, rfl⟩)
  have f4 : ∀ b q, ¬ (b = pb ∧ q = po + 3) → X.cell? ⟨b, q, none⟩ = A3.cell? ⟨b, q, none⟩ := fun b q hne => by rw [← e4]; exact World.cell?_setCell_other _ _ _ _ (fun e => by cases e; exact hne ⟨rfl, rfl⟩)
  have k0 : A1.cell? ⟨pb, po, none⟩ = some (.int .i64 s.kind) := by rw [← e1]; exact World.cell?_setCell_same' _ _ _ (by rw [x0]; rfl)
  have k1 : A2.cell? ⟨pb, po + 1, none⟩ = some (.string s.cons) := by rw [← e2]; exact World.cell?_setCell_same' _ _ _ (by rw [f1 _ _ (by omega), x1]; rfl)
  have k2 : A3.cell? ⟨pb, po + 2, none⟩ = some (.slice st s.text.length stc) := by rw [← e3]; exact World.cell?_setCell_same' _ _ _ (by rw [f2 _ _ (by omega), f1 _ _ (by omega), x2]; rfl)
  have k3 : X.cell? ⟨pb, po + 3, none⟩ = some (.slice ta s.kids.length tc) := by rw [← e4]; exact World.cell?_setCell_same' _ _ _ (by rw [f3 _ _ (by omega), f2 _ _ (by omega), f1 _ _ (by omega), x3]; rfl)
  have hT : TCell w X pb po s ta tc := ⟨(f4 _ _ (by omega)).trans ((f3 _ _ (by omega)).trans ((f2 _ _ (by omega)).trans k0)), (f4 _ _ (by omega)).trans ((f3 _ _ (by omega)).trans k1), ⟨_, (f4 _ _ (by omega)).trans k2, hst⟩, k3⟩
  have keep : ∀ b q, ¬ (b = pb ∧ po ≤ q ∧ q < po + 4) → X.cell? ⟨b, q, none⟩ = W.cell? ⟨b, q, none⟩ := fun b q hne => (f4 b q (by omega)).trans <| (f3 b q (by omega)).trans ((f2 b q (by omega)).trans (f1 b q (by omega)))
  obtain ⟨d', hp, _, da, dc, d0, d1, ⟨va, vc, d2, d4⟩, d3, hdc, hdk⟩ := Hole.fill (W' := X) (fun b q _ hne => keep b q hne) (by omega) hT hsc ((hsk.keep hBX).mono hBX.size) hBX h.hole
  rw [List.take_length] at hp hdk
  refine ⟨⟨d', hp, va, vc, da, dc, ⟨d0, d1, d2, d3⟩, ⟨_, _, rfl, d4⟩, hdc, hdk⟩, hBX, z3, fun q => keep _ _ (fun e => by rcases h.far with e' | e' <;> omega), fun q => (fz _).trans (h.rf q)⟩
end Go.Proofs.YtlkcadibjmfmcaaDoor

/- A term with another part in its place: kin.Put, terms.Put, walked. -/
namespace Go.Proofs.YtlkcadibjmfmcaaDoor
open Go.RowKit

/-- A box without bytes may be written: no text lies there. -/
theorem Txt.box {W W' : World} {n B : Nat} {v : Value} {t : List UInt8} (h : Txt W B v t) (hn : ∀ q u, W.cell? ⟨n, q, none⟩ ≠ some (.int .u8 u)) (hk : ∀ b, b ≠ n → W'.heap[b]? = W.heap[b]?) : Txt W' B v t := by
  obtain ⟨ta, tc, e, h1, h2, h3⟩ := h
  refine ⟨ta, tc, e, h1, h2, fun i c hi => ?_⟩
  obtain ⟨b, o, e, hb, hc⟩ := h3 i c hi
  refine ⟨b, o, e, hb, (World.cell?_of_block (a := ⟨b, o + i, none⟩) (hk b (fun e => ?_))).trans hc⟩
  subst e
  exact hn _ _ hc
theorem Mz.box {W W' : World} {S : Nat → Prop} {n B : Nat} : ∀ {f : Nat} {a : Option Addr} {l : List Tm}, Mz W S B f a l → (∀ q u, W.cell? ⟨n, q, none⟩ ≠ some (.int .u8 u)) → (∀ b, b ≠ n → W'.heap[b]? = W.heap[b]?) → (∀ b, S b → b ≠ n) → Mz W' S B f a l
  | 0, _, _, h, _, _, _ => h
  | f + 1, a, l, h, hn, hk, hS => by
    refine ⟨h.1, fun j d hj => ?_⟩
    obtain ⟨b, o, e, hs, ⟨ho, hg, hf⟩, tv, sa, sc, c0, c1, c2, c3, ht, hc, hd⟩ := h.2 j d hj
    have hb := hk b (hS b hs)
    have k : ∀ q, W'.cell? ⟨b, q, none⟩ = W.cell? ⟨b, q, none⟩ := fun q => World.cell?_of_block (a := ⟨b, q, none⟩) hb
    exact ⟨b, o, e, hs, ⟨ho, hg.keep hb, fun q => (frozen_of_block hb q).trans (hf q)⟩, tv, sa, sc, (k _).trans c0, (k _).trans c1, (k _).trans c2, (k _).trans c3, ht.box hn hk, hc, hd.box hn hk hS⟩

set_option maxRecDepth 100000 in
set_option maxHeartbeats 8000000 in
theorem kinPut_any (d s : Tm) (dt st : Option Addr) (dtc stc : Nat) (sa ta : Option Addr) (sc tc f : Nat) (ps : List Int) (pa : Option Addr) (pc : Nat) (w : World) (hdt : Txt w w.heap.size (.slice dt d.text.length dtc) d.text) (hst : Txt w w.heap.size (.slice st s.text.length stc) s.text) (hk : MAt w w.heap.size f sa d.kids) (hsc : d.kids.length ≤ sc) (hsk : MAt w w.heap.size f ta s.kids) (htc : s.kids.length ≤ tc) (hlen : sz d + sz s ≤ 1000000000000) (hp : IAt w w.heap.size pa ps) (hpl : ps.length ≤ 1000000000000) :
    Calls Tryd.prog 46 #[.agg #[.int .i64 d.kind, .string d.cons, .slice dt d.text.length dtc, .slice sa d.kids.length sc], .slice pa ps.length pc, .agg #[.int .i64 s.kind, .string s.cons, .slice st s.text.length stc, .slice ta s.kids.length tc], .func (.func 36) #[] #[]] w fun e w' => ∃ x F ua uc va vc er, e = .returned (.tuple #[.agg #[.int .i64 x.kind, .string x.cons, .slice ua x.text.length uc, .slice va x.kids.length vc], .int .i64 er]) ∧ Zr w (putP d ps s) x F ua uc va vc er w' := by
  have hX0 := PtI.start w d ps s dt st dtc stc sa ta sc tc f hdt hk hsc
  have HP : Hid _ := hp
  have HSK : Hid _ := And.intro hsk (And.intro htc hst)
  have HLN : Hid _ := hlen
  obtain ⟨n, hn⟩ : ∃ n, ps.length = n := ⟨_, rfl⟩
  rw [hn] at hpl ⊢
  have HNN : Hid _ := hn
  clear hk hsc hlen hp hsk htc hn hst hdt
  go_enter Tryd.func46, Tryd.ntmps46
  go_wp2
  go_loopw [10, 17] (fun pv i W => ∃ (k : Nat) (x : Tm) (pb po : Nat), pv = .pointer (some ⟨pb, po, none⟩) ∧ i = .int .i64 (k : Int) ∧ PtI w d ps s st stc ta tc f k x pb po W) (fun _ i _ => n - (intOf i).toNat)
  case atStart => exact ⟨0, d, w.heap.size, 0, rfl, rfl, hX0⟩
  case round =>
    clear hX0
    obtain ⟨k, x, pb, po, rfl, rfl, hX⟩ := hrel
    have HX : Hid _ := hX
    have hle : k ≤ n := by have := hX.le; have := HNN.out; omega
    obtain ⟨⟨xa, xc, ⟨x0, x1, ⟨_, x2, ⟨xta, xtc, rfl, _⟩⟩, x3⟩, hxc, hxk⟩, hxf⟩ := hX.hole.here
    obtain ⟨_, _, _, hpl4⟩ := hX.hole.lo
    have s0 := hX.s0
    have s1 := hX.s1
    have s2 := hX.s2
    have s3 := hX.s3
    have r0 := hX.r0
    have r1 := hX.r1
    have r2 := hX.r2
    have r3 := hX.r3
    have rf := hX.rf
    have hlt2 := hX.lt
    by_cases hlt : k < n
    · obtain ⟨v, hv⟩ : ∃ v, ps[k]? = some v := ⟨ps[k]'(by have := HNN.out; omega), by simp⟩
      obtain ⟨b, o, rfl, hb, hc⟩ := HP.out k v hv
      have hc' := (hX.bel.cell (p := ⟨b, o + k, none⟩) hb).trans hc
      have hkI : (k : Int) < (n : Int) := by omega
      have hkb : (k : Int) ≤ 1000000000000 := by omega
      have HO : Hid _ := fun (_ : Unit) => ofTerm_any pb po wr
      have HH : Hid _ := fun (_ : Unit) => has_any xa x.kids.length xc v wr
      have HV : Hid _ := hv
      by_cases hin : 0 ≤ v ∧ v < x.kids.length
      · obtain ⟨hv0, hv1⟩ := hin
        have hq : (decide (0 ≤ v) && decide (v < (x.kids.length : Int))) = true := by simp [hv0, hv1]
        rw [hq] at HH
        obtain ⟨y, hy⟩ : ∃ y, x.kids[v.toNat]? = some y := ⟨x.kids[v.toNat]'(by omega), by simp⟩
        have hky : kidAt x v = some y := by unfold kidAt; rw [if_pos hv0]; exact hy
        have HKY : Hid _ := hky
        have HXL : Hid _ := hxk.len
        have HC : Hid _ := fun (_ : Unit) => lclone_any w x.kids xa xc f wr hxk hX.bel (by omega)
        obtain ⟨m, rfl⟩ : ∃ m : Nat, v = (m : Int) := ⟨v.toNat, by omega⟩
        have hmn : (m : Int) < (x.kids.length : Int) := hv1
        clear hX hv hc hq hky hy hv0 hv1 hxk hxc s0 s1 s2 s3 r0 r1 r2 r3 rf x0 x1 x2
        obtain ⟨xl, hxl⟩ : ∃ xl, x.kids.length = xl := ⟨_, rfl⟩
        rw [hxl] at HC HH x3 hmn
        have HXLL : Hid _ := hxl
        clear hxl
        go_wp2_with (first
          | (go_at_call 36; refine (HO.out ()).mono ?_; rintro e w' ⟨rfl, rfl⟩)
          | (go_at_call 59; refine (HH.out ()).mono ?_; rintro e w' ⟨rfl, rfl⟩)
          | (go_at_call 61; refine (HC.out ()).mono ?_; rintro e w5 ⟨⟨g, cap, rfl, hcap, hgw, hg5, hgf, hgz⟩, hb5⟩; have p2 := (hb5.cell (p := ⟨pb, po + 3, none⟩) hpl4).trans x3; have pf := (hb5.frozen (p := ⟨pb, po + 3, none⟩) hpl4).trans (hxf (po + 3)); have HST : Hid _ := And.intro hb5 (And.intro hcap (And.intro hgw (And.intro hg5 (And.intro hgf hgz)))); clear hb5 hcap hgw hg5 hgf hgz))
        have hST := HX.out.step HV.out HKY.out HST.out.1 (by rw [HXLL.out]; exact HST.out.2.1) HST.out.2.2.1 HST.out.2.2.2.1 HST.out.2.2.2.2.1 HXL.out HST.out.2.2.2.2.2
        rw [HXLL.out] at hST
        refine ⟨⟨k + 1, y, g, m * 4, by simp, by go_num, ?_⟩, by simp [intOf]; omega⟩
        simpa using hST
      · have hq : (decide (0 ≤ v) && decide (v < (x.kids.length : Int))) = false := by simp; omega
        rw [hq] at HH
        have HN : Hid (putP d ps s = none) := by
          refine putP_none s ?_
          rw [← hX.goes, atP_drop hv]
          have : kidAt x v = none := by
            unfold kidAt
            split
            · exact List.getElem?_eq_none (by omega)
            · rfl
          rw [this]; rfl
        clear hX hv hc hq hin hxk hxc
        go_wp2_with (first
          | (go_at_call 36; refine (HO.out ()).mono ?_; rintro e w' ⟨rfl, rfl⟩)
          | (go_at_call 59; refine (HH.out ()).mono ?_; rintro e w' ⟨rfl, rfl⟩))
        refine bodyPost_ret (v := .tuple #[.agg #[.int .i64 0, .string ⟨#[]⟩, .slice none 0 0, .slice none 0 0], .int .i64 4]) (by simp [results, Tryd.results46, go_sem, r0, r1, r2, r3, hlt2]) rfl ?_
        rw [HN.out]
        have hsB : w.heap.size ≤ w.heap.size + 1 + 1 := by omega
        exact ⟨nilT, 0, none, 0, none, 0, 4, rfl, ((((HX.out.bel.setCell hsB _).setCell hsB _).setCell hsB _).setCell hsB _).alloc (by simp [World.setCell]; omega) _, ⟨none, 0, rfl, Nat.le_refl _, by decide, fun i c hi => by cases hi⟩, Nat.le_refl _, rfl, by decide, .inr ⟨rfl, rfl, rfl, rfl, rfl⟩⟩
    · obtain rfl : k = n := by omega
      have hXn : PtI w d ps s st stc ta tc f ps.length x pb po wr := by rw [HNN.out]; exact hX
      obtain ⟨X, hXX⟩ : ∃ X, (((wr.setCell ⟨pb, po, none⟩ (.int .i64 s.kind)).setCell ⟨pb, po + 1, none⟩ (.string s.cons)).setCell ⟨pb, po + 2, none⟩ (.slice st s.text.length stc)).setCell ⟨pb, po + 3, none⟩ (.slice ta s.kids.length tc) = X := ⟨_, rfl⟩
      obtain ⟨⟨d', hp', dta, dtc', da, dc, ⟨d0, d1, d2, d3⟩, hdt', hdc, hdk⟩, hBX, hXs, hX2, hXf⟩ := hXn.fill HSK.out.2.2 HSK.out.2.1 HSK.out.1 hXX.symm
      have HX2 : Hid _ := hX2
      have HXF : Hid _ := hXf
      have HBX : Hid _ := hBX
      have HNB : Hid (∀ q v, X.cell? ⟨w.heap.size + 1 + 1, q, none⟩ ≠ some (.int .u8 v)) := fun q v hq => hX.rb q v ((hX2 q).symm.trans hq)
      have HX2L : Hid (w.heap.size + 1 + 1 < X.heap.size) := by show _ < _; omega
      obtain ⟨l1, _, _, _⟩ := hXn.hole.lo
      rcases hX.far with e | e
      · have e2 : po = 0 ∧ ps = [] := by
          rcases l1 with l1 | ⟨_, l1, l2⟩
          · omega
          · exact ⟨l1.symm, by rw [List.take_length] at l2; exact l2⟩
        obtain ⟨e2, e3⟩ := e2
        have HG : Hid (putP d ps s = some s) := by show _ = _; rw [e3]; rfl
        have HC : Hid _ := fun (_ : Unit) => clone_any s st stc ta tc f X X.heap.size (Nat.le_refl _) ((HSK.out.2.2.keep hBX).mono hBX.size) ((HSK.out.1.keep hBX).mono hBX.size) HSK.out.2.1 (by have := HLN.out; omega)
        subst e e2
        have HXX : Hid _ := hXX
        rw [← hXX] at HC
        obtain ⟨D, hD⟩ : ∃ D, s = D := ⟨_, rfl⟩
        subst hD
        clear hX hXn hp' d0 d1 d2 d3 hdt' hdc hdk hX2 hXf hBX hXs l1 e3 hXX hxk hxc
        go_wp2_with (go_at_call 60; refine (HC.out ()).mono ?_; rintro e w7 ⟨⟨ua, uc, va, vc, rfl, hut, hvc, htin⟩, hb7⟩; rw [HXX.out] at hb7 htin hut; have k7 : ∀ q, w7.cell? ⟨w.heap.size + 1 + 1, q, none⟩ = X.cell? ⟨w.heap.size + 1 + 1, q, none⟩ := fun q => hb7.cell (p := ⟨w.heap.size + 1 + 1, q, none⟩) HX2L.out; have f7 : ∀ q, w7.frozen? ⟨w.heap.size + 1 + 1, q, none⟩ = false := fun q => (hb7.frozen (p := ⟨w.heap.size + 1 + 1, q, none⟩) HX2L.out).trans (HXF.out q); have r0' := (k7 0).trans ((HX2.out 0).trans r0); have r1' := (k7 1).trans ((HX2.out 1).trans r1); have r2' := (k7 2).trans ((HX2.out 2).trans r2); have r3' := (k7 3).trans ((HX2.out 3).trans r3); have HT7 : Hid _ := And.intro htin (And.intro hb7 hut); clear htin hb7 k7 hut)
        refine bodyPost_ret (v := .tuple #[.agg #[.int .i64 s.kind, .string s.cons, .slice ua s.text.length uc, .slice va s.kids.length vc], .int .i64 0]) (by simp [results, Tryd.results46, go_sem, r0', r1', r2', r3']) rfl ?_
        rw [HG.out]
        have hsB : w.heap.size ≤ w.heap.size + 1 + 1 := by omega
        obtain ⟨htin, hb7, hut⟩ := HT7.out
        have hbb : Below w.heap.size w w7 := below_of HBX.out hb7
        have h27 := HX2L.out
        have h77 := hb7.size
        have hnb : ∀ q v, w7.cell? ⟨w.heap.size + 1 + 1, q, none⟩ ≠ some (.int .u8 v) := fun q v hq => HNB.out q v ((hb7.cell (p := ⟨w.heap.size + 1 + 1, q, none⟩) HX2L.out).symm.trans hq)
        have hbe : Below w.heap.size w _ := (((hbb.setCell (p := ⟨w.heap.size + 1 + 1, 0, none⟩) hsB (.int .i64 s.kind)).setCell (p := ⟨w.heap.size + 1 + 1, 1, none⟩) hsB (.string s.cons)).setCell (p := ⟨w.heap.size + 1 + 1, 2, none⟩) hsB (.slice ua s.text.length uc)).setCell (p := ⟨w.heap.size + 1 + 1, 3, none⟩) hsB (.slice va s.kids.length vc)
        have hke : ∀ b, b ≠ w.heap.size + 1 + 1 → ((((w7.setCell ⟨w.heap.size + 1 + 1, 0, none⟩ (.int .i64 s.kind)).setCell ⟨w.heap.size + 1 + 1, 1, none⟩ (.string s.cons)).setCell ⟨w.heap.size + 1 + 1, 2, none⟩ (.slice ua s.text.length uc)).setCell ⟨w.heap.size + 1 + 1, 3, none⟩ (.slice va s.kids.length vc)).heap[b]? = w7.heap[b]? := fun b hb => (Below.heap_setCell _ _ _ b hb).trans ((Below.heap_setCell _ _ _ b hb).trans ((Below.heap_setCell _ _ _ b hb).trans (Below.heap_setCell _ _ _ b hb)))
        obtain ⟨X8, h8⟩ : ∃ X8, (((w7.setCell ⟨w.heap.size + 1 + 1, 0, none⟩ (.int .i64 s.kind)).setCell ⟨w.heap.size + 1 + 1, 1, none⟩ (.string s.cons)).setCell ⟨w.heap.size + 1 + 1, 2, none⟩ (.slice ua s.text.length uc)).setCell ⟨w.heap.size + 1 + 1, 3, none⟩ (.slice va s.kids.length vc) = X8 := ⟨_, rfl⟩
        have s8 : X8.heap.size = w7.heap.size := by rw [← h8]; simp [World.setCell]
        rw [h8] at hbe hke ⊢
        refine ⟨s, f, ua, uc, va, vc, 0, rfl, hbe, (hut.box hnb hke).mono (by omega), hvc, ?_, by first | (have := HLN.out; omega) | (have := put_sz HG.out; have := HLN.out; omega), .inl ⟨rfl, rfl⟩⟩
        exact ((htin.box hnb hke (fun b hb => by have := hb.1; omega)).wide (fun b hb => ⟨Nat.le_trans HBX.out.size hb.1, by have := hb.2; omega⟩)).mono (by omega)
      · have hne : w.heap.size ≠ pb := by omega
        have hne' : ¬ pb = w.heap.size := by omega
        have hne1 : ¬ pb = w.heap.size + 1 := by omega
        have hne2 : ¬ pb = w.heap.size + 1 + 1 := by omega
        have HG : Hid (putP d ps s = some d') := hp'
        have HC : Hid _ := fun (_ : Unit) => clone_any d' dta dtc' da dc (f + ps.length) X X.heap.size (Nat.le_refl _) hdt' hdk hdc (by have := put_sz hp'; have := HLN.out; omega)
        have kx : ∀ q, X.cell? ⟨w.heap.size, q, none⟩ = wr.cell? ⟨w.heap.size, q, none⟩ := fun q => by
          rw [← hXX, World.cell?_setCell_far _ _ _ _ hne.symm, World.cell?_setCell_far _ _ _ _ hne.symm, World.cell?_setCell_far _ _ _ _ hne.symm, World.cell?_setCell_far _ _ _ _ hne.symm]
        have d0' := (kx 0).symm.trans d0
        have d1' := (kx 1).symm.trans d1
        have d2' := (kx 2).symm.trans d2
        have d3' := (kx 3).symm.trans d3
        have HXX : Hid _ := hXX
        rw [← hXX] at HC
        clear hX hXn hp' d0 d1 d2 d3 hdt' hdc hdk hX2 hXf hBX hXs l1 hXX hxk hxc kx e
        go_wp2_with (go_at_call 60; refine (HC.out ()).mono ?_; rintro e w7 ⟨⟨ua, uc, va, vc, rfl, hut, hvc, htin⟩, hb7⟩; rw [HXX.out] at hb7 htin hut; have k7 : ∀ q, w7.cell? ⟨w.heap.size + 1 + 1, q, none⟩ = X.cell? ⟨w.heap.size + 1 + 1, q, none⟩ := fun q => hb7.cell (p := ⟨w.heap.size + 1 + 1, q, none⟩) HX2L.out; have f7 : ∀ q, w7.frozen? ⟨w.heap.size + 1 + 1, q, none⟩ = false := fun q => (hb7.frozen (p := ⟨w.heap.size + 1 + 1, q, none⟩) HX2L.out).trans (HXF.out q); have r0' := (k7 0).trans ((HX2.out 0).trans r0); have r1' := (k7 1).trans ((HX2.out 1).trans r1); have r2' := (k7 2).trans ((HX2.out 2).trans r2); have r3' := (k7 3).trans ((HX2.out 3).trans r3); have HT7 : Hid _ := And.intro htin (And.intro hb7 hut); clear htin hb7 k7 hut)
        refine bodyPost_ret (v := .tuple #[.agg #[.int .i64 d'.kind, .string d'.cons, .slice ua d'.text.length uc, .slice va d'.kids.length vc], .int .i64 0]) (by simp [results, Tryd.results46, go_sem, r0', r1', r2', r3']) rfl ?_
        rw [HG.out]
        have hsB : w.heap.size ≤ w.heap.size + 1 + 1 := by omega
        obtain ⟨htin, hb7, hut⟩ := HT7.out
        have hbb : Below w.heap.size w w7 := below_of HBX.out hb7
        have h27 := HX2L.out
        have h77 := hb7.size
        have hnb : ∀ q v, w7.cell? ⟨w.heap.size + 1 + 1, q, none⟩ ≠ some (.int .u8 v) := fun q v hq => HNB.out q v ((hb7.cell (p := ⟨w.heap.size + 1 + 1, q, none⟩) HX2L.out).symm.trans hq)
        have hbe : Below w.heap.size w _ := (((hbb.setCell (p := ⟨w.heap.size + 1 + 1, 0, none⟩) hsB (.int .i64 d'.kind)).setCell (p := ⟨w.heap.size + 1 + 1, 1, none⟩) hsB (.string d'.cons)).setCell (p := ⟨w.heap.size + 1 + 1, 2, none⟩) hsB (.slice ua d'.text.length uc)).setCell (p := ⟨w.heap.size + 1 + 1, 3, none⟩) hsB (.slice va d'.kids.length vc)
        have hke : ∀ b, b ≠ w.heap.size + 1 + 1 → ((((w7.setCell ⟨w.heap.size + 1 + 1, 0, none⟩ (.int .i64 d'.kind)).setCell ⟨w.heap.size + 1 + 1, 1, none⟩ (.string d'.cons)).setCell ⟨w.heap.size + 1 + 1, 2, none⟩ (.slice ua d'.text.length uc)).setCell ⟨w.heap.size + 1 + 1, 3, none⟩ (.slice va d'.kids.length vc)).heap[b]? = w7.heap[b]? := fun b hb => (Below.heap_setCell _ _ _ b hb).trans ((Below.heap_setCell _ _ _ b hb).trans ((Below.heap_setCell _ _ _ b hb).trans (Below.heap_setCell _ _ _ b hb)))
        obtain ⟨X8, h8⟩ : ∃ X8, (((w7.setCell ⟨w.heap.size + 1 + 1, 0, none⟩ (.int .i64 d'.kind)).setCell ⟨w.heap.size + 1 + 1, 1, none⟩ (.string d'.cons)).setCell ⟨w.heap.size + 1 + 1, 2, none⟩ (.slice ua d'.text.length uc)).setCell ⟨w.heap.size + 1 + 1, 3, none⟩ (.slice va d'.kids.length vc) = X8 := ⟨_, rfl⟩
        have s8 : X8.heap.size = w7.heap.size := by rw [← h8]; simp [World.setCell]
        rw [h8] at hbe hke ⊢
        refine ⟨d', f + ps.length, ua, uc, va, vc, 0, rfl, hbe, (hut.box hnb hke).mono (by omega), hvc, ?_, by first | (have := HLN.out; omega) | (have := put_sz HG.out; have := HLN.out; omega), .inl ⟨rfl, rfl⟩⟩
        exact ((htin.box hnb hke (fun b hb => by have := hb.1; omega)).wide (fun b hb => ⟨Nat.le_trans HBX.out.size hb.1, by have := hb.2; omega⟩)).mono (by omega)
end Go.Proofs.YtlkcadibjmfmcaaDoor

/- Put: every path. -/
namespace Go.Proofs.YtlkcadibjmfmcaaDoor
open Go.RowKit

set_option maxRecDepth 100000 in
set_option maxHeartbeats 4000000 in
theorem put_any (d s : Tm) (dt st : Option Addr) (dtc stc : Nat) (sa ta : Option Addr) (sc tc f : Nat) (ps : List Int) (pa : Option Addr) (pc : Nat) (w : World) (hdt : Txt w w.heap.size (.slice dt d.text.length dtc) d.text) (hst : Txt w w.heap.size (.slice st s.text.length stc) s.text) (hk : MAt w w.heap.size f sa d.kids) (hsc : d.kids.length ≤ sc) (hsk : MAt w w.heap.size f ta s.kids) (htc : s.kids.length ≤ tc) (hlen : sz d + sz s ≤ 1000000000000) (hp : IAt w w.heap.size pa ps) (hpl : ps.length ≤ 1000000000000) :
    Calls Tryd.prog 25 #[.agg #[.int .i64 d.kind, .string d.cons, .slice dt d.text.length dtc, .slice sa d.kids.length sc], .slice pa ps.length pc, .agg #[.int .i64 s.kind, .string s.cons, .slice st s.text.length stc, .slice ta s.kids.length tc]] w fun e w' => OPost w (putP d ps s) e w' := by
  have hX0 := PtI.start w d [] s dt st dtc stc sa ta sc tc f hdt hk hsc
  obtain ⟨w2, hw2⟩ : ∃ w2, ((w.alloc (.cells #[.int .i64 d.kind, .string d.cons, .slice dt d.text.length dtc, .slice sa d.kids.length sc] 25)).alloc (.cells #[.int .i64 s.kind, .string s.cons, .slice st s.text.length stc, .slice ta s.kids.length tc] 25)).alloc (.cells #[.int .i64 0, .string ⟨#[]⟩, .slice none 0 0, .slice none 0 0] 25) = w2 := ⟨_, rfl⟩
  rw [hw2] at hX0
  have hB := hX0.bel
  have HC : Hid _ := fun (_ : Unit) => kinPut_any d s dt st dtc stc sa ta sc tc f ps pa pc w2 ((hdt.keep hB).mono hB.size) ((hst.keep hB).mono hB.size) ((hk.keep hB).mono hB.size) hsc ((hsk.keep hB).mono hB.size) htc hlen ((hp.keepB hB).monoB hB.size) hpl
  have s0 := hX0.s0
  have s1 := hX0.s1
  have s2 := hX0.s2
  have s3 := hX0.s3
  have hlt2 := hX0.lt
  have HB : Hid _ := hB
  have HR : Hid (∀ W, Below w2.heap.size w2 W → (W.cell? ⟨w.heap.size + 1 + 1, 0, none⟩ = some (.int .i64 0) ∧ W.cell? ⟨w.heap.size + 1 + 1, 1, none⟩ = some (.string ⟨#[]⟩) ∧ W.cell? ⟨w.heap.size + 1 + 1, 2, none⟩ = some (.slice none 0 0) ∧ W.cell? ⟨w.heap.size + 1 + 1, 3, none⟩ = some (.slice none 0 0)) ∧ ∀ q, W.frozen? ⟨w.heap.size + 1 + 1, q, none⟩ = false) := fun W h => by
    have k : ∀ q, W.cell? ⟨w.heap.size + 1 + 1, q, none⟩ = w2.cell? ⟨w.heap.size + 1 + 1, q, none⟩ := fun q => h.cell (p := ⟨w.heap.size + 1 + 1, q, none⟩) hlt2
    exact ⟨⟨(k 0).trans hX0.r0, (k 1).trans hX0.r1, (k 2).trans hX0.r2, (k 3).trans hX0.r3⟩, fun q => (h.frozen (p := ⟨w.heap.size + 1 + 1, q, none⟩) hlt2).trans (hX0.rf q)⟩
  generalize ps.length = n at *
  have HL : Hid _ := hlt2
  clear hX0 hk hp hB hdt hst hsk hlt2 hlen hpl
  subst hw2
  go_enter Tryd.func25, Tryd.ntmps25
  go_wp2_with (first
    | (go_at_call 46; refine (HC.out ()).mono ?_; intro e w7 h7; obtain ⟨x, F, ua, uc, va, vc, er, rfl, hz⟩ := h7; have HW : Hid _ := hz; clear hz)
    | (go_at_call 45; refine (HW.out.own).mono ?_; rintro e w9 ⟨rfl, ua', uc', ho⟩; have HO : Hid _ := ho; have c0 := ho.c0; have c1 := ho.c1; have c2 := ho.c2; have c3 := ho.c3; have cf := ho.fz; obtain ⟨⟨r0, r1, r2, r3⟩, rf⟩ := HR.out w9 (HW.out.bel9 ho); clear ho))
  refine bodyPost_ret (v := .tuple #[.agg #[.int .i64 x.kind, .string x.cons, .slice ua' x.text.length uc', .slice va x.kids.length vc], .int .i64 er]) (by simp [results, Tryd.results25, go_sem, r0, r1, r2, r3]) rfl ?_
  exact HW.out.post HB.out (by omega) HL.out HO.out
end Go.Proofs.YtlkcadibjmfmcaaDoor

/- The document's Put, behind the copy: a kid's cells are written over, and the term is told. -/
namespace Go.Proofs.YtlkcadibjmfmcaaDoor
open Go.RowKit

theorem put_over {w : World} {d s : Tm} {dt : Option Addr} {dtc : Nat} {sa : Option Addr} {sc : Nat} {st : Option Addr} {stc : Nat} {ta : Option Addr} {tc : Nat} {w2 V w9 : World} (hX : P3 w d s dt dtc sa sc st stc ta tc w2) {c8 : Nat} {y : Tm} {F : Nat} {yt : Option Addr} {ytc : Nat} {ya : Option Addr} {yc : Nat} (hK : KB w2 c8 y F yt ytc ya yc V) {f : Nat} {e : Ending} (hC : Ctop (f + F) d V e w9) {m pb po : Nat} (hm : m < d.kids.length) (hl : d.kids.length * 72 ≤ 140737488355328) {pv : Value} (hpb : pb < w.heap.size) (hpv : w.cell? ⟨pb, po, none⟩ = some pv) :
    ∃ ua uc g lc, e = .returned (.agg #[.int .i64 d.kind, .string d.cons, .slice ua d.text.length uc, .slice (some ⟨g, 0, none⟩) d.kids.length lc]) ∧ ∀ X, (w9.alloc (.cells #[.int .i64 d.kind, .string d.cons, .slice ua d.text.length uc, .slice (some ⟨g, 0, none⟩) d.kids.length lc] 25)).drew = X →
      (X.cell? ⟨w9.heap.size, 3, none⟩ = some (.slice (some ⟨g, 0, none⟩) d.kids.length lc) ∧ X.cell? ⟨pb, po, none⟩ = some pv ∧ X.cell? ⟨c8, 0, none⟩ = some (.int .i64 y.kind) ∧ X.cell? ⟨c8, 1, none⟩ = some (.string y.cons) ∧ X.cell? ⟨c8, 2, none⟩ = some (.slice yt y.text.length ytc) ∧ X.cell? ⟨c8, 3, none⟩ = some (.slice ya y.kids.length yc)) ∧
      ((∃ u, X.cell? ⟨g, m * 4, none⟩ = some u) ∧ (∃ u, X.cell? ⟨g, m * 4 + 1, none⟩ = some u) ∧ (∃ u, X.cell? ⟨g, m * 4 + 2, none⟩ = some u) ∧ (∃ u, X.cell? ⟨g, m * 4 + 3, none⟩ = some u) ∧ ∀ q, X.frozen? ⟨g, q, none⟩ = false) ∧
      ∀ Y, (((X.setCell ⟨g, m * 4, none⟩ (.int .i64 y.kind)).setCell ⟨g, m * 4 + 1, none⟩ (.string y.cons)).setCell ⟨g, m * 4 + 2, none⟩ (.slice yt y.text.length ytc)).setCell ⟨g, m * 4 + 3, none⟩ (.slice ya y.kids.length yc) = Y → (Y.cell? ⟨w9.heap.size, 3, none⟩ = some (.slice (some ⟨g, 0, none⟩) d.kids.length lc) ∧ Y.cell? ⟨pb, po, none⟩ = some pv ∧ Y.cell? ⟨c8, 0, none⟩ = some (.int .i64 y.kind) ∧ Y.cell? ⟨c8, 1, none⟩ = some (.string y.cons) ∧ Y.cell? ⟨c8, 2, none⟩ = some (.slice yt y.text.length ytc) ∧ Y.cell? ⟨c8, 3, none⟩ = some (.slice ya y.kids.length yc)) ∧ (Y.cell? ⟨w9.heap.size, 0, none⟩ = some (.int .i64 d.kind) ∧ Y.cell? ⟨w9.heap.size, 1, none⟩ = some (.string d.cons) ∧ Y.cell? ⟨w9.heap.size, 2, none⟩ = some (.slice ua d.text.length uc) ∧ Y.cell? ⟨w9.heap.size, 3, none⟩ = some (.slice (some ⟨g, 0, none⟩) d.kids.length lc)) ∧ (Y.cell? ⟨w.heap.size + 1 + 1, 0, none⟩ = some (.int .i64 0) ∧ Y.cell? ⟨w.heap.size + 1 + 1, 1, none⟩ = some (.string ⟨#[]⟩) ∧ Y.cell? ⟨w.heap.size + 1 + 1, 2, none⟩ = some (.slice none 0 0) ∧ Y.cell? ⟨w.heap.size + 1 + 1, 3, none⟩ = some (.slice none 0 0) ∧ ∀ q, Y.frozen? ⟨w.heap.size + 1 + 1, q, none⟩ = false) ∧
        OPost w (some (.mk d.kind d.cons d.text (d.kids.set m y))) (.returned (.tuple #[.agg #[.int .i64 d.kind, .string d.cons, .slice ua d.text.length uc, .slice (some ⟨g, 0, none⟩) d.kids.length lc], .int .i64 0])) ((((Y.setCell ⟨w.heap.size + 1 + 1, 0, none⟩ (.int .i64 d.kind)).setCell ⟨w.heap.size + 1 + 1, 1, none⟩ (.string d.cons)).setCell ⟨w.heap.size + 1 + 1, 2, none⟩ (.slice ua d.text.length uc)).setCell ⟨w.heap.size + 1 + 1, 3, none⟩ (.slice (some ⟨g, 0, none⟩) d.kids.length lc)) := by
  obtain ⟨⟨ua, uc, la, lc, xs, he, hlc, hrow, hcx, S, hux, hS⟩, hb9⟩ := hC
  obtain ⟨g, lc', hlv, hg, hgs, _⟩ := row_at hrow (by omega)
  injection hlv with ela _ elc
  subst ela
  subst elc
  refine ⟨ua, uc, g, lc, he, fun X hX1 => ?_⟩
  have bA : Below w9.heap.size w9 X := by
    rw [← hX1]
    exact (show Below w9.heap.size w9 (w9.alloc (.cells #[.int .i64 d.kind, .string d.cons, .slice ua d.text.length uc, .slice (some ⟨g, 0, none⟩) d.kids.length lc] 25)) from (Below.refl _ _).alloc (Nat.le_refl _) _).trans ⟨rfl, rfl, rfl, Nat.le_refl _, fun _ _ => rfl⟩
  have sX : X.heap.size = w9.heap.size + 1 := by rw [← hX1]; show (w9.alloc _).heap.size = _; simp
  have hV9 := hb9.size
  have bV : Below V.heap.size V X := hb9.trans (bA.mono hV9)
  have hK8 := hK.lt
  have hW2V := hK.bel.size
  have b2 : Below w2.heap.size w2 X := hK.bel.trans (bV.mono hW2V)
  have hx2 := hX.lt
  have hx3 := hX.nx b2
  have kg : ∀ q, X.cell? ⟨g, q, none⟩ = w9.cell? ⟨g, q, none⟩ := fun q => bA.cell (p := ⟨g, q, none⟩) hgs
  have k8 : ∀ q, X.cell? ⟨c8, q, none⟩ = V.cell? ⟨c8, q, none⟩ := fun q => bV.cell (p := ⟨c8, q, none⟩) hK8
  have hxl := hcx.len
  have row' := row_below hrow bA
  have cx' := hcx.below bA
  have ox : ∀ r, r < 4 → ∃ u, X.cell? ⟨g, m * 4 + r, none⟩ = some u := fun r hr => by
    have h1 : m * 4 + r < xs.length := by omega
    have h2 := row'.cellAt (m * 4 + r) (by omega)
    exact ⟨xs[m * 4 + r], by rw [h2]; exact List.getElem?_eq_getElem h1⟩
  have n0 : ∀ i v, ((#[.int .i64 d.kind, .string d.cons, .slice ua d.text.length uc, .slice (some ⟨g, 0, none⟩) d.kids.length lc] : Array Value)[i]?) = some v → X.cell? ⟨w9.heap.size, i, none⟩ = some v := fun i v hv => by
    rw [← hX1]; exact cell_new (w := w9) i hv
  refine ⟨⟨n0 3 _ rfl, (hx3.bel.cell (p := ⟨pb, po, none⟩) hpb).trans hpv, (k8 _).trans hK.y0, (k8 _).trans hK.y1, (k8 _).trans hK.y2, (k8 _).trans hK.y3⟩, ⟨ox 0 (by omega), ox 1 (by omega), ox 2 (by omega), ox 3 (by omega), fun q => row'.frozenAt q⟩, fun Y hY => ?_⟩
  have sY : Y.heap.size = X.heap.size := by rw [← hY]; simp [World.setCell]
  have kY : ∀ b, b ≠ g → Y.heap[b]? = X.heap[b]? := fun b hne => by rw [← hY]; exact set4_block (fun e => hne e.symm) _ _ _ _ _ _ _ _
  have kc : ∀ b q, b ≠ g → Y.cell? ⟨b, q, none⟩ = X.cell? ⟨b, q, none⟩ := fun b q hne => World.cell?_of_block (a := ⟨b, q, none⟩) (kY b hne)
  have ng : w9.heap.size ≠ g := by omega
  have nr : w.heap.size + 1 + 1 ≠ g := by omega
  have b2Y : Below w2.heap.size w2 Y := by
    rw [← hY]
    exact (((b2.setCell (by show w2.heap.size ≤ g; omega) _).setCell (by show w2.heap.size ≤ g; omega) _).setCell (by show w2.heap.size ≤ g; omega) _).setCell (by show w2.heap.size ≤ g; omega) _
  have hKy : MIx X (fun b => w2.heap.size ≤ b ∧ b < V.heap.size) (f + F) ya y.kids := by
    have := (hK.ty.le f).keep (w' := X) (fun b hb => bV.block b hb.2)
    rw [Nat.add_comm] at this
    exact this
  have hKx : Txx X (fun b => w2.heap.size ≤ b ∧ b < V.heap.size) (.slice yt y.text.length ytc) y.text := hK.tx.keep (fun b hb => bV.block b hb.2)
  have hmix := cx'.putk row' rfl hl hm (Sy := fun b => w2.heap.size ≤ b ∧ b < V.heap.size) hKy hKx hK.yc (fun b hb e => by have := hb.2; omega) (fun b => w2.heap.size ≤ b ∧ b < Y.heap.size) ⟨by omega, by omega⟩ (fun b h1 h2 => ⟨by omega, by omega⟩) (fun b hb => ⟨hb.1, by have := hb.2; omega⟩)
  rw [hY] at hmix
  have htx : Txx Y (fun b => w2.heap.size ≤ b ∧ b < Y.heap.size) (.slice ua d.text.length uc) d.text := by
    refine (hux.keep (fun b hb => (kY b (fun e => (hS b hb).2.2 (by rw [e]; rfl))).trans (bA.block b (hS b hb).2.1))).wide (fun b hb => ?_)
    have h1 := (hS b hb).1
    have h2 := (hS b hb).2.1
    exact ⟨by omega, by omega⟩
  have hpost : OPost w2 (some (.mk d.kind d.cons d.text (d.kids.set m y))) (.returned (.tuple #[.agg #[.int .i64 d.kind, .string d.cons, .slice ua d.text.length uc, .slice (some ⟨g, 0, none⟩) d.kids.length lc], .int .i64 0])) Y :=
    ⟨⟨f + F + 1, ua, uc, (some ⟨g, 0, none⟩), lc, by show _ = Ending.returned (.tuple #[.agg #[.int .i64 d.kind, .string d.cons, .slice ua d.text.length uc, .slice (some ⟨g, 0, none⟩) (d.kids.set m y).length lc], .int .i64 0]); rw [List.length_set], htx, by show (d.kids.set m y).length ≤ lc; rw [List.length_set]; exact hlc, hmix⟩, b2Y⟩
  have hxY := hX.nx b2Y
  have hw2 := hX.bel.size
  refine ⟨⟨(kc _ _ ng).trans (n0 3 _ rfl), (kc _ _ (by omega)).trans ((hx3.bel.cell (p := ⟨pb, po, none⟩) hpb).trans hpv), (kc _ _ (by omega)).trans ((k8 _).trans hK.y0), (kc _ _ (by omega)).trans ((k8 _).trans hK.y1), (kc _ _ (by omega)).trans ((k8 _).trans hK.y2), (kc _ _ (by omega)).trans ((k8 _).trans hK.y3)⟩, ⟨(kc _ _ ng).trans (n0 0 _ rfl), (kc _ _ ng).trans (n0 1 _ rfl), (kc _ _ ng).trans (n0 2 _ rfl), (kc _ _ ng).trans (n0 3 _ rfl)⟩, ⟨hxY.r0, hxY.r1, hxY.r2, hxY.r3, hxY.rf⟩, ?_⟩
  obtain ⟨r, u, ua', un', uc', va', vn', vc', er, he', _, _, hp7⟩ := apost_lift hX.bel (show w.heap.size ≤ w.heap.size + 1 + 1 by omega) hX.lt hX.r0 hX.r1 hX.r2 hX.r3 hX.rf hpost
  injection he' with he'
  injection he' with he'
  simp at he'
  obtain ⟨⟨rfl, rfl, ⟨rfl, rfl, rfl⟩, rfl, rfl, rfl⟩, rfl⟩ := he'
  exact hp7
end Go.Proofs.YtlkcadibjmfmcaaDoor

/- The document's Put. -/
namespace Go.Proofs.YtlkcadibjmfmcaaDoor
open Go.RowKit Go.Shelf

set_option maxRecDepth 100000 in
set_option maxHeartbeats 40000000 in
theorem refPut_any : ∀ (ps : List Int) (d s : Tm) (dt : Option Addr) (dtc : Nat) (sa : Option Addr) (sc : Nat) (st : Option Addr) (stc : Nat) (ta : Option Addr) (tc f : Nat) (pa : Option Addr) (pc : Nat) (w : World), Txt w w.heap.size (.slice dt d.text.length dtc) d.text → MAt w w.heap.size f sa d.kids → d.kids.length ≤ sc → Txt w w.heap.size (.slice st s.text.length stc) s.text → MAt w w.heap.size f ta s.kids → s.kids.length ≤ tc → IAt w w.heap.size pa ps → ps.length ≤ pc → ps.length ≤ 1000000000000 →
    Calls Tryd.prog 26 #[.agg #[.int .i64 d.kind, .string d.cons, .slice dt d.text.length dtc, .slice sa d.kids.length sc], .slice pa ps.length pc, .agg #[.int .i64 s.kind, .string s.cons, .slice st s.text.length stc, .slice ta s.kids.length tc]] w fun e w' => OPost w (putP d ps s) e w' := by
  intro ps
  induction ps with
  | nil =>
    intro d s dt dtc sa sc st stc ta tc f pa pc w hdt hk hsc hst hks htc _ _ _
    have hX0 := P3.start w d s dt dtc sa sc st stc ta tc
    obtain ⟨w2, hw2⟩ : ∃ w2, ((w.alloc (.cells #[.int .i64 d.kind, .string d.cons, .slice dt d.text.length dtc, .slice sa d.kids.length sc] 25)).alloc (.cells #[.int .i64 s.kind, .string s.cons, .slice st s.text.length stc, .slice ta s.kids.length tc] 25)).alloc (.cells #[.int .i64 0, .string ⟨#[]⟩, .slice none 0 0, .slice none 0 0] 25) = w2 := ⟨_, rfl⟩
    rw [hw2] at hX0
    have hB := hX0.bel
    have HC : Hid _ := fun (_ : Unit) => copy_any f s _ ta tc w2 ((hst.keep hB).mono hB.size) ((hks.keep hB).mono hB.size)
    have r0 := hX0.r0
    have r1 := hX0.r1
    have r2 := hX0.r2
    have r3 := hX0.r3
    have rf := hX0.rf
    have hlt2 := hX0.lt
    have hsB : w.heap.size ≤ w.heap.size + 1 + 1 := by omega
    have HF : Hid (∀ ua uc va vc w7, s.kids.length ≤ vc → Txx w7 (fun b => w2.heap.size ≤ b ∧ b < w7.heap.size) (.slice ua s.text.length uc) s.text → MIx w7 (fun b => w2.heap.size ≤ b ∧ b < w7.heap.size) f va s.kids → Below w2.heap.size w2 w7 → OPost w2 (some s) (.returned (.tuple #[.agg #[.int .i64 s.kind, .string s.cons, .slice ua s.text.length uc, .slice va s.kids.length vc], .int .i64 0])) w7) := fun ua uc va vc w7 h1 h0 h2 h3 => ⟨⟨f, ua, uc, va, vc, rfl, h0, h1, h2⟩, h3⟩
    have HL : Hid (∀ e w7, OPost w2 (some s) e w7 → _) := fun e w7 h => apost_lift hB hsB hlt2 r0 r1 r2 r3 rf h
    clear hX0 hk hB hks hdt hst
    subst hw2
    go_enter Tryd.func26, Tryd.ntmps26
    go_wp2_with (go_at_call 14; refine (HC.out ()).mono ?_; rintro e w7 ⟨⟨uv, va, vc, rfl, hvc, hut, htin⟩, hb7⟩; obtain ⟨ua, uc, rfl, hut0⟩ := hut; obtain ⟨r, u, ua', un', uc', va', vn', vc', er, he, ⟨r0, r1, r2, r3, rf⟩, _, hp7⟩ := HL.out _ _ (HF.out ua uc va vc w7 hvc ⟨_, _, rfl, hut0⟩ htin hb7); injection he with he; injection he with he; have HP7 : Hid _ := And.intro he hp7; clear he hp7 hvc htin hb7 hut0)
    refine bodyPost_ret (v := .tuple #[.agg #[.int .i64 s.kind, .string s.cons, .slice ua s.text.length uc, .slice va s.kids.length vc], .int .i64 0]) (by simp [results, Tryd.results26, go_sem, r0, r1, r2, r3]) rfl ?_
    obtain ⟨he, hp7⟩ := HP7.out
    simp at he
    obtain ⟨⟨rfl, rfl, ⟨rfl, rfl, rfl⟩, rfl, rfl, rfl⟩, rfl⟩ := he
    exact hp7
  | cons v ps ih =>
    intro d s dt dtc sa sc st stc ta tc f pa pc w hdt hk hsc hst hks htc hp hpc hpl
    obtain ⟨pb, po, rfl, hpb, hpv⟩ := hp 0 v rfl
    rw [Nat.add_zero] at hpv
    have hX0 := P3.start w d s dt dtc sa sc st stc ta tc
    obtain ⟨w2, hw2⟩ : ∃ w2, ((w.alloc (.cells #[.int .i64 d.kind, .string d.cons, .slice dt d.text.length dtc, .slice sa d.kids.length sc] 25)).alloc (.cells #[.int .i64 s.kind, .string s.cons, .slice st s.text.length stc, .slice ta s.kids.length tc] 25)).alloc (.cells #[.int .i64 0, .string ⟨#[]⟩, .slice none 0 0, .slice none 0 0] 25) = w2 := ⟨_, rfl⟩
    rw [hw2] at hX0
    have hB := hX0.bel
    have r0 := hX0.r0
    have r1 := hX0.r1
    have r2 := hX0.r2
    have r3 := hX0.r3
    have rf := hX0.rf
    have hlt2 := hX0.lt
    have hsB : w.heap.size ≤ w.heap.size + 1 + 1 := by omega
    have hpv2 := (hB.cell (p := ⟨pb, po, none⟩) hpb).trans hpv
    have x2 := hX0.d3
    have HS3 : Hid (w2.drew.cell? ⟨w.heap.size, 3, none⟩ = some (.slice sa d.kids.length sc) ∧ w2.drew.cell? ⟨pb, po, none⟩ = some (.int .i64 v)) := ⟨x2, hpv2⟩
    have HBD : Hid (Below w.heap.size w w2.drew) := ⟨hB.os, hB.tape, hB.output, hB.size, hB.block⟩
    have hln : ((ps.length : Int) + 1 == 0) = false := by simp; omega
    have hl0 : (0 : Int) < (ps.length : Int) + 1 := by omega
    have hlN : 0 < ps.length + 1 := by omega
    obtain ⟨n, hn⟩ : ∃ n, ps.length = n := ⟨_, rfl⟩
    rw [List.length_cons] at hpc hpl ⊢
    rw [hn] at hln hl0 hlN hpc hpl ⊢
    by_cases hv0 : v < 0
    · have HN : Hid (putP d (v :: ps) s = none) := by show _ = _; rw [putP]; unfold kidAt; rw [if_neg (by omega)]; rfl
      have hd0 : decide (v < 0) = true := by simpa using hv0
      clear hX0 hk hB ih hp hpv hn hks hdt hst
      subst hw2
      go_enter Tryd.func26, Tryd.ntmps26
      go_wp2
      refine wp_region_held_drew (S := (fun W => W.cell? ⟨w.heap.size, 3, none⟩ = some (.slice sa d.kids.length sc) ∧ W.cell? ⟨pb, po, none⟩ = some (.int .i64 v))) (by kernel_rfl) HS3.out (fun hHeld => ?_)
      refine wpAnyH_take (i := 0) (v := ?v67) rfl (by kernel_rfl) (by kernel_rfl) (by kernel_rfl) (fun _ _ _ h => h) (Or.inl ⟨by rfl, ?y67⟩) (by assumption) ?_
      case y67 => (intro w hSw; (try dsimp only at hSw); go_simp <;> with_reducible rfl)
      try simp only [Act.put, List.getElem_toArray, List.getElem_cons_zero, List.setIfInBounds_toArray, List.set_cons_zero, List.set_cons_succ]
      refine wpAnyH_take (i := 1) (v := ?v68) rfl (by kernel_rfl) (by kernel_rfl) (by kernel_rfl) (fun _ _ _ h => h) (Or.inl ⟨by rfl, ?y68⟩) (by assumption) ?_
      case y68 => (intro w hSw; (try dsimp only at hSw); go_simp <;> with_reducible rfl)
      try simp only [Act.put, List.getElem_toArray, List.getElem_cons_zero, List.getElem_cons_succ, List.setIfInBounds_toArray, List.set_cons_zero, List.set_cons_succ]
      refine wpAnyH_take (i := 2) (v := ?v69) rfl (by kernel_rfl) (by kernel_rfl) (by kernel_rfl) (fun _ _ _ h => h) (Or.inl ⟨by rfl, ?y69⟩) (by assumption) ?_
      case y69 => (intro w hSw; (try dsimp only at hSw); go_simp <;> with_reducible rfl)
      try simp only [Act.put, List.getElem_toArray, List.getElem_cons_zero, List.getElem_cons_succ, List.setIfInBounds_toArray, List.set_cons_zero, List.set_cons_succ]
      refine wpAnyH_take (i := 3) (v := ?v70) rfl (by kernel_rfl) (by kernel_rfl) (by kernel_rfl) (fun _ _ _ h => h) (Or.inl ⟨by rfl, ?y70⟩) (by assumption) ?_
      case y70 => (intro w hSw; (try dsimp only at hSw); go_simp <;> with_reducible rfl)
      try simp only [Act.put, List.getElem_toArray, List.getElem_cons_zero, List.getElem_cons_succ, List.setIfInBounds_toArray, List.set_cons_zero, List.set_cons_succ]
      refine wpAnyH_take (i := 4) (v := ?v71) rfl (by kernel_rfl) (by kernel_rfl) (by kernel_rfl) (fun _ _ _ h => h) (Or.inl ⟨by rfl, ?y71⟩) (by assumption) ?_
      case y71 => (intro w hSw; (try dsimp only at hSw); go_simp <;> with_reducible rfl)
      try simp only [Act.put, List.getElem_toArray, List.getElem_cons_zero, List.getElem_cons_succ, List.setIfInBounds_toArray, List.set_cons_zero, List.set_cons_succ]
      refine wpAnyH_take (i := 5) (v := undef) rfl (by kernel_rfl) (by kernel_rfl) (by kernel_rfl) (fun _ _ _ h => h) (Or.inr ⟨by rfl, rfl⟩) (by assumption) ?_
      try simp only [Act.put, List.getElem_toArray, List.getElem_cons_zero, List.getElem_cons_succ, List.setIfInBounds_toArray, List.set_cons_zero, List.set_cons_succ]
      refine wpAnyH_take (i := 6) (v := undef) rfl (by kernel_rfl) (by kernel_rfl) (by kernel_rfl) (fun _ _ _ h => h) (Or.inr ⟨by rfl, rfl⟩) (by assumption) ?_
      try simp only [Act.put, List.getElem_toArray, List.getElem_cons_zero, List.getElem_cons_succ, List.setIfInBounds_toArray, List.set_cons_zero, List.set_cons_succ]
      refine wpAnyH_take (i := 7) (v := undef) rfl (by kernel_rfl) (by kernel_rfl) (by kernel_rfl) (fun _ _ _ h => h) (Or.inr ⟨by rfl, rfl⟩) (by assumption) ?_
      try simp only [Act.put, List.getElem_toArray, List.getElem_cons_zero, List.getElem_cons_succ, List.setIfInBounds_toArray, List.set_cons_zero, List.set_cons_succ]
      refine wpAnyH_take (i := 8) (v := undef) rfl (by kernel_rfl) (by kernel_rfl) (by kernel_rfl) (fun _ _ _ h => h) (Or.inr ⟨by rfl, rfl⟩) (by assumption) ?_
      try simp only [Act.put, List.getElem_toArray, List.getElem_cons_zero, List.getElem_cons_succ, List.setIfInBounds_toArray, List.set_cons_zero, List.set_cons_succ]
      refine wpAnyH_take (i := 9) (v := undef) rfl (by kernel_rfl) (by kernel_rfl) (by kernel_rfl) (fun _ _ _ h => h) (Or.inr ⟨by rfl, rfl⟩) (by assumption) ?_
      try simp only [Act.put, List.getElem_toArray, List.getElem_cons_zero, List.getElem_cons_succ, List.setIfInBounds_toArray, List.set_cons_zero, List.set_cons_succ]
      refine wpAnyH_take (i := 10) (v := undef) rfl (by kernel_rfl) (by kernel_rfl) (by kernel_rfl) (fun _ _ _ h => h) (Or.inr ⟨by rfl, rfl⟩) (by assumption) ?_
      try simp only [Act.put, List.getElem_toArray, List.getElem_cons_zero, List.getElem_cons_succ, List.setIfInBounds_toArray, List.set_cons_zero, List.set_cons_succ]
      refine wpAnyH_take (i := 11) (v := undef) rfl (by kernel_rfl) (by kernel_rfl) (by kernel_rfl) (fun _ _ _ h => h) (Or.inr ⟨by rfl, rfl⟩) (by assumption) ?_
      try simp only [Act.put, List.getElem_toArray, List.getElem_cons_zero, List.getElem_cons_succ, List.setIfInBounds_toArray, List.set_cons_zero, List.set_cons_succ]
      refine wpAnyH_take (i := 12) (v := ?v72) rfl (by kernel_rfl) (by kernel_rfl) (by kernel_rfl) (fun _ _ _ h => h) (Or.inl ⟨by rfl, ?y72⟩) (by assumption) ?_
      case y72 => (intro w hSw; (try dsimp only at hSw); go_simp <;> with_reducible rfl)
      try simp only [Act.put, List.getElem_toArray, List.getElem_cons_zero, List.getElem_cons_succ, List.setIfInBounds_toArray, List.set_cons_zero, List.set_cons_succ]
      refine wpAnyH_done (by kernel_rfl) ?_ _
      clear hHeld
      go_wp2
      refine bodyPost_ret (v := .tuple #[.agg #[.int .i64 0, .string ⟨#[]⟩, .slice none 0 0, .slice none 0 0], .int .i64 4]) (by simp [results, Tryd.results26, go_sem, r0, r1, r2, r3]) rfl ?_
      rw [HN.out]
      exact ⟨⟨_, _, rfl⟩, HBD.out⟩
    · by_cases hv1 : (d.kids.length : Int) ≤ v
      · have HN : Hid (putP d (v :: ps) s = none) := by
          show _ = _
          rw [putP]
          unfold kidAt
          rw [if_pos (by omega), List.getElem?_eq_none (by omega)]
          rfl
        have hd0 : decide (v < 0) = false := by simpa using hv0
        have hd1 : decide ((d.kids.length : Int) ≤ v) = true := by simpa using hv1
        clear hX0 hk hB ih hp hpv hn hks hdt hst
        subst hw2
        go_enter Tryd.func26, Tryd.ntmps26
        go_wp2
        refine wp_region_held_drew (S := (fun W => W.cell? ⟨w.heap.size, 3, none⟩ = some (.slice sa d.kids.length sc) ∧ W.cell? ⟨pb, po, none⟩ = some (.int .i64 v))) (by kernel_rfl) HS3.out (fun hHeld => ?_)
        refine wpAnyH_take (i := 0) (v := ?v44) rfl (by kernel_rfl) (by kernel_rfl) (by kernel_rfl) (fun _ _ _ h => h) (Or.inl ⟨by rfl, ?y44⟩) (by assumption) ?_
        case y44 => (intro w hSw; (try dsimp only at hSw); go_simp <;> with_reducible rfl)
        try simp only [Act.put, List.getElem_toArray, List.getElem_cons_zero, List.setIfInBounds_toArray, List.set_cons_zero, List.set_cons_succ]
        refine wpAnyH_take (i := 1) (v := ?v45) rfl (by kernel_rfl) (by kernel_rfl) (by kernel_rfl) (fun _ _ _ h => h) (Or.inl ⟨by rfl, ?y45⟩) (by assumption) ?_
        case y45 => (intro w hSw; (try dsimp only at hSw); go_simp <;> with_reducible rfl)
        try simp only [Act.put, List.getElem_toArray, List.getElem_cons_zero, List.getElem_cons_succ, List.setIfInBounds_toArray, List.set_cons_zero, List.set_cons_succ]
        refine wpAnyH_take (i := 2) (v := ?v46) rfl (by kernel_rfl) (by kernel_rfl) (by kernel_rfl) (fun _ _ _ h => h) (Or.inl ⟨by rfl, ?y46⟩) (by assumption) ?_
        case y46 => (intro w hSw; (try dsimp only at hSw); go_simp <;> with_reducible rfl)
        try simp only [Act.put, List.getElem_toArray, List.getElem_cons_zero, List.getElem_cons_succ, List.setIfInBounds_toArray, List.set_cons_zero, List.set_cons_succ]
        refine wpAnyH_take (i := 3) (v := ?v47) rfl (by kernel_rfl) (by kernel_rfl) (by kernel_rfl) (fun _ _ _ h => h) (Or.inl ⟨by rfl, ?y47⟩) (by assumption) ?_
        case y47 => (intro w hSw; (try dsimp only at hSw); go_simp <;> with_reducible rfl)
        try simp only [Act.put, List.getElem_toArray, List.getElem_cons_zero, List.getElem_cons_succ, List.setIfInBounds_toArray, List.set_cons_zero, List.set_cons_succ]
        refine wpAnyH_take (i := 4) (v := ?v48) rfl (by kernel_rfl) (by kernel_rfl) (by kernel_rfl) (fun _ _ _ h => h) (Or.inl ⟨by rfl, ?y48⟩) (by assumption) ?_
        case y48 => (intro w hSw; (try dsimp only at hSw); go_simp <;> with_reducible rfl)
        try simp only [Act.put, List.getElem_toArray, List.getElem_cons_zero, List.getElem_cons_succ, List.setIfInBounds_toArray, List.set_cons_zero, List.set_cons_succ]
        refine wpAnyH_take (i := 5) (v := ?v49) rfl (by kernel_rfl) (by kernel_rfl) (by kernel_rfl) (fun _ _ _ h => h) (Or.inl ⟨by rfl, ?y49⟩) (by assumption) ?_
        case y49 => (intro w hSw; (try dsimp only at hSw); go_simp <;> with_reducible rfl)
        try simp only [Act.put, List.getElem_toArray, List.getElem_cons_zero, List.getElem_cons_succ, List.setIfInBounds_toArray, List.set_cons_zero, List.set_cons_succ]
        refine wpAnyH_take (i := 6) (v := ?v50) rfl (by kernel_rfl) (by kernel_rfl) (by kernel_rfl) (fun _ _ _ h => h) (Or.inl ⟨by rfl, ?y50⟩) (by assumption) ?_
        case y50 => (intro w hSw; (try dsimp only at hSw); go_simp <;> with_reducible rfl)
        try simp only [Act.put, List.getElem_toArray, List.getElem_cons_zero, List.getElem_cons_succ, List.setIfInBounds_toArray, List.set_cons_zero, List.set_cons_succ]
        refine wpAnyH_take (i := 7) (v := ?v51) rfl (by kernel_rfl) (by kernel_rfl) (by kernel_rfl) (fun _ _ _ h => h) (Or.inl ⟨by rfl, ?y51⟩) (by assumption) ?_
        case y51 => (intro w hSw; (try dsimp only at hSw); go_simp <;> with_reducible rfl)
        try simp only [Act.put, List.getElem_toArray, List.getElem_cons_zero, List.getElem_cons_succ, List.setIfInBounds_toArray, List.set_cons_zero, List.set_cons_succ]
        refine wpAnyH_take (i := 8) (v := ?v52) rfl (by kernel_rfl) (by kernel_rfl) (by kernel_rfl) (fun _ _ _ h => h) (Or.inl ⟨by rfl, ?y52⟩) (by assumption) ?_
        case y52 => (intro w hSw; (try dsimp only at hSw); go_simp <;> with_reducible rfl)
        try simp only [Act.put, List.getElem_toArray, List.getElem_cons_zero, List.getElem_cons_succ, List.setIfInBounds_toArray, List.set_cons_zero, List.set_cons_succ]
        refine wpAnyH_take (i := 9) (v := ?v53) rfl (by kernel_rfl) (by kernel_rfl) (by kernel_rfl) (fun _ _ _ h => h) (Or.inl ⟨by rfl, ?y53⟩) (by assumption) ?_
        case y53 => (intro w hSw; (try dsimp only at hSw); go_simp <;> with_reducible rfl)
        try simp only [Act.put, List.getElem_toArray, List.getElem_cons_zero, List.getElem_cons_succ, List.setIfInBounds_toArray, List.set_cons_zero, List.set_cons_succ]
        refine wpAnyH_take (i := 10) (v := ?v54) rfl (by kernel_rfl) (by kernel_rfl) (by kernel_rfl) (fun _ _ _ h => h) (Or.inl ⟨by rfl, ?y54⟩) (by assumption) ?_
        case y54 => (intro w hSw; (try dsimp only at hSw); go_simp <;> with_reducible rfl)
        try simp only [Act.put, List.getElem_toArray, List.getElem_cons_zero, List.getElem_cons_succ, List.setIfInBounds_toArray, List.set_cons_zero, List.set_cons_succ]
        refine wpAnyH_take (i := 11) (v := ?v55) rfl (by kernel_rfl) (by kernel_rfl) (by kernel_rfl) (fun _ _ _ h => h) (Or.inl ⟨by rfl, ?y55⟩) (by assumption) ?_
        case y55 => (intro w hSw; (try dsimp only at hSw); go_simp <;> with_reducible rfl)
        try simp only [Act.put, List.getElem_toArray, List.getElem_cons_zero, List.getElem_cons_succ, List.setIfInBounds_toArray, List.set_cons_zero, List.set_cons_succ]
        refine wpAnyH_take (i := 12) (v := ?v56) rfl (by kernel_rfl) (by kernel_rfl) (by kernel_rfl) (fun _ _ _ h => h) (Or.inl ⟨by rfl, ?y56⟩) (by assumption) ?_
        case y56 => (intro w hSw; (try dsimp only at hSw); go_simp <;> with_reducible rfl)
        try simp only [Act.put, List.getElem_toArray, List.getElem_cons_zero, List.getElem_cons_succ, List.setIfInBounds_toArray, List.set_cons_zero, List.set_cons_succ]
        refine wpAnyH_done (by kernel_rfl) ?_ _
        clear hHeld
        go_wp2
        refine bodyPost_ret (v := .tuple #[.agg #[.int .i64 0, .string ⟨#[]⟩, .slice none 0 0, .slice none 0 0], .int .i64 4]) (by simp [results, Tryd.results26, go_sem, r0, r1, r2, r3]) rfl ?_
        rw [HN.out]
        exact ⟨⟨_, _, rfl⟩, HBD.out⟩
      · obtain ⟨m, rfl⟩ : ∃ m : Nat, v = (m : Int) := ⟨v.toNat, by omega⟩
        have hmN : m < d.kids.length := by omega
        obtain ⟨x, hx⟩ : ∃ x, d.kids[m]? = some x := ⟨d.kids[m], by simp⟩
        have HN : Hid (putP d ((m : Int) :: ps) s = (putP x ps s).map (fun y => .mk d.kind d.cons d.text (d.kids.set m y))) := by
          show _ = _
          rw [putP]
          unfold kidAt
          rw [if_pos (by omega), Int.toNat_natCast, hx]
          rfl
        obtain ⟨b, o, rfl, hb, xa, xc, c0, c1, ⟨xt, xtc, c2, xl, xm, xb⟩, c3, hxc, hxk⟩ := hk.one hx
        have hd0 : decide ((m : Int) < 0) = false := by simp
        have hd1 : decide (d.kids.length ≤ m) = false := by simp; omega
        have hd2 : ¬ d.kids.length ≤ m := by omega
        have HX0 : Hid _ := hX0
        have HS5 : Hid (∀ W, Below w2.heap.size w2 W → W.cell? ⟨w.heap.size, 3, none⟩ = some (.slice (some ⟨b, o, none⟩) d.kids.length sc) ∧ W.cell? ⟨pb, po, none⟩ = some (.int .i64 (m : Int)) ∧ W.cell? ⟨b, o + m * 4, none⟩ = some (.int .i64 x.kind) ∧ W.cell? ⟨b, o + m * 4 + 1, none⟩ = some (.string x.cons) ∧ W.cell? ⟨b, o + m * 4 + 2, none⟩ = some (.slice xt x.text.length xtc) ∧ W.cell? ⟨b, o + m * 4 + 3, none⟩ = some (.slice xa x.kids.length xc) ∧ W.cell? ⟨w.heap.size + 1, 0, none⟩ = some (.int .i64 s.kind) ∧ W.cell? ⟨w.heap.size + 1, 1, none⟩ = some (.string s.cons) ∧ W.cell? ⟨w.heap.size + 1, 2, none⟩ = some (.slice st s.text.length stc) ∧ W.cell? ⟨w.heap.size + 1, 3, none⟩ = some (.slice ta s.kids.length tc)) := fun W hW => by
          have hs := hB.size
          have hx3 := hX0.nx hW
          have k' : ∀ b q, b < w.heap.size → W.cell? ⟨b, q, none⟩ = w.cell? ⟨b, q, none⟩ := fun b q hb => hx3.bel.cell (p := ⟨b, q, none⟩) hb
          exact ⟨hx3.d3, (k' _ _ hpb).trans hpv, (k' _ _ hb).trans c0, (k' _ _ hb).trans c1, (k' _ _ hb).trans c2, (k' _ _ hb).trans c3, hx3.s0, hx3.s1, hx3.s2, hx3.s3⟩
        have HC : Hid (∀ W, Below w2.heap.size w2 W → Calls Tryd.prog 26 #[.agg #[.int .i64 x.kind, .string x.cons, .slice xt x.text.length xtc, .slice xa x.kids.length xc], .slice (if pc = 1 then some ⟨pb, po, none⟩ else some ⟨pb, po + 1, none⟩) n (pc - 1), .agg #[.int .i64 s.kind, .string s.cons, .slice st s.text.length stc, .slice ta s.kids.length tc]] W fun e w' => OPost W (putP x ps s) e w') := fun W hW => by
          have hBW := below_of hB hW
          have hI : IAt W W.heap.size (if pc = 1 then some ⟨pb, po, none⟩ else some ⟨pb, po + 1, none⟩) ps := by
            split
            · have h0 : ps = [] := List.length_eq_zero_iff.1 (by omega)
              rw [h0]
              exact fun j u hj => by cases hj
            · exact (hp.tail.keepB hBW).monoB hBW.size
          have h' := ih x s xt xtc xa xc st stc ta tc f (if pc = 1 then some ⟨pb, po, none⟩ else some ⟨pb, po + 1, none⟩) (pc - 1) W ((Txt.keep (w := w) ⟨_, _, rfl, xl, xm, xb⟩ hBW).mono hBW.size) ((hxk.keep hBW).mono hBW.size) hxc ((hst.keep hBW).mono hBW.size) ((hks.keep hBW).mono hBW.size) htc hI (by omega) (by omega)
          rw [hn] at h'
          exact h'
        have TT : Below w2.heap.size w2 w2.drew.drew := ⟨rfl, rfl, rfl, Nat.le_refl _, fun _ _ => rfl⟩
        have HTT : Hid _ := TT
        have hm0 : (0 : Int) ≤ (m : Int) := by omega
        have hmI : (m : Int) < (d.kids.length : Int) := by omega
        have hp1 : (1 : Int) ≤ (n : Int) + 1 := by omega
        have hp2 : (n : Int) + 1 ≤ (pc : Int) := by omega
        have hp3 : n + 1 ≤ pc := hpc
        have HKD : Hid _ := And.intro hdt (And.intro hk hB)
        have HPV : Hid _ := And.intro hpb hpv
        have HLK : Hid _ := hk.len
        clear hX0 hk hB ih hp hpv hn hxk c0 c1 c2 c3 xl xm xb hdt hst hx hv0 hv1 TT r0 r1 r2 r3 rf hks
        go_enter Tryd.func26, Tryd.ntmps26
        go_wp2
        refine wp_region_held_drew (S := (fun W => W.cell? ⟨w.heap.size, 3, none⟩ = some (.slice (some ⟨b, o, none⟩) d.kids.length sc) ∧ W.cell? ⟨pb, po, none⟩ = some (.int .i64 (m : Int)))) (by kernel_rfl) HS3.out (fun hHeld => ?_)
        refine wpAnyH_take (i := 0) (v := ?v1) rfl (by kernel_rfl) (by kernel_rfl) (by kernel_rfl) (fun _ _ _ h => h) (Or.inl ⟨by rfl, ?y1⟩) (by assumption) ?_
        case y1 => (intro w hSw; (try dsimp only at hSw); go_simp <;> with_reducible rfl)
        try simp only [Act.put, List.getElem_toArray, List.getElem_cons_zero, List.setIfInBounds_toArray, List.set_cons_zero, List.set_cons_succ]
        refine wpAnyH_take (i := 1) (v := ?v2) rfl (by kernel_rfl) (by kernel_rfl) (by kernel_rfl) (fun _ _ _ h => h) (Or.inl ⟨by rfl, ?y2⟩) (by assumption) ?_
        case y2 => (intro w hSw; (try dsimp only at hSw); go_simp <;> with_reducible rfl)
        try simp only [Act.put, List.getElem_toArray, List.getElem_cons_zero, List.getElem_cons_succ, List.setIfInBounds_toArray, List.set_cons_zero, List.set_cons_succ]
        refine wpAnyH_take (i := 2) (v := ?v3) rfl (by kernel_rfl) (by kernel_rfl) (by kernel_rfl) (fun _ _ _ h => h) (Or.inl ⟨by rfl, ?y3⟩) (by assumption) ?_
        case y3 => (intro w hSw; (try dsimp only at hSw); go_simp <;> with_reducible rfl)
        try simp only [Act.put, List.getElem_toArray, List.getElem_cons_zero, List.getElem_cons_succ, List.setIfInBounds_toArray, List.set_cons_zero, List.set_cons_succ]
        refine wpAnyH_take (i := 3) (v := ?v4) rfl (by kernel_rfl) (by kernel_rfl) (by kernel_rfl) (fun _ _ _ h => h) (Or.inl ⟨by rfl, ?y4⟩) (by assumption) ?_
        case y4 => (intro w hSw; (try dsimp only at hSw); go_simp <;> with_reducible rfl)
        try simp only [Act.put, List.getElem_toArray, List.getElem_cons_zero, List.getElem_cons_succ, List.setIfInBounds_toArray, List.set_cons_zero, List.set_cons_succ]
        refine wpAnyH_take (i := 4) (v := ?v5) rfl (by kernel_rfl) (by kernel_rfl) (by kernel_rfl) (fun _ _ _ h => h) (Or.inl ⟨by rfl, ?y5⟩) (by assumption) ?_
        case y5 => (intro w hSw; (try dsimp only at hSw); go_simp <;> with_reducible rfl)
        try simp only [Act.put, List.getElem_toArray, List.getElem_cons_zero, List.getElem_cons_succ, List.setIfInBounds_toArray, List.set_cons_zero, List.set_cons_succ]
        refine wpAnyH_take (i := 5) (v := ?v6) rfl (by kernel_rfl) (by kernel_rfl) (by kernel_rfl) (fun _ _ _ h => h) (Or.inl ⟨by rfl, ?y6⟩) (by assumption) ?_
        case y6 => (intro w hSw; (try dsimp only at hSw); go_simp <;> with_reducible rfl)
        try simp only [Act.put, List.getElem_toArray, List.getElem_cons_zero, List.getElem_cons_succ, List.setIfInBounds_toArray, List.set_cons_zero, List.set_cons_succ]
        refine wpAnyH_take (i := 6) (v := ?v7) rfl (by kernel_rfl) (by kernel_rfl) (by kernel_rfl) (fun _ _ _ h => h) (Or.inl ⟨by rfl, ?y7⟩) (by assumption) ?_
        case y7 => (intro w hSw; (try dsimp only at hSw); go_simp <;> with_reducible rfl)
        try simp only [Act.put, List.getElem_toArray, List.getElem_cons_zero, List.getElem_cons_succ, List.setIfInBounds_toArray, List.set_cons_zero, List.set_cons_succ]
        refine wpAnyH_take (i := 7) (v := ?v8) rfl (by kernel_rfl) (by kernel_rfl) (by kernel_rfl) (fun _ _ _ h => h) (Or.inl ⟨by rfl, ?y8⟩) (by assumption) ?_
        case y8 => (intro w hSw; (try dsimp only at hSw); go_simp <;> with_reducible rfl)
        try simp only [Act.put, List.getElem_toArray, List.getElem_cons_zero, List.getElem_cons_succ, List.setIfInBounds_toArray, List.set_cons_zero, List.set_cons_succ]
        refine wpAnyH_take (i := 8) (v := ?v9) rfl (by kernel_rfl) (by kernel_rfl) (by kernel_rfl) (fun _ _ _ h => h) (Or.inl ⟨by rfl, ?y9⟩) (by assumption) ?_
        case y9 => (intro w hSw; (try dsimp only at hSw); go_simp <;> with_reducible rfl)
        try simp only [Act.put, List.getElem_toArray, List.getElem_cons_zero, List.getElem_cons_succ, List.setIfInBounds_toArray, List.set_cons_zero, List.set_cons_succ]
        refine wpAnyH_take (i := 9) (v := ?v10) rfl (by kernel_rfl) (by kernel_rfl) (by kernel_rfl) (fun _ _ _ h => h) (Or.inl ⟨by rfl, ?y10⟩) (by assumption) ?_
        case y10 => (intro w hSw; (try dsimp only at hSw); go_simp <;> with_reducible rfl)
        try simp only [Act.put, List.getElem_toArray, List.getElem_cons_zero, List.getElem_cons_succ, List.setIfInBounds_toArray, List.set_cons_zero, List.set_cons_succ]
        refine wpAnyH_take (i := 10) (v := ?v11) rfl (by kernel_rfl) (by kernel_rfl) (by kernel_rfl) (fun _ _ _ h => h) (Or.inl ⟨by rfl, ?y11⟩) (by assumption) ?_
        case y11 => (intro w hSw; (try dsimp only at hSw); go_simp <;> with_reducible rfl)
        try simp only [Act.put, List.getElem_toArray, List.getElem_cons_zero, List.getElem_cons_succ, List.setIfInBounds_toArray, List.set_cons_zero, List.set_cons_succ]
        refine wpAnyH_take (i := 11) (v := ?v12) rfl (by kernel_rfl) (by kernel_rfl) (by kernel_rfl) (fun _ _ _ h => h) (Or.inl ⟨by rfl, ?y12⟩) (by assumption) ?_
        case y12 => (intro w hSw; (try dsimp only at hSw); go_simp <;> with_reducible rfl)
        try simp only [Act.put, List.getElem_toArray, List.getElem_cons_zero, List.getElem_cons_succ, List.setIfInBounds_toArray, List.set_cons_zero, List.set_cons_succ]
        refine wpAnyH_take (i := 12) (v := ?v13) rfl (by kernel_rfl) (by kernel_rfl) (by kernel_rfl) (fun _ _ _ h => h) (Or.inl ⟨by rfl, ?y13⟩) (by assumption) ?_
        case y13 => (intro w hSw; (try dsimp only at hSw); go_simp <;> with_reducible rfl)
        try simp only [Act.put, List.getElem_toArray, List.getElem_cons_zero, List.getElem_cons_succ, List.setIfInBounds_toArray, List.set_cons_zero, List.set_cons_succ]
        refine wpAnyH_done (by kernel_rfl) ?_ _
        clear hHeld
        go_wp2
        refine wp_region_held_drew (S := (fun W => W.cell? ⟨w.heap.size, 3, none⟩ = some (.slice (some ⟨b, o, none⟩) d.kids.length sc) ∧ W.cell? ⟨pb, po, none⟩ = some (.int .i64 (m : Int)) ∧ W.cell? ⟨b, o + m * 4, none⟩ = some (.int .i64 x.kind) ∧ W.cell? ⟨b, o + m * 4 + 1, none⟩ = some (.string x.cons) ∧ W.cell? ⟨b, o + m * 4 + 2, none⟩ = some (.slice xt x.text.length xtc) ∧ W.cell? ⟨b, o + m * 4 + 3, none⟩ = some (.slice xa x.kids.length xc) ∧ W.cell? ⟨w.heap.size + 1, 0, none⟩ = some (.int .i64 s.kind) ∧ W.cell? ⟨w.heap.size + 1, 1, none⟩ = some (.string s.cons) ∧ W.cell? ⟨w.heap.size + 1, 2, none⟩ = some (.slice st s.text.length stc) ∧ W.cell? ⟨w.heap.size + 1, 3, none⟩ = some (.slice ta s.kids.length tc))) (by kernel_rfl) (HS5.out _ HTT.out) (fun hHeld => ?_)
        refine wpAnyH_take (i := 0) (v := ?v57) rfl (by kernel_rfl) (by kernel_rfl) (by kernel_rfl) (fun _ _ _ h => h) (Or.inl ⟨by rfl, ?y57⟩) (by assumption) ?_
        case y57 => (intro w hSw; (try dsimp only at hSw); go_simp <;> with_reducible rfl)
        try simp only [Act.put, List.getElem_toArray, List.getElem_cons_zero, List.setIfInBounds_toArray, List.set_cons_zero, List.set_cons_succ]
        refine wpAnyH_take (i := 1) (v := ?v58) rfl (by kernel_rfl) (by kernel_rfl) (by kernel_rfl) (fun _ _ _ h => h) (Or.inl ⟨by rfl, ?y58⟩) (by assumption) ?_
        case y58 => (intro w hSw; (try dsimp only at hSw); go_simp <;> with_reducible rfl)
        try simp only [Act.put, List.getElem_toArray, List.getElem_cons_zero, List.getElem_cons_succ, List.setIfInBounds_toArray, List.set_cons_zero, List.set_cons_succ]
        refine wpAnyH_take (i := 2) (v := ?v59) rfl (by kernel_rfl) (by kernel_rfl) (by kernel_rfl) (fun _ _ _ h => h) (Or.inl ⟨by rfl, ?y59⟩) (by assumption) ?_
        case y59 => (intro w hSw; (try dsimp only at hSw); go_simp <;> with_reducible rfl)
        try simp only [Act.put, List.getElem_toArray, List.getElem_cons_zero, List.getElem_cons_succ, List.setIfInBounds_toArray, List.set_cons_zero, List.set_cons_succ]
        refine wpAnyH_take (i := 3) (v := ?v60) rfl (by kernel_rfl) (by kernel_rfl) (by kernel_rfl) (fun _ _ _ h => h) (Or.inl ⟨by rfl, ?y60⟩) (by assumption) ?_
        case y60 => (intro w hSw; (try dsimp only at hSw); go_simp <;> with_reducible rfl)
        try simp only [Act.put, List.getElem_toArray, List.getElem_cons_zero, List.getElem_cons_succ, List.setIfInBounds_toArray, List.set_cons_zero, List.set_cons_succ]
        refine wpAnyH_take (i := 4) (v := ?v61) rfl (by kernel_rfl) (by kernel_rfl) (by kernel_rfl) (fun _ _ _ h => h) (Or.inl ⟨by rfl, ?y61⟩) (by assumption) ?_
        case y61 => (intro w hSw; (try dsimp only at hSw); go_simp <;> with_reducible rfl)
        try simp only [Act.put, List.getElem_toArray, List.getElem_cons_zero, List.getElem_cons_succ, List.setIfInBounds_toArray, List.set_cons_zero, List.set_cons_succ]
        refine wpAnyH_take (i := 5) (v := ?v62) rfl (by kernel_rfl) (by kernel_rfl) (by kernel_rfl) (fun _ _ _ h => h) (Or.inl ⟨by rfl, ?y62⟩) (by assumption) ?_
        case y62 => (intro w hSw; (try dsimp only at hSw); go_simp <;> with_reducible rfl)
        try simp only [Act.put, List.getElem_toArray, List.getElem_cons_zero, List.getElem_cons_succ, List.setIfInBounds_toArray, List.set_cons_zero, List.set_cons_succ]
        refine wpAnyH_take (i := 6) (v := ?v63) rfl (by kernel_rfl) (by kernel_rfl) (by kernel_rfl) (fun _ _ _ h => h) (Or.inl ⟨by rfl, ?y63⟩) (by assumption) ?_
        case y63 => (intro w hSw; (try dsimp only at hSw); go_simp <;> with_reducible rfl)
        try simp only [Act.put, List.getElem_toArray, List.getElem_cons_zero, List.getElem_cons_succ, List.setIfInBounds_toArray, List.set_cons_zero, List.set_cons_succ]
        refine wpAnyH_take (i := 7) (v := ?v64) rfl (by kernel_rfl) (by kernel_rfl) (by kernel_rfl) (fun _ _ _ h => h) (Or.inl ⟨by rfl, ?y64⟩) (by assumption) ?_
        case y64 => (intro w hSw; (try dsimp only at hSw); go_simp <;> with_reducible rfl)
        try simp only [Act.put, List.getElem_toArray, List.getElem_cons_zero, List.getElem_cons_succ, List.setIfInBounds_toArray, List.set_cons_zero, List.set_cons_succ]
        refine wpAnyH_take (i := 8) (v := ?v65) rfl (by kernel_rfl) (by kernel_rfl) (by kernel_rfl) (fun _ _ _ h => h) (Or.inl ⟨by rfl, ?y65⟩) (by assumption) ?_
        case y65 => (intro w hSw; (try dsimp only at hSw); go_simp <;> with_reducible rfl)
        try simp only [Act.put, List.getElem_toArray, List.getElem_cons_zero, List.getElem_cons_succ, List.setIfInBounds_toArray, List.set_cons_zero, List.set_cons_succ]
        refine wpAnyH_take (i := 9) (v := ?v66) rfl (by kernel_rfl) (by kernel_rfl) (by kernel_rfl) (fun _ _ _ h => h) (Or.inl ⟨by rfl, ?y66⟩) (by assumption) ?_
        case y66 => (intro w hSw; (try dsimp only at hSw); go_simp <;> with_reducible rfl)
        try simp only [Act.put, List.getElem_toArray, List.getElem_cons_zero, List.getElem_cons_succ, List.setIfInBounds_toArray, List.set_cons_zero, List.set_cons_succ]
        generalize (if pc = 1 then (some ⟨pb, po, none⟩ : Option Addr) else some ⟨pb, po + 1, none⟩) = qa at HC ⊢
        rcases hqq : putP x ps s with _ | y
        · rw [hqq] at HC HN
          refine wpAnyH_ready (rs := [10, 14]) (by kernel_rfl) (by simp) ?_
          refine (AllReadyH.cons rfl (fun K hK => ?_) (AllReadyH.cons rfl (fun K hK => ?_) AllReadyH.nil))
          · have HTW := HTT.out
            go_simp
            refine (HC.out _ HTW).mono ?_
            rintro e w7 ⟨⟨ua, uc, rfl⟩, hb7⟩
            have HW7 : Hid (Below w2.heap.size w2 w7) := below_of HTW hb7
            clear hb7
            go_wp2_with fail
            refine hK.out _ _ (HS5.out _ HW7.out) (fun hHeld => ?_)
            clear hK K
            try simp only [Act.put, List.getElem_toArray, List.getElem_cons_zero, List.getElem_cons_succ, List.setIfInBounds_toArray, List.set_cons_zero, List.set_cons_succ]
            refine wpAnyH_take (i := 11) (v := ?v14) rfl (by kernel_rfl) (by kernel_rfl) (by kernel_rfl) (fun _ _ _ h => h) (Or.inl ⟨by rfl, ?y14⟩) (by assumption) ?_
            case y14 => (intro w hSw; (try dsimp only at hSw); go_simp <;> with_reducible rfl)
            try simp only [Act.put, List.getElem_toArray, List.getElem_cons_zero, List.getElem_cons_succ, List.setIfInBounds_toArray, List.set_cons_zero, List.set_cons_succ]
            refine wpAnyH_take (i := 12) (v := ?v15) rfl (by kernel_rfl) (by kernel_rfl) (by kernel_rfl) (fun _ _ _ h => h) (Or.inl ⟨by rfl, ?y15⟩) (by assumption) ?_
            case y15 => (intro w hSw; (try dsimp only at hSw); go_simp <;> with_reducible rfl)
            try simp only [Act.put, List.getElem_toArray, List.getElem_cons_zero, List.getElem_cons_succ, List.setIfInBounds_toArray, List.set_cons_zero, List.set_cons_succ]
            refine wpAnyH_take (i := 13) (v := ?v16) rfl (by kernel_rfl) (by kernel_rfl) (by kernel_rfl) (fun _ _ _ h => h) (Or.inl ⟨by rfl, ?y16⟩) (by assumption) ?_
            case y16 => (intro w hSw; (try dsimp only at hSw); go_simp <;> with_reducible rfl)
            try simp only [Act.put, List.getElem_toArray, List.getElem_cons_zero, List.getElem_cons_succ, List.setIfInBounds_toArray, List.set_cons_zero, List.set_cons_succ]
            refine wpAnyH_ready (rs := [14]) (by kernel_rfl) (by simp) ?_
            refine (AllReadyH.cons rfl (fun K hK => ?_) AllReadyH.nil)
            go_simp
            have HWA : Hid (Below w2.heap.size w2 (w7.alloc (.cells #[.int .i64 0, .string ⟨#[]⟩, .slice none 0 0, .slice none 0 0] 25))) := HW7.out.alloc HW7.out.size _
            refine hK.out _ _ (HS5.out _ HWA.out) (fun hHeld => ?_)
            clear hK K
            try simp only [Act.put, List.getElem_toArray, List.getElem_cons_zero, List.getElem_cons_succ, List.setIfInBounds_toArray, List.set_cons_zero, List.set_cons_succ]
            refine wpAnyH_ready (rs := [15]) (by kernel_rfl) (by simp) ?_
            refine (AllReadyH.cons rfl (fun K hK => ?_) AllReadyH.nil)
            go_simp
            have HWV : Hid (Below w2.heap.size w2 (w7.alloc (.cells #[.int .i64 0, .string ⟨#[]⟩, .slice ua 0 uc, .slice none 0 0] 25))) := HW7.out.alloc HW7.out.size _
            refine hK.out _ _ (HS5.out _ HWV.out) (fun hHeld => ?_)
            clear hK K
            try simp only [Act.put, List.getElem_toArray, List.getElem_cons_zero, List.getElem_cons_succ, List.setIfInBounds_toArray, List.set_cons_zero, List.set_cons_succ]
            refine wpAnyH_take (i := 16) (v := ?v17) rfl (by kernel_rfl) (by kernel_rfl) (by kernel_rfl) (fun _ _ _ h => h) (Or.inl ⟨by rfl, ?y17⟩) (by assumption) ?_
            case y17 => (intro w hSw; (try dsimp only at hSw); go_simp <;> with_reducible rfl)
            try simp only [Act.put, List.getElem_toArray, List.getElem_cons_zero, List.getElem_cons_succ, List.setIfInBounds_toArray, List.set_cons_zero, List.set_cons_succ]
            refine wpAnyH_done (by kernel_rfl) ?_ _
            clear hHeld
            obtain ⟨V, hV⟩ : ∃ V, w7.alloc (.cells #[.int .i64 0, .string ⟨#[]⟩, .slice ua 0 uc, .slice none 0 0] 25) = V := ⟨_, rfl⟩
            rw [hV] at HWV
            rw [hV]
            clear hV
            have r0 := (HWV.out.cell (p := ⟨w.heap.size + 1 + 1, 0, none⟩) HX0.out.lt).trans HX0.out.r0
            have r1 := (HWV.out.cell (p := ⟨w.heap.size + 1 + 1, 1, none⟩) HX0.out.lt).trans HX0.out.r1
            have r2 := (HWV.out.cell (p := ⟨w.heap.size + 1 + 1, 2, none⟩) HX0.out.lt).trans HX0.out.r2
            have r3 := (HWV.out.cell (p := ⟨w.heap.size + 1 + 1, 3, none⟩) HX0.out.lt).trans HX0.out.r3
            have rf := fun q => (HWV.out.frozen (p := ⟨w.heap.size + 1 + 1, q, none⟩) HX0.out.lt).trans (HX0.out.rf q)
            go_wp2
            refine bodyPost_ret (v := .tuple #[.agg #[.int .i64 0, .string ⟨#[]⟩, .slice none 0 0, .slice none 0 0], .int .i64 4]) (by simp [results, Tryd.results26, go_sem, r0, r1, r2, r3]) rfl ?_
            rw [HN.out]
            exact ⟨⟨_, _, rfl⟩, by first | exact ((((below_of HX0.out.bel HWV.out).setCell hsB _).setCell hsB _).setCell hsB _).setCell hsB _ | exact below_of HX0.out.bel HWV.out⟩
          · go_simp
            have HTW : Below w2.heap.size w2 (w2.drew.drew.alloc (.cells #[.int .i64 0, .string ⟨#[]⟩, .slice none 0 0, .slice none 0 0] 25)) := HTT.out.alloc (Nat.le_refl _) _
            refine hK.out _ _ (HS5.out _ HTW) (fun hHeld => ?_)
            clear hK K
            try simp only [Act.put, List.getElem_toArray, List.getElem_cons_zero, List.getElem_cons_succ, List.setIfInBounds_toArray, List.set_cons_zero, List.set_cons_succ]
            refine wpAnyH_ready (rs := [10]) (by kernel_rfl) (by simp) ?_
            refine (AllReadyH.cons rfl (fun K hK => ?_) AllReadyH.nil)
            go_simp
            refine (HC.out _ HTW).mono ?_
            rintro e w7 ⟨⟨ua, uc, rfl⟩, hb7⟩
            have ez : (w2.drew.drew.alloc (.cells #[.int .i64 0, .string ⟨#[]⟩, .slice none 0 0, .slice none 0 0] 25)).heap.size = w2.heap.size + 1 := by rw [World.size_alloc]; rfl
            have z0 : w7.cell? ⟨w2.heap.size, 0, none⟩ = some (.int .i64 0) := (hb7.cell (p := ⟨w2.heap.size, 0, none⟩) (by rw [ez]; exact Nat.lt_succ_self _)).trans (cell_new (w := w2.drew.drew) 0 rfl)
            have z1 : w7.cell? ⟨w2.heap.size, 1, none⟩ = some (.string ⟨#[]⟩) := (hb7.cell (p := ⟨w2.heap.size, 1, none⟩) (by rw [ez]; exact Nat.lt_succ_self _)).trans (cell_new (w := w2.drew.drew) 1 rfl)
            have z2 : w7.cell? ⟨w2.heap.size, 2, none⟩ = some (.slice none 0 0) := (hb7.cell (p := ⟨w2.heap.size, 2, none⟩) (by rw [ez]; exact Nat.lt_succ_self _)).trans (cell_new (w := w2.drew.drew) 2 rfl)
            have z3 : w7.cell? ⟨w2.heap.size, 3, none⟩ = some (.slice none 0 0) := (hb7.cell (p := ⟨w2.heap.size, 3, none⟩) (by rw [ez]; exact Nat.lt_succ_self _)).trans (cell_new (w := w2.drew.drew) 3 rfl)
            have fz : ∀ q, w7.frozen? ⟨w2.heap.size, q, none⟩ = false := fun q => (hb7.frozen (p := ⟨w2.heap.size, q, none⟩) (by rw [ez]; exact Nat.lt_succ_self _)).trans (World.frozen?_alloc_at _ _ _ _ rfl)
            have fz0 := fz 0
            have fz1 := fz 1
            have fz2 := fz 2
            have fz3 := fz 3
            have HW7 : Hid (Below w2.heap.size w2 w7) := below_of HTW hb7
            have HWV : Hid (Below w2.heap.size w2 ((((w7.setCell ⟨w2.heap.size, 0, none⟩ (.int .i64 0)).setCell ⟨w2.heap.size, 1, none⟩ (.string ⟨#[]⟩)).setCell ⟨w2.heap.size, 2, none⟩ (.slice ua 0 uc)).setCell ⟨w2.heap.size, 3, none⟩ (.slice none 0 0))) := (((HW7.out.setCell (Nat.le_refl _) _).setCell (Nat.le_refl _) _).setCell (Nat.le_refl _) _).setCell (Nat.le_refl _) _
            clear hb7 fz ez
            go_wp2_with fail
            refine hK.out _ _ (HS5.out _ HW7.out) (fun hHeld => ?_)
            clear hK K
            try simp only [Act.put, List.getElem_toArray, List.getElem_cons_zero, List.getElem_cons_succ, List.setIfInBounds_toArray, List.set_cons_zero, List.set_cons_succ]
            refine wpAnyH_take (i := 11) (v := ?v18) rfl (by kernel_rfl) (by kernel_rfl) (by kernel_rfl) (fun _ _ _ h => h) (Or.inl ⟨by rfl, ?y18⟩) (by assumption) ?_
            case y18 => (intro w hSw; (try dsimp only at hSw); go_simp <;> with_reducible rfl)
            try simp only [Act.put, List.getElem_toArray, List.getElem_cons_zero, List.getElem_cons_succ, List.setIfInBounds_toArray, List.set_cons_zero, List.set_cons_succ]
            refine wpAnyH_take (i := 12) (v := ?v19) rfl (by kernel_rfl) (by kernel_rfl) (by kernel_rfl) (fun _ _ _ h => h) (Or.inl ⟨by rfl, ?y19⟩) (by assumption) ?_
            case y19 => (intro w hSw; (try dsimp only at hSw); go_simp <;> with_reducible rfl)
            try simp only [Act.put, List.getElem_toArray, List.getElem_cons_zero, List.getElem_cons_succ, List.setIfInBounds_toArray, List.set_cons_zero, List.set_cons_succ]
            refine wpAnyH_take (i := 13) (v := ?v20) rfl (by kernel_rfl) (by kernel_rfl) (by kernel_rfl) (fun _ _ _ h => h) (Or.inl ⟨by rfl, ?y20⟩) (by assumption) ?_
            case y20 => (intro w hSw; (try dsimp only at hSw); go_simp <;> with_reducible rfl)
            try simp only [Act.put, List.getElem_toArray, List.getElem_cons_zero, List.getElem_cons_succ, List.setIfInBounds_toArray, List.set_cons_zero, List.set_cons_succ]
            refine wpAnyH_ready (rs := [15]) (by kernel_rfl) (by simp) ?_
            refine (AllReadyH.cons rfl (fun K hK => ?_) AllReadyH.nil)
            go_simp
            refine hK.out _ _ (HS5.out _ HWV.out) (fun hHeld => ?_)
            clear hK K
            try simp only [Act.put, List.getElem_toArray, List.getElem_cons_zero, List.getElem_cons_succ, List.setIfInBounds_toArray, List.set_cons_zero, List.set_cons_succ]
            refine wpAnyH_take (i := 16) (v := ?v21) rfl (by kernel_rfl) (by kernel_rfl) (by kernel_rfl) (fun _ _ _ h => h) (Or.inl ⟨by rfl, ?y21⟩) (by assumption) ?_
            case y21 => (intro w hSw; (try dsimp only at hSw); go_simp <;> with_reducible rfl)
            try simp only [Act.put, List.getElem_toArray, List.getElem_cons_zero, List.getElem_cons_succ, List.setIfInBounds_toArray, List.set_cons_zero, List.set_cons_succ]
            refine wpAnyH_done (by kernel_rfl) ?_ _
            clear hHeld
            obtain ⟨V, hV⟩ : ∃ V, (((w7.setCell ⟨w2.heap.size, 0, none⟩ (.int .i64 0)).setCell ⟨w2.heap.size, 1, none⟩ (.string ⟨#[]⟩)).setCell ⟨w2.heap.size, 2, none⟩ (.slice ua 0 uc)).setCell ⟨w2.heap.size, 3, none⟩ (.slice none 0 0) = V := ⟨_, rfl⟩
            rw [hV] at HWV
            rw [hV]
            clear hV
            have r0 := (HWV.out.cell (p := ⟨w.heap.size + 1 + 1, 0, none⟩) HX0.out.lt).trans HX0.out.r0
            have r1 := (HWV.out.cell (p := ⟨w.heap.size + 1 + 1, 1, none⟩) HX0.out.lt).trans HX0.out.r1
            have r2 := (HWV.out.cell (p := ⟨w.heap.size + 1 + 1, 2, none⟩) HX0.out.lt).trans HX0.out.r2
            have r3 := (HWV.out.cell (p := ⟨w.heap.size + 1 + 1, 3, none⟩) HX0.out.lt).trans HX0.out.r3
            have rf := fun q => (HWV.out.frozen (p := ⟨w.heap.size + 1 + 1, q, none⟩) HX0.out.lt).trans (HX0.out.rf q)
            go_wp2
            refine bodyPost_ret (v := .tuple #[.agg #[.int .i64 0, .string ⟨#[]⟩, .slice none 0 0, .slice none 0 0], .int .i64 4]) (by simp [results, Tryd.results26, go_sem, r0, r1, r2, r3]) rfl ?_
            rw [HN.out]
            exact ⟨⟨_, _, rfl⟩, by first | exact ((((below_of HX0.out.bel HWV.out).setCell hsB _).setCell hsB _).setCell hsB _).setCell hsB _ | exact below_of HX0.out.bel HWV.out⟩
        · rw [hqq] at HC HN
          refine wpAnyH_ready (rs := [10, 14]) (by kernel_rfl) (by simp) ?_
          refine (AllReadyH.cons rfl (fun K hK => ?_) (AllReadyH.cons rfl (fun K hK => ?_) AllReadyH.nil))
          · have HTW := HTT.out
            go_simp
            refine (HC.out _ HTW).mono ?_
            rintro e w7 ⟨⟨F, ua, uc, va, vc, rfl, hut, hvc, htin⟩, hb7⟩
            have HT7 : Hid _ := And.intro hvc (And.intro htin (And.intro hb7 hut))
            have HW7 : Hid (Below w2.heap.size w2 w7) := below_of HTW hb7
            clear hvc htin hb7 hut
            go_wp2_with fail
            refine hK.out _ _ (HS5.out _ HW7.out) (fun hHeld => ?_)
            clear hK K
            try simp only [Act.put, List.getElem_toArray, List.getElem_cons_zero, List.getElem_cons_succ, List.setIfInBounds_toArray, List.set_cons_zero, List.set_cons_succ]
            refine wpAnyH_take (i := 11) (v := ?v22) rfl (by kernel_rfl) (by kernel_rfl) (by kernel_rfl) (fun _ _ _ h => h) (Or.inl ⟨by rfl, ?y22⟩) (by assumption) ?_
            case y22 => (intro w hSw; (try dsimp only at hSw); go_simp <;> with_reducible rfl)
            try simp only [Act.put, List.getElem_toArray, List.getElem_cons_zero, List.getElem_cons_succ, List.setIfInBounds_toArray, List.set_cons_zero, List.set_cons_succ]
            refine wpAnyH_take (i := 12) (v := ?v23) rfl (by kernel_rfl) (by kernel_rfl) (by kernel_rfl) (fun _ _ _ h => h) (Or.inl ⟨by rfl, ?y23⟩) (by assumption) ?_
            case y23 => (intro w hSw; (try dsimp only at hSw); go_simp <;> with_reducible rfl)
            try simp only [Act.put, List.getElem_toArray, List.getElem_cons_zero, List.getElem_cons_succ, List.setIfInBounds_toArray, List.set_cons_zero, List.set_cons_succ]
            refine wpAnyH_take (i := 13) (v := ?v24) rfl (by kernel_rfl) (by kernel_rfl) (by kernel_rfl) (fun _ _ _ h => h) (Or.inl ⟨by rfl, ?y24⟩) (by assumption) ?_
            case y24 => (intro w hSw; (try dsimp only at hSw); go_simp <;> with_reducible rfl)
            try simp only [Act.put, List.getElem_toArray, List.getElem_cons_zero, List.getElem_cons_succ, List.setIfInBounds_toArray, List.set_cons_zero, List.set_cons_succ]
            refine wpAnyH_ready (rs := [14]) (by kernel_rfl) (by simp) ?_
            refine (AllReadyH.cons rfl (fun K hK => ?_) AllReadyH.nil)
            go_simp
            have HWA : Hid (Below w2.heap.size w2 (w7.alloc (.cells #[.int .i64 0, .string ⟨#[]⟩, .slice none 0 0, .slice none 0 0] 25))) := HW7.out.alloc HW7.out.size _
            refine hK.out _ _ (HS5.out _ HWA.out) (fun hHeld => ?_)
            clear hK K
            try simp only [Act.put, List.getElem_toArray, List.getElem_cons_zero, List.getElem_cons_succ, List.setIfInBounds_toArray, List.set_cons_zero, List.set_cons_succ]
            refine wpAnyH_ready (rs := [15]) (by kernel_rfl) (by simp) ?_
            refine (AllReadyH.cons rfl (fun K hK => ?_) AllReadyH.nil)
            go_simp
            have HWB : Hid (Below w2.heap.size w2 (w7.alloc (.cells #[.int .i64 y.kind, .string y.cons, .slice ua y.text.length uc, .slice va y.kids.length vc] 25))) := HW7.out.alloc HW7.out.size _
            refine hK.out _ _ (HS5.out _ HWB.out) (fun hHeld => ?_)
            clear hK K
            try simp only [Act.put, List.getElem_toArray, List.getElem_cons_zero, List.getElem_cons_succ, List.setIfInBounds_toArray, List.set_cons_zero, List.set_cons_succ]
            refine wpAnyH_take (i := 16) (v := ?v25) rfl (by kernel_rfl) (by kernel_rfl) (by kernel_rfl) (fun _ _ _ h => h) (Or.inl ⟨by rfl, ?y25⟩) (by assumption) ?_
            case y25 => (intro w hSw; (try dsimp only at hSw); go_simp <;> with_reducible rfl)
            try simp only [Act.put, List.getElem_toArray, List.getElem_cons_zero, List.getElem_cons_succ, List.setIfInBounds_toArray, List.set_cons_zero, List.set_cons_succ]
            refine wpAnyH_done (by kernel_rfl) ?_ _
            have HKB : Hid (KB w2 w7.heap.size y F ua uc va vc (w7.alloc (.cells #[.int .i64 y.kind, .string y.cons, .slice ua y.text.length uc, .slice va y.kids.length vc] 25))) := ⟨HWB.out, HW7.out.size, by simp, cell_new 0 rfl, cell_new 1 rfl, cell_new 2 rfl, cell_new 3 rfl, HT7.out.1, (HT7.out.2.2.2.keep (fun b hb => Below.block (B := w7.heap.size) ((Below.refl _ _).alloc (Nat.le_refl _) _) b hb.2)).wide (fun b hb => ⟨hb.1, by simp; exact Nat.lt_succ_of_lt hb.2⟩), (HT7.out.2.1.keep (fun b hb => Below.block (B := w7.heap.size) ((Below.refl _ _).alloc (Nat.le_refl _) _) b hb.2)).wide (fun b hb => ⟨hb.1, by simp; exact Nat.lt_succ_of_lt hb.2⟩)⟩
            obtain ⟨V, hV⟩ : ∃ V, w7.alloc (.cells #[.int .i64 y.kind, .string y.cons, .slice ua y.text.length uc, .slice va y.kids.length vc] 25) = V := ⟨_, rfl⟩
            obtain ⟨c8, hc8⟩ : ∃ c8, w7.heap.size = c8 := ⟨_, rfl⟩
            rw [hV, hc8] at HKB
            rw [hV, hc8]
            clear hHeld HWB HWA hV hc8 HT7 HW7 HTW
            have hX := HX0.out.nx HKB.out.bel
            have e0 := hX.d0
            have e1 := hX.d1
            have e2 := hX.d2
            have e3 := hX.d3
            have HCP : Hid (Calls Tryd.prog 14 #[.agg #[.int .i64 d.kind, .string d.cons, .slice dt d.text.length dtc, .slice (some ⟨b, o, none⟩) d.kids.length sc]] V (Ctop (f + F) d V)) := by
              have hbV := hX.bel
              exact copy_top (f + F) d _ (some ⟨b, o, none⟩) sc V ((HKD.out.1.keep hbV).mono hbV.size) (((HKD.out.2.1.ups (F + 1)).keep hbV).mono hbV.size)
            clear hX
            go_wp2_with (go_at_call 14; refine HCP.out.mono ?_; rintro e w9 hC9; obtain ⟨xt2, xtc2, g, lc, rfl, hQ9⟩ := put_over HX0.out HKB.out hC9 hmN HLK.out HPV.out.1 HPV.out.2; have HC9 : Hid _ := hQ9; clear hQ9 hC9)
            have hC9 := HC9.out _ rfl
            clear HC9
            obtain ⟨hF, ⟨⟨u0, k0⟩, ⟨u1, k1⟩, ⟨u2, k2⟩, ⟨u3, k3⟩, kf⟩, hN9⟩ := hC9
            refine wp_region_held_drew (S := (fun W => W.cell? ⟨w9.heap.size, 3, none⟩ = some (.slice (some ⟨g, 0, none⟩) d.kids.length lc) ∧ W.cell? ⟨pb, po, none⟩ = some (.int .i64 (m : Int)) ∧ W.cell? ⟨c8, 0, none⟩ = some (.int .i64 y.kind) ∧ W.cell? ⟨c8, 1, none⟩ = some (.string y.cons) ∧ W.cell? ⟨c8, 2, none⟩ = some (.slice ua y.text.length uc) ∧ W.cell? ⟨c8, 3, none⟩ = some (.slice va y.kids.length vc))) (by kernel_rfl) hF (fun hHeld => ?_)
            clear hF
            obtain ⟨X9, hX9⟩ : ∃ X9, (w9.alloc (.cells #[.int .i64 d.kind, .string d.cons, .slice xt2 d.text.length xtc2, .slice (some ⟨g, 0, none⟩) d.kids.length lc] 25)).drew = X9 := ⟨_, rfl⟩
            rw [hX9] at k0 k1 k2 k3 kf hN9 hHeld
            rw [hX9]
            have f0 := kf (m * 4)
            have f1 := kf (m * 4 + 1)
            have f2 := kf (m * 4 + 2)
            have f3 := kf (m * 4 + 3)
            have HN9 : Hid _ := hN9
            clear hX9 hN9 kf
            obtain ⟨c10, hc10⟩ : ∃ c10, w9.heap.size = c10 := ⟨_, rfl⟩
            rw [hc10] at HN9 hHeld
            rw [hc10]
            clear hc10
            refine wpAnyH_take (i := 0) (v := ?v26) rfl (by kernel_rfl) (by kernel_rfl) (by kernel_rfl) (fun _ _ _ h => h) (Or.inl ⟨by rfl, ?y26⟩) (by assumption) ?_
            case y26 => (intro w hSw; (try dsimp only at hSw); go_simp <;> with_reducible rfl)
            try simp only [Act.put, List.getElem_toArray, List.getElem_cons_zero, List.setIfInBounds_toArray, List.set_cons_zero, List.set_cons_succ]
            refine wpAnyH_take (i := 1) (v := ?v27) rfl (by kernel_rfl) (by kernel_rfl) (by kernel_rfl) (fun _ _ _ h => h) (Or.inl ⟨by rfl, ?y27⟩) (by assumption) ?_
            case y27 => (intro w hSw; (try dsimp only at hSw); go_simp <;> with_reducible rfl)
            try simp only [Act.put, List.getElem_toArray, List.getElem_cons_zero, List.getElem_cons_succ, List.setIfInBounds_toArray, List.set_cons_zero, List.set_cons_succ]
            refine wpAnyH_take (i := 2) (v := ?v28) rfl (by kernel_rfl) (by kernel_rfl) (by kernel_rfl) (fun _ _ _ h => h) (Or.inl ⟨by rfl, ?y28⟩) (by assumption) ?_
            case y28 => (intro w hSw; (try dsimp only at hSw); go_simp <;> with_reducible rfl)
            try simp only [Act.put, List.getElem_toArray, List.getElem_cons_zero, List.getElem_cons_succ, List.setIfInBounds_toArray, List.set_cons_zero, List.set_cons_succ]
            refine wpAnyH_take (i := 3) (v := ?v29) rfl (by kernel_rfl) (by kernel_rfl) (by kernel_rfl) (fun _ _ _ h => h) (Or.inl ⟨by rfl, ?y29⟩) (by assumption) ?_
            case y29 => (intro w hSw; (try dsimp only at hSw); go_simp <;> with_reducible rfl)
            try simp only [Act.put, List.getElem_toArray, List.getElem_cons_zero, List.getElem_cons_succ, List.setIfInBounds_toArray, List.set_cons_zero, List.set_cons_succ]
            refine wpAnyH_take (i := 4) (v := ?v30) rfl (by kernel_rfl) (by kernel_rfl) (by kernel_rfl) (fun _ _ _ h => h) (Or.inl ⟨by rfl, ?y30⟩) (by assumption) ?_
            case y30 => (intro w hSw; (try dsimp only at hSw); go_simp <;> with_reducible rfl)
            try simp only [Act.put, List.getElem_toArray, List.getElem_cons_zero, List.getElem_cons_succ, List.setIfInBounds_toArray, List.set_cons_zero, List.set_cons_succ]
            refine wpAnyH_take (i := 5) (v := ?v31) rfl (by kernel_rfl) (by kernel_rfl) (by kernel_rfl) (fun _ _ _ h => h) (Or.inl ⟨by rfl, ?y31⟩) (by assumption) ?_
            case y31 => (intro w hSw; (try dsimp only at hSw); go_simp <;> with_reducible rfl)
            try simp only [Act.put, List.getElem_toArray, List.getElem_cons_zero, List.getElem_cons_succ, List.setIfInBounds_toArray, List.set_cons_zero, List.set_cons_succ]
            refine wpAnyH_take (i := 6) (v := ?v32) rfl (by kernel_rfl) (by kernel_rfl) (by kernel_rfl) (fun _ _ _ h => h) (Or.inl ⟨by rfl, ?y32⟩) (by assumption) ?_
            case y32 => (intro w hSw; (try dsimp only at hSw); go_simp <;> with_reducible rfl)
            try simp only [Act.put, List.getElem_toArray, List.getElem_cons_zero, List.getElem_cons_succ, List.setIfInBounds_toArray, List.set_cons_zero, List.set_cons_succ]
            refine wpAnyH_ready (rs := [7]) (by kernel_rfl) (by simp) ?_
            refine (AllReadyH.cons rfl (fun K hK => ?_) AllReadyH.nil)
            go_simp
            have hN9 := HN9.out _ rfl
            clear HN9
            obtain ⟨Y, hY⟩ : ∃ Y, ((((X9.setCell ⟨g, m * 4, none⟩ (.int .i64 y.kind)).setCell ⟨g, m * 4 + 1, none⟩ (.string y.cons)).setCell ⟨g, m * 4 + 2, none⟩ (.slice ua y.text.length uc)).setCell ⟨g, m * 4 + 3, none⟩ (.slice va y.kids.length vc)) = Y := ⟨_, rfl⟩
            rw [hY] at hN9
            rw [hY]
            obtain ⟨hFY, ⟨o0, o1, o2, o3⟩, ⟨r0, r1, r2, r3, rf⟩, hPP⟩ := hN9
            have HPP : Hid _ := hPP
            clear hPP hY k0 k1 k2 k3 f0 f1 f2 f3
            refine hK.out _ _ hFY (fun hHeld => ?_)
            clear hK K hFY
            try simp only [Act.put, List.getElem_toArray, List.getElem_cons_zero, List.getElem_cons_succ, List.setIfInBounds_toArray, List.set_cons_zero, List.set_cons_succ]
            refine wpAnyH_done (by kernel_rfl) ?_ _
            clear hHeld
            go_wp2
            refine bodyPost_ret (v := .tuple #[.agg #[.int .i64 d.kind, .string d.cons, .slice xt2 d.text.length xtc2, .slice (some ⟨g, 0, none⟩) d.kids.length lc], .int .i64 0]) (by simp [results, Tryd.results26, go_sem, r0, r1, r2, r3]) rfl ?_
            rw [HN.out]
            exact HPP.out
          · go_simp
            have HTW : Below w2.heap.size w2 (w2.drew.drew.alloc (.cells #[.int .i64 0, .string ⟨#[]⟩, .slice none 0 0, .slice none 0 0] 25)) := HTT.out.alloc (Nat.le_refl _) _
            refine hK.out _ _ (HS5.out _ HTW) (fun hHeld => ?_)
            clear hK K
            try simp only [Act.put, List.getElem_toArray, List.getElem_cons_zero, List.getElem_cons_succ, List.setIfInBounds_toArray, List.set_cons_zero, List.set_cons_succ]
            refine wpAnyH_ready (rs := [10]) (by kernel_rfl) (by simp) ?_
            refine (AllReadyH.cons rfl (fun K hK => ?_) AllReadyH.nil)
            go_simp
            refine (HC.out _ HTW).mono ?_
            rintro e w7 ⟨⟨F, ua, uc, va, vc, rfl, hut, hvc, htin⟩, hb7⟩
            have ez : (w2.drew.drew.alloc (.cells #[.int .i64 0, .string ⟨#[]⟩, .slice none 0 0, .slice none 0 0] 25)).heap.size = w2.heap.size + 1 := by rw [World.size_alloc]; rfl
            have z0 : w7.cell? ⟨w2.heap.size, 0, none⟩ = some (.int .i64 0) := (hb7.cell (p := ⟨w2.heap.size, 0, none⟩) (by rw [ez]; exact Nat.lt_succ_self _)).trans (cell_new (w := w2.drew.drew) 0 rfl)
            have z1 : w7.cell? ⟨w2.heap.size, 1, none⟩ = some (.string ⟨#[]⟩) := (hb7.cell (p := ⟨w2.heap.size, 1, none⟩) (by rw [ez]; exact Nat.lt_succ_self _)).trans (cell_new (w := w2.drew.drew) 1 rfl)
            have z2 : w7.cell? ⟨w2.heap.size, 2, none⟩ = some (.slice none 0 0) := (hb7.cell (p := ⟨w2.heap.size, 2, none⟩) (by rw [ez]; exact Nat.lt_succ_self _)).trans (cell_new (w := w2.drew.drew) 2 rfl)
            have z3 : w7.cell? ⟨w2.heap.size, 3, none⟩ = some (.slice none 0 0) := (hb7.cell (p := ⟨w2.heap.size, 3, none⟩) (by rw [ez]; exact Nat.lt_succ_self _)).trans (cell_new (w := w2.drew.drew) 3 rfl)
            have fz : ∀ q, w7.frozen? ⟨w2.heap.size, q, none⟩ = false := fun q => (hb7.frozen (p := ⟨w2.heap.size, q, none⟩) (by rw [ez]; exact Nat.lt_succ_self _)).trans (World.frozen?_alloc_at _ _ _ _ rfl)
            have fz0 := fz 0
            have fz1 := fz 1
            have fz2 := fz 2
            have fz3 := fz 3
            have HW7 : Hid (Below w2.heap.size w2 w7) := below_of HTW hb7
            have HKB : Hid (KB w2 w2.heap.size y F ua uc va vc ((((w7.setCell ⟨w2.heap.size, 0, none⟩ (.int .i64 y.kind)).setCell ⟨w2.heap.size, 1, none⟩ (.string y.cons)).setCell ⟨w2.heap.size, 2, none⟩ (.slice ua y.text.length uc)).setCell ⟨w2.heap.size, 3, none⟩ (.slice va y.kids.length vc))) := KB.of_set HW7.out (Nat.le_refl _) (by have := hb7.size; omega) z0 z1 z2 z3 hvc (hut.wide (fun b hb => ⟨by rw [← ez]; exact hb.1, hb.2⟩)) (htin.wide (fun b hb => ⟨by rw [← ez]; exact hb.1, hb.2⟩))
            clear hvc htin hb7 fz ez hut
            go_wp2_with fail
            refine hK.out _ _ (HS5.out _ HW7.out) (fun hHeld => ?_)
            clear hK K
            try simp only [Act.put, List.getElem_toArray, List.getElem_cons_zero, List.getElem_cons_succ, List.setIfInBounds_toArray, List.set_cons_zero, List.set_cons_succ]
            refine wpAnyH_take (i := 11) (v := ?v33) rfl (by kernel_rfl) (by kernel_rfl) (by kernel_rfl) (fun _ _ _ h => h) (Or.inl ⟨by rfl, ?y33⟩) (by assumption) ?_
            case y33 => (intro w hSw; (try dsimp only at hSw); go_simp <;> with_reducible rfl)
            try simp only [Act.put, List.getElem_toArray, List.getElem_cons_zero, List.getElem_cons_succ, List.setIfInBounds_toArray, List.set_cons_zero, List.set_cons_succ]
            refine wpAnyH_take (i := 12) (v := ?v34) rfl (by kernel_rfl) (by kernel_rfl) (by kernel_rfl) (fun _ _ _ h => h) (Or.inl ⟨by rfl, ?y34⟩) (by assumption) ?_
            case y34 => (intro w hSw; (try dsimp only at hSw); go_simp <;> with_reducible rfl)
            try simp only [Act.put, List.getElem_toArray, List.getElem_cons_zero, List.getElem_cons_succ, List.setIfInBounds_toArray, List.set_cons_zero, List.set_cons_succ]
            refine wpAnyH_take (i := 13) (v := ?v35) rfl (by kernel_rfl) (by kernel_rfl) (by kernel_rfl) (fun _ _ _ h => h) (Or.inl ⟨by rfl, ?y35⟩) (by assumption) ?_
            case y35 => (intro w hSw; (try dsimp only at hSw); go_simp <;> with_reducible rfl)
            try simp only [Act.put, List.getElem_toArray, List.getElem_cons_zero, List.getElem_cons_succ, List.setIfInBounds_toArray, List.set_cons_zero, List.set_cons_succ]
            refine wpAnyH_ready (rs := [15]) (by kernel_rfl) (by simp) ?_
            refine (AllReadyH.cons rfl (fun K hK => ?_) AllReadyH.nil)
            go_simp
            refine hK.out _ _ (HS5.out _ HKB.out.bel) (fun hHeld => ?_)
            clear hK K
            try simp only [Act.put, List.getElem_toArray, List.getElem_cons_zero, List.getElem_cons_succ, List.setIfInBounds_toArray, List.set_cons_zero, List.set_cons_succ]
            refine wpAnyH_take (i := 16) (v := ?v36) rfl (by kernel_rfl) (by kernel_rfl) (by kernel_rfl) (fun _ _ _ h => h) (Or.inl ⟨by rfl, ?y36⟩) (by assumption) ?_
            case y36 => (intro w hSw; (try dsimp only at hSw); go_simp <;> with_reducible rfl)
            try simp only [Act.put, List.getElem_toArray, List.getElem_cons_zero, List.getElem_cons_succ, List.setIfInBounds_toArray, List.set_cons_zero, List.set_cons_succ]
            refine wpAnyH_done (by kernel_rfl) ?_ _
            obtain ⟨V, hV⟩ : ∃ V, ((((w7.setCell ⟨w2.heap.size, 0, none⟩ (.int .i64 y.kind)).setCell ⟨w2.heap.size, 1, none⟩ (.string y.cons)).setCell ⟨w2.heap.size, 2, none⟩ (.slice ua y.text.length uc)).setCell ⟨w2.heap.size, 3, none⟩ (.slice va y.kids.length vc)) = V := ⟨_, rfl⟩
            obtain ⟨c8, hc8⟩ : ∃ c8, c8 = w2.heap.size := ⟨_, rfl⟩
            have HKC : Hid (KB w2 c8 y F ua uc va vc V) := by show KB _ _ _ _ _ _ _ _ _; rw [hc8, ← hV]; exact HKB.out
            clear HKB
            have HKB : Hid _ := HKC.out
            rw [hV, ← hc8]
            clear hHeld hV hc8 HKC HW7 HTW z0 z1 z2 z3 fz0 fz1 fz2 fz3
            have hX := HX0.out.nx HKB.out.bel
            have e0 := hX.d0
            have e1 := hX.d1
            have e2 := hX.d2
            have e3 := hX.d3
            have HCP : Hid (Calls Tryd.prog 14 #[.agg #[.int .i64 d.kind, .string d.cons, .slice dt d.text.length dtc, .slice (some ⟨b, o, none⟩) d.kids.length sc]] V (Ctop (f + F) d V)) := by
              have hbV := hX.bel
              exact copy_top (f + F) d _ (some ⟨b, o, none⟩) sc V ((HKD.out.1.keep hbV).mono hbV.size) (((HKD.out.2.1.ups (F + 1)).keep hbV).mono hbV.size)
            clear hX
            go_wp2_with (go_at_call 14; refine HCP.out.mono ?_; rintro e w9 hC9; obtain ⟨xt2, xtc2, g, lc, rfl, hQ9⟩ := put_over HX0.out HKB.out hC9 hmN HLK.out HPV.out.1 HPV.out.2; have HC9 : Hid _ := hQ9; clear hQ9 hC9)
            have hC9 := HC9.out _ rfl
            clear HC9
            obtain ⟨hF, ⟨⟨u0, k0⟩, ⟨u1, k1⟩, ⟨u2, k2⟩, ⟨u3, k3⟩, kf⟩, hN9⟩ := hC9
            refine wp_region_held_drew (S := (fun W => W.cell? ⟨w9.heap.size, 3, none⟩ = some (.slice (some ⟨g, 0, none⟩) d.kids.length lc) ∧ W.cell? ⟨pb, po, none⟩ = some (.int .i64 (m : Int)) ∧ W.cell? ⟨c8, 0, none⟩ = some (.int .i64 y.kind) ∧ W.cell? ⟨c8, 1, none⟩ = some (.string y.cons) ∧ W.cell? ⟨c8, 2, none⟩ = some (.slice ua y.text.length uc) ∧ W.cell? ⟨c8, 3, none⟩ = some (.slice va y.kids.length vc))) (by kernel_rfl) hF (fun hHeld => ?_)
            clear hF
            obtain ⟨X9, hX9⟩ : ∃ X9, (w9.alloc (.cells #[.int .i64 d.kind, .string d.cons, .slice xt2 d.text.length xtc2, .slice (some ⟨g, 0, none⟩) d.kids.length lc] 25)).drew = X9 := ⟨_, rfl⟩
            rw [hX9] at k0 k1 k2 k3 kf hN9 hHeld
            rw [hX9]
            have f0 := kf (m * 4)
            have f1 := kf (m * 4 + 1)
            have f2 := kf (m * 4 + 2)
            have f3 := kf (m * 4 + 3)
            have HN9 : Hid _ := hN9
            clear hX9 hN9 kf
            obtain ⟨c10, hc10⟩ : ∃ c10, w9.heap.size = c10 := ⟨_, rfl⟩
            rw [hc10] at HN9 hHeld
            rw [hc10]
            clear hc10
            refine wpAnyH_take (i := 0) (v := ?v37) rfl (by kernel_rfl) (by kernel_rfl) (by kernel_rfl) (fun _ _ _ h => h) (Or.inl ⟨by rfl, ?y37⟩) (by assumption) ?_
            case y37 => (intro w hSw; (try dsimp only at hSw); go_simp <;> with_reducible rfl)
            try simp only [Act.put, List.getElem_toArray, List.getElem_cons_zero, List.setIfInBounds_toArray, List.set_cons_zero, List.set_cons_succ]
            refine wpAnyH_take (i := 1) (v := ?v38) rfl (by kernel_rfl) (by kernel_rfl) (by kernel_rfl) (fun _ _ _ h => h) (Or.inl ⟨by rfl, ?y38⟩) (by assumption) ?_
            case y38 => (intro w hSw; (try dsimp only at hSw); go_simp <;> with_reducible rfl)
            try simp only [Act.put, List.getElem_toArray, List.getElem_cons_zero, List.getElem_cons_succ, List.setIfInBounds_toArray, List.set_cons_zero, List.set_cons_succ]
            refine wpAnyH_take (i := 2) (v := ?v39) rfl (by kernel_rfl) (by kernel_rfl) (by kernel_rfl) (fun _ _ _ h => h) (Or.inl ⟨by rfl, ?y39⟩) (by assumption) ?_
            case y39 => (intro w hSw; (try dsimp only at hSw); go_simp <;> with_reducible rfl)
            try simp only [Act.put, List.getElem_toArray, List.getElem_cons_zero, List.getElem_cons_succ, List.setIfInBounds_toArray, List.set_cons_zero, List.set_cons_succ]
            refine wpAnyH_take (i := 3) (v := ?v40) rfl (by kernel_rfl) (by kernel_rfl) (by kernel_rfl) (fun _ _ _ h => h) (Or.inl ⟨by rfl, ?y40⟩) (by assumption) ?_
            case y40 => (intro w hSw; (try dsimp only at hSw); go_simp <;> with_reducible rfl)
            try simp only [Act.put, List.getElem_toArray, List.getElem_cons_zero, List.getElem_cons_succ, List.setIfInBounds_toArray, List.set_cons_zero, List.set_cons_succ]
            refine wpAnyH_take (i := 4) (v := ?v41) rfl (by kernel_rfl) (by kernel_rfl) (by kernel_rfl) (fun _ _ _ h => h) (Or.inl ⟨by rfl, ?y41⟩) (by assumption) ?_
            case y41 => (intro w hSw; (try dsimp only at hSw); go_simp <;> with_reducible rfl)
            try simp only [Act.put, List.getElem_toArray, List.getElem_cons_zero, List.getElem_cons_succ, List.setIfInBounds_toArray, List.set_cons_zero, List.set_cons_succ]
            refine wpAnyH_take (i := 5) (v := ?v42) rfl (by kernel_rfl) (by kernel_rfl) (by kernel_rfl) (fun _ _ _ h => h) (Or.inl ⟨by rfl, ?y42⟩) (by assumption) ?_
            case y42 => (intro w hSw; (try dsimp only at hSw); go_simp <;> with_reducible rfl)
            try simp only [Act.put, List.getElem_toArray, List.getElem_cons_zero, List.getElem_cons_succ, List.setIfInBounds_toArray, List.set_cons_zero, List.set_cons_succ]
            refine wpAnyH_take (i := 6) (v := ?v43) rfl (by kernel_rfl) (by kernel_rfl) (by kernel_rfl) (fun _ _ _ h => h) (Or.inl ⟨by rfl, ?y43⟩) (by assumption) ?_
            case y43 => (intro w hSw; (try dsimp only at hSw); go_simp <;> with_reducible rfl)
            try simp only [Act.put, List.getElem_toArray, List.getElem_cons_zero, List.getElem_cons_succ, List.setIfInBounds_toArray, List.set_cons_zero, List.set_cons_succ]
            refine wpAnyH_ready (rs := [7]) (by kernel_rfl) (by simp) ?_
            refine (AllReadyH.cons rfl (fun K hK => ?_) AllReadyH.nil)
            go_simp
            have hN9 := HN9.out _ rfl
            clear HN9
            obtain ⟨Y, hY⟩ : ∃ Y, ((((X9.setCell ⟨g, m * 4, none⟩ (.int .i64 y.kind)).setCell ⟨g, m * 4 + 1, none⟩ (.string y.cons)).setCell ⟨g, m * 4 + 2, none⟩ (.slice ua y.text.length uc)).setCell ⟨g, m * 4 + 3, none⟩ (.slice va y.kids.length vc)) = Y := ⟨_, rfl⟩
            rw [hY] at hN9
            rw [hY]
            obtain ⟨hFY, ⟨o0, o1, o2, o3⟩, ⟨r0, r1, r2, r3, rf⟩, hPP⟩ := hN9
            have HPP : Hid _ := hPP
            clear hPP hY k0 k1 k2 k3 f0 f1 f2 f3
            refine hK.out _ _ hFY (fun hHeld => ?_)
            clear hK K hFY
            try simp only [Act.put, List.getElem_toArray, List.getElem_cons_zero, List.getElem_cons_succ, List.setIfInBounds_toArray, List.set_cons_zero, List.set_cons_succ]
            refine wpAnyH_done (by kernel_rfl) ?_ _
            clear hHeld
            go_wp2
            refine bodyPost_ret (v := .tuple #[.agg #[.int .i64 d.kind, .string d.cons, .slice xt2 d.text.length xtc2, .slice (some ⟨g, 0, none⟩) d.kids.length lc], .int .i64 0]) (by simp [results, Tryd.results26, go_sem, r0, r1, r2, r3]) rfl ?_
            rw [HN.out]
            exact HPP.out
end Go.Proofs.YtlkcadibjmfmcaaDoor

/- The law TermsPut, walked. -/
namespace Go.Proofs.YtlkcadibjmfmcaaDoor
open Go.RowKit

/-- A term in a box. -/
structure Bx (d : Tm) (n : Nat) (ta : Option Addr) (tc : Nat) (sa : Option Addr) (sc : Nat) (W : World) : Prop where
  c0 : W.cell? ⟨n, 0, none⟩ = some (.int .i64 d.kind)
  c1 : W.cell? ⟨n, 1, none⟩ = some (.string d.cons)
  c2 : W.cell? ⟨n, 2, none⟩ = some (.slice ta d.text.length tc)
  c3 : W.cell? ⟨n, 3, none⟩ = some (.slice sa d.kids.length sc)
  ka : TA W d ta tc sa sc
  lt : n < W.heap.size
section
variable {d : Tm} {n : Nat} {ta : Option Addr} {tc : Nat} {sa : Option Addr} {sc : Nat} {W W' : World}
theorem Bx.nx (hb : Below W.heap.size W W') (h : Bx d n ta tc sa sc W) : Bx d n ta tc sa sc W' := by
  have k : ∀ q, W'.cell? ⟨n, q, none⟩ = W.cell? ⟨n, q, none⟩ := fun q => hb.cell (p := ⟨n, q, none⟩) h.lt
  exact ⟨(k 0).trans h.c0, (k 1).trans h.c1, (k 2).trans h.c2, (k 3).trans h.c3, h.ka.nx hb, Nat.lt_of_lt_of_le h.lt hb.size⟩
theorem Bx.nx' (h : Bx d n ta tc sa sc W) (hb : Below W.heap.size W W') : Bx d n ta tc sa sc W' := h.nx hb
theorem Bx.facts (h : Bx d n ta tc sa sc W) : W.cell? ⟨n, 0, none⟩ = some (.int .i64 d.kind) ∧ W.cell? ⟨n, 1, none⟩ = some (.string d.cons) ∧ W.cell? ⟨n, 2, none⟩ = some (.slice ta d.text.length tc) ∧ W.cell? ⟨n, 3, none⟩ = some (.slice sa d.kids.length sc) := ⟨h.c0, h.c1, h.c2, h.c3⟩
theorem al_below (W : World) (o : Obj) : Below W.heap.size W (W.alloc o) := (Below.refl _ _).alloc (Nat.le_refl _) _
theorem Bx.start (h : TA W d ta tc sa sc) : Bx d W.heap.size ta tc sa sc (W.alloc (.cells #[.int .i64 d.kind, .string d.cons, .slice ta d.text.length tc, .slice sa d.kids.length sc] 25)) :=
  ⟨cell_new 0 rfl, cell_new 1 rfl, cell_new 2 rfl, cell_new 3 rfl, h.nx (al_below _ _), by simp⟩
end
theorem at_s {x y : Tm} {ps : List Int} {W : World} {ta : Option Addr} {tc : Nat} {sa : Option Addr} {sc : Nat} (pa : Option Addr) (pc n : Nat) (h : TA W x ta tc sa sc) (hp : IAt W W.heap.size pa ps) (hn : ps.length = n) (hpl : n ≤ 1000000) (hz : sz x ≤ 1000000) (hy : atP x ps = some y) :
    Calls Tryd.prog 23 #[.agg #[.int .i64 x.kind, .string x.cons, .slice ta x.text.length tc, .slice sa x.kids.length sc], .slice pa n pc] W fun e w' => (∃ ua uc va vc, e = .returned (.tuple #[.agg #[.int .i64 y.kind, .string y.cons, .slice ua y.text.length uc, .slice va y.kids.length vc], .int .i64 0]) ∧ TA w' y ua uc va vc) ∧ Below W.heap.size W w' := by
  obtain ⟨f, hf⟩ := h.mat
  have := at_any x ta tc sa sc f ps pa pc W h.txt hf h.sc' (by omega) hp (by omega)
  rw [hy, hn] at this
  refine this.mono ?_
  rintro e w' ⟨⟨F, ua, uc, va, vc, rfl, h1, h2, h3⟩, hb⟩
  exact ⟨⟨ua, uc, va, vc, rfl, TA.of (fun b hb => hb.2) h2 h3 h1⟩, hb⟩
theorem at_n {x : Tm} {ps : List Int} {W : World} {ta : Option Addr} {tc : Nat} {sa : Option Addr} {sc : Nat} (pa : Option Addr) (pc n : Nat) (h : TA W x ta tc sa sc) (hp : IAt W W.heap.size pa ps) (hn : ps.length = n) (hpl : n ≤ 1000000) (hz : sz x ≤ 1000000) (hy : atP x ps = none) :
    Calls Tryd.prog 23 #[.agg #[.int .i64 x.kind, .string x.cons, .slice ta x.text.length tc, .slice sa x.kids.length sc], .slice pa n pc] W fun e w' => (∃ ua uc, e = .returned (.tuple #[.agg #[.int .i64 0, .string ⟨#[]⟩, .slice ua 0 uc, .slice none 0 0], .int .i64 4])) ∧ Below W.heap.size W w' := by
  obtain ⟨f, hf⟩ := h.mat
  have := at_any x ta tc sa sc f ps pa pc W h.txt hf h.sc' (by omega) hp (by omega)
  rw [hy, hn] at this
  exact this
theorem put_s {x s y : Tm} {ps : List Int} {W : World} {ta : Option Addr} {tc : Nat} {sa : Option Addr} {sc : Nat} {tb : Option Addr} {td : Nat} {sb : Option Addr} {sd : Nat} (pa : Option Addr) (pc n : Nat) (h : TA W x ta tc sa sc) (hs : TA W s tb td sb sd) (hp : IAt W W.heap.size pa ps) (hn : ps.length = n) (hpl : n ≤ 1000000) (hz : sz x + sz s ≤ 1000000) (hy : putP x ps s = some y) :
    Calls Tryd.prog 25 #[.agg #[.int .i64 x.kind, .string x.cons, .slice ta x.text.length tc, .slice sa x.kids.length sc], .slice pa n pc, .agg #[.int .i64 s.kind, .string s.cons, .slice tb s.text.length td, .slice sb s.kids.length sd]] W fun e w' => (∃ ua uc va vc, e = .returned (.tuple #[.agg #[.int .i64 y.kind, .string y.cons, .slice ua y.text.length uc, .slice va y.kids.length vc], .int .i64 0]) ∧ TA w' y ua uc va vc) ∧ Below W.heap.size W w' := by
  obtain ⟨f, hf⟩ := h.mat
  obtain ⟨g, hg⟩ := hs.mat
  have := put_any x s ta tb tc td sa sb sc sd (f + g) ps pa pc W h.txt hs.txt (hf.ups g) h.sc' (hg.ups' f) hs.sc' (by omega) hp (by omega)
  rw [hy, hn] at this
  refine this.mono ?_
  rintro e w' ⟨⟨F, ua, uc, va, vc, rfl, h1, h2, h3⟩, hb⟩
  exact ⟨⟨ua, uc, va, vc, rfl, TA.of (fun b hb => hb.2) h2 h3 h1⟩, hb⟩
theorem put_n {x s : Tm} {ps : List Int} {W : World} {ta : Option Addr} {tc : Nat} {sa : Option Addr} {sc : Nat} {tb : Option Addr} {td : Nat} {sb : Option Addr} {sd : Nat} (pa : Option Addr) (pc n : Nat) (h : TA W x ta tc sa sc) (hs : TA W s tb td sb sd) (hp : IAt W W.heap.size pa ps) (hn : ps.length = n) (hpl : n ≤ 1000000) (hz : sz x + sz s ≤ 1000000) (hy : putP x ps s = none) :
    Calls Tryd.prog 25 #[.agg #[.int .i64 x.kind, .string x.cons, .slice ta x.text.length tc, .slice sa x.kids.length sc], .slice pa n pc, .agg #[.int .i64 s.kind, .string s.cons, .slice tb s.text.length td, .slice sb s.kids.length sd]] W fun e w' => (∃ ua uc, e = .returned (.tuple #[.agg #[.int .i64 0, .string ⟨#[]⟩, .slice ua 0 uc, .slice none 0 0], .int .i64 4])) ∧ Below W.heap.size W w' := by
  obtain ⟨f, hf⟩ := h.mat
  obtain ⟨g, hg⟩ := hs.mat
  have := put_any x s ta tb tc td sa sb sc sd (f + g) ps pa pc W h.txt hs.txt (hf.ups g) h.sc' (hg.ups' f) hs.sc' (by omega) hp (by omega)
  rw [hy, hn] at this
  exact this
set_option maxRecDepth 100000 in
set_option maxHeartbeats 16000000 in
theorem termsPut_walk (a : Tm) (ta : Option Addr) (tc : Nat) (sa : Option Addr) (sc : Nat) (ps : List Int) (pa : Option Addr) (pc : Nat) (b : Tm) (tb : Option Addr) (td : Nat) (sb : Option Addr) (sd : Nat) (w : World) (hka : TA w a ta tc sa sc) (hpa : IAt w w.heap.size pa ps) (hpm : ps.length ≤ maxLen) (_ : ps.length ≤ pc) (hkb : TA w b tb td sb sd) :
    Calls Tryd.prog 9 #[.agg #[.int .i64 a.kind, .string a.cons, .slice ta a.text.length tc, .slice sa a.kids.length sc], .slice pa ps.length pc, .agg #[.int .i64 b.kind, .string b.cons, .slice tb b.text.length td, .slice sb b.kids.length sd]] w fun e w' => e = .returned (.bool true) ∧ Below w.heap.size w w' := by
  obtain ⟨w2, hw2⟩ : ∃ w2, (w.alloc (.cells #[.int .i64 a.kind, .string a.cons, .slice ta a.text.length tc, .slice sa a.kids.length sc] 25)).alloc (.cells #[.int .i64 b.kind, .string b.cons, .slice tb b.text.length td, .slice sb b.kids.length sd] 25) = w2 := ⟨_, rfl⟩
  have T0 := Tw.first hka hkb w2 hw2
  obtain ⟨e0, e1, e2, e3, g0, g1, g2, g3⟩ := T0.facts
  have HT0 : Hid _ := T0
  have HI0 : Hid (∀ W, Below w.heap.size w W → IAt W W.heap.size pa ps) := fun W hb => hpa.nx hb
  obtain ⟨n, hn⟩ : ∃ n, ps.length = n := ⟨_, rfl⟩
  have HNN : Hid _ := hn
  rw [hn] at hpm ⊢
  unfold maxLen at hpm
  clear hka hkb T0 hpa hn
  have HALV : Hid (∀ W, Calls Tryd.prog 13 #[] W fun e w' => e = .returned (.bool true) ∧ Below W.heap.size W w') := fun W => alive_any W
  have HHA : Hid (∀ W, Tw w a b ta tc sa sc tb td sb sd W → Calls Tryd.prog 12 #[.agg #[.int .i64 a.kind, .string a.cons, .slice ta a.text.length tc, .slice sa a.kids.length sc]] W fun e w' => e = .returned (.bool (decide (1000 < wt a))) ∧ Below W.heap.size W w') := fun W h => heavy_t a ta tc sa sc W h.ka
  have HHB : Hid (∀ W, Tw w a b ta tc sa sc tb td sb sd W → Calls Tryd.prog 12 #[.agg #[.int .i64 b.kind, .string b.cons, .slice tb b.text.length td, .slice sb b.kids.length sd]] W fun e w' => e = .returned (.bool (decide (1000 < wt b))) ∧ Below W.heap.size W w') := fun W h => heavy_t b tb td sb sd W h.kb
  obtain ⟨w1, hw1⟩ : ∃ w1, w.alloc (.cells #[.int .i64 a.kind, .string a.cons, .slice ta a.text.length tc, .slice sa a.kids.length sc] 25) = w1 := ⟨_, rfl⟩
  rw [hw1] at hw2
  have s1 : w1.heap.size = w.heap.size + 1 := by rw [← hw1]; simp
  by_cases ha : 1000 < wt a
  · rw [decide_eq_true ha] at HHA
    clear ha
    go_enter Tryd.func9, Tryd.ntmps9
    go_wp2_with (go_at_call 12; refine (HHA.out _ HT0.out).mono ?_; rintro e w3 ⟨rfl, hb3⟩; have HT3 : Hid _ := HT0.out.nx hb3; clear hb3)
    refine (HALV.out _).mono ?_
    rintro e w4 ⟨rfl, hb4⟩
    have HT4 : Hid _ := HT3.out.nx hb4
    clear hb4
    go_wp2
    go_ret
    exact ⟨rfl, HT4.out.bel⟩
  rw [decide_eq_false ha] at HHA
  have hszA : sz a ≤ 1000 := by have := sz_wt a; omega
  clear ha
  by_cases hb : 1000 < wt b
  · rw [decide_eq_true hb] at HHB
    clear hb
    go_enter Tryd.func9, Tryd.ntmps9
    go_wp2_with (go_at_call 12; refine (HHA.out _ HT0.out).mono ?_; rintro e w3 ⟨rfl, hb3⟩; have HT3 : Hid _ := HT0.out.nx hb3; clear hb3; obtain ⟨e0, e1, e2, e3, g0, g1, g2, g3⟩ := HT3.out.facts)
    refine (HHB.out _ HT3.out).mono ?_
    rintro e w4 ⟨rfl, hb4⟩
    have HT4 : Hid _ := HT3.out.nx hb4
    clear hb4
    go_wp2_with (go_at_call 13; refine (HALV.out _).mono ?_; rintro e w5 ⟨rfl, hb5⟩; have HT5 : Hid _ := HT4.out.nx hb5; clear hb5)
    go_ret
    exact ⟨rfl, HT5.out.bel⟩
  rw [decide_eq_false hb] at HHB
  have hszB : sz b ≤ 1000 := by have := sz_wt b; omega
  clear hb
  by_cases hl : 1000 < n
  · have hlI : (1000 : Int) < (n : Int) := by omega
    clear hl
    go_enter Tryd.func9, Tryd.ntmps9
    go_wp2_with (go_at_call 12; refine (HHA.out _ HT0.out).mono ?_; rintro e w3 ⟨rfl, hb3⟩; have HT3 : Hid _ := HT0.out.nx hb3; clear hb3; obtain ⟨e0, e1, e2, e3, g0, g1, g2, g3⟩ := HT3.out.facts)
    refine (HHB.out _ HT3.out).mono ?_
    rintro e w4 ⟨rfl, hb4⟩
    have HT4 : Hid _ := HT3.out.nx hb4
    clear hb4
    go_wp2_with (go_at_call 13; refine (HALV.out _).mono ?_; rintro e w5 ⟨rfl, hb5⟩; have HT5 : Hid _ := HT4.out.nx hb5; clear hb5)
    go_ret
    exact ⟨rfl, HT5.out.bel⟩
  have hlI : ¬ (1000 : Int) < (n : Int) := by omega
  have HPL : Hid (n ≤ 1000000) := by show _ ≤ _; omega
  have HSZ : Hid (sz a ≤ 1000 ∧ sz b ≤ 1000) := ⟨hszA, hszB⟩
  clear hl hpm hszA hszB
  cases hq : atP a ps with
  | none =>
    have HN1 : Hid _ := hq
    have HN2 : Hid _ := putP_none b hq
    clear hq
    go_enter Tryd.func9, Tryd.ntmps9
    go_wp2_with (go_at_call 12; refine (HHA.out _ HT0.out).mono ?_; rintro e w3 ⟨rfl, hb3⟩; have HT3 : Hid _ := HT0.out.nx hb3; clear hb3; obtain ⟨e0, e1, e2, e3, g0, g1, g2, g3⟩ := HT3.out.facts)
    refine (HHB.out _ HT3.out).mono ?_
    rintro e w4 ⟨rfl, hb4⟩
    have HT4 : Hid _ := HT3.out.nx hb4
    clear hb4 e0 e1 e2 e3 g0 g1 g2 g3
    obtain ⟨e0, e1, e2, e3, g0, g1, g2, g3⟩ := HT4.out.facts
    go_wp2_with (go_at_call 23; refine (at_n pa pc n HT4.out.ka (HI0.out _ HT4.out.bel) HNN.out HPL.out (by have := HSZ.out.1; omega) HN1.out).mono ?_; rintro e w5 ⟨⟨u5, c5, rfl⟩, hb5⟩; have HT5 : Hid _ := (HT4.out.nx hb5).nx (al_below _ (.cells #[.int .i64 0, .string ⟨#[]⟩, .slice u5 0 c5, .slice none 0 0] 25)); clear hb5 e0 e1 e2 e3 g0 g1 g2 g3; obtain ⟨e0, e1, e2, e3, g0, g1, g2, g3⟩ := HT5.out.facts)
    refine (put_n pa pc n HT5.out.ka HT5.out.kb (HI0.out _ HT5.out.bel) HNN.out HPL.out (by have := HSZ.out.1; have := HSZ.out.2; omega) HN2.out).mono ?_
    rintro e w6 ⟨⟨u6, c6, rfl⟩, hb6⟩
    have HT6 : Hid _ := (HT5.out.nx hb6).nx (al_below _ (.cells #[.int .i64 0, .string ⟨#[]⟩, .slice u6 0 c6, .slice none 0 0] 25))
    clear hb6 e0 e1 e2 e3 g0 g1 g2 g3
    go_wp2_with (go_at_call 13; refine (HALV.out _).mono ?_; rintro e w7 ⟨rfl, hb7⟩; have HT7 : Hid _ := HT6.out.nx hb7; clear hb7)
    go_ret
    exact ⟨by simp, HT7.out.bel⟩
  | some old =>
    obtain ⟨nw, hnw⟩ := putP_some b hq
    have HN1 : Hid _ := hq
    have HN2 : Hid _ := hnw
    have HN3 : Hid _ := put_at hnw
    have HN4 : Hid _ := put_back hq hnw
    have HZ1 : Hid _ := at_sz hq
    have HZ2 : Hid _ := put_sz hnw
    clear hq hnw
    go_enter Tryd.func9, Tryd.ntmps9
    go_wp2_with (go_at_call 12; refine (HHA.out _ HT0.out).mono ?_; rintro e w3 ⟨rfl, hb3⟩; have HT3 : Hid _ := HT0.out.nx hb3; clear hb3; obtain ⟨e0, e1, e2, e3, g0, g1, g2, g3⟩ := HT3.out.facts)
    refine (HHB.out _ HT3.out).mono ?_
    rintro e w4 ⟨rfl, hb4⟩
    have HT4 : Hid _ := HT3.out.nx hb4
    clear hb4 e0 e1 e2 e3 g0 g1 g2 g3
    obtain ⟨e0, e1, e2, e3, g0, g1, g2, g3⟩ := HT4.out.facts
    go_wp2_with (go_at_call 23; refine (at_s pa pc n HT4.out.ka (HI0.out _ HT4.out.bel) HNN.out HPL.out (by have := HSZ.out.1; have := HSZ.out.2; have := HZ1.out; have := HZ2.out; omega) HN1.out).mono ?_; rintro e w5 ⟨⟨u5, k5, v5, l5, rfl, hta5⟩, hb5⟩; have HT5 : Hid _ := (HT4.out.nx hb5).nx (al_below _ (.cells #[.int .i64 old.kind, .string old.cons, .slice u5 old.text.length k5, .slice v5 old.kids.length l5] 25)); have HO5 : Hid _ := Bx.start hta5; clear hb5 hta5 e0 e1 e2 e3 g0 g1 g2 g3; obtain ⟨e0, e1, e2, e3, g0, g1, g2, g3⟩ := HT5.out.facts; obtain ⟨HOf0, HOf1, HOf2, HOf3⟩ := HO5.out.facts)
    refine (put_s pa pc n HT5.out.ka HT5.out.kb (HI0.out _ HT5.out.bel) HNN.out HPL.out (by have := HSZ.out.1; have := HSZ.out.2; have := HZ1.out; have := HZ2.out; omega) HN2.out).mono ?_
    rintro e w6 ⟨⟨u6, k6, v6, l6, rfl, hta6⟩, hb6⟩
    have HT6 : Hid _ := (HT5.out.nx hb6).nx (al_below _ (.cells #[.int .i64 nw.kind, .string nw.cons, .slice u6 nw.text.length k6, .slice v6 nw.kids.length l6] 25))
    have HO6 : Hid _ := (HO5.out.nx' hb6).nx' (al_below _ (.cells #[.int .i64 nw.kind, .string nw.cons, .slice u6 nw.text.length k6, .slice v6 nw.kids.length l6] 25))
    have HW6 : Hid _ := Bx.start hta6
    clear hb6 hta6 e0 e1 e2 e3 g0 g1 g2 g3 HOf0 HOf1 HOf2 HOf3
    obtain ⟨e0, e1, e2, e3, g0, g1, g2, g3⟩ := HT6.out.facts
    obtain ⟨HOf0, HOf1, HOf2, HOf3⟩ := HO6.out.facts
    obtain ⟨HWf0, HWf1, HWf2, HWf3⟩ := HW6.out.facts
    go_wp2_with (go_at_call 23; refine (at_s pa pc n HW6.out.ka (HI0.out _ HT6.out.bel) HNN.out HPL.out (by have := HSZ.out.1; have := HSZ.out.2; have := HZ1.out; have := HZ2.out; omega) HN3.out).mono ?_; rintro e w7 ⟨⟨u7, k7, v7, l7, rfl, hta7⟩, hb7⟩; have HT7 : Hid _ := (HT6.out.nx hb7).nx (al_below _ (.cells #[.int .i64 b.kind, .string b.cons, .slice u7 b.text.length k7, .slice v7 b.kids.length l7] 25)); have HO7 : Hid _ := (HO6.out.nx' hb7).nx' (al_below _ (.cells #[.int .i64 b.kind, .string b.cons, .slice u7 b.text.length k7, .slice v7 b.kids.length l7] 25)); have HW7 : Hid _ := (HW6.out.nx' hb7).nx' (al_below _ (.cells #[.int .i64 b.kind, .string b.cons, .slice u7 b.text.length k7, .slice v7 b.kids.length l7] 25)); have HV7 : Hid _ := Bx.start hta7; clear hb7 hta7 e0 e1 e2 e3 g0 g1 g2 g3 HOf0 HOf1 HOf2 HOf3 HWf0 HWf1 HWf2 HWf3; obtain ⟨e0, e1, e2, e3, g0, g1, g2, g3⟩ := HT7.out.facts; obtain ⟨HOf0, HOf1, HOf2, HOf3⟩ := HO7.out.facts; obtain ⟨HWf0, HWf1, HWf2, HWf3⟩ := HW7.out.facts; obtain ⟨HVf0, HVf1, HVf2, HVf3⟩ := HV7.out.facts)
    refine (put_s pa pc n HW7.out.ka HO7.out.ka (HI0.out _ HT7.out.bel) HNN.out HPL.out (by have := HSZ.out.1; have := HSZ.out.2; have := HZ1.out; have := HZ2.out; omega) HN4.out).mono ?_
    rintro e w8 ⟨⟨u8, k8, v8, l8, rfl, hta8⟩, hb8⟩
    have HT8 : Hid _ := (HT7.out.nx hb8).nx (al_below _ (.cells #[.int .i64 a.kind, .string a.cons, .slice u8 a.text.length k8, .slice v8 a.kids.length l8] 25))
    have HO8 : Hid _ := (HO7.out.nx' hb8).nx' (al_below _ (.cells #[.int .i64 a.kind, .string a.cons, .slice u8 a.text.length k8, .slice v8 a.kids.length l8] 25))
    have HW8 : Hid _ := (HW7.out.nx' hb8).nx' (al_below _ (.cells #[.int .i64 a.kind, .string a.cons, .slice u8 a.text.length k8, .slice v8 a.kids.length l8] 25))
    have HV8 : Hid _ := (HV7.out.nx' hb8).nx' (al_below _ (.cells #[.int .i64 a.kind, .string a.cons, .slice u8 a.text.length k8, .slice v8 a.kids.length l8] 25))
    have HK8 : Hid _ := Bx.start hta8
    clear hb8 hta8 e0 e1 e2 e3 g0 g1 g2 g3 HOf0 HOf1 HOf2 HOf3 HWf0 HWf1 HWf2 HWf3 HVf0 HVf1 HVf2 HVf3
    obtain ⟨e0, e1, e2, e3, g0, g1, g2, g3⟩ := HT8.out.facts
    obtain ⟨HOf0, HOf1, HOf2, HOf3⟩ := HO8.out.facts
    obtain ⟨HWf0, HWf1, HWf2, HWf3⟩ := HW8.out.facts
    obtain ⟨HVf0, HVf1, HVf2, HVf3⟩ := HV8.out.facts
    obtain ⟨HKf0, HKf1, HKf2, HKf3⟩ := HK8.out.facts
    have HSM : Hid (∀ W (x : Tm) n1 n2 xt xtc xa xc yt ytc ya yc, Bx x n1 xt xtc xa xc W → TA W x yt ytc ya yc → n2 = n1 → Calls Tryd.prog 21 #[.agg #[.int .i64 x.kind, .string x.cons, .slice xt x.text.length xtc, .slice xa x.kids.length xc], .agg #[.int .i64 x.kind, .string x.cons, .slice yt x.text.length ytc, .slice ya x.kids.length yc]] W fun e w' => e = .returned (.bool true) ∧ Below W.heap.size W w') := fun W x n1 n2 xt xtc xa xc yt ytc ya yc h1 h2 _ => by
      have := refSame_t x x xt xtc xa xc yt ytc ya yc W h1.ka h2
      rw [eqT_true rfl] at this
      exact this
    clear HOf0 HOf1 HOf2 HOf3 HWf0 HWf1 HWf2 HWf3
    go_wp2_with (go_at_call 13; refine (HALV.out _).mono ?_; rintro e w9 ⟨rfl, hb9⟩; have HT9 : Hid _ := HT8.out.nx hb9; have HV9 : Hid _ := HV8.out.nx' hb9; have HK9 : Hid _ := HK8.out.nx' hb9; clear hb9 e0 e1 e2 e3 g0 g1 g2 g3 HVf0 HVf1 HVf2 HVf3 HKf0 HKf1 HKf2 HKf3; obtain ⟨e0, e1, e2, e3, g0, g1, g2, g3⟩ := HT9.out.facts; obtain ⟨HVf0, HVf1, HVf2, HVf3⟩ := HV9.out.facts; obtain ⟨HKf0, HKf1, HKf2, HKf3⟩ := HK9.out.facts)
    refine (HSM.out _ _ _ _ _ _ _ _ _ _ _ _ HV9.out HT9.out.kb rfl).mono ?_
    rintro e w10 ⟨rfl, hb10⟩
    have HT10 : Hid _ := HT9.out.nx hb10
    have HV10 : Hid _ := HV9.out.nx' hb10
    have HK10 : Hid _ := HK9.out.nx' hb10
    clear hb10 e0 e1 e2 e3 g0 g1 g2 g3 HVf0 HVf1 HVf2 HVf3 HKf0 HKf1 HKf2 HKf3
    obtain ⟨e0, e1, e2, e3, g0, g1, g2, g3⟩ := HT10.out.facts
    obtain ⟨HVf0, HVf1, HVf2, HVf3⟩ := HV10.out.facts
    obtain ⟨HKf0, HKf1, HKf2, HKf3⟩ := HK10.out.facts
    go_wp2_with (go_at_call 21; refine (HSM.out _ _ _ _ _ _ _ _ _ _ _ _ HK10.out HT10.out.ka rfl).mono ?_; rintro e w11 ⟨rfl, hb11⟩; have HT11 : Hid _ := HT10.out.nx hb11; have HV11 : Hid _ := HV10.out.nx' hb11; have HK11 : Hid _ := HK10.out.nx' hb11; clear hb11 e0 e1 e2 e3 g0 g1 g2 g3 HVf0 HVf1 HVf2 HVf3 HKf0 HKf1 HKf2 HKf3; obtain ⟨e0, e1, e2, e3, g0, g1, g2, g3⟩ := HT11.out.facts; obtain ⟨HVf0, HVf1, HVf2, HVf3⟩ := HV11.out.facts; obtain ⟨HKf0, HKf1, HKf2, HKf3⟩ := HK11.out.facts)
    go_ret
    exact ⟨by simp, HT11.out.bel⟩
end Go.Proofs.YtlkcadibjmfmcaaDoor

/- What the law TermsParts has in memory: terms in boxes, each in blocks of its own. -/
namespace Go.Proofs.YtlkcadibjmfmcaaDoor
open Go.RowKit

/-- Between two blocks. -/
def Iv (l h b : Nat) : Prop := l ≤ b ∧ b < h
/-- All is as it was, but between two blocks. -/
abbrev Sv (l h : Nat) (X Y : World) : Prop := Abx (fun b => b < X.heap.size ∧ ¬ Iv l h b) X Y
theorem Sv.of_below {l h : Nat} {X Y : World} (hb : Below X.heap.size X Y) : Sv l h X Y := ⟨hb.os, hb.tape, hb.output, hb.size, fun b hq => hb.block b hq.1⟩
/-- The two terms that were handed in, in their boxes. -/
structure Tp (w : World) (a b : Tm) (ta : Option Addr) (tc : Nat) (sa : Option Addr) (sc : Nat) (tb : Option Addr) (td : Nat) (sb : Option Addr) (sd : Nat) (W : World) : Prop where
  bel : Below w.heap.size w W
  a0 : W.cell? ⟨w.heap.size, 0, none⟩ = some (.int .i64 a.kind)
  a1 : W.cell? ⟨w.heap.size, 1, none⟩ = some (.string a.cons)
  a2 : W.cell? ⟨w.heap.size, 2, none⟩ = some (.slice ta a.text.length tc)
  a3 : W.cell? ⟨w.heap.size, 3, none⟩ = some (.slice sa a.kids.length sc)
  b0 : W.cell? ⟨w.heap.size + 1, 0, none⟩ = some (.int .i64 b.kind)
  b1 : W.cell? ⟨w.heap.size + 1, 1, none⟩ = some (.string b.cons)
  b2 : W.cell? ⟨w.heap.size + 1, 2, none⟩ = some (.slice tb b.text.length td)
  b3 : W.cell? ⟨w.heap.size + 1, 3, none⟩ = some (.slice sb b.kids.length sd)
  lt : w.heap.size + 2 ≤ W.heap.size
section
variable {w : World} {a b : Tm} {ta : Option Addr} {tc : Nat} {sa : Option Addr} {sc : Nat} {tb : Option Addr} {td : Nat} {sb : Option Addr} {sd : Nat} {X Y : World}
theorem Tp.sv {l h : Nat} (t : Tp w a b ta tc sa sc tb td sb sd X) (hs : Sv l h X Y) (hl : w.heap.size + 2 ≤ l) : Tp w a b ta tc sa sc tb td sb sd Y := by
  have hlt := t.lt
  have kb : ∀ c, c < w.heap.size + 2 → Y.heap[c]? = X.heap[c]? := fun c hc => hs.block c ⟨by omega, fun hi => by have h' : l ≤ c := hi.1; omega⟩
  have k : ∀ c q, c < w.heap.size + 2 → Y.cell? ⟨c, q, none⟩ = X.cell? ⟨c, q, none⟩ := fun c q hc => World.cell?_of_block (a := ⟨c, q, none⟩) (kb c hc)
  exact ⟨⟨hs.os.trans t.bel.os, hs.tape.trans t.bel.tape, hs.output.trans t.bel.output, Nat.le_trans t.bel.size hs.size, fun c hc => (kb c (by omega)).trans (t.bel.block c hc)⟩, (k _ _ (by omega)).trans t.a0, (k _ _ (by omega)).trans t.a1, (k _ _ (by omega)).trans t.a2, (k _ _ (by omega)).trans t.a3, (k _ _ (by omega)).trans t.b0, (k _ _ (by omega)).trans t.b1, (k _ _ (by omega)).trans t.b2, (k _ _ (by omega)).trans t.b3, Nat.le_trans hlt hs.size⟩
theorem Tp.nx (t : Tp w a b ta tc sa sc tb td sb sd X) (hb : Below X.heap.size X Y) : Tp w a b ta tc sa sc tb td sb sd Y := t.sv (l := X.heap.size + w.heap.size + 2) (h := 0) (Sv.of_below hb) (by omega)
theorem Tp.facts (t : Tp w a b ta tc sa sc tb td sb sd X) : X.cell? ⟨w.heap.size, 0, none⟩ = some (.int .i64 a.kind) ∧ X.cell? ⟨w.heap.size, 1, none⟩ = some (.string a.cons) ∧ X.cell? ⟨w.heap.size, 2, none⟩ = some (.slice ta a.text.length tc) ∧ X.cell? ⟨w.heap.size, 3, none⟩ = some (.slice sa a.kids.length sc) ∧ X.cell? ⟨w.heap.size + 1, 0, none⟩ = some (.int .i64 b.kind) ∧ X.cell? ⟨w.heap.size + 1, 1, none⟩ = some (.string b.cons) ∧ X.cell? ⟨w.heap.size + 1, 2, none⟩ = some (.slice tb b.text.length td) ∧ X.cell? ⟨w.heap.size + 1, 3, none⟩ = some (.slice sb b.kids.length sd) := ⟨t.a0, t.a1, t.a2, t.a3, t.b0, t.b1, t.b2, t.b3⟩
theorem Tp.of (t : Tw w a b ta tc sa sc tb td sb sd X) : Tp w a b ta tc sa sc tb td sb sd X := ⟨t.bel, t.a0, t.a1, t.a2, t.a3, t.b0, t.b1, t.b2, t.b3, t.lt⟩
end
/-- A term's texts and kids lie between two blocks. -/
structure Kx (d : Tm) (f : Nat) (ua : Option Addr) (uc : Nat) (va : Option Addr) (vc l h : Nat) (W : World) : Prop where
  x : Txx W (Iv l h) (.slice ua d.text.length uc) d.text
  t : MIx W (Iv l h) f va d.kids
  c : d.kids.length ≤ vc
  hi : h ≤ W.heap.size
section
variable {d : Tm} {f : Nat} {ua : Option Addr} {uc : Nat} {va : Option Addr} {vc l h l' h' : Nat} {X Y : World}
theorem Kx.sv (k : Kx d f ua uc va vc l h X) (hs : Sv l' h' X Y) (hd : h ≤ l' ∨ h' ≤ l) : Kx d f ua uc va vc l h Y := by
  have hk : ∀ b, Iv l h b → Y.heap[b]? = X.heap[b]? := fun b hb => hs.block b ⟨by have := k.hi; have := hb.2; omega, fun hi => by have h1 := hb.1; have h2 := hb.2; have h3 := hi.1; have h4 := hi.2; omega⟩
  exact ⟨k.x.keep hk, k.t.keep hk, k.c, Nat.le_trans k.hi hs.size⟩
theorem Kx.nx (k : Kx d f ua uc va vc l h X) (hb : Below X.heap.size X Y) : Kx d f ua uc va vc l h Y := k.sv (l' := h) (h' := 0) (Sv.of_below hb) (.inl (Nat.le_refl _))
theorem Kx.ta (k : Kx d f ua uc va vc l h X) : TA X d ua uc va vc := TA.of (fun _ hb => Nat.lt_of_lt_of_le hb.2 k.hi) k.c k.t k.x
end
/-- A box that holds four cells. -/
structure Zb (c : Nat) (u v x y : Value) (W : World) : Prop where
  z0 : W.cell? ⟨c, 0, none⟩ = some u
  z1 : W.cell? ⟨c, 1, none⟩ = some v
  z2 : W.cell? ⟨c, 2, none⟩ = some x
  z3 : W.cell? ⟨c, 3, none⟩ = some y
  lt : c < W.heap.size
section
variable {c : Nat} {u v x y : Value} {X Y : World}
theorem Zb.sv {l h : Nat} (z : Zb c u v x y X) (hs : Sv l h X Y) (hd : c < l ∨ h ≤ c) : Zb c u v x y Y := by
  have hB := hs.block c ⟨z.lt, fun hi => by have h1 := hi.1; have h2 := hi.2; omega⟩
  have k : ∀ q, Y.cell? ⟨c, q, none⟩ = X.cell? ⟨c, q, none⟩ := fun q => World.cell?_of_block (a := ⟨c, q, none⟩) hB
  exact ⟨(k 0).trans z.z0, (k 1).trans z.z1, (k 2).trans z.z2, (k 3).trans z.z3, Nat.lt_of_lt_of_le z.lt hs.size⟩
theorem Zb.nx (z : Zb c u v x y X) (hb : Below X.heap.size X Y) : Zb c u v x y Y := z.sv (l := c + 1) (h := 0) (Sv.of_below hb) (.inl (by omega))
theorem Zb.new (X : World) (u v x y : Value) : Zb X.heap.size u v x y (X.alloc (.cells #[u, v, x, y] 25)) := ⟨cell_new 0 rfl, cell_new 1 rfl, cell_new 2 rfl, cell_new 3 rfl, by simp⟩
end
/-- A term in a box. -/
abbrev Zt (c : Nat) (d : Tm) (ua : Option Addr) (uc : Nat) (va : Option Addr) (vc : Nat) (W : World) : Prop := Zb c (.int .i64 d.kind) (.string d.cons) (.slice ua d.text.length uc) (.slice va d.kids.length vc) W
def zeroM : Tm := .mk 0 ⟨#[]⟩ [] []
/-- What is told of a part that may be none, in one form. -/
def codeOf : Option Tm → Int | some _ => 0 | none => 4
theorem apost_one {w : World} {q : Option Tm} {e : Ending} {w' : World} (h : OPost w q e w') : ∃ F ua uc va vc, e = .returned (.tuple #[.agg #[.int .i64 (q.getD zeroM).kind, .string (q.getD zeroM).cons, .slice ua (q.getD zeroM).text.length uc, .slice va (q.getD zeroM).kids.length vc], .int .i64 (codeOf q)]) ∧ Kx (q.getD zeroM) F ua uc va vc w.heap.size w'.heap.size w' ∧ Below w.heap.size w w' := by
  cases q with
  | none =>
    obtain ⟨⟨ua, uc, he⟩, hb⟩ := h
    exact ⟨0, ua, uc, none, 0, he, ⟨⟨ua, uc, rfl, Nat.zero_le _, Nat.zero_le _, fun i c hi => by cases hi⟩, rfl, Nat.le_refl _, Nat.le_refl _⟩, hb⟩
  | some x =>
    obtain ⟨⟨F, ua, uc, va, vc, rfl, hx, hvc, ht⟩, hb⟩ := h
    exact ⟨F, ua, uc, va, vc, rfl, ⟨hx, ht, hvc, Nat.le_refl _⟩, hb⟩
/-- A term is spoiled: nothing but its own blocks is written. -/
theorem spoil_kx {d : Tm} {f : Nat} {ua : Option Addr} {uc : Nat} {va : Option Addr} {vc l h : Nat} {W : World} (k : Kx d f ua uc va vc l h W) :
    Calls Tryd.prog 27 #[.agg #[.int .i64 d.kind, .string d.cons, .slice ua d.text.length uc, .slice va d.kids.length vc]] W fun e w' => (∃ v, e = .returned v) ∧ Sv l h W w' :=
  spoil_in (S := Iv l h) (fun _ hb => Nat.lt_of_lt_of_le hb.2 k.hi) d ua uc va vc f k.x k.t
end Go.Proofs.YtlkcadibjmfmcaaDoor

/- The law TermsParts, walked. -/
namespace Go.Proofs.YtlkcadibjmfmcaaDoor
open Go.RowKit

set_option maxRecDepth 100000 in
set_option maxHeartbeats 16000000 in
theorem termsParts_walk (a : Tm) (ta : Option Addr) (tc : Nat) (sa : Option Addr) (sc : Nat) (ps : List Int) (pa : Option Addr) (pc : Nat) (b : Tm) (tb : Option Addr) (td : Nat) (sb : Option Addr) (sd : Nat) (w : World) (hka : TA w a ta tc sa sc) (hpa : IAt w w.heap.size pa ps) (hpm : ps.length ≤ maxLen) (hpcc : ps.length ≤ pc) (hkb : TA w b tb td sb sd) :
    Calls Tryd.prog 5 #[.agg #[.int .i64 a.kind, .string a.cons, .slice ta a.text.length tc, .slice sa a.kids.length sc], .slice pa ps.length pc, .agg #[.int .i64 b.kind, .string b.cons, .slice tb b.text.length td, .slice sb b.kids.length sd]] w fun e w' => e = .returned (.bool true) ∧ Below w.heap.size w w' := by
  obtain ⟨w2, hw2⟩ : ∃ w2, (w.alloc (.cells #[.int .i64 a.kind, .string a.cons, .slice ta a.text.length tc, .slice sa a.kids.length sc] 25)).alloc (.cells #[.int .i64 b.kind, .string b.cons, .slice tb b.text.length td, .slice sb b.kids.length sd] 25) = w2 := ⟨_, rfl⟩
  have T0 := Tw.first hka hkb w2 hw2
  obtain ⟨e0, e1, e2, e3, g0, g1, g2, g3⟩ := T0.facts
  have HT0 : Hid _ := T0
  have HI0 : Hid (∀ W, Below w.heap.size w W → IAt W W.heap.size pa ps) := fun W hb => hpa.nx hb
  obtain ⟨n, hn⟩ : ∃ n, ps.length = n := ⟨_, rfl⟩
  have HNN : Hid _ := hn
  rw [hn] at hpm ⊢
  unfold maxLen at hpm
  have HKA : Hid (∀ W, Below w.heap.size w W → TA W a ta tc sa sc) := fun W hb => hka.nx hb
  have HKB : Hid (∀ W, Below w.heap.size w W → TA W b tb td sb sd) := fun W hb => hkb.nx hb
  have HPCC : Hid _ := hpcc
  clear hka hkb T0 hpa hn hpcc
  have HALV : Hid (∀ W, Calls Tryd.prog 13 #[] W fun e w' => e = .returned (.bool true) ∧ Below W.heap.size W w') := fun W => alive_any W
  have HHA : Hid (∀ W, Tw w a b ta tc sa sc tb td sb sd W → Calls Tryd.prog 12 #[.agg #[.int .i64 a.kind, .string a.cons, .slice ta a.text.length tc, .slice sa a.kids.length sc]] W fun e w' => e = .returned (.bool (decide (1000 < wt a))) ∧ Below W.heap.size W w') := fun W h => heavy_t a ta tc sa sc W h.ka
  have HHB : Hid (∀ W, Tw w a b ta tc sa sc tb td sb sd W → Calls Tryd.prog 12 #[.agg #[.int .i64 b.kind, .string b.cons, .slice tb b.text.length td, .slice sb b.kids.length sd]] W fun e w' => e = .returned (.bool (decide (1000 < wt b))) ∧ Below W.heap.size W w') := fun W h => heavy_t b tb td sb sd W h.kb
  obtain ⟨w1, hw1⟩ : ∃ w1, w.alloc (.cells #[.int .i64 a.kind, .string a.cons, .slice ta a.text.length tc, .slice sa a.kids.length sc] 25) = w1 := ⟨_, rfl⟩
  rw [hw1] at hw2
  have s1 : w1.heap.size = w.heap.size + 1 := by rw [← hw1]; simp
  by_cases ha : 1000 < wt a
  · rw [decide_eq_true ha] at HHA
    clear ha
    go_enter Tryd.func5, Tryd.ntmps5
    go_wp2_with (go_at_call 12; refine (HHA.out _ HT0.out).mono ?_; rintro e w3 ⟨rfl, hb3⟩; have HT3 : Hid _ := HT0.out.nx hb3; clear hb3)
    refine (HALV.out _).mono ?_
    rintro e w4 ⟨rfl, hb4⟩
    have HT4 : Hid _ := HT3.out.nx hb4
    clear hb4
    go_wp2
    go_ret
    exact ⟨rfl, HT4.out.bel⟩
  rw [decide_eq_false ha] at HHA
  have hszA : sz a ≤ 1000 := by have := sz_wt a; omega
  clear ha
  by_cases hb : 1000 < wt b
  · rw [decide_eq_true hb] at HHB
    clear hb
    go_enter Tryd.func5, Tryd.ntmps5
    go_wp2_with (go_at_call 12; refine (HHA.out _ HT0.out).mono ?_; rintro e w3 ⟨rfl, hb3⟩; have HT3 : Hid _ := HT0.out.nx hb3; clear hb3; obtain ⟨e0, e1, e2, e3, g0, g1, g2, g3⟩ := HT3.out.facts)
    refine (HHB.out _ HT3.out).mono ?_
    rintro e w4 ⟨rfl, hb4⟩
    have HT4 : Hid _ := HT3.out.nx hb4
    clear hb4
    go_wp2_with (go_at_call 13; refine (HALV.out _).mono ?_; rintro e w5 ⟨rfl, hb5⟩; have HT5 : Hid _ := HT4.out.nx hb5; clear hb5)
    go_ret
    exact ⟨rfl, HT5.out.bel⟩
  rw [decide_eq_false hb] at HHB
  have hszB : sz b ≤ 1000 := by have := sz_wt b; omega
  clear hb
  by_cases hl : 1000 < n
  · have hlI : (1000 : Int) < (n : Int) := by omega
    clear hl
    go_enter Tryd.func5, Tryd.ntmps5
    go_wp2_with (go_at_call 12; refine (HHA.out _ HT0.out).mono ?_; rintro e w3 ⟨rfl, hb3⟩; have HT3 : Hid _ := HT0.out.nx hb3; clear hb3; obtain ⟨e0, e1, e2, e3, g0, g1, g2, g3⟩ := HT3.out.facts)
    refine (HHB.out _ HT3.out).mono ?_
    rintro e w4 ⟨rfl, hb4⟩
    have HT4 : Hid _ := HT3.out.nx hb4
    clear hb4
    go_wp2_with (go_at_call 13; refine (HALV.out _).mono ?_; rintro e w5 ⟨rfl, hb5⟩; have HT5 : Hid _ := HT4.out.nx hb5; clear hb5)
    go_ret
    exact ⟨rfl, HT5.out.bel⟩
  have hlI : ¬ (1000 : Int) < (n : Int) := by omega
  clear hl hpm
  go_enter Tryd.func5, Tryd.ntmps5
  go_wp2_with (go_at_call 12; refine (HHA.out _ HT0.out).mono ?_; rintro e w3 ⟨rfl, hb3⟩; have HT3 : Hid _ := HT0.out.nx hb3; clear hb3; obtain ⟨e0, e1, e2, e3, g0, g1, g2, g3⟩ := HT3.out.facts)
  refine (HHB.out _ HT3.out).mono ?_
  rintro e w4 ⟨rfl, hb4⟩
  have HT4 : Hid _ := HT3.out.nx hb4
  clear hb4 e0 e1 e2 e3 g0 g1 g2 g3
  have TT : Hid (Tp w a b ta tc sa sc tb td sb sd w4) := Tp.of HT4.out
  clear HT4 HT3 HT0
  have HIP : Hid (∀ W, Tp w a b ta tc sa sc tb td sb sd W → IAt W W.heap.size pa ps) := fun W h => HI0.out W h.bel
  have HPB : Hid (ps.length ≤ 1000000000000) := by show _ ≤ _; rw [HNN.out]; omega
  have LT : Hid _ := TT.out.lt
  obtain ⟨ra, hra⟩ : ∃ ra, (atP a ps).getD zeroM = ra := ⟨_, rfl⟩
  obtain ⟨ka, hka⟩ : ∃ ka, codeOf (atP a ps) = ka := ⟨_, rfl⟩
  obtain ⟨rp, hrp⟩ : ∃ rp, (putP a ps b).getD zeroM = rp := ⟨_, rfl⟩
  obtain ⟨kp, hkp⟩ : ∃ kp, codeOf (putP a ps b) = kp := ⟨_, rfl⟩
  have HCO : Hid (∀ W, Tp w a b ta tc sa sc tb td sb sd W → Calls Tryd.prog 14 #[.agg #[.int .i64 a.kind, .string a.cons, .slice ta a.text.length tc, .slice sa a.kids.length sc]] W fun e w' => (∃ f ua uc va vc, e = .returned (.agg #[.int .i64 a.kind, .string a.cons, .slice ua a.text.length uc, .slice va a.kids.length vc]) ∧ Kx a f ua uc va vc W.heap.size w'.heap.size w') ∧ Below W.heap.size W w') := fun W h => by
    have hk := HKA.out W h.bel
    obtain ⟨f, hf⟩ := hk.mat
    refine (copy_any f a _ sa sc W hk.txt hf).mono ?_
    rintro e w' ⟨⟨uv, va, vc, rfl, hvc, hut, ht⟩, hb⟩
    obtain ⟨ua, uc, rfl, hut0⟩ := hut
    exact ⟨⟨f, ua, uc, va, vc, rfl, ⟨⟨_, _, rfl, hut0⟩, ht, hvc, Nat.le_refl _⟩⟩, hb⟩
  have HAT : Hid (∀ W f oa oc va vc l h, Tp w a b ta tc sa sc tb td sb sd W → Kx a f oa oc va vc l h W → Calls Tryd.prog 23 #[.agg #[.int .i64 a.kind, .string a.cons, .slice oa a.text.length oc, .slice va a.kids.length vc], .slice pa n pc] W fun e w' => (∃ F ua uc va vc, e = .returned (.tuple #[.agg #[.int .i64 ra.kind, .string ra.cons, .slice ua ra.text.length uc, .slice va ra.kids.length vc], .int .i64 ka]) ∧ Kx ra F ua uc va vc W.heap.size w'.heap.size w') ∧ Below W.heap.size W w') := fun W f oa oc va vc l h ht hk => by
    have hk' := hk.ta
    obtain ⟨f', hf⟩ := hk'.mat
    have h' := at_any a oa oc va vc f' ps pa pc W hk'.txt hf hk'.sc' (by omega) (HIP.out W ht) HPB.out
    rw [HNN.out] at h'
    refine h'.mono fun e w' hp => ?_
    obtain ⟨F, ua, uc, va, vc, e1, e2, e3⟩ := apost_one hp
    rw [hra, hka] at e1
    rw [hra] at e2
    exact ⟨⟨F, ua, uc, va, vc, e1, e2⟩, e3⟩
  have HRA : Hid (∀ W, Tp w a b ta tc sa sc tb td sb sd W → Calls Tryd.prog 24 #[.agg #[.int .i64 a.kind, .string a.cons, .slice ta a.text.length tc, .slice sa a.kids.length sc], .slice pa n pc] W fun e w' => (∃ F ua uc va vc, e = .returned (.tuple #[.agg #[.int .i64 ra.kind, .string ra.cons, .slice ua ra.text.length uc, .slice va ra.kids.length vc], .int .i64 ka]) ∧ Kx ra F ua uc va vc W.heap.size w'.heap.size w') ∧ Below W.heap.size W w') := fun W ht => by
    have hk' := HKA.out W ht.bel
    obtain ⟨f', hf⟩ := hk'.mat
    have h' := refAt_any ps a ta tc sa sc f' pa pc W hk'.txt hf hk'.sc' (by omega) (HIP.out W ht) HPCC.out HPB.out
    rw [HNN.out] at h'
    refine h'.mono fun e w' hp => ?_
    obtain ⟨F, ua, uc, va, vc, e1, e2, e3⟩ := apost_one hp
    rw [hra, hka] at e1
    rw [hra] at e2
    exact ⟨⟨F, ua, uc, va, vc, e1, e2⟩, e3⟩
  have HPT : Hid (∀ W f oa oc va vc l h, Tp w a b ta tc sa sc tb td sb sd W → Kx a f oa oc va vc l h W → Calls Tryd.prog 25 #[.agg #[.int .i64 a.kind, .string a.cons, .slice oa a.text.length oc, .slice va a.kids.length vc], .slice pa n pc, .agg #[.int .i64 b.kind, .string b.cons, .slice tb b.text.length td, .slice sb b.kids.length sd]] W fun e w' => (∃ F ua uc va vc, e = .returned (.tuple #[.agg #[.int .i64 rp.kind, .string rp.cons, .slice ua rp.text.length uc, .slice va rp.kids.length vc], .int .i64 kp]) ∧ Kx rp F ua uc va vc W.heap.size w'.heap.size w') ∧ Below W.heap.size W w') := fun W f oa oc va vc l h ht hk => by
    have hk' := hk.ta
    have hkb := HKB.out W ht.bel
    obtain ⟨f', hf⟩ := hk'.mat
    obtain ⟨g', hg⟩ := hkb.mat
    have h' := put_any a b oa tb oc td va sb vc sd (f' + g') ps pa pc W hk'.txt hkb.txt (hf.ups g') hk'.sc' (hg.ups' f') hkb.sc' (by omega) (HIP.out W ht) HPB.out
    rw [HNN.out] at h'
    refine h'.mono fun e w' hp => ?_
    obtain ⟨F, ua, uc, va, vc, e1, e2, e3⟩ := apost_one hp
    rw [hrp, hkp] at e1
    rw [hrp] at e2
    exact ⟨⟨F, ua, uc, va, vc, e1, e2⟩, e3⟩
  have HRP : Hid (∀ W, Tp w a b ta tc sa sc tb td sb sd W → Calls Tryd.prog 26 #[.agg #[.int .i64 a.kind, .string a.cons, .slice ta a.text.length tc, .slice sa a.kids.length sc], .slice pa n pc, .agg #[.int .i64 b.kind, .string b.cons, .slice tb b.text.length td, .slice sb b.kids.length sd]] W fun e w' => (∃ F ua uc va vc, e = .returned (.tuple #[.agg #[.int .i64 rp.kind, .string rp.cons, .slice ua rp.text.length uc, .slice va rp.kids.length vc], .int .i64 kp]) ∧ Kx rp F ua uc va vc W.heap.size w'.heap.size w') ∧ Below W.heap.size W w') := fun W ht => by
    have hk' := HKA.out W ht.bel
    have hkb := HKB.out W ht.bel
    obtain ⟨f', hf⟩ := hk'.mat
    obtain ⟨g', hg⟩ := hkb.mat
    have h' := refPut_any ps a b ta tc sa sc tb td sb sd (f' + g') pa pc W hk'.txt (hf.ups g') hk'.sc' hkb.txt (hg.ups' f') hkb.sc' (HIP.out W ht) HPCC.out HPB.out
    rw [HNN.out] at h'
    refine h'.mono fun e w' hp => ?_
    obtain ⟨F, ua, uc, va, vc, e1, e2, e3⟩ := apost_one hp
    rw [hrp, hkp] at e1
    rw [hrp] at e2
    exact ⟨⟨F, ua, uc, va, vc, e1, e2⟩, e3⟩
  have HSM : Hid (∀ W (x : Tm) xt xtc xa xc yt ytc ya yc, TA W x xt xtc xa xc → TA W x yt ytc ya yc → Calls Tryd.prog 21 #[.agg #[.int .i64 x.kind, .string x.cons, .slice xt x.text.length xtc, .slice xa x.kids.length xc], .agg #[.int .i64 x.kind, .string x.cons, .slice yt x.text.length ytc, .slice ya x.kids.length yc]] W fun e w' => e = .returned (.bool true) ∧ Below W.heap.size W w') := fun W x xt xtc xa xc yt ytc ya yc h1 h2 => by
    have h' := refSame_t x x xt xtc xa xc yt ytc ya yc W h1 h2
    rw [eqT_true rfl] at h'
    exact h'
  clear hra hka hrp hkp
  obtain ⟨e0, e1, e2, e3, g0, g1, g2, g3⟩ := TT.out.facts
  go_wp2_with fail
  clear e0 e1 e2 e3 g0 g1 g2 g3
  refine (HCO.out _ TT.out).mono ?_
  rintro e y0 ⟨⟨FO, ot, od, oa, oc, rfl, hkO⟩, hb⟩
  obtain ⟨YO, hYO⟩ : ∃ YO, y0.alloc (.cells #[.int .i64 a.kind, .string a.cons, .slice ot a.text.length od, .slice oa a.kids.length oc] 25) = YO := ⟨_, rfl⟩
  have hb2 : Below y0.heap.size y0 YO := by rw [← hYO]; exact (Below.refl _ _).alloc (Nat.le_refl _) _
  have hz : Zt y0.heap.size a ot od oa oc YO := by rw [← hYO]; exact Zb.new _ _ _ _ _
  have hs : YO.heap.size = y0.heap.size + 1 := by rw [← hYO]; simp
  have NTT : Hid (Tp w a b ta tc sa sc tb td sb sd YO) := TT.out.nx (below_of hb hb2)
  clear TT
  have TT : Hid (Tp w a b ta tc sa sc tb td sb sd YO) := NTT.out
  clear NTT
  have KO : Hid (Kx a FO ot od oa oc w4.heap.size y0.heap.size YO) := hkO.nx hb2
  have ZO : Hid (Zt y0.heap.size a ot od oa oc YO) := hz
  have SO : Hid _ := hb.size
  have EO : Hid _ := hs
  clear hkO hb hb2 hz hs
  have ZO0 := ZO.out.z0
  have ZO1 := ZO.out.z1
  have ZO2 := ZO.out.z2
  have ZO3 := ZO.out.z3
  go_wp2_with fail
  clear ZO0 ZO1 ZO2 ZO3
  refine (HAT.out _ _ _ _ _ _ _ _ TT.out KO.out).mono ?_
  rintro e y1 ⟨⟨FA, it, id, ia, ic, rfl, hkA⟩, hb⟩
  obtain ⟨YA, hYA⟩ : ∃ YA, y1.alloc (.cells #[.int .i64 ra.kind, .string ra.cons, .slice it ra.text.length id, .slice ia ra.kids.length ic] 25) = YA := ⟨_, rfl⟩
  have hb2 : Below y1.heap.size y1 YA := by rw [← hYA]; exact (Below.refl _ _).alloc (Nat.le_refl _) _
  have hz : Zt y1.heap.size ra it id ia ic YA := by rw [← hYA]; exact Zb.new _ _ _ _ _
  have hs : YA.heap.size = y1.heap.size + 1 := by rw [← hYA]; simp
  have NTT : Hid (Tp w a b ta tc sa sc tb td sb sd YA) := TT.out.nx (below_of hb hb2)
  have NKO : Hid (Kx a FO ot od oa oc w4.heap.size y0.heap.size YA) := KO.out.nx (below_of hb hb2)
  have NZO : Hid (Zt y0.heap.size a ot od oa oc YA) := ZO.out.nx (below_of hb hb2)
  clear TT
  have TT : Hid (Tp w a b ta tc sa sc tb td sb sd YA) := NTT.out
  clear NTT
  clear KO
  have KO : Hid (Kx a FO ot od oa oc w4.heap.size y0.heap.size YA) := NKO.out
  clear NKO
  clear ZO
  have ZO : Hid (Zt y0.heap.size a ot od oa oc YA) := NZO.out
  clear NZO
  have KA : Hid (Kx ra FA it id ia ic YO.heap.size y1.heap.size YA) := hkA.nx hb2
  have ZA : Hid (Zt y1.heap.size ra it id ia ic YA) := hz
  have SA : Hid _ := hb.size
  have EA : Hid _ := hs
  clear hkA hb hb2 hz hs
  obtain ⟨e0, e1, e2, e3, g0, g1, g2, g3⟩ := TT.out.facts
  go_wp2_with fail
  clear e0 e1 e2 e3 g0 g1 g2 g3
  refine (HRA.out _ TT.out).mono ?_
  rintro e y2 ⟨⟨FB, jt, jd, ja, jc, rfl, hkB⟩, hb⟩
  obtain ⟨YB, hYB⟩ : ∃ YB, y2.alloc (.cells #[.int .i64 ra.kind, .string ra.cons, .slice jt ra.text.length jd, .slice ja ra.kids.length jc] 25) = YB := ⟨_, rfl⟩
  have hb2 : Below y2.heap.size y2 YB := by rw [← hYB]; exact (Below.refl _ _).alloc (Nat.le_refl _) _
  have hz : Zt y2.heap.size ra jt jd ja jc YB := by rw [← hYB]; exact Zb.new _ _ _ _ _
  have hs : YB.heap.size = y2.heap.size + 1 := by rw [← hYB]; simp
  have NTT : Hid (Tp w a b ta tc sa sc tb td sb sd YB) := TT.out.nx (below_of hb hb2)
  have NKO : Hid (Kx a FO ot od oa oc w4.heap.size y0.heap.size YB) := KO.out.nx (below_of hb hb2)
  have NZO : Hid (Zt y0.heap.size a ot od oa oc YB) := ZO.out.nx (below_of hb hb2)
  have NKA : Hid (Kx ra FA it id ia ic YO.heap.size y1.heap.size YB) := KA.out.nx (below_of hb hb2)
  have NZA : Hid (Zt y1.heap.size ra it id ia ic YB) := ZA.out.nx (below_of hb hb2)
  clear TT
  have TT : Hid (Tp w a b ta tc sa sc tb td sb sd YB) := NTT.out
  clear NTT
  clear KO
  have KO : Hid (Kx a FO ot od oa oc w4.heap.size y0.heap.size YB) := NKO.out
  clear NKO
  clear ZO
  have ZO : Hid (Zt y0.heap.size a ot od oa oc YB) := NZO.out
  clear NZO
  clear KA
  have KA : Hid (Kx ra FA it id ia ic YO.heap.size y1.heap.size YB) := NKA.out
  clear NKA
  clear ZA
  have ZA : Hid (Zt y1.heap.size ra it id ia ic YB) := NZA.out
  clear NZA
  have KB : Hid (Kx ra FB jt jd ja jc YA.heap.size y2.heap.size YB) := hkB.nx hb2
  have ZB : Hid (Zt y2.heap.size ra jt jd ja jc YB) := hz
  have SB : Hid _ := hb.size
  have EB : Hid _ := hs
  clear hkB hb hb2 hz hs
  have ZO0 := ZO.out.z0
  have ZO1 := ZO.out.z1
  have ZO2 := ZO.out.z2
  have ZO3 := ZO.out.z3
  obtain ⟨e0, e1, e2, e3, g0, g1, g2, g3⟩ := TT.out.facts
  go_wp2_with fail
  clear ZO0 ZO1 ZO2 ZO3
  clear e0 e1 e2 e3 g0 g1 g2 g3
  refine (HPT.out _ _ _ _ _ _ _ _ TT.out KO.out).mono ?_
  rintro e y3 ⟨⟨FC, ut, ud, ua, uc, rfl, hkC⟩, hb⟩
  obtain ⟨YC, hYC⟩ : ∃ YC, y3.alloc (.cells #[.int .i64 rp.kind, .string rp.cons, .slice ut rp.text.length ud, .slice ua rp.kids.length uc] 25) = YC := ⟨_, rfl⟩
  have hb2 : Below y3.heap.size y3 YC := by rw [← hYC]; exact (Below.refl _ _).alloc (Nat.le_refl _) _
  have hz : Zt y3.heap.size rp ut ud ua uc YC := by rw [← hYC]; exact Zb.new _ _ _ _ _
  have hs : YC.heap.size = y3.heap.size + 1 := by rw [← hYC]; simp
  have NTT : Hid (Tp w a b ta tc sa sc tb td sb sd YC) := TT.out.nx (below_of hb hb2)
  have NKO : Hid (Kx a FO ot od oa oc w4.heap.size y0.heap.size YC) := KO.out.nx (below_of hb hb2)
  have NZO : Hid (Zt y0.heap.size a ot od oa oc YC) := ZO.out.nx (below_of hb hb2)
  have NKA : Hid (Kx ra FA it id ia ic YO.heap.size y1.heap.size YC) := KA.out.nx (below_of hb hb2)
  have NZA : Hid (Zt y1.heap.size ra it id ia ic YC) := ZA.out.nx (below_of hb hb2)
  have NKB : Hid (Kx ra FB jt jd ja jc YA.heap.size y2.heap.size YC) := KB.out.nx (below_of hb hb2)
  have NZB : Hid (Zt y2.heap.size ra jt jd ja jc YC) := ZB.out.nx (below_of hb hb2)
  clear TT
  have TT : Hid (Tp w a b ta tc sa sc tb td sb sd YC) := NTT.out
  clear NTT
  clear KO
  have KO : Hid (Kx a FO ot od oa oc w4.heap.size y0.heap.size YC) := NKO.out
  clear NKO
  clear ZO
  have ZO : Hid (Zt y0.heap.size a ot od oa oc YC) := NZO.out
  clear NZO
  clear KA
  have KA : Hid (Kx ra FA it id ia ic YO.heap.size y1.heap.size YC) := NKA.out
  clear NKA
  clear ZA
  have ZA : Hid (Zt y1.heap.size ra it id ia ic YC) := NZA.out
  clear NZA
  clear KB
  have KB : Hid (Kx ra FB jt jd ja jc YA.heap.size y2.heap.size YC) := NKB.out
  clear NKB
  clear ZB
  have ZB : Hid (Zt y2.heap.size ra jt jd ja jc YC) := NZB.out
  clear NZB
  have KC : Hid (Kx rp FC ut ud ua uc YB.heap.size y3.heap.size YC) := hkC.nx hb2
  have ZC : Hid (Zt y3.heap.size rp ut ud ua uc YC) := hz
  have SC : Hid _ := hb.size
  have EC : Hid _ := hs
  clear hkC hb hb2 hz hs
  obtain ⟨e0, e1, e2, e3, g0, g1, g2, g3⟩ := TT.out.facts
  go_wp2_with fail
  clear e0 e1 e2 e3 g0 g1 g2 g3
  refine (HRP.out _ TT.out).mono ?_
  rintro e y4 ⟨⟨FD, vt, vd, va, vc, rfl, hkD⟩, hb⟩
  obtain ⟨YD, hYD⟩ : ∃ YD, y4.alloc (.cells #[.int .i64 rp.kind, .string rp.cons, .slice vt rp.text.length vd, .slice va rp.kids.length vc] 25) = YD := ⟨_, rfl⟩
  have hb2 : Below y4.heap.size y4 YD := by rw [← hYD]; exact (Below.refl _ _).alloc (Nat.le_refl _) _
  have hz : Zt y4.heap.size rp vt vd va vc YD := by rw [← hYD]; exact Zb.new _ _ _ _ _
  have hs : YD.heap.size = y4.heap.size + 1 := by rw [← hYD]; simp
  have NTT : Hid (Tp w a b ta tc sa sc tb td sb sd YD) := TT.out.nx (below_of hb hb2)
  have NKO : Hid (Kx a FO ot od oa oc w4.heap.size y0.heap.size YD) := KO.out.nx (below_of hb hb2)
  have NZO : Hid (Zt y0.heap.size a ot od oa oc YD) := ZO.out.nx (below_of hb hb2)
  have NKA : Hid (Kx ra FA it id ia ic YO.heap.size y1.heap.size YD) := KA.out.nx (below_of hb hb2)
  have NZA : Hid (Zt y1.heap.size ra it id ia ic YD) := ZA.out.nx (below_of hb hb2)
  have NKB : Hid (Kx ra FB jt jd ja jc YA.heap.size y2.heap.size YD) := KB.out.nx (below_of hb hb2)
  have NZB : Hid (Zt y2.heap.size ra jt jd ja jc YD) := ZB.out.nx (below_of hb hb2)
  have NKC : Hid (Kx rp FC ut ud ua uc YB.heap.size y3.heap.size YD) := KC.out.nx (below_of hb hb2)
  have NZC : Hid (Zt y3.heap.size rp ut ud ua uc YD) := ZC.out.nx (below_of hb hb2)
  clear TT
  have TT : Hid (Tp w a b ta tc sa sc tb td sb sd YD) := NTT.out
  clear NTT
  clear KO
  have KO : Hid (Kx a FO ot od oa oc w4.heap.size y0.heap.size YD) := NKO.out
  clear NKO
  clear ZO
  have ZO : Hid (Zt y0.heap.size a ot od oa oc YD) := NZO.out
  clear NZO
  clear KA
  have KA : Hid (Kx ra FA it id ia ic YO.heap.size y1.heap.size YD) := NKA.out
  clear NKA
  clear ZA
  have ZA : Hid (Zt y1.heap.size ra it id ia ic YD) := NZA.out
  clear NZA
  clear KB
  have KB : Hid (Kx ra FB jt jd ja jc YA.heap.size y2.heap.size YD) := NKB.out
  clear NKB
  clear ZB
  have ZB : Hid (Zt y2.heap.size ra jt jd ja jc YD) := NZB.out
  clear NZB
  clear KC
  have KC : Hid (Kx rp FC ut ud ua uc YB.heap.size y3.heap.size YD) := NKC.out
  clear NKC
  clear ZC
  have ZC : Hid (Zt y3.heap.size rp ut ud ua uc YD) := NZC.out
  clear NZC
  have KD : Hid (Kx rp FD vt vd va vc YC.heap.size y4.heap.size YD) := hkD.nx hb2
  have ZD : Hid (Zt y4.heap.size rp vt vd va vc YD) := hz
  have SD : Hid _ := hb.size
  have ED : Hid _ := hs
  clear hkD hb hb2 hz hs
  have ZA0 := ZA.out.z0
  have ZA1 := ZA.out.z1
  have ZA2 := ZA.out.z2
  have ZA3 := ZA.out.z3
  have ZB0 := ZB.out.z0
  have ZB1 := ZB.out.z1
  have ZB2 := ZB.out.z2
  have ZB3 := ZB.out.z3
  go_wp2_with fail
  clear ZA0 ZA1 ZA2 ZA3
  clear ZB0 ZB1 ZB2 ZB3
  refine (HSM.out _ _ _ _ _ _ _ _ _ _ KA.out.ta KB.out.ta).mono ?_
  rintro e y5 ⟨rfl, hb⟩
  have NTT : Hid (Tp w a b ta tc sa sc tb td sb sd y5) := TT.out.nx hb
  have NKO : Hid (Kx a FO ot od oa oc w4.heap.size y0.heap.size y5) := KO.out.nx hb
  have NZO : Hid (Zt y0.heap.size a ot od oa oc y5) := ZO.out.nx hb
  have NKA : Hid (Kx ra FA it id ia ic YO.heap.size y1.heap.size y5) := KA.out.nx hb
  have NZA : Hid (Zt y1.heap.size ra it id ia ic y5) := ZA.out.nx hb
  have NKB : Hid (Kx ra FB jt jd ja jc YA.heap.size y2.heap.size y5) := KB.out.nx hb
  have NZB : Hid (Zt y2.heap.size ra jt jd ja jc y5) := ZB.out.nx hb
  have NKC : Hid (Kx rp FC ut ud ua uc YB.heap.size y3.heap.size y5) := KC.out.nx hb
  have NZC : Hid (Zt y3.heap.size rp ut ud ua uc y5) := ZC.out.nx hb
  have NKD : Hid (Kx rp FD vt vd va vc YC.heap.size y4.heap.size y5) := KD.out.nx hb
  have NZD : Hid (Zt y4.heap.size rp vt vd va vc y5) := ZD.out.nx hb
  clear TT
  have TT : Hid (Tp w a b ta tc sa sc tb td sb sd y5) := NTT.out
  clear NTT
  clear KO
  have KO : Hid (Kx a FO ot od oa oc w4.heap.size y0.heap.size y5) := NKO.out
  clear NKO
  clear ZO
  have ZO : Hid (Zt y0.heap.size a ot od oa oc y5) := NZO.out
  clear NZO
  clear KA
  have KA : Hid (Kx ra FA it id ia ic YO.heap.size y1.heap.size y5) := NKA.out
  clear NKA
  clear ZA
  have ZA : Hid (Zt y1.heap.size ra it id ia ic y5) := NZA.out
  clear NZA
  clear KB
  have KB : Hid (Kx ra FB jt jd ja jc YA.heap.size y2.heap.size y5) := NKB.out
  clear NKB
  clear ZB
  have ZB : Hid (Zt y2.heap.size ra jt jd ja jc y5) := NZB.out
  clear NZB
  clear KC
  have KC : Hid (Kx rp FC ut ud ua uc YB.heap.size y3.heap.size y5) := NKC.out
  clear NKC
  clear ZC
  have ZC : Hid (Zt y3.heap.size rp ut ud ua uc y5) := NZC.out
  clear NZC
  clear KD
  have KD : Hid (Kx rp FD vt vd va vc YC.heap.size y4.heap.size y5) := NKD.out
  clear NKD
  clear ZD
  have ZD : Hid (Zt y4.heap.size rp vt vd va vc y5) := NZD.out
  clear NZD
  clear hb
  have ZC0 := ZC.out.z0
  have ZC1 := ZC.out.z1
  have ZC2 := ZC.out.z2
  have ZC3 := ZC.out.z3
  have ZD0 := ZD.out.z0
  have ZD1 := ZD.out.z1
  have ZD2 := ZD.out.z2
  have ZD3 := ZD.out.z3
  go_wp2_with fail
  clear ZC0 ZC1 ZC2 ZC3
  clear ZD0 ZD1 ZD2 ZD3
  refine (HSM.out _ _ _ _ _ _ _ _ _ _ KC.out.ta KD.out.ta).mono ?_
  rintro e y6 ⟨rfl, hb⟩
  have NTT : Hid (Tp w a b ta tc sa sc tb td sb sd y6) := TT.out.nx hb
  have NKO : Hid (Kx a FO ot od oa oc w4.heap.size y0.heap.size y6) := KO.out.nx hb
  have NZO : Hid (Zt y0.heap.size a ot od oa oc y6) := ZO.out.nx hb
  have NKA : Hid (Kx ra FA it id ia ic YO.heap.size y1.heap.size y6) := KA.out.nx hb
  have NZA : Hid (Zt y1.heap.size ra it id ia ic y6) := ZA.out.nx hb
  have NKB : Hid (Kx ra FB jt jd ja jc YA.heap.size y2.heap.size y6) := KB.out.nx hb
  have NZB : Hid (Zt y2.heap.size ra jt jd ja jc y6) := ZB.out.nx hb
  have NKC : Hid (Kx rp FC ut ud ua uc YB.heap.size y3.heap.size y6) := KC.out.nx hb
  have NZC : Hid (Zt y3.heap.size rp ut ud ua uc y6) := ZC.out.nx hb
  have NKD : Hid (Kx rp FD vt vd va vc YC.heap.size y4.heap.size y6) := KD.out.nx hb
  have NZD : Hid (Zt y4.heap.size rp vt vd va vc y6) := ZD.out.nx hb
  clear TT
  have TT : Hid (Tp w a b ta tc sa sc tb td sb sd y6) := NTT.out
  clear NTT
  clear KO
  have KO : Hid (Kx a FO ot od oa oc w4.heap.size y0.heap.size y6) := NKO.out
  clear NKO
  clear ZO
  have ZO : Hid (Zt y0.heap.size a ot od oa oc y6) := NZO.out
  clear NZO
  clear KA
  have KA : Hid (Kx ra FA it id ia ic YO.heap.size y1.heap.size y6) := NKA.out
  clear NKA
  clear ZA
  have ZA : Hid (Zt y1.heap.size ra it id ia ic y6) := NZA.out
  clear NZA
  clear KB
  have KB : Hid (Kx ra FB jt jd ja jc YA.heap.size y2.heap.size y6) := NKB.out
  clear NKB
  clear ZB
  have ZB : Hid (Zt y2.heap.size ra jt jd ja jc y6) := NZB.out
  clear NZB
  clear KC
  have KC : Hid (Kx rp FC ut ud ua uc YB.heap.size y3.heap.size y6) := NKC.out
  clear NKC
  clear ZC
  have ZC : Hid (Zt y3.heap.size rp ut ud ua uc y6) := NZC.out
  clear NZC
  clear KD
  have KD : Hid (Kx rp FD vt vd va vc YC.heap.size y4.heap.size y6) := NKD.out
  clear NKD
  clear ZD
  have ZD : Hid (Zt y4.heap.size rp vt vd va vc y6) := NZD.out
  clear NZD
  clear hb
  have ZA0 := ZA.out.z0
  have ZA1 := ZA.out.z1
  have ZA2 := ZA.out.z2
  have ZA3 := ZA.out.z3
  go_wp2_with fail
  clear ZA0 ZA1 ZA2 ZA3
  refine (spoil_kx KA.out).mono ?_
  rintro e y7 ⟨⟨vvy7, rfl⟩, hs⟩
  clear KA
  clear ZA
  clear KB
  clear ZB
  have NTT : Hid (Tp w a b ta tc sa sc tb td sb sd y7) := TT.out.sv hs (by have := LT.out; have := SO.out; have := EO.out; have := SA.out; have := EA.out; have := SB.out; have := EB.out; have := SC.out; have := EC.out; have := SD.out; have := ED.out; omega)
  have NKO : Hid (Kx a FO ot od oa oc w4.heap.size y0.heap.size y7) := KO.out.sv hs (by have := LT.out; have := SO.out; have := EO.out; have := SA.out; have := EA.out; have := SB.out; have := EB.out; have := SC.out; have := EC.out; have := SD.out; have := ED.out; omega)
  have NZO : Hid (Zt y0.heap.size a ot od oa oc y7) := ZO.out.sv hs (by have := LT.out; have := SO.out; have := EO.out; have := SA.out; have := EA.out; have := SB.out; have := EB.out; have := SC.out; have := EC.out; have := SD.out; have := ED.out; omega)
  have NKC : Hid (Kx rp FC ut ud ua uc YB.heap.size y3.heap.size y7) := KC.out.sv hs (by have := LT.out; have := SO.out; have := EO.out; have := SA.out; have := EA.out; have := SB.out; have := EB.out; have := SC.out; have := EC.out; have := SD.out; have := ED.out; omega)
  have NZC : Hid (Zt y3.heap.size rp ut ud ua uc y7) := ZC.out.sv hs (by have := LT.out; have := SO.out; have := EO.out; have := SA.out; have := EA.out; have := SB.out; have := EB.out; have := SC.out; have := EC.out; have := SD.out; have := ED.out; omega)
  have NKD : Hid (Kx rp FD vt vd va vc YC.heap.size y4.heap.size y7) := KD.out.sv hs (by have := LT.out; have := SO.out; have := EO.out; have := SA.out; have := EA.out; have := SB.out; have := EB.out; have := SC.out; have := EC.out; have := SD.out; have := ED.out; omega)
  have NZD : Hid (Zt y4.heap.size rp vt vd va vc y7) := ZD.out.sv hs (by have := LT.out; have := SO.out; have := EO.out; have := SA.out; have := EA.out; have := SB.out; have := EB.out; have := SC.out; have := EC.out; have := SD.out; have := ED.out; omega)
  clear TT
  have TT : Hid (Tp w a b ta tc sa sc tb td sb sd y7) := NTT.out
  clear NTT
  clear KO
  have KO : Hid (Kx a FO ot od oa oc w4.heap.size y0.heap.size y7) := NKO.out
  clear NKO
  clear ZO
  have ZO : Hid (Zt y0.heap.size a ot od oa oc y7) := NZO.out
  clear NZO
  clear KC
  have KC : Hid (Kx rp FC ut ud ua uc YB.heap.size y3.heap.size y7) := NKC.out
  clear NKC
  clear ZC
  have ZC : Hid (Zt y3.heap.size rp ut ud ua uc y7) := NZC.out
  clear NZC
  clear KD
  have KD : Hid (Kx rp FD vt vd va vc YC.heap.size y4.heap.size y7) := NKD.out
  clear NKD
  clear ZD
  have ZD : Hid (Zt y4.heap.size rp vt vd va vc y7) := NZD.out
  clear NZD
  clear hs
  have ZO0 := ZO.out.z0
  have ZO1 := ZO.out.z1
  have ZO2 := ZO.out.z2
  have ZO3 := ZO.out.z3
  obtain ⟨e0, e1, e2, e3, g0, g1, g2, g3⟩ := TT.out.facts
  go_wp2_with fail
  clear ZO0 ZO1 ZO2 ZO3
  clear e0 e1 e2 e3 g0 g1 g2 g3
  refine (HSM.out _ _ _ _ _ _ _ _ _ _ KO.out.ta (HKA.out _ TT.out.bel)).mono ?_
  rintro e y8 ⟨rfl, hb⟩
  have NTT : Hid (Tp w a b ta tc sa sc tb td sb sd y8) := TT.out.nx hb
  have NKO : Hid (Kx a FO ot od oa oc w4.heap.size y0.heap.size y8) := KO.out.nx hb
  have NZO : Hid (Zt y0.heap.size a ot od oa oc y8) := ZO.out.nx hb
  have NKC : Hid (Kx rp FC ut ud ua uc YB.heap.size y3.heap.size y8) := KC.out.nx hb
  have NZC : Hid (Zt y3.heap.size rp ut ud ua uc y8) := ZC.out.nx hb
  have NKD : Hid (Kx rp FD vt vd va vc YC.heap.size y4.heap.size y8) := KD.out.nx hb
  have NZD : Hid (Zt y4.heap.size rp vt vd va vc y8) := ZD.out.nx hb
  clear TT
  have TT : Hid (Tp w a b ta tc sa sc tb td sb sd y8) := NTT.out
  clear NTT
  clear KO
  have KO : Hid (Kx a FO ot od oa oc w4.heap.size y0.heap.size y8) := NKO.out
  clear NKO
  clear ZO
  have ZO : Hid (Zt y0.heap.size a ot od oa oc y8) := NZO.out
  clear NZO
  clear KC
  have KC : Hid (Kx rp FC ut ud ua uc YB.heap.size y3.heap.size y8) := NKC.out
  clear NKC
  clear ZC
  have ZC : Hid (Zt y3.heap.size rp ut ud ua uc y8) := NZC.out
  clear NZC
  clear KD
  have KD : Hid (Kx rp FD vt vd va vc YC.heap.size y4.heap.size y8) := NKD.out
  clear NKD
  clear ZD
  have ZD : Hid (Zt y4.heap.size rp vt vd va vc y8) := NZD.out
  clear NZD
  clear hb
  have ZO0 := ZO.out.z0
  have ZO1 := ZO.out.z1
  have ZO2 := ZO.out.z2
  have ZO3 := ZO.out.z3
  go_wp2_with fail
  clear ZO0 ZO1 ZO2 ZO3
  refine (spoil_kx KO.out).mono ?_
  rintro e z1 ⟨⟨vvz1, rfl⟩, hs⟩
  clear KO
  clear ZO
  have NTT : Hid (Tp w a b ta tc sa sc tb td sb sd z1) := TT.out.sv hs (by have := LT.out; have := SO.out; have := EO.out; have := SA.out; have := EA.out; have := SB.out; have := EB.out; have := SC.out; have := EC.out; have := SD.out; have := ED.out; omega)
  have NKC : Hid (Kx rp FC ut ud ua uc YB.heap.size y3.heap.size z1) := KC.out.sv hs (by have := LT.out; have := SO.out; have := EO.out; have := SA.out; have := EA.out; have := SB.out; have := EB.out; have := SC.out; have := EC.out; have := SD.out; have := ED.out; omega)
  have NZC : Hid (Zt y3.heap.size rp ut ud ua uc z1) := ZC.out.sv hs (by have := LT.out; have := SO.out; have := EO.out; have := SA.out; have := EA.out; have := SB.out; have := EB.out; have := SC.out; have := EC.out; have := SD.out; have := ED.out; omega)
  have NKD : Hid (Kx rp FD vt vd va vc YC.heap.size y4.heap.size z1) := KD.out.sv hs (by have := LT.out; have := SO.out; have := EO.out; have := SA.out; have := EA.out; have := SB.out; have := EB.out; have := SC.out; have := EC.out; have := SD.out; have := ED.out; omega)
  have NZD : Hid (Zt y4.heap.size rp vt vd va vc z1) := ZD.out.sv hs (by have := LT.out; have := SO.out; have := EO.out; have := SA.out; have := EA.out; have := SB.out; have := EB.out; have := SC.out; have := EC.out; have := SD.out; have := ED.out; omega)
  clear TT
  have TT : Hid (Tp w a b ta tc sa sc tb td sb sd z1) := NTT.out
  clear NTT
  clear KC
  have KC : Hid (Kx rp FC ut ud ua uc YB.heap.size y3.heap.size z1) := NKC.out
  clear NKC
  clear ZC
  have ZC : Hid (Zt y3.heap.size rp ut ud ua uc z1) := NZC.out
  clear NZC
  clear KD
  have KD : Hid (Kx rp FD vt vd va vc YC.heap.size y4.heap.size z1) := NKD.out
  clear NKD
  clear ZD
  have ZD : Hid (Zt y4.heap.size rp vt vd va vc z1) := NZD.out
  clear NZD
  clear hs
  go_wp2_with fail
  refine (HALV.out _).mono ?_
  rintro e z2 ⟨rfl, hb⟩
  have NTT : Hid (Tp w a b ta tc sa sc tb td sb sd z2) := TT.out.nx hb
  have NKC : Hid (Kx rp FC ut ud ua uc YB.heap.size y3.heap.size z2) := KC.out.nx hb
  have NZC : Hid (Zt y3.heap.size rp ut ud ua uc z2) := ZC.out.nx hb
  have NKD : Hid (Kx rp FD vt vd va vc YC.heap.size y4.heap.size z2) := KD.out.nx hb
  have NZD : Hid (Zt y4.heap.size rp vt vd va vc z2) := ZD.out.nx hb
  clear TT
  have TT : Hid (Tp w a b ta tc sa sc tb td sb sd z2) := NTT.out
  clear NTT
  clear KC
  have KC : Hid (Kx rp FC ut ud ua uc YB.heap.size y3.heap.size z2) := NKC.out
  clear NKC
  clear ZC
  have ZC : Hid (Zt y3.heap.size rp ut ud ua uc z2) := NZC.out
  clear NZC
  clear KD
  have KD : Hid (Kx rp FD vt vd va vc YC.heap.size y4.heap.size z2) := NKD.out
  clear NKD
  clear ZD
  have ZD : Hid (Zt y4.heap.size rp vt vd va vc z2) := NZD.out
  clear NZD
  clear hb
  have ZC0 := ZC.out.z0
  have ZC1 := ZC.out.z1
  have ZC2 := ZC.out.z2
  have ZC3 := ZC.out.z3
  have ZD0 := ZD.out.z0
  have ZD1 := ZD.out.z1
  have ZD2 := ZD.out.z2
  have ZD3 := ZD.out.z3
  go_wp2_with fail
  clear ZC0 ZC1 ZC2 ZC3
  clear ZD0 ZD1 ZD2 ZD3
  refine (HSM.out _ _ _ _ _ _ _ _ _ _ KC.out.ta KD.out.ta).mono ?_
  rintro e z3 ⟨rfl, hb⟩
  have NTT : Hid (Tp w a b ta tc sa sc tb td sb sd z3) := TT.out.nx hb
  have NKC : Hid (Kx rp FC ut ud ua uc YB.heap.size y3.heap.size z3) := KC.out.nx hb
  have NZC : Hid (Zt y3.heap.size rp ut ud ua uc z3) := ZC.out.nx hb
  have NKD : Hid (Kx rp FD vt vd va vc YC.heap.size y4.heap.size z3) := KD.out.nx hb
  have NZD : Hid (Zt y4.heap.size rp vt vd va vc z3) := ZD.out.nx hb
  clear TT
  have TT : Hid (Tp w a b ta tc sa sc tb td sb sd z3) := NTT.out
  clear NTT
  clear KC
  have KC : Hid (Kx rp FC ut ud ua uc YB.heap.size y3.heap.size z3) := NKC.out
  clear NKC
  clear ZC
  have ZC : Hid (Zt y3.heap.size rp ut ud ua uc z3) := NZC.out
  clear NZC
  clear KD
  have KD : Hid (Kx rp FD vt vd va vc YC.heap.size y4.heap.size z3) := NKD.out
  clear NKD
  clear ZD
  have ZD : Hid (Zt y4.heap.size rp vt vd va vc z3) := NZD.out
  clear NZD
  clear hb
  go_wp2
  go_ret
  exact ⟨rfl, TT.out.bel⟩
end Go.Proofs.YtlkcadibjmfmcaaDoor

