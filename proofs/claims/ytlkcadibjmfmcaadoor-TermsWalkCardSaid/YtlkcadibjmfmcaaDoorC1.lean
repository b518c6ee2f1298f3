/- A term is copied. -/
import Derived.Test.YtlkcadibjmfmcaaDoorC0
namespace Go.Proofs.YtlkcadibjmfmcaaDoor
open Go.RowKit

def zeroT : Array Value := #[.int .i64 0, .string ⟨#[]⟩, .slice none 0 0, .slice none 0 0]
theorem cell_four_new (w : World) (u v x y : Value) (t : TypeId) : ∀ j z, [u, v, x, y][j]? = some z → (w.alloc (.cells #[u, v, x, y] t)).cell? ((⟨w.heap.size, 0, none⟩ : Addr).add j) = some z := fun j z hz => by
  have e : (⟨w.heap.size, 0, none⟩ : Addr).add j = ⟨w.heap.size, j, none⟩ := by unfold Addr.add; split <;> simp_all
  rw [e]
  exact cell_new j (by simpa using hz)
theorem infoTerm : (Tryd.prog.info? 25).map (fun i => (i.zero, i.size, i.bytes)) = some (some (.agg #[.int .i64 0, .string ⟨#[]⟩, .slice none 0 0, .slice none 0 0]), 4, 72) := by kernel_rfl
/-- While a term is copied. -/
structure CC (w : World) (f : Nat) (r : Int) (c : ByteArray) (t : List UInt8) (uv rv : Value) (ps : List Tm) (lv : Value) (xs : List Value) (W : World) : Prop where
  row : W.ownsRow (w.heap.size + 3) 25 4 lv ps.length xs
  cx : Cx f (w.heap.size + 3) W lv ps xs
  tx : ∃ S, Txx W S uv t ∧ ∀ b, S b → w.heap.size + 3 ≤ b ∧ b < W.heap.size ∧ lv.ownBlock ≠ some b
  g3 : W.cell? ⟨w.heap.size, 3, none⟩ = some rv
  a : ∀ j v, zeroT[j]? = some v → W.cell? ⟨w.heap.size + 1, j, none⟩ = some v
  fa : ∀ j, W.frozen? ⟨w.heap.size + 1, j, none⟩ = false
  o0 : W.cell? ⟨w.heap.size + 2, 0, none⟩ = some (.int .i64 r)
  o1 : W.cell? ⟨w.heap.size + 2, 1, none⟩ = some (.string c)
  o2 : W.cell? ⟨w.heap.size + 2, 2, none⟩ = some uv
  o3 : W.cell? ⟨w.heap.size + 2, 3, none⟩ = some lv
  fo : W.frozen? ⟨w.heap.size + 2, 3, none⟩ = false
  bel : Below w.heap.size w W
  lt : w.heap.size + 3 ≤ W.heap.size
section
variable {w : World} {f : Nat} {r : Int} {c : ByteArray} {t : List UInt8} {uv rv : Value} {ps : List Tm} {lv : Value} {xs : List Value} {W W' : World}
theorem CC.below (h : CC w f r c t uv rv ps lv xs W) (hb : Below W.heap.size W W') : CC w f r c t uv rv ps lv xs W' := by
  have hl := h.lt
  have k : ∀ b q, b < W.heap.size → W'.cell? ⟨b, q, none⟩ = W.cell? ⟨b, q, none⟩ := fun b q hlt => hb.cell (p := ⟨b, q, none⟩) hlt
  have f' : ∀ b q, b < W.heap.size → W'.frozen? ⟨b, q, none⟩ = W.frozen? ⟨b, q, none⟩ := fun b q hlt => hb.frozen (p := ⟨b, q, none⟩) hlt
  obtain ⟨S, h1, h2⟩ := h.tx
  exact ⟨row_below h.row hb, h.cx.below hb, ⟨S, h1.keep (fun b hb' => hb.block b (h2 b hb').2.1), fun b hb' => ⟨(h2 b hb').1, Nat.lt_of_lt_of_le (h2 b hb').2.1 hb.size, (h2 b hb').2.2⟩⟩, (k _ _ (by omega)).trans h.g3, fun j v hv => (k _ _ (by omega)).trans (h.a j v hv), fun j => (f' _ _ (by omega)).trans (h.fa j), (k _ _ (by omega)).trans h.o0, (k _ _ (by omega)).trans h.o1, (k _ _ (by omega)).trans h.o2, (k _ _ (by omega)).trans h.o3, (f' _ _ (by omega)).trans h.fo, below_of h.bel hb, Nat.le_trans hl hb.size⟩
/-- At the beginning: the text is copied. -/
theorem CC.start {W3 w4 : World} {tv : Value} (hW3 : ((w.alloc (.cells #[.int .i64 r, .string c, tv, rv] 25)).alloc (.cells #[.int .i64 0, .string ⟨#[]⟩, .slice none 0 0, .slice none 0 0] 25)).alloc (.cells #[.int .i64 r, .string c, .slice none 0 0, .slice none 0 0] 25) = W3)
    (hx : Txx w4 (fun b => w.heap.size + 3 ≤ b ∧ b < w4.heap.size) uv t) (hb : Below (w.heap.size + 3) W3 w4) (f : Nat) : CC w f r c t uv rv [] (.slice none 0 0) [] (w4.setCell ⟨w.heap.size + 2, 2, none⟩ uv) := by
  have e1 : (w.alloc (.cells #[.int .i64 r, .string c, tv, rv] 25)).heap.size = w.heap.size + 1 := by simp
  have e3 : W3.heap.size = w.heap.size + 3 := by rw [← hW3]; simp
  have c0 : (w.alloc (.cells #[.int .i64 r, .string c, tv, rv] 25)).cell? ⟨w.heap.size, 3, none⟩ = some rv := cell_new 3 rfl
  have hB1 : Below w.heap.size w (w.alloc (.cells #[.int .i64 r, .string c, tv, rv] 25)) := (Below.refl _ _).alloc (Nat.le_refl _) _
  generalize w.alloc (.cells #[.int .i64 r, .string c, tv, rv] 25) = A at *
  have e2 : (A.alloc (.cells #[.int .i64 0, .string ⟨#[]⟩, .slice none 0 0, .slice none 0 0] 25)).heap.size = w.heap.size + 2 := by simp [e1]
  have hB2 : Below A.heap.size A (A.alloc (.cells #[.int .i64 0, .string ⟨#[]⟩, .slice none 0 0, .slice none 0 0] 25)) := (Below.refl _ _).alloc (Nat.le_refl _) _
  have c1 : ∀ j v, zeroT[j]? = some v → (A.alloc (.cells #[.int .i64 0, .string ⟨#[]⟩, .slice none 0 0, .slice none 0 0] 25)).cell? ⟨w.heap.size + 1, j, none⟩ = some v := fun j v hv => by
    have := cell_new (w := A) (t := 25) j hv
    rw [e1] at this; exact this
  have d1 : ∀ j, (A.alloc (.cells #[.int .i64 0, .string ⟨#[]⟩, .slice none 0 0, .slice none 0 0] 25)).frozen? ⟨w.heap.size + 1, j, none⟩ = false := fun j => by
    have := World.frozen?_alloc_new A #[.int .i64 0, .string ⟨#[]⟩, .slice none 0 0, .slice none 0 0] 25 j
    rw [e1] at this; exact this
  have c2 := (hB2.cell (p := ⟨w.heap.size, 3, none⟩) (by show w.heap.size < _; omega)).trans c0
  have hB3 := below_of hB1 hB2
  generalize A.alloc (.cells #[.int .i64 0, .string ⟨#[]⟩, .slice none 0 0, .slice none 0 0] 25) = A2 at *
  have hB4 : Below A2.heap.size A2 W3 := by rw [← hW3]; exact (Below.refl _ _).alloc (Nat.le_refl _) _
  have o : ∀ j v, (#[.int .i64 r, .string c, .slice none 0 0, .slice none 0 0] : Array Value)[j]? = some v → W3.cell? ⟨w.heap.size + 2, j, none⟩ = some v := fun j v hv => by
    have := cell_new (w := A2) (t := 25) j hv
    rw [e2, hW3] at this; exact this
  have fo := World.frozen?_alloc_new A2 #[.int .i64 r, .string c, .slice none 0 0, .slice none 0 0] 25 3
  rw [e2, hW3] at fo
  rw [← e3] at hb hx
  have hs := hb.size
  have ss : (w4.setCell ⟨w.heap.size + 2, 2, none⟩ uv).heap.size = w4.heap.size := by simp [World.setCell]
  have k4 : ∀ b q, b < W3.heap.size → w4.cell? ⟨b, q, none⟩ = W3.cell? ⟨b, q, none⟩ := fun b q hlt => hb.cell (p := ⟨b, q, none⟩) hlt
  have k : ∀ b q, b < w.heap.size + 2 → (w4.setCell ⟨w.heap.size + 2, 2, none⟩ uv).cell? ⟨b, q, none⟩ = A2.cell? ⟨b, q, none⟩ := fun b q hlt => (World.cell?_setCell_far _ _ _ _ (by show w.heap.size + 2 ≠ b; omega)).trans ((k4 b q (by omega)).trans (hB4.cell (p := ⟨b, q, none⟩) (by show b < _; omega)))
  have f' : ∀ b q, b < w.heap.size + 2 → (w4.setCell ⟨w.heap.size + 2, 2, none⟩ uv).frozen? ⟨b, q, none⟩ = A2.frozen? ⟨b, q, none⟩ := fun b q hlt => (World.frozen?_setCell _ _ _ _).trans ((hb.frozen (p := ⟨b, q, none⟩) (by show b < _; omega)).trans (hB4.frozen (p := ⟨b, q, none⟩) (by show b < _; omega)))
  have ko : ∀ q, q ≠ 2 → (w4.setCell ⟨w.heap.size + 2, 2, none⟩ uv).cell? ⟨w.heap.size + 2, q, none⟩ = W3.cell? ⟨w.heap.size + 2, q, none⟩ := fun q hq => (World.cell?_setCell_other _ _ _ _ (by simp; try omega)).trans (k4 _ _ (by omega))
  refine ⟨World.ownsRow_nil _ _ _ _, Cx.nil _ _ _ _, ⟨_, hx.keep (fun b hb' => Below.heap_setCell w4 ⟨w.heap.size + 2, 2, none⟩ uv b (by show b ≠ w.heap.size + 2; omega)), fun b hb' => ⟨by omega, by omega, by simp [Value.ownBlock]⟩⟩, (k _ _ (by omega)).trans c2, fun j v hv => (k _ _ (by omega)).trans (c1 j v hv), fun j => (f' _ _ (by omega)).trans (d1 j), (ko 0 (by omega)).trans (o 0 _ rfl), (ko 1 (by omega)).trans (o 1 _ rfl), ?_, (ko 3 (by omega)).trans (o 3 _ rfl), ?_, ?_, by omega⟩
  · exact World.cell?_setCell_same' _ _ _ (by rw [k4 _ _ (by omega), o 2 _ rfl]; rfl)
  · exact (World.frozen?_setCell _ _ _ _).trans ((hb.frozen (p := ⟨w.heap.size + 2, 3, none⟩) (by show w.heap.size + 2 < _; omega)).trans fo)
  · exact (below_of (below_of hB3 hB4) hb).setCell (by show w.heap.size ≤ w.heap.size + 2; omega) _
/-- A kid more. -/
theorem CC.step (h : CC w f r c t uv rv ps lv xs W) {Wm w1 : World} (hm : Below W.heap.size W Wm) {g1 cap1 : Nat} {d : Tm} {tv : Value} {sa : Option Addr} {sc : Nat} {S : Nat → Prop} (hK : MIx W S f sa d.kids ∧ Txx W S tv d.text) (hb : ∀ b, S b → w.heap.size + 3 ≤ b ∧ b < W.heap.size ∧ lv.ownBlock ≠ some b) (hsc : d.kids.length ≤ sc) (hg : Wm.grownBy w1 lv.ownBlock)
    (hown : w1.ownsRow (w.heap.size + 3) 25 4 (.slice (some ⟨g1, 0, none⟩) (ps.length + 1) cap1) (ps.length + 1) (xs ++ [.int .i64 d.kind, .string d.cons, tv, .slice sa d.kids.length sc])) (hat : lv.ownBlock = some g1 ∨ g1 = Wm.heap.size) :
    CC w f r c t uv rv (ps ++ [d]) (.slice (some ⟨g1, 0, none⟩) (ps.length + 1) cap1) (xs ++ [.int .i64 d.kind, .string d.cons, tv, .slice sa d.kids.length sc]) (w1.setCell ⟨w.heap.size + 2, 3, none⟩ (.slice (some ⟨g1, 0, none⟩) (ps.length + 1) cap1)) := by
  have hl := h.lt
  have hsm := hm.size
  have hgs := hg.size
  have hlo : ∀ q, lv.ownBlock = some q → w.heap.size + 3 ≤ q := fun q hq => (h.row.lt q hq).1
  have hc1 : ∀ b, b < W.heap.size → lv.ownBlock ≠ some b → ∀ q, w1.cell? ⟨b, q, none⟩ = W.cell? ⟨b, q, none⟩ := fun b hlt hne q =>
    (hg.cell_far ⟨b, q, none⟩ (by show b < _; omega) (fun e => hne e.symm)).trans (hm.cell (p := ⟨b, q, none⟩) hlt)
  have hf1 : ∀ b, b < W.heap.size → lv.ownBlock ≠ some b → ∀ q, w1.frozen? ⟨b, q, none⟩ = W.frozen? ⟨b, q, none⟩ := fun b hlt hne q =>
    (hg.frozen_far ⟨b, q, none⟩ (by show b < _; omega) (fun e => hne e.symm)).trans (hm.frozen (p := ⟨b, q, none⟩) hlt)
  have hs1 : (w1.setCell ⟨w.heap.size + 2, 3, none⟩ (.slice (some ⟨g1, 0, none⟩) (ps.length + 1) cap1)).heap.size = w1.heap.size := by simp [World.setCell]
  have hc2 : ∀ b q, b ≠ w.heap.size + 2 → (w1.setCell ⟨w.heap.size + 2, 3, none⟩ (.slice (some ⟨g1, 0, none⟩) (ps.length + 1) cap1)).cell? ⟨b, q, none⟩ = w1.cell? ⟨b, q, none⟩ := fun b q hne => World.cell?_setCell_far _ _ _ _ (fun e => hne e.symm)
  have n0' : ∀ i, i < 3 → lv.ownBlock ≠ some (w.heap.size + i) := fun i hi e => by have := hlo _ e; omega
  have hk : ∀ b, b < W.heap.size → lv.ownBlock ≠ some b → b ≠ w.heap.size + 2 → ∀ q, (w1.setCell ⟨w.heap.size + 2, 3, none⟩ (.slice (some ⟨g1, 0, none⟩) (ps.length + 1) cap1)).cell? ⟨b, q, none⟩ = W.cell? ⟨b, q, none⟩ := fun b h1 h2 h3 q => (hc2 b q h3).trans (hc1 b h1 h2 q)
  have hfr : ∀ b, b < W.heap.size → lv.ownBlock ≠ some b → ∀ q, (w1.setCell ⟨w.heap.size + 2, 3, none⟩ (.slice (some ⟨g1, 0, none⟩) (ps.length + 1) cap1)).frozen? ⟨b, q, none⟩ = W.frozen? ⟨b, q, none⟩ := fun b h1 h2 q => (World.frozen?_setCell _ _ _ _).trans (hf1 b h1 h2 q)
  have hkb : ∀ b, b < W.heap.size → lv.ownBlock ≠ some b → b ≠ w.heap.size + 2 → (w1.setCell ⟨w.heap.size + 2, 3, none⟩ (.slice (some ⟨g1, 0, none⟩) (ps.length + 1) cap1)).heap[b]? = W.heap[b]? := fun b h1 h2 h3 => (Below.heap_setCell w1 ⟨w.heap.size + 2, 3, none⟩ _ b h3).trans ((hg.block b (by omega) (fun e => h2 e.symm)).trans (hm.block b h1))
  have hnb : ∀ b, b < W.heap.size → (Value.slice (some ⟨g1, 0, none⟩) (ps.length + 1) cap1).ownBlock = some b → lv.ownBlock = some b := fun b hlt e => by
    have e' : g1 = b := by simpa [Value.ownBlock] using e
    rcases hat with hat | hat
    · rw [← e']; exact hat
    · omega
  have ko : ∀ q, q ≠ 3 → (w1.setCell ⟨w.heap.size + 2, 3, none⟩ (.slice (some ⟨g1, 0, none⟩) (ps.length + 1) cap1)).cell? ⟨w.heap.size + 2, q, none⟩ = W.cell? ⟨w.heap.size + 2, q, none⟩ := fun q hq => by rw [World.cell?_setCell_other _ _ _ _ (by simp; try omega), hc1 _ (by omega) (n0' 2 (by omega))]
  obtain ⟨S', x1, x2⟩ := h.tx
  refine ⟨?_, ?_, ⟨S', x1.keep (fun b hb' => hkb b (x2 b hb').2.1 (x2 b hb').2.2 (by have := (x2 b hb').1; omega)), fun b hb' => ⟨(x2 b hb').1, by have := (x2 b hb').2.1; omega, fun e => (x2 b hb').2.2 (hnb b (x2 b hb').2.1 e)⟩⟩, (hk _ (by omega) (n0' 0 (by omega)) (by omega) _).trans h.g3, fun j v hv => (hk _ (by omega) (n0' 1 (by omega)) (by omega) _).trans (h.a j v hv), fun j => (hfr _ (by omega) (n0' 1 (by omega)) _).trans (h.fa j), (ko 0 (by omega)).trans h.o0, (ko 1 (by omega)).trans h.o1, (ko 2 (by omega)).trans h.o2, ?_, (hfr _ (by omega) (n0' 2 (by omega)) _).trans h.fo, ?_, by omega⟩
  · rw [List.length_append]; exact row_set hown (by show w.heap.size + 2 < _; omega) _
  · exact (h.cx.snoc hK hb hsc).move (by omega) (fun b h0 h1 h2 => hkb b h1 h2 (by omega)) hnb
  · exact World.cell?_setCell_same' _ _ _ (by rw [hc1 _ (by omega) (n0' 2 (by omega)), h.o3]; rfl)
  · exact ((h.bel.trans (hm.mono (by omega))).grown hg (by omega) (fun q hq => by have := hlo q hq; omega)).setCell (by show w.heap.size ≤ w.heap.size + 2; omega) _
end
/-- What is told of a copy. -/
def Cpd (f : Nat) (d : Tm) (w : World) (e : Ending) (w' : World) : Prop := (∃ uv va vc, e = .returned (.agg #[.int .i64 d.kind, .string d.cons, uv, .slice va d.kids.length vc]) ∧ d.kids.length ≤ vc ∧ Txx w' (fun b => w.heap.size ≤ b ∧ b < w'.heap.size) uv d.text ∧ MIx w' (fun b => w.heap.size ≤ b ∧ b < w'.heap.size) f va d.kids) ∧ Below w.heap.size w w'
set_option maxRecDepth 100000 in
set_option maxHeartbeats 8000000 in
theorem copy_step : ∀ (f : Nat) (d : Tm) (tv : Value) (sa : Option Addr) (sc : Nat) (w : World), (∀ x ∈ d.kids, ∀ (xv : Value) (xa : Option Addr) (xc : Nat) (w : World), Txt w w.heap.size xv x.text → MAt w w.heap.size f xa x.kids → Calls Tryd.prog 14 #[.agg #[.int .i64 x.kind, .string x.cons, xv, .slice xa x.kids.length xc]] w (Cpd f x w)) → Txt w w.heap.size tv d.text → MAt w w.heap.size (f + 1) sa d.kids →
    Calls Tryd.prog 14 #[.agg #[.int .i64 d.kind, .string d.cons, tv, .slice sa d.kids.length sc]] w (Cpd (f + 1) d w) := by
  intro f d tv sa sc w ih htv hk
  have hlen := hk.1
  obtain ⟨i0, hinf, hz0, hz1, hz2⟩ := info_parts infoTerm
  obtain ⟨ta, tc, rfl, htc, htl, hta⟩ := htv
  have HI : Hid _ := ih
  have HK : Hid _ := hk.2
  unfold Cpd
  obtain ⟨n, hn⟩ : ∃ n, d.kids.length = n := ⟨_, rfl⟩
  rw [hn] at hlen ⊢
  have hBW : Below w.heap.size w (((w.alloc (.cells #[.int .i64 d.kind, .string d.cons, .slice ta d.text.length tc, .slice sa n sc] 25)).alloc (.cells #[.int .i64 0, .string ⟨#[]⟩, .slice none 0 0, .slice none 0 0] 25)).alloc (.cells #[.int .i64 d.kind, .string d.cons, .slice none 0 0, .slice none 0 0] 25)) := (((Below.refl _ _).alloc (Nat.le_refl _) _).alloc (by simp) _).alloc (by simp; omega) _
  have HT : Hid (BAt (((w.alloc (.cells #[.int .i64 d.kind, .string d.cons, .slice ta d.text.length tc, .slice sa n sc] 25)).alloc (.cells #[.int .i64 0, .string ⟨#[]⟩, .slice none 0 0, .slice none 0 0] 25)).alloc (.cells #[.int .i64 d.kind, .string d.cons, .slice none 0 0, .slice none 0 0] 25)) w.heap.size ta d.text) := hta.keep (fun b q hb => hBW.cell (p := ⟨b, q, none⟩) hb)
  have HC0 : Hid (∀ (uv : Value) (w4 : World), _ → _ → _) := fun (uv : Value) (w4 : World) hx hb => CC.start (w := w) (uv := uv) (w4 := w4) (t := d.text) (r := d.kind) (c := d.cons) (tv := .slice ta d.text.length tc) (rv := .slice sa n sc) rfl hx hb f
  clear ih hk hta hBW
  go_enter Tryd.func14, Tryd.ntmps14
  go_wp2_with (at_builtin; refine wpList_append_bytes rfl _ _ rfl d.text ta tc w.heap.size rfl rfl ?ca1 htl ?_)
  case ca1 => exact HT.out
  intro uv w4 hx hb
  have hX0 := HC0.out uv w4 hx hb
  obtain ⟨ua, uc, rfl, _⟩ := hx
  have q2 : w4.cell? ⟨w.heap.size + 1 + 1, 2, none⟩ = some (.slice none 0 0) := (hb.cell (p := ⟨w.heap.size + 1 + 1, 2, none⟩) (by show w.heap.size + 1 + 1 < _; simp)).trans (by
    have := cell_new (w := ((w.alloc (.cells #[.int .i64 d.kind, .string d.cons, .slice ta d.text.length tc, .slice sa n sc] 25)).alloc (.cells #[.int .i64 0, .string ⟨#[]⟩, .slice none 0 0, .slice none 0 0] 25))) (cs := #[.int .i64 d.kind, .string d.cons, .slice none 0 0, .slice none 0 0]) (t := 25) 2 rfl
    simpa using this)
  have f2 : w4.frozen? ⟨w.heap.size + 1 + 1, 2, none⟩ = false := (hb.frozen (p := ⟨w.heap.size + 1 + 1, 2, none⟩) (by show w.heap.size + 1 + 1 < _; simp)).trans (by
    have := World.frozen?_alloc_new (((w.alloc (.cells #[.int .i64 d.kind, .string d.cons, .slice ta d.text.length tc, .slice sa n sc] 25)).alloc (.cells #[.int .i64 0, .string ⟨#[]⟩, .slice none 0 0, .slice none 0 0] 25))) #[.int .i64 d.kind, .string d.cons, .slice none 0 0, .slice none 0 0] 25 2
    simpa using this)
  have HX0 : Hid _ := hX0
  clear hX0 hb HC0 HT
  go_wp2
  clear q2 f2
  go_loopw [4] (fun iv W => ∃ (k : Nat) (lv : Value) (xs : List Value), k ≤ n ∧ iv = .int .i64 k ∧ CC w f d.kind d.cons d.text (.slice ua d.text.length uc) (.slice sa n sc) (d.kids.take k) lv xs W) (fun iv _ => n - (intOf iv).toNat)
  case atStart => exact ⟨0, _, _, by omega, rfl, HX0.out⟩
  case round =>
    obtain ⟨k, lv, xs, hk, rfl, hX⟩ := hrel
    clear HX0
    by_cases hlt : k < n
    · obtain ⟨x, hx⟩ : ∃ x, d.kids[k]? = some x := ⟨d.kids[k]'(by omega), by simp⟩
      obtain ⟨b, o, rfl, hb, xa, xc, e0, e1, ⟨ya, yc, e2, hyc, hyl, hya⟩, e3, hxc, hxk⟩ := HK.out k x hx
      have hps : (d.kids.take k).length = k := by rw [List.length_take]; omega
      have HP : Hid (d.kids.take (k + 1) = d.kids.take k ++ [x]) := by show _ = _; rw [List.take_add_one, hx]; rfl
      generalize d.kids.take k = ps at hX hps HP
      have hg3 := hX.g3
      have hXl := hX.lt
      have hXb := hX.bel
      have hbs := hXb.size
      have e0' := (hXb.cell (p := ⟨b, o + k * 4, none⟩) hb).trans e0
      have e1' := (hXb.cell (p := ⟨b, o + k * 4 + 1, none⟩) hb).trans e1
      have e2' := (hXb.cell (p := ⟨b, o + k * 4 + 2, none⟩) hb).trans e2
      have e3' := (hXb.cell (p := ⟨b, o + k * 4 + 3, none⟩) hb).trans e3
      have hkI : (k : Int) < n := by omega
      have HC : Hid _ := fun (_ : Unit) => HI.out x (List.mem_of_getElem? hx) (.slice ya x.text.length yc) xa xc wr ⟨ya, yc, rfl, hyc, hyl, (hya.keep (fun b q hb => hXb.cell (p := ⟨b, q, none⟩) hb)).mono hbs⟩ ((hxk.keep hXb).mono hbs)
      have HX : Hid _ := hX
      clear e0 e1 e2 e3 hxk hx hX HK HI hXb hya
      go_wp2_with (go_at_call 14; refine (HC.out ()).mono ?_)
      rintro e w2 ⟨⟨yv, va, vc, rfl, hvc, htx, htin⟩, hb2⟩
      have htx' := htx
      obtain ⟨va', vc', rfl, _⟩ := htx'
      have hX2 := HX.out.below hb2
      have hl2 := hX2.lt
      obtain ⟨W6, hW6⟩ : ∃ W6, w2.alloc (.cells #[.int .i64 x.kind, .string x.cons, (.slice va' x.text.length vc'), .slice va x.kids.length vc] 25) = W6 := ⟨_, rfl⟩
      have hB6 : Below w2.heap.size w2 W6 := by rw [← hW6]; exact (Below.refl _ _).alloc (Nat.le_refl _) _
      have s6 : W6.heap.size = w2.heap.size + 1 := by rw [← hW6]; simp
      have t0 : W6.cell? ⟨w2.heap.size, 0, none⟩ = some (.int .i64 x.kind) := by rw [← hW6]; exact cell_new 0 rfl
      have t1 : W6.cell? ⟨w2.heap.size, 1, none⟩ = some (.string x.cons) := by rw [← hW6]; exact cell_new 1 rfl
      have t2 : W6.cell? ⟨w2.heap.size, 2, none⟩ = some (.slice va' x.text.length vc') := by rw [← hW6]; exact cell_new 2 rfl
      have t3 : W6.cell? ⟨w2.heap.size, 3, none⟩ = some (.slice va x.kids.length vc) := by rw [← hW6]; exact cell_new 3 rfl
      have hX6 := hX2.below hB6
      have hrow := hX6.row
      have o3 : W6.cell? ⟨w.heap.size + 1 + 1, 3, none⟩ = some lv := hX6.o3
      have htin6 : MIx W6 (fun b => wr.heap.size ≤ b ∧ b < w2.heap.size) f va x.kids ∧ Txx W6 (fun b => wr.heap.size ≤ b ∧ b < w2.heap.size) (.slice va' x.text.length vc') x.text := ⟨htin.keep (fun b hb => hB6.block b hb.2), htx.keep (fun b hb => hB6.block b hb.2)⟩
      have hfar : ∀ b, (wr.heap.size ≤ b ∧ b < w2.heap.size) → w.heap.size + 3 ≤ b ∧ b < W6.heap.size ∧ lv.ownBlock ≠ some b := fun b hb => ⟨by omega, by omega, fun e => by have := (HX.out.row.lt b e).2; omega⟩
      have hone : (Value.slice va' x.text.length vc').oneCell' = true := rfl
      have HT : Hid _ := fun (_ : Unit) => htin6
      have HF : Hid _ := hfar
      have HX6 : Hid _ := hX6
      have HROW : Hid _ := fun (_ : Unit) => hrow
      have hl6 := hX6.lt
      clear s6
      clear htin htx hX2 hb2 hg3 e0' e1' e2' e3' HC htin6 hfar hX6 hB6
      go_wp2_with (at_builtin; refine wpList_append_lies _ rfl _ _ 23 rfl (w.heap.size + 3) 25 i0 _ 4 72 Tryd.underlying23 hinf hz0 hz1 hz2 rfl (by decide) lv ps.length xs rfl ((HROW.out ()).alloc _) ⟨W6.heap.size, 0, none⟩ 1 1 [.int .i64 x.kind, .string x.cons, (.slice va' x.text.length vc'), .slice va x.kids.length vc] rfl rfl ?ca1 ?ca2 (by decide) ?ca3 ?ca4 ?ca5 (W6.heap.size + 1) (by simp) ?_)
      case ca1 => exact cell_four_new _ _ _ _ _ _
      case ca2 => intro u hu; simp at hu; rcases hu with rfl | rfl | rfl | rfl <;> first | rfl | exact hone
      case ca3 => unfold maxLen; omega
      case ca4 => omega
      case ca5 => simp; omega
      intro g1 cap1 w7 hown7 hgrow hat _
      have hBm : Below W6.heap.size W6 (W6.alloc (.cells #[.int .i64 x.kind, .string x.cons, (.slice va' x.text.length vc'), .slice va x.kids.length vc] 25)) := (Below.refl _ _).alloc (Nat.le_refl _) _
      have hsm : (W6.alloc (.cells #[.int .i64 x.kind, .string x.cons, (.slice va' x.text.length vc'), .slice va x.kids.length vc] 25)).heap.size = W6.heap.size + 1 := by simp
      have n2 : lv.ownBlock ≠ some (w.heap.size + 1 + 1) := fun e => by have := ((HROW.out ()).lt _ e).1; omega
      have p2 : w7.cell? ⟨w.heap.size + 1 + 1, 3, none⟩ = some lv := (hgrow.cell_far ⟨w.heap.size + 1 + 1, 3, none⟩ (by show w.heap.size + 1 + 1 < _; omega) (fun e => n2 e.symm)).trans ((hBm.cell (p := ⟨w.heap.size + 1 + 1, 3, none⟩) (by show w.heap.size + 1 + 1 < _; omega)).trans o3)
      have pf : w7.frozen? ⟨w.heap.size + 1 + 1, 3, none⟩ = false := (hgrow.frozen_far ⟨w.heap.size + 1 + 1, 3, none⟩ (by show w.heap.size + 1 + 1 < _; omega) (fun e => n2 e.symm)).trans ((hBm.frozen (p := ⟨w.heap.size + 1 + 1, 3, none⟩) (by show w.heap.size + 1 + 1 < _; omega)).trans HX6.out.fo)
      have hst := HX6.out.step (g1 := g1) (cap1 := cap1) (sc := vc) hBm (HT.out ()) HF.out hvc hgrow (by rw [hps]; exact hown7) (by rw [hsm]; exact hat)
      rw [hps] at hst
      have HS : Hid _ := hst
      clear hst hgrow hown7 hat hBm hsm n2 hrow o3 t0 t1 t2 t3
      go_wp2
      refine ⟨⟨k + 1, .slice (some ⟨g1, 0, none⟩) (k + 1) cap1, xs ++ [.int .i64 x.kind, .string x.cons, (.slice va' x.text.length vc'), .slice va x.kids.length vc], by omega, by go_num, ?_⟩, by simp [intOf]; omega⟩
      rw [HP.out]
      exact HS.out
    · obtain rfl : k = n := by omega
      rw [List.take_of_length_le (by omega)] at hX
      have hrow := hX.row
      have htin := hX.cx.tin hrow (by rw [hn]; exact hlen)
      have a0 := hX.a 0 _ rfl
      have a1 := hX.a 1 _ rfl
      have a2 := hX.a 2 _ rfl
      have a3 := hX.a 3 _ rfl
      have f0 := hX.fa 0
      have f1 := hX.fa 1
      have f2 := hX.fa 2
      have f3 := hX.fa 3
      have g3 := hX.g3
      have o0 : wr.cell? ⟨w.heap.size + 1 + 1, 0, none⟩ = some (.int .i64 d.kind) := hX.o0
      have o1 : wr.cell? ⟨w.heap.size + 1 + 1, 1, none⟩ = some (.string d.cons) := hX.o1
      have o2 : wr.cell? ⟨w.heap.size + 1 + 1, 2, none⟩ = some (.slice ua d.text.length uc) := hX.o2
      have o3 : wr.cell? ⟨w.heap.size + 1 + 1, 3, none⟩ = some lv := hX.o3
      have hbel := hX.bel
      have hl := hX.lt
      obtain ⟨S, hx1, hx2⟩ := hX.tx
      obtain ⟨la, lc, rfl, hlc, hti⟩ := htin
      rw [hn] at o3 hlc
      have HT : Hid _ := fun (_ : Unit) => hti
      have HXT : Hid (Txx wr S (.slice ua d.text.length uc) d.text) := hx1
      have HX2 : Hid _ := fun (_ : Unit) => hx2
      have HB : Hid _ := hbel
      clear hX hrow hti HI HK hbel hx2 hx1
      go_wp2
      refine bodyPost_ret (v := .agg #[.int .i64 d.kind, .string d.cons, .slice ua d.text.length uc, .slice la k lc]) (by simp [results, Tryd.results14, go_sem, a0, a1, a2, a3]) rfl ?_
      have hsB : w.heap.size ≤ w.heap.size + 1 := by omega
      refine ⟨⟨.slice ua d.text.length uc, la, lc, rfl, hlc, ?_, ?_⟩, (((HB.out.setCell hsB _).setCell hsB _).setCell hsB _).setCell hsB _⟩
      · refine ((show Txx wr S _ _ from HXT.out).keep (fun b hb => ?_)).wide (fun b hb => ⟨by have := (HX2.out () b hb).1; omega, by simp [World.setCell]; exact (HX2.out () b hb).2.1⟩)
        have hne : w.heap.size + 1 ≠ b := by have := (HX2.out () b hb).1; omega
        exact set4_block hne _ _ _ _ _ _ _ _
      · refine ((HT.out ()).keep (fun b hb => ?_)).wide (fun b hb => ⟨by omega, by simp [World.setCell]; exact hb.2⟩)
        have hne : w.heap.size + 1 ≠ b := by omega
        exact set4_block hne _ _ _ _ _ _ _ _
theorem copy_any : ∀ (f : Nat) (d : Tm) (tv : Value) (sa : Option Addr) (sc : Nat) (w : World), Txt w w.heap.size tv d.text → MAt w w.heap.size f sa d.kids → Calls Tryd.prog 14 #[.agg #[.int .i64 d.kind, .string d.cons, tv, .slice sa d.kids.length sc]] w (Cpd f d w) := by
  intro f
  induction f with
  | zero =>
    intro d tv sa sc w ht hk
    have h0 : d.kids = [] := hk
    refine (copy_step 0 d tv sa sc w (fun x hx => by rw [h0] at hx; cases hx) ht (hk.up)).mono ?_
    rintro e w' ⟨⟨uv, va, vc, h1, h2, h3, _⟩, h4⟩
    exact ⟨⟨uv, va, vc, h1, h2, h3, h0⟩, h4⟩
  | succ f ih => exact fun d tv sa sc w ht hk => copy_step f d tv sa sc w (fun x _ xv xa xc W hW hK => ih x xv xa xc W hW hK) ht hk
end Go.Proofs.YtlkcadibjmfmcaaDoor
