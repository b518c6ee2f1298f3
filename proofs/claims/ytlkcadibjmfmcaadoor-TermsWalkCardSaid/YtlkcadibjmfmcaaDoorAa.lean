/- A term in memory, whatever its depth: the contracts in one form. The fixed calls of the laws. -/
import Derived.Test.YtlkcadibjmfmcaaDoorQi
import Derived.Test.YtlkcadibjmfmcaaDoorRa
import Derived.Test.YtlkcadibjmfmcaaDoorTf
import Derived.Test.YtlkcadibjmfmcaaDoorC1
import Derived.Deep.RegionHeld3
namespace Go.Proofs.YtlkcadibjmfmcaaDoor
open Go.RowKit

theorem MAt.ups {w : World} {B : Nat} {f : Nat} {a : Option Addr} {l : List Tm} (h : MAt w B f a l) : ∀ k, MAt w B (f + k) a l
  | 0 => h
  | k + 1 => (h.ups k).up
theorem MAt.ups' {w : World} {B : Nat} {f : Nat} {a : Option Addr} {l : List Tm} (h : MAt w B f a l) (k : Nat) : MAt w B (k + f) a l := by
  rw [Nat.add_comm]; exact h.ups k
/-- A term lies where its value says. -/
structure TA (W : World) (d : Tm) (ta : Option Addr) (tc : Nat) (sa : Option Addr) (sc : Nat) : Prop where
  tc' : d.text.length ≤ tc
  tl : d.text.length ≤ 140737488355328
  bat : BAt W W.heap.size ta d.text
  sc' : d.kids.length ≤ sc
  mat : ∃ f, MAt W W.heap.size f sa d.kids
section
variable {W W' : World} {d : Tm} {ta : Option Addr} {tc : Nat} {sa : Option Addr} {sc : Nat}
theorem TA.nx (hb : Below W.heap.size W W') (h : TA W d ta tc sa sc) : TA W' d ta tc sa sc := by
  obtain ⟨f, hf⟩ := h.mat
  exact ⟨h.tc', h.tl, (h.bat.keep (fun b q hlt => hb.cell (p := ⟨b, q, none⟩) hlt)).mono hb.size, h.sc', f, (hf.keep hb).mono hb.size⟩
theorem TA.drew (h : TA W d ta tc sa sc) : TA W.drew d ta tc sa sc := TA.nx (show Below W.heap.size W W.drew from ⟨rfl, rfl, rfl, Nat.le_refl _, fun _ _ => rfl⟩) h
theorem TA.txt (h : TA W d ta tc sa sc) : Txt W W.heap.size (.slice ta d.text.length tc) d.text := ⟨ta, tc, rfl, h.tc', h.tl, h.bat⟩
theorem TA.of {f : Nat} {S : Nat → Prop} (hS : ∀ b, S b → b < W.heap.size) (hsc : d.kids.length ≤ sc) (h1 : MIx W S f sa d.kids) (h2 : Txx W S (.slice ta d.text.length tc) d.text) : TA W d ta tc sa sc := by
  obtain ⟨ta', tc', e, h3, h4, h5⟩ := h2.txt hS
  cases e
  exact ⟨h3, h4, h5, hsc, f, h1.mat hS⟩
end
theorem print_t (d : Tm) (ta : Option Addr) (tc : Nat) (sa : Option Addr) (sc : Nat) (w : World) (h : TA w d ta tc sa sc) (hlen : sz d ≤ 1000000000000) :
    Calls Tryd.prog 28 #[.agg #[.int .i64 d.kind, .string d.cons, .slice ta d.text.length tc, .slice sa d.kids.length sc]] w fun e w' => e = .returned (.tuple #[.string (prt d).1, .int .i64 (prt d).2]) ∧ Below w.heap.size w w' := by
  obtain ⟨f, hf⟩ := h.mat
  exact print_any d _ sa sc f w h.txt hf h.sc' hlen
theorem size_t (d : Tm) (ta : Option Addr) (tc : Nat) (sa : Option Addr) (sc : Nat) (w : World) (h : TA w d ta tc sa sc) (hlen : sz d ≤ 1000000000000) :
    Calls Tryd.prog 15 #[.agg #[.int .i64 d.kind, .string d.cons, .slice ta d.text.length tc, .slice sa d.kids.length sc]] w fun e w' => e = .returned (.tuple #[.int .i64 (sz d : Int), .int .i64 (dp d : Int)]) ∧ Below w.heap.size w w' := by
  obtain ⟨f, hf⟩ := h.mat
  exact size_any d _ sa sc f w h.txt hf h.sc' hlen
theorem refSize_t (d : Tm) (ta : Option Addr) (tc : Nat) (sa : Option Addr) (sc : Nat) (w : World) (h : TA w d ta tc sa sc) (hlen : sz d ≤ 1000000000000) :
    Calls Tryd.prog 16 #[.agg #[.int .i64 d.kind, .string d.cons, .slice ta d.text.length tc, .slice sa d.kids.length sc]] w fun e w' => e = .returned (.tuple #[.int .i64 (sz d : Int), .int .i64 (dp d : Int)]) ∧ Below w.heap.size w w' := by
  obtain ⟨f, hf⟩ := h.mat
  exact refSize_any f (sz d) d _ sa sc w (Nat.le_refl _) hf hlen
theorem right_t (d : Tm) (ta : Option Addr) (tc : Nat) (sa : Option Addr) (sc : Nat) (w : World) (h : TA w d ta tc sa sc) (hlen : sz d ≤ 1000000000000) :
    Calls Tryd.prog 19 #[.agg #[.int .i64 d.kind, .string d.cons, .slice ta d.text.length tc, .slice sa d.kids.length sc]] w fun e w' => e = .returned (.bool (rightT d)) ∧ Below w.heap.size w w' := by
  obtain ⟨f, hf⟩ := h.mat
  exact right_any d _ sa sc f w h.txt hf h.sc' (by rw [pre_len]; exact hlen)
theorem refRight_t (d : Tm) (ta : Option Addr) (tc : Nat) (sa : Option Addr) (sc : Nat) (w : World) (h : TA w d ta tc sa sc) (hlen : sz d ≤ 1000000000000) :
    Calls Tryd.prog 20 #[.agg #[.int .i64 d.kind, .string d.cons, .slice ta d.text.length tc, .slice sa d.kids.length sc]] w fun e w' => e = .returned (.bool (rightT d)) ∧ Below w.heap.size w w' := by
  obtain ⟨f, hf⟩ := h.mat
  exact refRight_any d ta tc sa sc f w hf hlen
theorem heavy_t (d : Tm) (ta : Option Addr) (tc : Nat) (sa : Option Addr) (sc : Nat) (w : World) (h : TA w d ta tc sa sc) :
    Calls Tryd.prog 12 #[.agg #[.int .i64 d.kind, .string d.cons, .slice ta d.text.length tc, .slice sa d.kids.length sc]] w fun e w' => e = .returned (.bool (decide (1000 < wt d))) ∧ Below w.heap.size w w' := by
  obtain ⟨f, hf⟩ := h.mat
  exact heavy_any d ta tc sa sc f w h.tl hf
theorem same_t (a b : Tm) (ta : Option Addr) (tc : Nat) (sa : Option Addr) (sc : Nat) (tb : Option Addr) (td : Nat) (sb : Option Addr) (sd : Nat) (w : World) (ha : TA w a ta tc sa sc) (hb : TA w b tb td sb sd) (hlen : sz a ≤ 1000000000000) :
    Calls Tryd.prog 22 #[.agg #[.int .i64 a.kind, .string a.cons, .slice ta a.text.length tc, .slice sa a.kids.length sc], .agg #[.int .i64 b.kind, .string b.cons, .slice tb b.text.length td, .slice sb b.kids.length sd]] w fun e w' => e = .returned (.bool (eqT a b)) ∧ Below w.heap.size w w' := by
  obtain ⟨f, hf⟩ := ha.mat
  obtain ⟨g, hg⟩ := hb.mat
  exact same_any a b _ _ sa sb sc sd (f + g) w ha.txt hb.txt (hf.ups g) (hg.ups' f) ha.sc' hb.sc' hlen
theorem refSame_t (a b : Tm) (ta : Option Addr) (tc : Nat) (sa : Option Addr) (sc : Nat) (tb : Option Addr) (td : Nat) (sb : Option Addr) (sd : Nat) (w : World) (ha : TA w a ta tc sa sc) (hb : TA w b tb td sb sd) :
    Calls Tryd.prog 21 #[.agg #[.int .i64 a.kind, .string a.cons, .slice ta a.text.length tc, .slice sa a.kids.length sc], .agg #[.int .i64 b.kind, .string b.cons, .slice tb b.text.length td, .slice sb b.kids.length sd]] w fun e w' => e = .returned (.bool (eqT a b)) ∧ Below w.heap.size w w' := by
  obtain ⟨f, hf⟩ := ha.mat
  obtain ⟨g, hg⟩ := hb.mat
  exact refSame_any f g (sz a) a b ta tb tc td sa sb sc sd w (Nat.le_refl _) ha.bat hb.bat hf hg
/-- What comes of reading a text, in this form. -/
theorem parse_t (s : ByteArray) (w : World) (hs : s.size ≤ maxLen) : Calls Tryd.prog 30 #[.string s] w fun e w' => (match rpar s with
    | .ok d _ => ∃ ta tc sa sc, e = .returned (.tuple #[.agg #[.int .i64 d.kind, .string d.cons, .slice ta d.text.length tc, .slice sa d.kids.length sc], .agg #[.int .i64 0, .int .i64 0]]) ∧ TA w' d ta tc sa sc
    | .bad q c => e = .returned (.tuple #[.agg #[.int .i64 0, .string ⟨#[]⟩, .slice none 0 0, .slice none 0 0], .agg #[.int .i64 (q : Int), .int .i64 (c : Int)]])) ∧ Below w.heap.size w w' := by
  have h := parse_any s w hs
  cases hr : rpar s with
  | ok d q =>
    rw [hr] at h
    refine h.mono ?_
    rintro e w' ⟨⟨ta, tc, va, vc, rfl, h1, h2, h3⟩, hb⟩
    exact ⟨⟨ta, tc, va, vc, rfl, TA.of (fun b hb => hb.2) h1 h2 h3⟩, hb⟩
  | bad q c =>
    rw [hr] at h
    exact h
/-- The term of the fixed calls. -/
def someD : Tm := .mk 1 ⟨#[65, 100, 100]⟩ [] [.mk 1 ⟨#[78, 117, 109]⟩ [] [.mk 2 ⟨#[]⟩ [49] []], .mk 1 ⟨#[83, 101, 113]⟩ [] [.mk 3 ⟨#[]⟩ [] []]]
theorem rpar_some : rpar ⟨#[32, 65, 100, 100, 40, 78, 117, 109, 40, 34, 49, 34, 41, 44, 32, 83, 101, 113, 40, 91, 32, 93, 41, 41]⟩ = .ok someD 24 := by kernel_rfl
theorem rpar_none : rpar ⟨#[65, 40, 41]⟩ = .bad 2 11 := by kernel_rfl
theorem prt_some : prt someD = (⟨#[65, 100, 100, 40, 78, 117, 109, 40, 34, 49, 34, 41, 44, 83, 101, 113, 40, 91, 93, 41, 41]⟩, 0) := by kernel_rfl
theorem sz_some : sz someD = 5 := by rfl
theorem dp_some : dp someD = 3 := by rfl
theorem right_some : rightT someD = true := by kernel_rfl
/-- The term and the fault in their boxes. -/
structure AB (w : World) (tb : Nat) (ta : Option Addr) (tc : Nat) (sa : Option Addr) (sc : Nat) (W : World) : Prop where
  bel : Below w.heap.size w W
  t0 : W.cell? ⟨tb, 0, none⟩ = some (.int .i64 1)
  t1 : W.cell? ⟨tb, 1, none⟩ = some (.string ⟨#[65, 100, 100]⟩)
  t2 : W.cell? ⟨tb, 2, none⟩ = some (.slice ta 0 tc)
  t3 : W.cell? ⟨tb, 3, none⟩ = some (.slice sa 2 sc)
  f0 : W.cell? ⟨tb + 1, 0, none⟩ = some (.int .i64 0)
  f1 : W.cell? ⟨tb + 1, 1, none⟩ = some (.int .i64 0)
  ta' : TA W someD ta tc sa sc
  lt : tb + 1 < W.heap.size
theorem AB.nx {w W W' : World} {tb : Nat} {ta : Option Addr} {tc : Nat} {sa : Option Addr} {sc : Nat} (hb : Below W.heap.size W W') (h : AB w tb ta tc sa sc W) : AB w tb ta tc sa sc W' := by
  have hl := h.lt
  have k : ∀ b q, b < W.heap.size → W'.cell? ⟨b, q, none⟩ = W.cell? ⟨b, q, none⟩ := fun b q hlt => hb.cell (p := ⟨b, q, none⟩) hlt
  exact ⟨below_of h.bel hb, (k _ _ (by omega)).trans h.t0, (k _ _ (by omega)).trans h.t1, (k _ _ (by omega)).trans h.t2, (k _ _ (by omega)).trans h.t3, (k _ _ (by omega)).trans h.f0, (k _ _ (by omega)).trans h.f1, h.ta'.nx hb, Nat.lt_of_lt_of_le hl hb.size⟩
theorem two_boxes (w w1 : World) (hw : Below w.heap.size w w1) (cs fs : Array Value) : let X := (w1.alloc (.cells cs 25)).alloc (.cells fs 44); Below w.heap.size w X ∧ Below w1.heap.size w1 X ∧ (∀ (j : Nat) v, cs[j]? = some v → X.cell? ⟨w1.heap.size, j, none⟩ = some v) ∧ (∀ (j : Nat) v, fs[j]? = some v → X.cell? ⟨w1.heap.size + 1, j, none⟩ = some v) ∧ X.heap.size = w1.heap.size + 2 := by
  intro X
  obtain ⟨u1, hu1⟩ : ∃ u1, w1.alloc (.cells cs 25) = u1 := ⟨_, rfl⟩
  obtain ⟨u2, hu2⟩ : ∃ u2, u1.alloc (.cells fs 44) = u2 := ⟨_, rfl⟩
  have hX : X = u2 := by show (w1.alloc _).alloc _ = _; rw [hu1, hu2]
  rw [hX]
  have s1 : u1.heap.size = w1.heap.size + 1 := by rw [← hu1]; simp
  have s2 : u2.heap.size = w1.heap.size + 2 := by rw [← hu2]; simp [s1]
  have b1 : Below w1.heap.size w1 u1 := by rw [← hu1]; exact (Below.refl _ _).alloc (Nat.le_refl _) _
  have b2 : Below u1.heap.size u1 u2 := by rw [← hu2]; exact (Below.refl _ _).alloc (Nat.le_refl _) _
  exact ⟨below_of (below_of hw b1) b2, b1.trans (b2.mono (by omega)), fun j v hv => (b2.cell (p := ⟨w1.heap.size, j, none⟩) (by show w1.heap.size < _; omega)).trans (by rw [← hu1]; exact cell_new j hv), fun j v hv => by rw [← hu2, ← s1]; exact cell_new j hv, s2⟩
set_option maxRecDepth 100000 in
set_option maxHeartbeats 8000000 in
theorem alive_any (w : World) : Calls Tryd.prog 13 #[] w fun e w' => e = .returned (.bool true) ∧ Below w.heap.size w w' := by
  have HP : Hid (∀ W : World, Calls Tryd.prog 30 #[.string ⟨#[32, 65, 100, 100, 40, 78, 117, 109, 40, 34, 49, 34, 41, 44, 32, 83, 101, 113, 40, 91, 32, 93, 41, 41]⟩] W fun e w' => (∃ ta tc sa sc, e = .returned (.tuple #[.agg #[.int .i64 1, .string ⟨#[65, 100, 100]⟩, .slice ta 0 tc, .slice sa 2 sc], .agg #[.int .i64 0, .int .i64 0]]) ∧ TA w' someD ta tc sa sc) ∧ Below W.heap.size W w') := fun W => by
    have := parse_t ⟨#[32, 65, 100, 100, 40, 78, 117, 109, 40, 34, 49, 34, 41, 44, 32, 83, 101, 113, 40, 91, 32, 93, 41, 41]⟩ W (by decide)
    rw [rpar_some] at this
    exact this
  have HQ : Hid (∀ W : World, Calls Tryd.prog 30 #[.string ⟨#[65, 40, 41]⟩] W fun e w' => e = .returned (.tuple #[.agg #[.int .i64 0, .string ⟨#[]⟩, .slice none 0 0, .slice none 0 0], .agg #[.int .i64 2, .int .i64 11]]) ∧ Below W.heap.size W w') := fun W => by
    have := parse_t ⟨#[65, 40, 41]⟩ W (by decide)
    rw [rpar_none] at this
    exact this
  have HR : Hid (∀ W ta tc sa sc, TA W someD ta tc sa sc → Calls Tryd.prog 28 #[.agg #[.int .i64 1, .string ⟨#[65, 100, 100]⟩, .slice ta 0 tc, .slice sa 2 sc]] W fun e w' => e = .returned (.tuple #[.string ⟨#[65, 100, 100, 40, 78, 117, 109, 40, 34, 49, 34, 41, 44, 83, 101, 113, 40, 91, 93, 41, 41]⟩, .int .i64 0]) ∧ Below W.heap.size W w') := fun W ta tc sa sc h => by
    have := print_t someD ta tc sa sc W h (by rw [sz_some]; decide)
    rw [prt_some] at this
    exact this
  have HZ : Hid (∀ W ta tc sa sc, TA W someD ta tc sa sc → Calls Tryd.prog 15 #[.agg #[.int .i64 1, .string ⟨#[65, 100, 100]⟩, .slice ta 0 tc, .slice sa 2 sc]] W fun e w' => e = .returned (.tuple #[.int .i64 5, .int .i64 3]) ∧ Below W.heap.size W w') := fun W ta tc sa sc h => by
    have := size_t someD ta tc sa sc W h (by rw [sz_some]; decide)
    rw [sz_some, dp_some] at this
    exact this
  have HG : Hid (∀ W ta tc sa sc, TA W someD ta tc sa sc → Calls Tryd.prog 19 #[.agg #[.int .i64 1, .string ⟨#[65, 100, 100]⟩, .slice ta 0 tc, .slice sa 2 sc]] W fun e w' => e = .returned (.bool true) ∧ Below W.heap.size W w') := fun W ta tc sa sc h => by
    have := right_t someD ta tc sa sc W h (by rw [sz_some]; decide)
    rw [right_some] at this
    exact this
  go_enter Tryd.func13, Tryd.ntmps13
  go_wp2_with (go_at_call 30; refine (HP.out _).mono ?_; rintro e w1 ⟨⟨ta, tc, sa, sc, rfl, hs1⟩, hb1⟩)
  have HA1 : Hid (AB w w1.heap.size ta tc sa sc ((w1.alloc (.cells #[.int .i64 1, .string ⟨#[65, 100, 100]⟩, .slice ta 0 tc, .slice sa 2 sc] 25)).alloc (.cells #[.int .i64 0, .int .i64 0] 44))) := by
    obtain ⟨h1, h2, h3, h4, h5⟩ := two_boxes w w1 hb1 #[.int .i64 1, .string ⟨#[65, 100, 100]⟩, .slice ta 0 tc, .slice sa 2 sc] #[.int .i64 0, .int .i64 0]
    exact ⟨h1, h3 0 _ rfl, h3 1 _ rfl, h3 2 _ rfl, h3 3 _ rfl, h4 0 _ rfl, h4 1 _ rfl, hs1.nx h2, by omega⟩
  generalize hu : ((w1.alloc (.cells #[.int .i64 1, .string ⟨#[65, 100, 100]⟩, .slice ta 0 tc, .slice sa 2 sc] 25)).alloc (.cells #[.int .i64 0, .int .i64 0] 44)) = u at HA1 ⊢
  clear hu hb1 hs1
  refine (HR.out _ _ _ _ _ HA1.out.ta').mono ?_
  rintro e w2 ⟨rfl, hb2⟩
  have HA2 : Hid _ := HA1.out.nx hb2
  have t0 := HA2.out.t0
  have t1 := HA2.out.t1
  have t2 := HA2.out.t2
  have t3 := HA2.out.t3
  clear HA1 hb2
  go_wp2_with (go_at_call 15; refine (HZ.out _ _ _ _ _ HA2.out.ta').mono ?_; rintro e w3 ⟨rfl, hb3⟩; have HA3 : Hid _ := HA2.out.nx hb3; clear hb3)
  refine (HQ.out _).mono ?_
  rintro e w4 ⟨rfl, hb4⟩
  have HA4 : Hid _ := HA3.out.nx hb4
  clear HA2 HA3 hb4 t0 t1 t2 t3
  obtain ⟨t0, t1, t2, t3, f0, f1⟩ : _ ∧ _ ∧ _ ∧ _ ∧ _ ∧ _ := ⟨HA4.out.t0, HA4.out.t1, HA4.out.t2, HA4.out.t3, HA4.out.f0, HA4.out.f1⟩
  have hlt := HA4.out.lt
  have hlt' : w1.heap.size < w4.heap.size := by omega
  obtain ⟨h1, h2, h3, h4, h5⟩ := two_boxes w w4 HA4.out.bel #[.int .i64 0, .string ⟨#[]⟩, .slice none 0 0, .slice none 0 0] #[.int .i64 2, .int .i64 11]
  have HA5 : Hid _ := HA4.out.nx h2
  have HBX : Hid _ := h1
  clear h1 h2 h3 h4 h5 HA4
  go_wp2_with (go_at_call 19; refine (HG.out _ _ _ _ _ HA5.out.ta').mono ?_; rintro e w6 ⟨rfl, hb6⟩)
  go_ret
  exact ⟨rfl, below_of HBX.out hb6⟩
end Go.Proofs.YtlkcadibjmfmcaaDoor
