/- Kb, Kc, Kd, Ke, Kf in one. -/
import Derived.Test.YtlkcadibjmfmcaaDoorKa
import Derived.Test.YtlkcadibjmfmcaaDoorOa
import Derived.Test.YtlkcadibjmfmcaaDoorYc
/- A part of a term, cloned. -/
namespace Go.Proofs.YtlkcadibjmfmcaaDoor
open Go.RowKit

set_option maxRecDepth 100000 in
set_option maxHeartbeats 4000000 in
theorem has_any (a : Option Addr) (n c : Nat) (k : Int) (w : World) : Calls Tryd.prog 59 #[.slice a n c, .int .i64 k] w fun e w' => e = .returned (.bool (decide (0 ≤ k) && decide (k < n))) ∧ w' = w := by
  by_cases h : 0 ≤ k
  · have h2 : (decide (0 ≤ k) && decide (k < n)) = decide (k < n) := by simp [h]
    rw [h2]
    go_enter Tryd.func59, Tryd.ntmps59
    go_wp2
    go_ret
    exact ⟨rfl, rfl⟩
  · have h1 : decide (0 ≤ k) = false := by simpa using h
    rw [h1]
    go_enter Tryd.func59, Tryd.ntmps59
    go_wp2
    go_ret
    exact ⟨rfl, rfl⟩
def kidAt (d : Tm) (v : Int) : Option Tm := if 0 ≤ v then d.kids[v.toNat]? else none
/-- Where a path leads. -/
def atP : Tm → List Int → Option Tm
  | d, [] => some d
  | d, v :: ps => (kidAt d v).bind (fun x => atP x ps)
theorem szL_mem : ∀ {l : List Tm} {j : Nat} {x : Tm}, l[j]? = some x → sz x ≤ szL l
  | [], j, x, h => by cases h
  | d :: l, 0, x, h => by cases h; rw [szL]; omega
  | d :: l, j + 1, x, h => by rw [szL]; have := szL_mem (l := l) (j := j) (x := x) h; omega
theorem atP_drop {ps : List Int} {k : Nat} {v : Int} (h : ps[k]? = some v) (d : Tm) : atP d (ps.drop k) = (kidAt d v).bind (fun x => atP x (ps.drop (k + 1))) := by
  have hlt : k < ps.length := (List.getElem?_eq_some_iff.1 h).1
  rw [List.drop_eq_getElem_cons hlt, atP, (List.getElem?_eq_some_iff.1 h).2]
/-- The walk's state: the box holds a part. -/
structure AI (w : World) (d : Tm) (ps : List Int) (k : Nat) (x : Tm) (xt : Option Addr) (xtc : Nat) (xa : Option Addr) (xc f : Nat) (W : World) : Prop where
  le : k ≤ ps.length
  goes : atP x (ps.drop k) = atP d ps
  bel : Below w.heap.size w W
  sz : sz x ≤ 1000000000000
  x0 : W.cell? ⟨w.heap.size, 0, none⟩ = some (.int .i64 x.kind)
  x1 : W.cell? ⟨w.heap.size, 1, none⟩ = some (.string x.cons)
  x2 : W.cell? ⟨w.heap.size, 2, none⟩ = some (.slice xt x.text.length xtc)
  x3 : W.cell? ⟨w.heap.size, 3, none⟩ = some (.slice xa x.kids.length xc)
  xt : Txt w w.heap.size (.slice xt x.text.length xtc) x.text
  xf : ∀ q, W.frozen? ⟨w.heap.size, q, none⟩ = false
  xc : x.kids.length ≤ xc
  xk : MAt w w.heap.size f xa x.kids
  r0 : W.cell? ⟨w.heap.size + 1, 0, none⟩ = some (.int .i64 0)
  r1 : W.cell? ⟨w.heap.size + 1, 1, none⟩ = some (.string ⟨#[]⟩)
  r2 : W.cell? ⟨w.heap.size + 1, 2, none⟩ = some (.slice none 0 0)
  r3 : W.cell? ⟨w.heap.size + 1, 3, none⟩ = some (.slice none 0 0)
  rf : ∀ q, W.frozen? ⟨w.heap.size + 1, q, none⟩ = false
  lt : w.heap.size + 1 < W.heap.size
theorem AI.start (w : World) (d : Tm) (ps : List Int) (ta : Option Addr) (tc : Nat) (sa : Option Addr) (sc f : Nat) (htv : Txt w w.heap.size (.slice ta d.text.length tc) d.text) (hk : MAt w w.heap.size f sa d.kids) (hsc : d.kids.length ≤ sc) (hlen : Go.Proofs.YtlkcadibjmfmcaaDoor.sz d ≤ 1000000000000) : AI w d ps 0 d ta tc sa sc f ((w.alloc (.cells #[.int .i64 d.kind, .string d.cons, .slice ta d.text.length tc, .slice sa d.kids.length sc] 25)).alloc (.cells #[.int .i64 0, .string ⟨#[]⟩, .slice none 0 0, .slice none 0 0] 25)) := by
  obtain ⟨w1, hw1⟩ : ∃ w1, w.alloc (.cells #[.int .i64 d.kind, .string d.cons, .slice ta d.text.length tc, .slice sa d.kids.length sc] 25) = w1 := ⟨_, rfl⟩
  obtain ⟨w2, hw2⟩ : ∃ w2, w1.alloc (.cells #[.int .i64 0, .string ⟨#[]⟩, .slice none 0 0, .slice none 0 0] 25) = w2 := ⟨_, rfl⟩
  rw [hw1, hw2]
  have s1 : w1.heap.size = w.heap.size + 1 := by rw [← hw1]; simp
  have hB1 : Below w.heap.size w w1 := by rw [← hw1]; exact (Below.refl _ _).alloc (Nat.le_refl _) _
  have hB2' : Below w1.heap.size w1 w2 := by rw [← hw2]; exact (Below.refl _ _).alloc (Nat.le_refl _) _
  have s2 : w2.heap.size = w.heap.size + 2 := by rw [← hw2]; simp [s1]
  have hB2 : Below w.heap.size w w2 := hB1.trans (hB2'.mono (by omega))
  have c1 : ∀ j v, (#[.int .i64 d.kind, .string d.cons, .slice ta d.text.length tc, .slice sa d.kids.length sc] : Array Value)[j]? = some v → w2.cell? ⟨w.heap.size, j, none⟩ = some v := fun j v hv => (hB2'.cell (p := ⟨w.heap.size, j, none⟩) (by show w.heap.size < _; omega)).trans (by rw [← hw1]; exact cell_new j hv)
  have c2 : ∀ j v, (#[.int .i64 0, .string ⟨#[]⟩, .slice none 0 0, .slice none 0 0] : Array Value)[j]? = some v → w2.cell? ⟨w.heap.size + 1, j, none⟩ = some v := fun j v hv => by rw [← hw2, ← s1]; exact cell_new j hv
  exact ⟨Nat.zero_le _, rfl, hB2, hlen, c1 0 _ rfl, c1 1 _ rfl, c1 2 _ rfl, c1 3 _ rfl, htv, fun q => (hB2'.frozen (p := ⟨w.heap.size, q, none⟩) (by show w.heap.size < _; omega)).trans (by rw [← hw1]; exact World.frozen?_alloc_at _ _ _ _ rfl), hsc, hk, c2 0 _ rfl, c2 1 _ rfl, c2 2 _ rfl, c2 3 _ rfl, fun q => by rw [← hw2, ← s1]; exact World.frozen?_alloc_at _ _ _ _ rfl, by omega⟩
theorem AI.step {w : World} {d : Tm} {ps : List Int} {k : Nat} {x : Tm} {xt : Option Addr} {xtc : Nat} {xa : Option Addr} {xc f : Nat} {W : World} (h : AI w d ps k x xt xtc xa xc f W) {v : Int} (hv : ps[k]? = some v) {y : Tm} (hy : kidAt x v = some y) {yt : Option Addr} {ytc : Nat} (hyt : Txt w w.heap.size (.slice yt y.text.length ytc) y.text) {ya : Option Addr} {yc f' : Nat} (hyc : y.kids.length ≤ yc) (hyk : MAt w w.heap.size f' ya y.kids) (hz : Go.Proofs.YtlkcadibjmfmcaaDoor.sz y ≤ Go.Proofs.YtlkcadibjmfmcaaDoor.sz x) : AI w d ps (k + 1) y yt ytc ya yc f' ((((W.setCell ⟨w.heap.size, 0, none⟩ (.int .i64 y.kind)).setCell ⟨w.heap.size, 1, none⟩ (.string y.cons)).setCell ⟨w.heap.size, 2, none⟩ (.slice yt y.text.length ytc)).setCell ⟨w.heap.size, 3, none⟩ (.slice ya y.kids.length yc)) := by
  have hlt : k < ps.length := (List.getElem?_eq_some_iff.1 hv).1
  have hg : atP y (ps.drop (k + 1)) = atP d ps := by rw [← h.goes, atP_drop hv, hy]; rfl
  have hsB : w.heap.size ≤ w.heap.size := Nat.le_refl _
  have far : ∀ q, ((((W.setCell ⟨w.heap.size, 0, none⟩ (.int .i64 y.kind)).setCell ⟨w.heap.size, 1, none⟩ (.string y.cons)).setCell ⟨w.heap.size, 2, none⟩ (.slice yt y.text.length ytc)).setCell ⟨w.heap.size, 3, none⟩ (.slice ya y.kids.length yc)).cell? ⟨w.heap.size + 1, q, none⟩ = W.cell? ⟨w.heap.size + 1, q, none⟩ := fun q => by
    have hne : w.heap.size ≠ w.heap.size + 1 := by omega
    rw [World.cell?_setCell_far _ _ _ _ hne, World.cell?_setCell_far _ _ _ _ hne, World.cell?_setCell_far _ _ _ _ hne, World.cell?_setCell_far _ _ _ _ hne]
  have fz : ∀ a, ((((W.setCell ⟨w.heap.size, 0, none⟩ (.int .i64 y.kind)).setCell ⟨w.heap.size, 1, none⟩ (.string y.cons)).setCell ⟨w.heap.size, 2, none⟩ (.slice yt y.text.length ytc)).setCell ⟨w.heap.size, 3, none⟩ (.slice ya y.kids.length yc)).frozen? a = W.frozen? a := fun a => by
    rw [World.frozen?_setCell, World.frozen?_setCell, World.frozen?_setCell, World.frozen?_setCell]
  obtain ⟨A1, e1⟩ : ∃ A, W.setCell ⟨w.heap.size, 0, none⟩ (.int .i64 y.kind) = A := ⟨_, rfl⟩
  obtain ⟨A2, e2⟩ : ∃ A, A1.setCell ⟨w.heap.size, 1, none⟩ (.string y.cons) = A := ⟨_, rfl⟩
  obtain ⟨A3, e3⟩ : ∃ A, A2.setCell ⟨w.heap.size, 2, none⟩ (.slice yt y.text.length ytc) = A := ⟨_, rfl⟩
  obtain ⟨A4, e4⟩ : ∃ A, A3.setCell ⟨w.heap.size, 3, none⟩ (.slice ya y.kids.length yc) = A := ⟨_, rfl⟩
  have hb : Below w.heap.size w ((((W.setCell ⟨w.heap.size, 0, none⟩ (.int .i64 y.kind)).setCell ⟨w.heap.size, 1, none⟩ (.string y.cons)).setCell ⟨w.heap.size, 2, none⟩ (.slice yt y.text.length ytc)).setCell ⟨w.heap.size, 3, none⟩ (.slice ya y.kids.length yc)) := (((h.bel.setCell hsB _).setCell hsB _).setCell hsB _).setCell hsB _
  rw [e1, e2, e3, e4] at far fz hb ⊢
  have z4 : A4.heap.size = W.heap.size := by rw [← e4, ← e3, ← e2, ← e1]; simp [World.setCell]
  have o11 : A1.cell? ⟨w.heap.size, 1, none⟩ = W.cell? ⟨w.heap.size, 1, none⟩ := by rw [← e1]; exact World.cell?_setCell_other _ _ _ _ (by simp)
  have o12 : A1.cell? ⟨w.heap.size, 2, none⟩ = W.cell? ⟨w.heap.size, 2, none⟩ := by rw [← e1]; exact World.cell?_setCell_other _ _ _ _ (by simp)
  have o13 : A1.cell? ⟨w.heap.size, 3, none⟩ = W.cell? ⟨w.heap.size, 3, none⟩ := by rw [← e1]; exact World.cell?_setCell_other _ _ _ _ (by simp)
  have o20 : A2.cell? ⟨w.heap.size, 0, none⟩ = A1.cell? ⟨w.heap.size, 0, none⟩ := by rw [← e2]; exact World.cell?_setCell_other _ _ _ _ (by simp)
  have o22 : A2.cell? ⟨w.heap.size, 2, none⟩ = A1.cell? ⟨w.heap.size, 2, none⟩ := by rw [← e2]; exact World.cell?_setCell_other _ _ _ _ (by simp)
  have o23 : A2.cell? ⟨w.heap.size, 3, none⟩ = A1.cell? ⟨w.heap.size, 3, none⟩ := by rw [← e2]; exact World.cell?_setCell_other _ _ _ _ (by simp)
  have o30 : A3.cell? ⟨w.heap.size, 0, none⟩ = A2.cell? ⟨w.heap.size, 0, none⟩ := by rw [← e3]; exact World.cell?_setCell_other _ _ _ _ (by simp)
  have o31 : A3.cell? ⟨w.heap.size, 1, none⟩ = A2.cell? ⟨w.heap.size, 1, none⟩ := by rw [← e3]; exact World.cell?_setCell_other _ _ _ _ (by simp)
  have o33 : A3.cell? ⟨w.heap.size, 3, none⟩ = A2.cell? ⟨w.heap.size, 3, none⟩ := by rw [← e3]; exact World.cell?_setCell_other _ _ _ _ (by simp)
  have o40 : A4.cell? ⟨w.heap.size, 0, none⟩ = A3.cell? ⟨w.heap.size, 0, none⟩ := by rw [← e4]; exact World.cell?_setCell_other _ _ _ _ (by simp)
  have o41 : A4.cell? ⟨w.heap.size, 1, none⟩ = A3.cell? ⟨w.heap.size, 1, none⟩ := by rw [← e4]; exact World.cell?_setCell_other _ _ _ _ (by simp)
  have o42 : A4.cell? ⟨w.heap.size, 2, none⟩ = A3.cell? ⟨w.heap.size, 2, none⟩ := by rw [← e4]; exact World.cell?_setCell_other _ _ _ _ (by simp)
  have v0 : A1.cell? ⟨w.heap.size, 0, none⟩ = some (.int .i64 y.kind) := by rw [← e1]; exact World.cell?_setCell_same' _ _ _ (by rw [h.x0]; rfl)
  have v1 : A2.cell? ⟨w.heap.size, 1, none⟩ = some (.string y.cons) := by rw [← e2]; exact World.cell?_setCell_same' _ _ _ (by rw [o11, h.x1]; rfl)
  have v2 : A3.cell? ⟨w.heap.size, 2, none⟩ = some (.slice yt y.text.length ytc) := by rw [← e3]; exact World.cell?_setCell_same' _ _ _ (by rw [o22, o12, h.x2]; rfl)
  have v3 : A4.cell? ⟨w.heap.size, 3, none⟩ = some (.slice ya y.kids.length yc) := by rw [← e4]; exact World.cell?_setCell_same' _ _ _ (by rw [o33, o23, o13, h.x3]; rfl)
  exact ⟨hlt, hg, hb, Nat.le_trans hz h.sz, (o40).trans ((o30).trans ((o20).trans (v0))), (o41).trans ((o31).trans (v1)), (o42).trans (v2), v3, hyt, fun q => (fz _).trans (h.xf q), hyc, hyk, (far 0).trans h.r0, (far 1).trans h.r1, (far 2).trans h.r2, (far 3).trans h.r3, fun q => (fz _).trans (h.rf q), by rw [z4]; exact h.lt⟩
/-- What is told of a part that may be none. -/
def ZPost (w : World) : Option Tm → Ending → World → Prop
  | some x, e, w' => (∃ F ua uc va vc, e = .returned (.tuple #[.agg #[.int .i64 x.kind, .string x.cons, .slice ua x.text.length uc, .slice va x.kids.length vc], .int .i64 0]) ∧ Txt w' w.heap.size (.slice ua x.text.length uc) x.text ∧ x.kids.length ≤ vc ∧ Mz w' (fun b => w.heap.size ≤ b ∧ b < w'.heap.size) w.heap.size F va x.kids) ∧ Below w.heap.size w w'
  | none, e, w' => e = .returned (.tuple #[.agg #[.int .i64 0, .string ⟨#[]⟩, .slice none 0 0, .slice none 0 0], .int .i64 4]) ∧ Below w.heap.size w w'
set_option maxRecDepth 100000 in
set_option maxHeartbeats 4000000 in
theorem kinAt_any (d : Tm) (ta : Option Addr) (tc : Nat) (sa : Option Addr) (sc f : Nat) (ps : List Int) (pa : Option Addr) (pc : Nat) (w : World) (htv : Txt w w.heap.size (.slice ta d.text.length tc) d.text) (hk : MAt w w.heap.size f sa d.kids) (hsc : d.kids.length ≤ sc) (hlen : sz d ≤ 1000000000000) (hp : IAt w w.heap.size pa ps) (hpl : ps.length ≤ 1000000000000) :
    Calls Tryd.prog 44 #[.agg #[.int .i64 d.kind, .string d.cons, .slice ta d.text.length tc, .slice sa d.kids.length sc], .slice pa ps.length pc, .func (.func 36) #[] #[]] w fun e w' => ZPost w (atP d ps) e w' := by
  have hX0 := AI.start w d ps ta tc sa sc f htv hk hsc hlen
  have HP : Hid _ := hp
  obtain ⟨n, hn⟩ : ∃ n, ps.length = n := ⟨_, rfl⟩
  rw [hn] at hpl ⊢
  clear hk hsc hlen hp htv
  go_enter Tryd.func44, Tryd.ntmps44
  go_wp2
  go_loopw [14] (fun i W => ∃ (k : Nat) (x : Tm) (xt : Option Addr) (xtc : Nat) (xa : Option Addr) (xc f : Nat), i = .int .i64 (k : Int) ∧ AI w d ps k x xt xtc xa xc f W) (fun i _ => n - (intOf i).toNat)
  case atStart => exact ⟨0, d, ta, tc, sa, sc, f, rfl, hX0⟩
  case round =>
    clear hX0
    obtain ⟨k, x, xt, xtc, xa, xc, f, rfl, hX⟩ := hrel
    have HX : Hid _ := hX
    have hle := hX.le
    have x0 := hX.x0
    have x1 := hX.x1
    have x2 := hX.x2
    have x3 := hX.x3
    have xf := hX.xf
    have r0 := hX.r0
    have r1 := hX.r1
    have r2 := hX.r2
    have r3 := hX.r3
    have rf := hX.rf
    have hlt2 := hX.lt
    by_cases hlt : k < n
    · obtain ⟨v, hv⟩ : ∃ v, ps[k]? = some v := ⟨ps[k], by simp⟩
      obtain ⟨b, o, rfl, hb, hc⟩ := HP.out k v hv
      have hc' := (hX.bel.cell (p := ⟨b, o + k, none⟩) hb).trans hc
      have hkI : (k : Int) < (n : Int) := by omega
      have hkb : (k : Int) ≤ 1000000000000 := by omega
      have HO : Hid _ := fun (_ : Unit) => ofTerm_any w.heap.size 0 wr
      have HH : Hid _ := fun (_ : Unit) => has_any xa x.kids.length xc v wr
      have HV : Hid _ := hv
      by_cases hin : 0 ≤ v ∧ v < x.kids.length
      · obtain ⟨hv0, hv1⟩ := hin
        have hq : (decide (0 ≤ v) && decide (v < (x.kids.length : Int))) = true := by simp [hv0, hv1]
        rw [hq] at HH
        obtain ⟨y, hy⟩ : ∃ y, x.kids[v.toNat]? = some y := ⟨x.kids[v.toNat]'(by omega), by simp⟩
        have hky : kidAt x v = some y := by unfold kidAt; rw [if_pos hv0]; exact hy
        cases f with
        | zero => have h0 := (show x.kids = [] from hX.xk); rw [h0] at hy; cases hy
        | succ f =>
        obtain ⟨b2, o2, rfl, hb2, ya, yc, g0, g1, ⟨yt, ytc, g2, ytl, ytm, hyt⟩, g3, hyc, hyk⟩ := hX.xk.2 _ y hy
        have hzz : sz y ≤ sz x := by rw [sz_eq x]; have := szL_mem hy; omega
        have hst := hX.step hv hky (yt := yt) (ytc := ytc) ⟨_, _, rfl, ytl, ytm, hyt⟩ hyc hyk hzz
        have k2 : ∀ q, wr.cell? ⟨b2, q, none⟩ = w.cell? ⟨b2, q, none⟩ := fun q => hX.bel.cell (p := ⟨b2, q, none⟩) hb2
        obtain ⟨m, rfl⟩ : ∃ m : Nat, v = (m : Int) := ⟨v.toNat, by omega⟩
        simp only [Int.toNat_natCast] at g0 g1 g2 g3
        have g0' := (k2 _).trans g0
        have g1' := (k2 _).trans g1
        have g2' := (k2 _).trans g2
        have g3' := (k2 _).trans g3
        have HST : Hid _ := hst
        clear hX hv hc hq hst g0 g1 g2 g3 k2 ytl ytm hyt hyk hyc hzz hky hy hv0
        go_wp2_with (first
          | (go_at_call 36; refine (HO.out ()).mono ?_; rintro e w' ⟨rfl, rfl⟩)
          | (go_at_call 59; refine (HH.out ()).mono ?_; rintro e w' ⟨rfl, rfl⟩))
        exact ⟨⟨k + 1, y, yt, ytc, ya, yc, f, by go_num, HST.out⟩, by simp [intOf]; omega⟩
      · have hq : (decide (0 ≤ v) && decide (v < (x.kids.length : Int))) = false := by simp; omega
        rw [hq] at HH
        have HN : Hid (atP d ps = none) := by
          show _ = _
          rw [← hX.goes, atP_drop hv]
          have : kidAt x v = none := by
            unfold kidAt
            split
            · exact List.getElem?_eq_none (by omega)
            · rfl
          rw [this]; rfl
        clear hX hv hc hq hin
        go_wp2_with (first
          | (go_at_call 36; refine (HO.out ()).mono ?_; rintro e w' ⟨rfl, rfl⟩)
          | (go_at_call 59; refine (HH.out ()).mono ?_; rintro e w' ⟨rfl, rfl⟩))
        refine bodyPost_ret (v := .tuple #[.agg #[.int .i64 0, .string ⟨#[]⟩, .slice none 0 0, .slice none 0 0], .int .i64 4]) (by simp [results, Tryd.results44, go_sem, r0, r1, r2, r3, hlt2]) rfl ?_
        rw [HN.out]
        have hsB : w.heap.size ≤ w.heap.size + 1 := by omega
        exact ⟨rfl, ((((HX.out.bel.setCell hsB _).setCell hsB _).setCell hsB _).setCell hsB _).alloc (by simp [World.setCell]; omega) _⟩
    · obtain rfl : k = n := by omega
      have HG : Hid (atP d ps = some x) := by show _ = _; rw [← hX.goes, List.drop_of_length_le (by omega)]; rfl
      have HC : Hid _ := fun (_ : Unit) => clone_any x xt xtc xa xc f wr w.heap.size hX.bel.size (hX.xt.keep hX.bel) (hX.xk.keep hX.bel) hX.xc hX.sz
      clear hX
      go_wp2_with (go_at_call 60; refine (HC.out ()).mono ?_; rintro e w7 ⟨⟨ua, uc, va, vc, rfl, hut, hvc, htin⟩, hb7⟩; have k7 : ∀ q, w7.cell? ⟨w.heap.size + 1, q, none⟩ = wr.cell? ⟨w.heap.size + 1, q, none⟩ := fun q => hb7.cell (p := ⟨w.heap.size + 1, q, none⟩) hlt2; have f7 : ∀ q, w7.frozen? ⟨w.heap.size + 1, q, none⟩ = false := fun q => (hb7.frozen (p := ⟨w.heap.size + 1, q, none⟩) hlt2).trans (rf q); have r0' := (k7 0).trans r0; have r1' := (k7 1).trans r1; have r2' := (k7 2).trans r2; have r3' := (k7 3).trans r3; have HT7 : Hid _ := And.intro htin (And.intro hb7 hut); clear htin hb7 k7 hut)
      refine bodyPost_ret (v := .tuple #[.agg #[.int .i64 x.kind, .string x.cons, .slice ua x.text.length uc, .slice va x.kids.length vc], .int .i64 0]) (by simp [results, Tryd.results44, go_sem, r0', r1', r2', r3']) rfl ?_
      rw [HG.out]
      have hsB : w.heap.size ≤ w.heap.size + 1 := by omega
      obtain ⟨htin, hb7, hut⟩ := HT7.out
      have hbb : Below w.heap.size w w7 := HX.out.bel.trans (hb7.mono HX.out.bel.size)
      refine ⟨⟨f, ua, uc, va, vc, rfl, hut.keep ((((( Below.refl _ w7).setCell hsB _).setCell hsB _).setCell hsB _).setCell hsB _), hvc, ?_⟩, (((hbb.setCell hsB _).setCell hsB _).setCell hsB _).setCell hsB _⟩
      refine (htin.keep (fun b hb => ?_) ((((( Below.refl _ w7).setCell hsB _).setCell hsB _).setCell hsB _).setCell hsB _)).wide (fun b hb => ⟨Nat.le_trans HX.out.bel.size hb.1, by simp [World.setCell]; exact hb.2⟩)
      have hne : b ≠ w.heap.size + 1 := by have := HX.out.lt; omega
      exact (Below.heap_setCell _ _ _ b hne).trans ((Below.heap_setCell _ _ _ b hne).trans ((Below.heap_setCell _ _ _ b hne).trans (Below.heap_setCell _ _ _ b hne)))
end Go.Proofs.YtlkcadibjmfmcaaDoor

/- What a clone is once its texts are its own. -/
namespace Go.Proofs.YtlkcadibjmfmcaaDoor
open Go.RowKit

theorem preLA_mem (W : World) : ∀ (l : List Tm) (b o m j : Nat) (d : Tm), l[j]? = some d → ∀ x ∈ Y.preA W d b (o + j * 4) m, x ∈ Y.preLA W l (some ⟨b, o, none⟩) m
  | [], b, o, m, j, d, h, x, hx => by cases h
  | d0 :: l, b, o, m, 0, d, h, x, hx => by
    cases h
    rw [show o + 0 * 4 = o by omega] at hx
    rw [Y.preLA_cons, ← Y.preA_eq]
    exact List.mem_append_left _ hx
  | d0 :: l, b, o, m, j + 1, d, h, x, hx => by
    rw [show o + (j + 1) * 4 = o + 4 + j * 4 by omega] at hx
    rw [Y.preLA_cons]
    exact List.mem_append_right _ (preLA_mem W l b (o + 4) m j d h x hx)
theorem preLA_inv (W : World) : ∀ (l : List Tm) (b o m : Nat), ∀ x ∈ Y.preLA W l (some ⟨b, o, none⟩) m, ∃ j d, l[j]? = some d ∧ x ∈ Y.preA W d b (o + j * 4) m
  | [], b, o, m, x, hx => by rw [Y.preLA_nil] at hx; cases hx
  | d0 :: l, b, o, m, x, hx => by
    rw [Y.preLA_cons, ← Y.preA_eq] at hx
    rcases List.mem_append.1 hx with hx | hx
    · exact ⟨0, d0, rfl, by rw [show o + 0 * 4 = o by omega]; exact hx⟩
    · obtain ⟨j, d, h, hx⟩ := preLA_inv W l b (o + 4) m x hx
      exact ⟨j + 1, d, h, by rw [show o + (j + 1) * 4 = o + 4 + j * 4 by omega]; exact hx⟩
theorem Mz.ymat {w : World} {S : Nat → Prop} {B B' : Nat} (hS : ∀ b, S b → b < B') (hB : B ≤ B') : ∀ {f : Nat} {a : Option Addr} {l : List Tm}, Mz w S B f a l → Y.MAt w B' f a l
  | 0, _, _, h => h
  | f + 1, a, l, h => by
    refine ⟨h.1, fun j d hj => ?_⟩
    obtain ⟨b, o, e, hs, ⟨ho, _, _⟩, tv, sa, sc, c0, c1, c2, c3, ht, hc, hd⟩ := h.2 j d hj
    exact ⟨b, o, e, ⟨hS b hs, ho⟩, sa, sc, c0, c1, ht.cell hB c2, c3, hc, hd.ymat hS hB⟩
/-- Where the parts of a clone lie. -/
theorem Mz.parts {w : World} {S : Nat → Prop} {B : Nat} : ∀ {f : Nat} {a : Option Addr} {l : List Tm}, Mz w S B f a l → ∀ m, ∀ x ∈ Y.preLA w l a m, S x.b ∧ x.o % 4 = 0 ∧ ∀ q, w.frozen? ⟨x.b, q, none⟩ = false
  | 0, a, l, h, m, x, hx => by
    rw [show l = [] from h, Y.preLA_nil] at hx
    cases hx
  | f + 1, a, l, h, m, x, hx => by
    cases l with
    | nil => rw [Y.preLA_nil] at hx; cases hx
    | cons d0 l =>
      obtain ⟨b0, o0, e0, _⟩ := h.2 0 d0 rfl
      subst e0
      obtain ⟨j, d, hj, hx⟩ := preLA_inv w _ b0 o0 m x hx
      obtain ⟨b, o, e, hs, ⟨ho, _, hf⟩, tv, sa, sc, c0, c1, c2, c3, ht, hc, hd⟩ := h.2 j d hj
      cases e
      rw [Y.preA_eq] at hx
      rcases List.mem_cons.1 hx with rfl | hx
      · exact ⟨hs, by show (o0 + j * 4) % 4 = 0; omega, hf⟩
      · have e1 : Y.kidsAt w b0 (o0 + j * 4) = sa := by unfold Y.kidsAt; rw [c3]
        rw [e1] at hx
        exact hd.parts (m + 1) x hx
/-- Its texts are its own. -/
theorem Mz.own {w w' : World} {S S' T : Nat → Prop} {B : Nat} {xs : List Px} (hS : ∀ b, S b → b < w.heap.size ∧ T b) (hS' : ∀ b, S' b → T b) (ho : Y.Ot w w xs w') (h4 : ∀ x ∈ xs, x.o % 4 = 0) (hd : ∀ x ∈ xs, Y.Dn w' S' x) : ∀ {f : Nat} {a : Option Addr} {l : List Tm}, Mz w S B f a l → ∀ m, (∀ x ∈ Y.preLA w l a m, x ∈ xs) → MIx w' T f a l
  | 0, _, _, h, _, _ => h
  | f + 1, a, l, h, m, hm => by
    refine ⟨h.1, fun j d hj => ?_⟩
    obtain ⟨b, o, e, hs, ⟨h0, hg, hf⟩, tv, sa, sc, c0, c1, c2, c3, ht, hc, hk⟩ := h.2 j d hj
    obtain ⟨hb, hT⟩ := hS b hs
    subst e
    have hmem : ∀ x ∈ Y.preA w d b (o + j * 4) m, x ∈ xs := fun x hx => hm x (preLA_mem w l b o m j d hj x hx)
    rw [Y.preA_eq] at hmem
    have e1 : Y.kidsAt w b (o + j * 4) = sa := by unfold Y.kidsAt; rw [c3]
    rw [e1] at hmem
    obtain ⟨ua, uc, k2, k3⟩ := hd _ (hmem _ List.mem_cons_self)
    have far : ∀ r, r % 4 ≠ 2 → w'.cell? ⟨b, r, none⟩ = w.cell? ⟨b, r, none⟩ := fun r hr => ho.cel b r hb (fun x hx hq => by have := h4 x hx; omega)
    exact ⟨b, o, rfl, hT, ⟨h0, ho.tg b 25 hb hg, fun q => (ho.fz b q hb).trans (hf q)⟩, _, sa, sc, (far _ (by omega)).trans c0, (far _ (by omega)).trans c1, k2, (far _ (by omega)).trans c3, k3.wide hS', hc, hk.own hS hS' ho h4 hd (m + 1) (fun x hx => hmem x (List.mem_cons_of_mem _ hx))⟩
end Go.Proofs.YtlkcadibjmfmcaaDoor

/- A term in a box, its texts made its own. -/
namespace Go.Proofs.YtlkcadibjmfmcaaDoor
open Go.RowKit

/-- What is left of a box whose term has texts of its own. -/
structure Ob (W : World) (n F : Nat) (x : Tm) (va : Option Addr) (vc : Nat) (S : Nat → Prop) (ta : Option Addr) (tc : Nat) (w' : World) : Prop where
  c0 : w'.cell? ⟨n, 0, none⟩ = some (.int .i64 x.kind)
  c1 : w'.cell? ⟨n, 1, none⟩ = some (.string x.cons)
  c2 : w'.cell? ⟨n, 2, none⟩ = some (.slice ta x.text.length tc)
  c3 : w'.cell? ⟨n, 3, none⟩ = some (.slice va x.kids.length vc)
  fz : ∀ q, w'.frozen? ⟨n, q, none⟩ = false
  tx : Txx w' (fun b => W.heap.size ≤ b ∧ b < w'.heap.size) (.slice ta x.text.length tc) x.text
  kd : MIx w' (fun b => S b ∨ (W.heap.size ≤ b ∧ b < w'.heap.size)) F va x.kids
  os : w'.os = W.os
  tape : w'.tape = W.tape
  output : w'.output = W.output
  size : W.heap.size ≤ w'.heap.size
  blk : ∀ b, b < W.heap.size → b ≠ n → ¬ S b → w'.heap[b]? = W.heap[b]?
theorem ownBox (W : World) (n F B : Nat) (x : Tm) (ua : Option Addr) (uc : Nat) (va : Option Addr) (vc : Nat) (S : Nat → Prop) (hn : n < W.heap.size) (hS : ∀ b, S b → b < W.heap.size) (hB : B ≤ W.heap.size)
    (c0 : W.cell? ⟨n, 0, none⟩ = some (.int .i64 x.kind)) (c1 : W.cell? ⟨n, 1, none⟩ = some (.string x.cons)) (c2 : W.cell? ⟨n, 2, none⟩ = some (.slice ua x.text.length uc)) (c3 : W.cell? ⟨n, 3, none⟩ = some (.slice va x.kids.length vc)) (hf : ∀ q, W.frozen? ⟨n, q, none⟩ = false)
    (ht : Txt W B (.slice ua x.text.length uc) x.text) (hc : x.kids.length ≤ vc) (hm : Mz W S B F va x.kids) (hz : sz x ≤ 1000000000000) :
    Calls Tryd.prog 45 #[.pointer (some ⟨n, 0, none⟩)] W fun e w' => e = .returned (.tuple #[]) ∧ ∃ ta tc, Ob W n F x va vc S ta tc w' := by
  have e1 : Y.kidsAt W n 0 = va := by unfold Y.kidsAt; rw [show 0 + 3 = 3 from rfl, c3]
  have hpre := Y.preA_eq W x n 0 1
  rw [e1] at hpre
  have hall : ∀ y ∈ Y.preA W x n 0 1, (y.b = n ∨ S y.b) ∧ y.o % 4 = 0 ∧ ∀ q, W.frozen? ⟨y.b, q, none⟩ = false := fun y hy => by
    rw [hpre] at hy
    rcases List.mem_cons.1 hy with rfl | hy
    · exact ⟨.inl rfl, rfl, hf⟩
    · obtain ⟨h1, h2⟩ := hm.parts _ y hy
      exact ⟨.inr h1, h2⟩
  refine (Y.ownTexts_any x W.heap.size F n 0 W (Nat.le_refl _) ⟨⟨hn, rfl⟩, va, vc, c0, c1, ht.cell hB c2, c3, hc, hm.ymat hS hB⟩ hz (fun y hy => (hall y hy).2.2 _)).mono ?_
  rintro e w' ⟨rfl, ho, hd⟩
  refine ⟨rfl, ?_⟩
  obtain ⟨ta, tc, k2, k3⟩ := hd ⟨n, 0, 1, x⟩ (by rw [hpre]; exact List.mem_cons_self)
  have far : ∀ r, r % 4 ≠ 2 → w'.cell? ⟨n, r, none⟩ = W.cell? ⟨n, r, none⟩ := fun r hr => ho.cel n r hn (fun y hy hq => by have := (hall y hy).2.1; omega)
  refine ⟨ta, tc, (far 0 (by decide)).trans c0, (far 1 (by decide)).trans c1, k2, (far 3 (by decide)).trans c3, fun q => (ho.fz n q hn).trans (hf q), k3, ?_, ho.os, ho.tape, ho.output, ho.size, fun b hb hbn hbs => ho.blk b hb (fun y hy e => ?_)⟩
  · exact hm.own (xs := Y.preA W x n 0 1) (fun b hb => ⟨hS b hb, .inl hb⟩) (fun b hb => .inr hb) ho (fun y hy => (hall y hy).2.1) hd 2 (fun y hy => by rw [hpre]; exact List.mem_cons_of_mem _ hy)
  · rcases (hall y hy).1 with h | h
    · exact hbn (by omega)
    · exact hbs (e ▸ h)
end Go.Proofs.YtlkcadibjmfmcaaDoor

/- A part of a term, in memory of its own. -/
namespace Go.Proofs.YtlkcadibjmfmcaaDoor
open Go.RowKit

def nilT : Tm := .mk 0 ⟨#[]⟩ [] []
theorem atP_sz : ∀ {ps : List Int} {d x : Tm}, atP d ps = some x → sz x ≤ sz d
  | [], d, x, h => by cases h; exact Nat.le_refl _
  | v :: ps, d, x, h => by
    rw [atP] at h
    cases hk : kidAt d v with
    | none => rw [hk] at h; cases h
    | some y =>
      rw [hk] at h
      have h1 := atP_sz (ps := ps) (d := y) (x := x) h
      unfold kidAt at hk
      split at hk
      · have := szL_mem hk; rw [sz_eq d]; omega
      · cases hk
/-- What a box's term is, before its texts are its own. -/
structure Zr (w2 : World) (o : Option Tm) (x : Tm) (F : Nat) (ua : Option Addr) (uc : Nat) (va : Option Addr) (vc : Nat) (er : Int) (w7 : World) : Prop where
  bel : Below w2.heap.size w2 w7
  tx : Txt w7 w7.heap.size (.slice ua x.text.length uc) x.text
  le : x.kids.length ≤ vc
  mz : Mz w7 (fun b => w2.heap.size ≤ b ∧ b < w7.heap.size) w7.heap.size F va x.kids
  sz : sz x ≤ 1000000000000
  is : (o = some x ∧ er = 0) ∨ (o = none ∧ er = 4 ∧ x = nilT ∧ va = none ∧ vc = 0)
theorem Mz.mono {w : World} {S : Nat → Prop} {B B' : Nat} (hb : B ≤ B') : ∀ {f : Nat} {a : Option Addr} {l : List Tm}, Mz w S B f a l → Mz w S B' f a l
  | 0, _, _, h => h
  | f + 1, a, l, h => by
    refine ⟨h.1, fun j d hj => ?_⟩
    obtain ⟨b, o, e, hs, hx, tv, sa, sc, c0, c1, c2, c3, ht, hc, hd⟩ := h.2 j d hj
    exact ⟨b, o, e, hs, hx, tv, sa, sc, c0, c1, c2, c3, ht.mono hb, hc, hd.mono hb⟩
theorem ZPost.zr {w : World} {o : Option Tm} {e : Ending} {w' : World} (h : ZPost w o e w') (hz : ∀ x, o = some x → Go.Proofs.YtlkcadibjmfmcaaDoor.sz x ≤ 1000000000000) : ∃ x F ua uc va vc er, e = .returned (.tuple #[.agg #[.int .i64 x.kind, .string x.cons, .slice ua x.text.length uc, .slice va x.kids.length vc], .int .i64 er]) ∧ Zr w o x F ua uc va vc er w' := by
  cases o with
  | none =>
    obtain ⟨rfl, hb⟩ := h
    exact ⟨nilT, 0, none, 0, none, 0, 4, rfl, hb, ⟨none, 0, rfl, Nat.le_refl _, by decide, fun i c hi => by cases hi⟩, Nat.le_refl _, rfl, by decide, .inr ⟨rfl, rfl, rfl, rfl, rfl⟩⟩
  | some x =>
    obtain ⟨⟨F, ua, uc, va, vc, rfl, ht, hc, hm⟩, hb⟩ := h
    exact ⟨x, F, ua, uc, va, vc, 0, rfl, hb, ht.mono hb.size, hc, hm.mono hb.size, hz x rfl, .inl ⟨rfl, rfl⟩⟩
/-- A new box that is filled. -/
abbrev bx (w7 : World) (v0 v1 v2 v3 : Value) : World := w7.alloc (.cells #[v0, v1, v2, v3] 25)
theorem bx_laid (w7 : World) (v0 v1 v2 v3 : Value) (W : World) (hW : bx w7 v0 v1 v2 v3 = W) : W.cell? ⟨w7.heap.size, 0, none⟩ = some v0 ∧ W.cell? ⟨w7.heap.size, 1, none⟩ = some v1 ∧ W.cell? ⟨w7.heap.size, 2, none⟩ = some v2 ∧ W.cell? ⟨w7.heap.size, 3, none⟩ = some v3 ∧ (∀ q, W.frozen? ⟨w7.heap.size, q, none⟩ = false) ∧ W.heap.size = w7.heap.size + 1 ∧ Below w7.heap.size w7 W := by
  subst hW
  exact ⟨cell_new 0 rfl, cell_new 1 rfl, cell_new 2 rfl, cell_new 3 rfl, fun q => World.frozen?_alloc_at _ _ _ _ rfl, by simp, (Below.refl _ _).alloc (Nat.le_refl _) _⟩
/-- What is told of a part that may be none, in memory of its own. -/
def OPost (w : World) : Option Tm → Ending → World → Prop
  | some x, e, w' => (∃ F ua uc va vc, e = .returned (.tuple #[.agg #[.int .i64 x.kind, .string x.cons, .slice ua x.text.length uc, .slice va x.kids.length vc], .int .i64 0]) ∧ Txx w' (fun b => w.heap.size ≤ b ∧ b < w'.heap.size) (.slice ua x.text.length uc) x.text ∧ x.kids.length ≤ vc ∧ MIx w' (fun b => w.heap.size ≤ b ∧ b < w'.heap.size) F va x.kids) ∧ Below w.heap.size w w'
  | none, e, w' => (∃ ua uc, e = .returned (.tuple #[.agg #[.int .i64 0, .string ⟨#[]⟩, .slice ua 0 uc, .slice none 0 0], .int .i64 4])) ∧ Below w.heap.size w w'
/-- The box's texts are made its own. -/
theorem Zr.own {w2 : World} {o : Option Tm} {x : Tm} {F : Nat} {ua : Option Addr} {uc : Nat} {va : Option Addr} {vc : Nat} {er : Int} {w7 : World} (h : Zr w2 o x F ua uc va vc er w7) : Calls Tryd.prog 45 #[.pointer (some ⟨w7.heap.size, 0, none⟩)] (bx w7 (.int .i64 x.kind) (.string x.cons) (.slice ua x.text.length uc) (.slice va x.kids.length vc)) fun e w9 => e = .returned (.tuple #[]) ∧ ∃ ta tc, Ob (bx w7 (.int .i64 x.kind) (.string x.cons) (.slice ua x.text.length uc) (.slice va x.kids.length vc)) w7.heap.size F x va vc (fun b => w2.heap.size ≤ b ∧ b < w7.heap.size) ta tc w9 := by
  obtain ⟨W, hW⟩ : ∃ W, bx w7 (.int .i64 x.kind) (.string x.cons) (.slice ua x.text.length uc) (.slice va x.kids.length vc) = W := ⟨_, rfl⟩
  obtain ⟨c0, c1, c2, c3, hf, hs, hb⟩ := bx_laid _ _ _ _ _ W hW
  rw [hW]
  exact ownBox W w7.heap.size F w7.heap.size x ua uc va vc _ (by omega) (fun b hb => by have := hb.2; omega) (by omega) c0 c1 c2 c3 hf (h.tx.keep hb) h.le (h.mz.keep (fun b hb' => hb.block b hb'.2) hb) h.sz
theorem Zr.bel9 {w2 : World} {o : Option Tm} {x : Tm} {F : Nat} {ua : Option Addr} {uc : Nat} {va : Option Addr} {vc : Nat} {er : Int} {w7 : World} (h : Zr w2 o x F ua uc va vc er w7) {ta : Option Addr} {tc : Nat} {w9 : World} (ho : Ob (bx w7 (.int .i64 x.kind) (.string x.cons) (.slice ua x.text.length uc) (.slice va x.kids.length vc)) w7.heap.size F x va vc (fun b => w2.heap.size ≤ b ∧ b < w7.heap.size) ta tc w9) : Below w2.heap.size w2 w9 := by
  obtain ⟨W, hW⟩ : ∃ W, bx w7 (.int .i64 x.kind) (.string x.cons) (.slice ua x.text.length uc) (.slice va x.kids.length vc) = W := ⟨_, rfl⟩
  obtain ⟨_, _, _, _, _, hs, hb⟩ := bx_laid _ _ _ _ _ W hW
  rw [hW] at ho
  have h27 := h.bel.size
  exact h.bel.trans ((hb.mono h27).trans ⟨ho.os, ho.tape, ho.output, ho.size, fun b hb => ho.blk b (by omega) (by omega) (fun hS => by have := hS.1; omega)⟩)
/-- The answer is laid into the result's box, which lies at n. -/
theorem Zr.post {w w2 : World} {o : Option Tm} {x : Tm} {F : Nat} {ua : Option Addr} {uc : Nat} {va : Option Addr} {vc : Nat} {er : Int} {w7 : World} (h : Zr w2 o x F ua uc va vc er w7) (hw : Below w.heap.size w w2) {n : Nat} (hn : w.heap.size ≤ n) (hn2 : n < w2.heap.size) {ta : Option Addr} {tc : Nat} {w9 : World} (ho : Ob (bx w7 (.int .i64 x.kind) (.string x.cons) (.slice ua x.text.length uc) (.slice va x.kids.length vc)) w7.heap.size F x va vc (fun b => w2.heap.size ≤ b ∧ b < w7.heap.size) ta tc w9) :
    OPost w o (.returned (.tuple #[.agg #[.int .i64 x.kind, .string x.cons, .slice ta x.text.length tc, .slice va x.kids.length vc], .int .i64 er])) ((((w9.setCell ⟨n, 0, none⟩ (.int .i64 x.kind)).setCell ⟨n, 1, none⟩ (.string x.cons)).setCell ⟨n, 2, none⟩ (.slice ta x.text.length tc)).setCell ⟨n, 3, none⟩ (.slice va x.kids.length vc)) := by
  obtain ⟨W, hW⟩ : ∃ W, bx w7 (.int .i64 x.kind) (.string x.cons) (.slice ua x.text.length uc) (.slice va x.kids.length vc) = W := ⟨_, rfl⟩
  obtain ⟨_, _, _, _, _, hs, hb⟩ := bx_laid _ _ _ _ _ W hW
  have h9 := h.bel9 ho
  rw [hW] at ho
  have h27 := h.bel.size
  have hw2 := hw.size
  have hww : Below w.heap.size w w9 := hw.trans (h9.mono hw2)
  have hl9 := ho.size
  obtain ⟨W4, hW4⟩ : ∃ W4, (((w9.setCell ⟨n, 0, none⟩ (.int .i64 x.kind)).setCell ⟨n, 1, none⟩ (.string x.cons)).setCell ⟨n, 2, none⟩ (.slice ta x.text.length tc)).setCell ⟨n, 3, none⟩ (.slice va x.kids.length vc) = W4 := ⟨_, rfl⟩
  have hk : ∀ b, b ≠ n → W4.heap[b]? = w9.heap[b]? := fun b hb => by
    rw [← hW4]
    exact (Below.heap_setCell _ _ _ b hb).trans ((Below.heap_setCell _ _ _ b hb).trans ((Below.heap_setCell _ _ _ b hb).trans (Below.heap_setCell _ _ _ b hb)))
  have hs4 : W4.heap.size = w9.heap.size := by rw [← hW4]; simp [World.setCell]
  have hbe : Below w.heap.size w W4 := by rw [← hW4]; exact (((hww.setCell hn _).setCell hn _).setCell hn _).setCell hn _
  rw [hW4]
  rcases h.is with ⟨rfl, rfl⟩ | ⟨rfl, rfl, rfl, rfl, rfl⟩
  · refine ⟨⟨F, ta, tc, va, vc, rfl, ?_, h.le, ?_⟩, hbe⟩
    · exact (ho.tx.keep (fun b hb => hk b (by have := hb.1; omega))).wide (fun b hb => ⟨by have := hb.1; omega, by have := hb.2; omega⟩)
    · refine (ho.kd.keep (fun b hb => hk b ?_)).wide (fun b hb => ?_)
      · rcases hb with hb | hb
        · have := hb.1; omega
        · have := hb.1; omega
      · rcases hb with hb | hb
        · exact ⟨by have := hb.1; omega, by have := hb.2; omega⟩
        · exact ⟨by have := hb.1; omega, by have := hb.2; omega⟩
  · exact ⟨⟨ta, tc, rfl⟩, hbe⟩
end Go.Proofs.YtlkcadibjmfmcaaDoor

/- At: every path. -/
namespace Go.Proofs.YtlkcadibjmfmcaaDoor
open Go.RowKit

theorem IAt.keepB {w w' : World} {B : Nat} {pa : Option Addr} {ps : List Int} (h : IAt w B pa ps) (hb : Below B w w') : IAt w' B pa ps := fun j v hj => by
  obtain ⟨b, o, e, hlt, hc⟩ := h j v hj
  exact ⟨b, o, e, hlt, (hb.cell (p := ⟨b, o + j, none⟩) hlt).trans hc⟩
theorem IAt.monoB {w : World} {B B' : Nat} {pa : Option Addr} {ps : List Int} (h : IAt w B pa ps) (hb : B ≤ B') : IAt w B' pa ps := fun j v hj => by
  obtain ⟨b, o, e, hlt, hc⟩ := h j v hj
  exact ⟨b, o, e, Nat.lt_of_lt_of_le hlt hb, hc⟩
set_option maxRecDepth 100000 in
set_option maxHeartbeats 4000000 in
theorem at_any (d : Tm) (ta : Option Addr) (tc : Nat) (sa : Option Addr) (sc f : Nat) (ps : List Int) (pa : Option Addr) (pc : Nat) (w : World) (htv : Txt w w.heap.size (.slice ta d.text.length tc) d.text) (hk : MAt w w.heap.size f sa d.kids) (hsc : d.kids.length ≤ sc) (hlen : sz d ≤ 1000000000000) (hp : IAt w w.heap.size pa ps) (hpl : ps.length ≤ 1000000000000) :
    Calls Tryd.prog 23 #[.agg #[.int .i64 d.kind, .string d.cons, .slice ta d.text.length tc, .slice sa d.kids.length sc], .slice pa ps.length pc] w fun e w' => OPost w (atP d ps) e w' := by
  have hX0 := AI.start w d [] ta tc sa sc f htv hk hsc hlen
  obtain ⟨w2, hw2⟩ : ∃ w2, (w.alloc (.cells #[.int .i64 d.kind, .string d.cons, .slice ta d.text.length tc, .slice sa d.kids.length sc] 25)).alloc (.cells #[.int .i64 0, .string ⟨#[]⟩, .slice none 0 0, .slice none 0 0] 25) = w2 := ⟨_, rfl⟩
  rw [hw2] at hX0
  have hB := hX0.bel
  have HC : Hid _ := fun (_ : Unit) => kinAt_any d ta tc sa sc f ps pa pc w2 ((htv.keep hB).mono hB.size) ((hk.keep hB).mono hB.size) hsc hlen ((hp.keepB hB).monoB hB.size) hpl
  have x0 := hX0.x0
  have x1 := hX0.x1
  have x2 := hX0.x2
  have x3 := hX0.x3
  have hlt2 := hX0.lt
  have HB : Hid _ := hB
  have HR : Hid (∀ W, Below w2.heap.size w2 W → (W.cell? ⟨w.heap.size + 1, 0, none⟩ = some (.int .i64 0) ∧ W.cell? ⟨w.heap.size + 1, 1, none⟩ = some (.string ⟨#[]⟩) ∧ W.cell? ⟨w.heap.size + 1, 2, none⟩ = some (.slice none 0 0) ∧ W.cell? ⟨w.heap.size + 1, 3, none⟩ = some (.slice none 0 0)) ∧ ∀ q, W.frozen? ⟨w.heap.size + 1, q, none⟩ = false) := fun W h => by
    have k : ∀ q, W.cell? ⟨w.heap.size + 1, q, none⟩ = w2.cell? ⟨w.heap.size + 1, q, none⟩ := fun q => h.cell (p := ⟨w.heap.size + 1, q, none⟩) hlt2
    exact ⟨⟨(k 0).trans hX0.r0, (k 1).trans hX0.r1, (k 2).trans hX0.r2, (k 3).trans hX0.r3⟩, fun q => (h.frozen (p := ⟨w.heap.size + 1, q, none⟩) hlt2).trans (hX0.rf q)⟩
  have HZ : Hid (∀ x, atP d ps = some x → sz x ≤ 1000000000000) := fun x hx => Nat.le_trans (atP_sz hx) hlen
  generalize ps.length = n at *
  have HL : Hid _ := hlt2
  clear hX0 hk hp hB htv hlt2 hlen hpl
  subst hw2
  go_enter Tryd.func23, Tryd.ntmps23
  go_wp2_with (first
    | (go_at_call 44; refine (HC.out ()).mono ?_; intro e w7 h7; obtain ⟨x, F, ua, uc, va, vc, er, rfl, hz⟩ := h7.zr HZ.out; have HW : Hid _ := hz; clear h7 hz)
    | (go_at_call 45; refine (HW.out.own).mono ?_; rintro e w9 ⟨rfl, ua', uc', ho⟩; have HO : Hid _ := ho; have c0 := ho.c0; have c1 := ho.c1; have c2 := ho.c2; have c3 := ho.c3; have cf := ho.fz; obtain ⟨⟨r0, r1, r2, r3⟩, rf⟩ := HR.out w9 (HW.out.bel9 ho); clear ho))
  refine bodyPost_ret (v := .tuple #[.agg #[.int .i64 x.kind, .string x.cons, .slice ua' x.text.length uc', .slice va x.kids.length vc], .int .i64 er]) (by simp [results, Tryd.results23, go_sem, r0, r1, r2, r3]) rfl ?_
  exact HW.out.post HB.out (by omega) HL.out HO.out
end Go.Proofs.YtlkcadibjmfmcaaDoor

