/- The document's walk through a term, and its lexemes. -/
import Derived.Test.YtlkcadibjmfmcaaDoorWa
import Derived.Test.YtlkcadibjmfmcaaDoorGc
namespace Go.Proofs.YtlkcadibjmfmcaaDoor
open Go.RowKit Go.Shelf

mutual
/-- A term and all that lies in it, each ahead of its kids. -/
def pts : Tm → List Tm | .mk k c t l => .mk k c t l :: ptsL l
def ptsL : List Tm → List Tm | [] => [] | d :: l => pts d ++ ptsL l
end
theorem pts_eq (d : Tm) : pts d = d :: ptsL d.kids := by cases d; rw [pts]; rfl
theorem ptsL_app (a b : List Tm) : ptsL (a ++ b) = ptsL a ++ ptsL b := by
  induction a with
  | nil => simp [ptsL]
  | cons x a ih => simp [ptsL, ih]
theorem ptsL_take {l : List Tm} {k : Nat} {d : Tm} (h : l[k]? = some d) : ptsL (l.take (k + 1)) = ptsL (l.take k) ++ pts d := by
  rw [List.take_add_one, h, ptsL_app]; simp [ptsL]
mutual
theorem pts_len : ∀ d : Tm, (pts d).length = sz d
  | .mk k c t l => by rw [pts, sz, List.length_cons, ptsL_len l]; omega
theorem ptsL_len : ∀ l : List Tm, (ptsL l).length = szL l
  | [] => by simp [ptsL, szL]
  | d :: l => by rw [ptsL, szL, List.length_append, pts_len d, ptsL_len l]
end
mutual
theorem pre_pts : ∀ (d : Tm) (m : Nat), (pre d m).map Prod.fst = pts d
  | .mk k c t l, m => by rw [pre, pts, List.map_cons, preL_pts l (m + 1)]
theorem preL_pts : ∀ (l : List Tm) (m : Nat), (preL l m).map Prod.fst = ptsL l
  | [], m => by simp [preL, ptsL]
  | d :: l, m => by rw [preL, ptsL, List.map_append, pre_pts d m, preL_pts l m]
end
/-- A term in memory below a block. -/
structure TB (W : World) (B : Nat) (d : Tm) (ta : Option Addr) (tc : Nat) (sa : Option Addr) (sc : Nat) : Prop where
  tc' : d.text.length ≤ tc
  tl : d.text.length ≤ 140737488355328
  bat : BAt W B ta d.text
  sc' : d.kids.length ≤ sc
  mat : ∃ f, MAt W B f sa d.kids
theorem TA.tb {W : World} {d : Tm} {ta : Option Addr} {tc : Nat} {sa : Option Addr} {sc : Nat} (h : TA W d ta tc sa sc) : TB W W.heap.size d ta tc sa sc := ⟨h.tc', h.tl, h.bat, h.sc', h.mat⟩
theorem TB.below {W W' : World} {B : Nat} {d : Tm} {ta : Option Addr} {tc : Nat} {sa : Option Addr} {sc : Nat} (hb : Below B W W') (h : TB W B d ta tc sa sc) : TB W' B d ta tc sa sc := by
  obtain ⟨f, hf⟩ := h.mat
  exact ⟨h.tc', h.tl, h.bat.keep (fun b q hlt => hb.cell (p := ⟨b, q, none⟩) hlt), h.sc', f, hf.keep hb⟩
theorem TB.ta {W : World} {B : Nat} {d : Tm} {ta : Option Addr} {tc : Nat} {sa : Option Addr} {sc : Nat} (hB : B ≤ W.heap.size) (h : TB W B d ta tc sa sc) : TA W d ta tc sa sc := by
  obtain ⟨f, hf⟩ := h.mat
  exact ⟨h.tc', h.tl, h.bat.mono hB, h.sc', f, hf.mono hB⟩
/-- Terms as cells, one behind the other. -/
def WR (W : World) (B : Nat) : List Tm → List Value → Prop
  | [], xs => xs = []
  | d :: l, xs => ∃ ta tc sa sc ys, xs = .int .i64 d.kind :: .string d.cons :: .slice ta d.text.length tc :: .slice sa d.kids.length sc :: ys ∧ TB W B d ta tc sa sc ∧ WR W B l ys
theorem WR.below {W W' : World} {B : Nat} (hb : Below B W W') : ∀ {l : List Tm} {xs : List Value}, WR W B l xs → WR W' B l xs
  | [], _, h => h
  | _ :: _, _, h => by
    obtain ⟨ta, tc, sa, sc, ys, e, h1, h2⟩ := h
    exact ⟨ta, tc, sa, sc, ys, e, h1.below hb, h2.below hb⟩
theorem WR.app {W : World} {B : Nat} : ∀ {l m : List Tm} {xs ys : List Value}, WR W B l xs → WR W B m ys → WR W B (l ++ m) (xs ++ ys)
  | [], m, xs, ys, h, k => by have h : xs = [] := h; subst h; exact k
  | _ :: _, m, xs, ys, h, k => by
    obtain ⟨ta, tc, sa, sc, zs, rfl, h1, h2⟩ := h
    exact ⟨ta, tc, sa, sc, zs ++ ys, rfl, h1, h2.app k⟩
theorem WR.one {W : World} {B : Nat} : ∀ {l : List Tm} {xs : List Value}, WR W B l xs → ∀ u ∈ xs, u.oneCell' = true
  | [], xs, h, u, hu => by have h : xs = [] := h; subst h; cases hu
  | _ :: _, xs, h, u, hu => by
    obtain ⟨ta, tc, sa, sc, zs, rfl, h1, h2⟩ := h
    simp only [List.mem_cons] at hu
    rcases hu with rfl | rfl | rfl | rfl | hu
    · rfl
    · rfl
    · rfl
    · rfl
    · exact h2.one u hu
theorem WR.len {W : World} {B : Nat} : ∀ {l : List Tm} {xs : List Value}, WR W B l xs → xs.length = l.length * 4
  | [], xs, h => by have h : xs = [] := h; subst h; rfl
  | _ :: _, xs, h => by
    obtain ⟨ta, tc, sa, sc, zs, rfl, h1, h2⟩ := h
    have := h2.len
    simp only [List.length_cons]; omega
theorem WR.at {W : World} {B : Nat} : ∀ {l : List Tm} {xs : List Value}, WR W B l xs → ∀ {j : Nat} {d : Tm}, l[j]? = some d → ∃ ta tc sa sc, xs[j * 4]? = some (.int .i64 d.kind) ∧ xs[j * 4 + 1]? = some (.string d.cons) ∧ xs[j * 4 + 2]? = some (.slice ta d.text.length tc) ∧ xs[j * 4 + 3]? = some (.slice sa d.kids.length sc) ∧ TB W B d ta tc sa sc
  | [], xs, h, j, d, hj => by cases hj
  | _ :: _, xs, h, j, d, hj => by
    obtain ⟨ta, tc, sa, sc, zs, rfl, h1, h2⟩ := h
    cases j with
    | zero => cases hj; exact ⟨ta, tc, sa, sc, rfl, rfl, rfl, rfl, h1⟩
    | succ j =>
      obtain ⟨ta', tc', sa', sc', a, b, c, e, f⟩ := h2.at (j := j) hj
      refine ⟨ta', tc', sa', sc', ?_, ?_, ?_, ?_, f⟩
      · rw [show (j + 1) * 4 = j * 4 + 4 by omega]; exact a
      · rw [show (j + 1) * 4 + 1 = j * 4 + 1 + 4 by omega]; exact b
      · rw [show (j + 1) * 4 + 2 = j * 4 + 2 + 4 by omega]; exact c
      · rw [show (j + 1) * 4 + 3 = j * 4 + 3 + 4 by omega]; exact e
/-- What the walk comes to. -/
def WPost (B : Nat) (l : List Tm) (w : World) (e : Ending) (w' : World) : Prop := (∃ v xs, e = .returned v ∧ w'.ownsRow w.heap.size 25 4 v l.length xs ∧ WR w' B l xs) ∧ Below w.heap.size w w'
set_option maxRecDepth 100000 in
set_option maxHeartbeats 8000000 in
theorem refWalk_any : ∀ (N : Nat) (d : Tm) (ta : Option Addr) (tc : Nat) (sa : Option Addr) (sc B : Nat) (w : World), sz d ≤ N → B ≤ w.heap.size → TB w B d ta tc sa sc → sz d ≤ 1000000 →
    Calls Tryd.prog 32 #[.agg #[.int .i64 d.kind, .string d.cons, .slice ta d.text.length tc, .slice sa d.kids.length sc]] w (WPost B (pts d) w) := by
  intro N
  induction N with
  | zero => intro d ta tc sa sc B w hN; rw [sz_eq] at hN; omega
  | succ N ih =>
  intro d ta tc sa sc B w hN hBw hT hlim
  obtain ⟨i0, hinf, hz0, hz1, hz2⟩ := info_parts infoTerm
  have hsz := sz_eq d
  obtain ⟨f, hk⟩ := hT.mat
  have hlen := hk.len
  obtain ⟨w1, hw1⟩ : ∃ w1, w.alloc (.cells #[.int .i64 d.kind, .string d.cons, .slice ta d.text.length tc, .slice sa d.kids.length sc] 25) = w1 := ⟨_, rfl⟩
  have hB1 : Below w.heap.size w w1 := by rw [← hw1]; exact (Below.refl _ _).alloc (Nat.le_refl _) _
  have s1 : w1.heap.size = w.heap.size + 1 := by rw [← hw1]; simp
  have hc1 : ∀ j v, (#[.int .i64 d.kind, .string d.cons, .slice ta d.text.length tc, .slice sa d.kids.length sc] : Array Value)[j]? = some v → w1.cell? ⟨w.heap.size, j, none⟩ = some v := fun j v hv => by rw [← hw1]; exact cell_new j hv
  have HCE : Hid (∀ W, Below w1.heap.size w1 W → W.cell? ⟨w.heap.size, 0, none⟩ = some (.int .i64 d.kind) ∧ W.cell? ⟨w.heap.size, 1, none⟩ = some (.string d.cons) ∧ W.cell? ⟨w.heap.size, 2, none⟩ = some (.slice ta d.text.length tc) ∧ W.cell? ⟨w.heap.size, 3, none⟩ = some (.slice sa d.kids.length sc)) := fun W h => by
    have k : ∀ q, W.cell? ⟨w.heap.size, q, none⟩ = w1.cell? ⟨w.heap.size, q, none⟩ := fun q => h.cell (p := ⟨w.heap.size, q, none⟩) (by show w.heap.size < _; omega)
    exact ⟨(k 0).trans (hc1 0 _ rfl), (k 1).trans (hc1 1 _ rfl), (k 2).trans (hc1 2 _ rfl), (k 3).trans (hc1 3 _ rfl)⟩
  have HW : Hid (∀ W, Below w1.heap.size w1 W → Below w.heap.size w W) := fun W h => hB1.trans (h.mono hB1.size)
  have HTB : Hid (∀ W, Below w1.heap.size w1 W → TB W B d ta tc sa sc) := fun W h => hT.below ((hB1.trans (h.mono hB1.size)).mono hBw)
  have HK : Hid (∀ W, Below w1.heap.size w1 W → MAt W B f sa d.kids) := fun W h => hk.keep ((hB1.trans (h.mono hB1.size)).mono hBw)
  have HWB : Hid (∀ W, Below w1.heap.size w1 W → Below B w W ∧ B ≤ W.heap.size) := fun W h => ⟨(hB1.trans (h.mono hB1.size)).mono hBw, by have := h.size; omega⟩
  obtain ⟨a0, a1, a2, a3⟩ := HCE.out w1 (Below.refl _ _)
  have HPE : Hid _ := pts_eq d
  have HI : Hid _ := ih
  have HN : Hid _ := hN
  have HZ : Hid _ := hsz
  have HLI : Hid _ := hlim
  have HBW : Hid _ := hBw
  have HLEN : Hid _ := hlen
  have HS1 : Hid _ := s1
  have hB0 : Below w1.heap.size w1 w1 := Below.refl _ _
  clear hB1 hc1 hk ih hN hsz hlim hT hBw hlen s1
  go_enter Tryd.func32, Tryd.ntmps32
  go_wp2_with (at_builtin; refine wpList_append_own _ rfl _ _ 23 rfl w1.heap.size 25 i0 _ 4 72 Tryd.underlying23 hinf hz0 hz1 hz2 rfl (by decide) _ _ _ rfl ((World.ownsRow_nil w1 w1.heap.size 25 4).alloc _) ⟨w1.heap.size, 0, none⟩ 1 1 [.int .i64 d.kind, .string d.cons, .slice ta d.text.length tc, .slice sa d.kids.length sc] rfl rfl ?a1 ?a2 ?a3 ?a4 ?a5 ?_)
  try case a1 => exact cells_new _ _ _
  case a2 => intro u hu; simp at hu; rcases hu with rfl | rfl | rfl | rfl <;> rfl
  case a3 => unfold maxLen; omega
  case a4 => omega
  case a5 => simp
  intro v' w2 hown' hgrow _
  have hB2 := (hB0.alloc hB0.size (.cells #[.int .i64 d.kind, .string d.cons, .slice ta d.text.length tc, .slice sa d.kids.length sc] 25)).grown hgrow (by simp) (fun j hj => by simp [Value.ownBlock] at hj)
  obtain ⟨g', cap', rfl⟩ := ownsRow_succ hown'
  rw [show (0 : Nat) + 1 = 1 from rfl] at *
  have HO : Hid _ := fun (_ : Unit) => hown'
  have HB2 : Hid _ := hB2
  obtain ⟨b0, b1, b2, b3⟩ := HCE.out w2 hB2
  clear hown' hgrow hB2 hB0 a0 a1 a2 a3
  go_wp2
  go_loopw [3, 4] (fun v i W => ∃ (k : Nat) (xs : List Value), k ≤ d.kids.length ∧ i = .int .i64 k ∧ W.ownsRow w1.heap.size 25 4 v (d :: ptsL (d.kids.take k)).length xs ∧ WR W B (d :: ptsL (d.kids.take k)) xs ∧ Below w1.heap.size w1 W) (fun _ i _ => d.kids.length - (intOf i).toNat)
  case atStart => exact ⟨0, _, by omega, rfl, by simpa [ptsL] using HO.out (), ⟨ta, tc, sa, sc, [], rfl, HTB.out _ HB2.out, by rw [List.take_zero, ptsL]; rfl⟩, HB2.out⟩
  case round =>
    obtain ⟨k, xs, hkl, rfl, hrow, hWR, hB⟩ := hrel
    obtain ⟨d0, d1, d2, d3⟩ := HCE.out wr hB
    have hlk : (d :: ptsL (d.kids.take k)).length ≤ 1000000 := by
      rw [List.length_cons, ptsL_len]
      have := szL_take_le d.kids k
      have := HLI.out
      have := HZ.out
      omega
    have HLK : Hid _ := hlk
    have hkb : (k : Int) ≤ 10000000000000 := by have := HLEN.out; omega
    have HB : Hid _ := hB
    have HR : Hid _ := fun (_ : Unit) => hrow
    have HWR : Hid _ := fun (_ : Unit) => hWR
    clear b0 b1 b2 b3 HO HB2
    by_cases hlt : k < d.kids.length
    · obtain ⟨x, hx⟩ : ∃ x, d.kids[k]? = some x := ⟨d.kids[k], by simp [hlt]⟩
      obtain ⟨hBB, hBs⟩ := HWB.out wr hB
      obtain ⟨b, o, hsa, hb, xa, xc, c0, c1, ⟨ya, yc, c2, hyc, hyl, hyb⟩, c3, hxc, hxk⟩ := (HK.out wr hB).one hx
      have hzx := szL_take hx
      have hle := szL_take_le d.kids (k + 1)
      have HC : Hid _ := fun (_ : Unit) => HI.out x ya yc xa xc B wr (by have := HN.out; have := HZ.out; omega) hBs ⟨hyc, hyl, hyb, hxc, f, hxk⟩ (by have := HLI.out; have := HZ.out; omega)
      have HPT : Hid _ := ptsL_take hx
      have HLT : Hid _ := hlt
      have HLX : Hid ((d :: ptsL (d.kids.take k)).length + (pts x).length ≤ 1000000 ∧ 0 < (pts x).length) := by
        have := HLI.out
        have := HZ.out
        have := sz_eq x
        rw [List.length_cons, ptsL_len, pts_len]
        exact ⟨by omega, by omega⟩
      subst hsa
      clear hzx hle hx hxk hyb hyl hyc hBB hBs hrow hWR hB hlk
      go_wp2_with (go_at_call 32; refine (HC.out ()).mono ?_; rintro e w3 ⟨⟨u, ys, rfl, hu, hwu⟩, hb3⟩; refine hold_it ?_)
      unfold Held
      obtain ⟨g, cap, cur, hue, hbg, hg, hrest⟩ : ∃ g cap cur, u = .slice (some ⟨g, 0, none⟩) (pts x).length cap ∧ _ := by
        rcases hu.2 with ⟨_, h0⟩ | ⟨g, cap, cur, e, hrest⟩
        · have := HLX.out.2; omega
        · exact ⟨g, cap, cur, e, hrest⟩
      subst hue
      have hr3 := row_ab' (HR.out ()) (fun j hj => hb3.block j ((HR.out ()).lt j hj).2)
      have HB3 : Hid (Below w1.heap.size w1 w3) := HB.out.trans (hb3.mono HB.out.size)
      have HW3 : Hid _ := fun (_ : Unit) => (HWR.out ()).below ((hb3.mono (HWB.out wr HB.out).2))
      have HWU : Hid _ := fun (_ : Unit) => hwu
      have hul := hwu.len
      have hcl : ∀ j v, ys[j]? = some v → w3.cell? ((⟨g, 0, none⟩ : Addr).add j) = some v := fun j v hv => by
        have e : (⟨g, 0, none⟩ : Addr).add j = ⟨g, j, none⟩ := by simp [Addr.add]; omega
        rw [e]
        exact (own_cell hu hv).1
      have hoc := hwu.one
      have hsz3 := HB3.out.size
      obtain ⟨hl1, hl2⟩ := HLX.out
      clear hg hrest hbg hwu hb3 hu
      go_wp2_with (at_builtin; refine wpList_append_own _ rfl _ _ 23 rfl w1.heap.size 25 i0 _ 4 72 Tryd.underlying23 hinf hz0 hz1 hz2 rfl (by decide) _ _ _ rfl hr3 ⟨g, 0, none⟩ (pts x).length cap ys rfl hul hcl hoc ?b3 ?b4 ?b5 ?_)
      case b3 => unfold maxLen; omega
      case b4 => omega
      case b5 => exact hsz3
      intro v5 w5 hr5 hg5 _
      have hB5 := HB3.out.grown hg5 hsz3 (fun j hj => (hr3.lt j hj).1)
      have HB5 : Hid _ := hB5
      have HR5 : Hid _ := fun (_ : Unit) => hr5
      have HW5 : Hid (WR w5 B ((d :: ptsL (d.kids.take k)) ++ pts x) (xs ++ ys)) := by
        have hk5 : Below B w3 w5 := by
          refine ⟨hg5.os, hg5.tape, hg5.output, hg5.size, fun b hb => hg5.block b ?_ (fun e => ?_)⟩
          · have := (HWB.out w3 HB3.out).2; omega
          · have h1 := (hr3.lt b e.symm).1
            have := HBW.out
            have := HS1.out
            omega
        exact ((HW3.out ()).below hk5).app ((HWU.out ()).below hk5)
      obtain ⟨g5, cap5, hv5⟩ : ∃ g5 cap5, v5 = .slice (some ⟨g5, 0, none⟩) ((d :: ptsL (d.kids.take k)).length + (pts x).length) cap5 := by
        rcases hr5.2 with ⟨_, h0⟩ | ⟨g5, cap5, _, e, _⟩
        · omega
        · exact ⟨g5, cap5, e⟩
      subst hv5
      clear hr5 hg5 hB5 hr3 hcl hoc hul hl1 hl2
      go_wp2
      go_roundw
      case rel =>
        refine ⟨k + 1, xs ++ ys, HLT.out, by go_num, ?_, ?_, HB5.out⟩
        · rw [HPT.out, ← List.cons_append, List.length_append]; exact HR5.out ()
        · rw [HPT.out, ← List.cons_append]; exact HW5.out
      case measure => simp [intOf]; have := HLT.out; omega
    · obtain rfl : k = d.kids.length := by omega
      rw [List.take_length] at HR HWR
      rw [← HPE.out] at HR HWR
      have HF : Hid ((w.heap.size ≤ w1.heap.size)) := by have := HS1.out; show _ ≤ _; omega
      clear hrow hWR hB hlk HLK
      go_wp2
      go_ret
      exact ⟨⟨_, xs, rfl, row_mono (HR.out ()) HF.out, HWR.out ()⟩, HW.out _ HB.out⟩
end Go.Proofs.YtlkcadibjmfmcaaDoor
