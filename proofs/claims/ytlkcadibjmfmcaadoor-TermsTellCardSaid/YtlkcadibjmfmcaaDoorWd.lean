/- The document's lexemes. -/
import Derived.Test.YtlkcadibjmfmcaaDoorWc
namespace Go.Proofs.YtlkcadibjmfmcaaDoor
open Go.RowKit Go.Shelf

/-- The texts of lexemes among terms. -/
def lexs (l : List Tm) : List (List UInt8) := l.filterMap fun d => if d.kind = 2 then some d.text else none
theorem lexs_app (a b : List Tm) : lexs (a ++ b) = lexs a ++ lexs b := by simp [lexs]
theorem lexs_yes {d : Tm} (h : d.kind = 2) : lexs [d] = [d.text] := by simp [lexs, h]
theorem lexs_no {d : Tm} (h : d.kind ≠ 2) : lexs [d] = [] := by simp [lexs, h]
theorem lexs_take {l : List Tm} {k : Nat} {d : Tm} (h : l[k]? = some d) : lexs (l.take (k + 1)) = lexs (l.take k) ++ lexs [d] := by
  rw [List.take_add_one, h, lexs_app]; rfl
theorem lexs_le (l : List Tm) : (lexs l).length ≤ l.length := List.length_filterMap_le _ _
/-- Texts as cells, one behind the other. -/
def LB (W : World) (B : Nat) : List (List UInt8) → List Value → Prop
  | [], xs => xs = []
  | t :: l, xs => ∃ ta tc ys, xs = .slice ta t.length tc :: ys ∧ t.length ≤ tc ∧ t.length ≤ 140737488355328 ∧ BAt W B ta t ∧ LB W B l ys
theorem LB.below {W W' : World} {B : Nat} (hb : Below B W W') : ∀ {l : List (List UInt8)} {xs : List Value}, LB W B l xs → LB W' B l xs
  | [], _, h => h
  | _ :: _, _, h => by
    obtain ⟨ta, tc, ys, e, h0, h1, h2, h3⟩ := h
    exact ⟨ta, tc, ys, e, h0, h1, h2.keep (fun b q hlt => hb.cell (p := ⟨b, q, none⟩) hlt), h3.below hb⟩
theorem LB.app {W : World} {B : Nat} : ∀ {l m : List (List UInt8)} {xs ys : List Value}, LB W B l xs → LB W B m ys → LB W B (l ++ m) (xs ++ ys)
  | [], m, xs, ys, h, k => by have h : xs = [] := h; subst h; exact k
  | _ :: _, m, xs, ys, h, k => by
    obtain ⟨ta, tc, zs, rfl, h0, h1, h2, h3⟩ := h
    exact ⟨ta, tc, zs ++ ys, rfl, h0, h1, h2, h3.app k⟩
theorem LB.at {W : World} {B : Nat} : ∀ {l : List (List UInt8)} {xs : List Value}, LB W B l xs → ∀ {j : Nat} {t : List UInt8}, l[j]? = some t → ∃ ta tc, xs[j]? = some (.slice ta t.length tc) ∧ t.length ≤ tc ∧ t.length ≤ 140737488355328 ∧ BAt W B ta t
  | [], xs, h, j, d, hj => by cases hj
  | _ :: _, xs, h, j, d, hj => by
    obtain ⟨ta, tc, zs, rfl, h0, h1, h2, h3⟩ := h
    cases j with
    | zero => cases hj; exact ⟨ta, tc, rfl, h0, h1, h2⟩
    | succ j =>
      obtain ⟨ta', tc', a, b⟩ := h3.at (j := j) hj
      exact ⟨ta', tc', a, b⟩
theorem LB.len {W : World} {B : Nat} : ∀ {l : List (List UInt8)} {xs : List Value}, LB W B l xs → xs.length = l.length
  | [], xs, h => by have h : xs = [] := h; subst h; rfl
  | _ :: _, xs, h => by
    obtain ⟨ta, tc, zs, rfl, h0, h1, h2, h3⟩ := h
    have := h3.len
    simp only [List.length_cons]; omega
theorem info22 : (Tryd.prog.info? 22).map (fun i => (i.zero, i.size, i.bytes)) = some (some (.slice none 0 0), 1, 24) := by kernel_rfl
set_option maxRecDepth 100000 in
set_option maxHeartbeats 8000000 in
theorem refLexemes_any (d : Tm) (ta : Option Addr) (tc : Nat) (sa : Option Addr) (sc B : Nat) (w : World) (hBw : B ≤ w.heap.size) (hT : TB w B d ta tc sa sc) (hlim : sz d ≤ 1000000) :
    Calls Tryd.prog 18 #[.agg #[.int .i64 d.kind, .string d.cons, .slice ta d.text.length tc, .slice sa d.kids.length sc]] w fun e w' => (∃ v xs, e = .returned v ∧ w'.ownsRow w.heap.size 22 1 v (lexs (pts d)).length xs ∧ LB w' B (lexs (pts d)) xs) ∧ Below w.heap.size w w' := by
  obtain ⟨i0, hinf, hz0, hz1, hz2⟩ := info_parts info22
  obtain ⟨w1, hw1⟩ : ∃ w1, w.alloc (.cells #[.int .i64 d.kind, .string d.cons, .slice ta d.text.length tc, .slice sa d.kids.length sc] 25) = w1 := ⟨_, rfl⟩
  have hB1 : Below w.heap.size w w1 := by rw [← hw1]; exact (Below.refl _ _).alloc (Nat.le_refl _) _
  have s1 : w1.heap.size = w.heap.size + 1 := by rw [← hw1]; simp
  have hc1 : ∀ j v, (#[.int .i64 d.kind, .string d.cons, .slice ta d.text.length tc, .slice sa d.kids.length sc] : Array Value)[j]? = some v → w1.cell? ⟨w.heap.size, j, none⟩ = some v := fun j v hv => by rw [← hw1]; exact cell_new j hv
  have a0 := hc1 0 _ rfl
  have a1 := hc1 1 _ rfl
  have a2 := hc1 2 _ rfl
  have a3 := hc1 3 _ rfl
  have HC : Hid _ := fun (_ : Unit) => refWalk_any (sz d) d ta tc sa sc B w1 (Nat.le_refl _) (by omega) (hT.below (hB1.mono hBw)) hlim
  have hpl := pts_len d
  have hp1 : 1 ≤ (pts d).length := by rw [hpl, sz_eq]; omega
  have hp2 : (pts d).length ≤ 1000000 := by omega
  have HB1 : Hid _ := hB1
  have HBW : Hid (B ≤ w1.heap.size) := by show _ ≤ _; omega
  clear hB1 hc1 hT hBw hlim s1 hpl
  generalize pts d = P at *
  go_enter Tryd.func18, Tryd.ntmps18
  go_wp2_with (go_at_call 32; refine (HC.out ()).mono ?_; rintro e w4 ⟨⟨u, ys, rfl, hu, hwu⟩, hb4⟩; refine hold_it ?_)
  unfold Held
  obtain ⟨g, cap, cur, hue, hrest⟩ : ∃ g cap cur, u = .slice (some ⟨g, 0, none⟩) P.length cap ∧ _ := by
    rcases hu.2 with ⟨_, h0⟩ | ⟨g, cap, cur, e, hrest⟩
    · omega
    · exact ⟨g, cap, cur, e, hrest⟩
  subst hue
  have hgl := (hu.lt g rfl).2
  have HX : Hid (∀ W, Below w4.heap.size w4 W → ∀ k x, P[k]? = some x → ∃ ya yc, W.cell? ⟨g, k * 4, none⟩ = some (.int .i64 x.kind) ∧ W.cell? ⟨g, k * 4 + 2, none⟩ = some (.slice ya x.text.length yc) ∧ x.text.length ≤ yc ∧ x.text.length ≤ 140737488355328 ∧ BAt w4 B ya x.text) := fun W hW k x hx => by
    obtain ⟨ya, yc, xa, xc, e0, _, e2, _, hb⟩ := hwu.at hx
    exact ⟨ya, yc, (hW.cell (p := ⟨g, k * 4, none⟩) hgl).trans (own_cell hu e0).1, (hW.cell (p := ⟨g, k * 4 + 2, none⟩) hgl).trans (own_cell hu e2).1, hb.tc', hb.tl, hb.bat⟩
  have HB4 : Hid (Below w.heap.size w w4) := below_of HB1.out hb4
  have HBS : Hid (B ≤ w4.heap.size) := by have := HBW.out; have := hb4.size; show _ ≤ _; omega
  clear hrest hu hwu hb4 HBW HB1 HC hgl a0 a1 a2 a3
  go_wp2
  go_loopw [3, 5] (fun v i W => ∃ (k : Nat) (xs : List Value), k ≤ P.length ∧ i = .int .i64 k ∧ W.ownsRow w4.heap.size 22 1 v (lexs (P.take k)).length xs ∧ LB W B (lexs (P.take k)) xs ∧ Below w4.heap.size w4 W) (fun _ i _ => P.length - (intOf i).toNat)
  case atStart => exact ⟨0, [], by omega, rfl, World.ownsRow_nil _ _ _ _, rfl, Below.refl _ _⟩
  case round =>
    obtain ⟨k, xs, hkl, rfl, hrow, hL, hB⟩ := hrel
    have hkb : (k : Int) ≤ 1000000 := by omega
    have hlx := lexs_le (P.take k)
    have hln : (lexs (P.take k)).length ≤ 1000000 := by rw [List.length_take] at hlx; omega
    clear hlx
    by_cases hlt : k < P.length
    · obtain ⟨x, hx⟩ : ∃ x, P[k]? = some x := ⟨P[k], by simp [hlt]⟩
      obtain ⟨ya, yc, c0, c2, hyc, hyl, hyb⟩ := HX.out wr hB k x hx
      have HT : Hid _ := lexs_take hx
      have HLT : Hid _ := hlt
      have hltI : (k : Int) < (P.length : Int) := by omega
      by_cases h2 : x.kind = 2
      · rw [h2] at c0
        have HT2 : Hid (lexs (P.take (k + 1)) = lexs (P.take k) ++ [x.text]) := by show _ = _; rw [HT.out, lexs_yes h2]
        have HLB : Hid (∀ W, Below B w4 W → LB W B [x.text] [.slice ya x.text.length yc]) := fun W hW => ⟨ya, yc, [], rfl, hyc, hyl, hyb.keep (fun b q hlt => hW.cell (p := ⟨b, q, none⟩) hlt), rfl⟩
        have HL : Hid _ := fun (_ : Unit) => hL
        clear HT h2 hx hyb hyl hyc hL hlt
        go_wp2_with (at_builtin; refine wpList_append_own _ rfl _ _ 31 rfl w4.heap.size 22 i0 _ 1 24 Tryd.underlying31 hinf hz0 hz1 hz2 rfl (by decide) _ _ _ rfl (hrow.alloc _) ⟨wr.heap.size, 0, none⟩ 1 1 [.slice ya x.text.length yc] rfl rfl ?a1 ?a2 ?a3 ?a4 ?a5 ?_)
        try case a1 => exact cells_new _ _ _
        case a2 => first | rfl | (intro u hu; simp at hu; subst hu; rfl) | simp
        case a3 => unfold maxLen; omega
        case a4 => omega
        case a5 => have := hB.size; first | omega | (simp; omega)
        intro v5 w5 hr5 hg5 _
        have hB5 := (hB.alloc hB.size (.cells #[.slice ya x.text.length yc] 22)).grown hg5 (by have := hB.size; simp; omega) (fun j hj => by have := (hrow.lt j hj).1; omega)
        obtain ⟨g5, cap5, rfl⟩ := ownsRow_succ hr5
        have HL5 : Hid (LB w5 B (lexs (P.take (k + 1))) (xs ++ [.slice ya x.text.length yc])) := by
          show LB _ _ _ _
          rw [HT2.out]
          have h5 : Below B w4 w5 := hB5.mono HBS.out
          have h6 : Below B wr w5 := by
            have h1 := hB.mono HBS.out
            exact ⟨h5.os.trans h1.os.symm, h5.tape.trans h1.tape.symm, h5.output.trans h1.output.symm, by have := hg5.size; simp at this; omega, fun b hb => (h5.block b hb).trans (h1.block b hb).symm⟩
          exact ((HL.out ()).below h6).app (HLB.out w5 h5)
        have HR5 : Hid _ := fun (_ : Unit) => hr5
        have HB5 : Hid _ := hB5
        clear hr5 hg5 hB5 hrow hB
        go_wp2
        go_roundw
        case rel => exact ⟨k + 1, _, HLT.out, by go_num, by rw [HT2.out, List.length_append]; exact HR5.out (), HL5.out, HB5.out⟩
        case measure => simp [intOf]; have := HLT.out; omega
      · have h2I : (x.kind == 2) = false := by simpa using h2
        have HT2 : Hid (lexs (P.take (k + 1)) = lexs (P.take k)) := by show _ = _; rw [HT.out, lexs_no h2, List.append_nil]
        have HR : Hid _ := fun (_ : Unit) => hrow
        have HL : Hid _ := fun (_ : Unit) => hL
        have HB : Hid _ := hB
        clear HT h2 hx hyb hyl hyc hL hlt hrow hB
        go_wp2
        go_roundw
        case rel => exact ⟨k + 1, xs, HLT.out, by go_num, by rw [HT2.out]; exact HR.out (), by rw [HT2.out]; exact HL.out (), HB.out⟩
        case measure => simp [intOf]; have := HLT.out; omega
    · obtain rfl : k = P.length := by omega
      rw [List.take_length] at hrow hL
      have HR : Hid _ := fun (_ : Unit) => hrow
      have HL : Hid _ := fun (_ : Unit) => hL
      have HF : Hid (Below w.heap.size w wr) := below_of HB4.out hB
      have hws := HB4.out.size
      clear hrow hL hB hln
      go_wp2
      go_ret
      exact ⟨⟨_, xs, rfl, row_mono (HR.out ()) hws, HL.out ()⟩, HF.out⟩
end Go.Proofs.YtlkcadibjmfmcaaDoor
