/- Which rules are productive. -/
import Derived.Test.YtopbibhpekjaeaaN1
namespace Go.Proofs.Ytopbibhpekjaeaa
open Go.RowKit

def trimL (rs : List Rl) (so : List Bool) (k : Nat) : List Nat := (List.range k).filter fun i => (rhsAt rs i).all (symSo pP so)
theorem trimL_succ (rs : List Rl) (so : List Bool) (k : Nat) : trimL rs so (k + 1) = trimL rs so k ++ (if (rhsAt rs k).all (symSo pP so) then [k] else []) := by
  unfold trimL; rw [List.range_succ, List.filter_append]
  congr 1
  by_cases h : (rhsAt rs k).all (symSo pP so) = true
  · rw [if_pos h]; simp only [List.filter_cons, h, if_true, List.filter_nil]
  · rw [if_neg h]; simp only [List.filter_cons, h, List.filter_nil]; rfl
theorem trimL_len (rs : List Rl) (so : List Bool) (k : Nat) : (trimL rs so k).length ≤ k := by
  unfold trimL; exact Nat.le_trans (List.length_filter_le _ _) (by simp)
def Trims (base N : Nat) (rs : List Rl) (v : Value) (W : World) : Prop := ∃ so : List Bool, so.length = N ∧ (∀ m, so.getD m false = true ↔ Lf rs pP m) ∧ W.ownsRow base 3 1 v (trimL rs so rs.length).length (intsV (trimL rs so rs.length))
set_option maxRecDepth 100000 in
set_option maxHeartbeats 4000000 in
theorem trim_any (N : Nat) (S : Int) (rs : List Rl) (a : Option Addr) (c : Nat) (w : World) (hok : Ok N rs) (hR : RAt w w.heap.size a rs) :
    Calls Try.prog 55 #[.agg #[.int .i64 (N : Int), .int .i64 S, .slice a rs.length c]] w fun e w' => (∃ v, e = .returned v ∧ Trims w.heap.size N rs v w') ∧ Below w.heap.size w w' := by
  obtain ⟨i0, hinf, hz0, hz1, hz2⟩ := info_parts info3
  have hn1 := hok.n1
  have hn2 := hok.n2
  have hlen := hok.len
  obtain ⟨W0, hW0⟩ : ∃ W0, w.alloc (.cells #[.int .i64 (N : Int), .int .i64 S, .slice a rs.length c] 24) = W0 := ⟨_, rfl⟩
  have hs0 : W0.heap.size = w.heap.size + 1 := by rw [← hW0]; simp
  have hB0 : Below w.heap.size w W0 := by rw [← hW0]; exact (Below.refl _ _).alloc (Nat.le_refl _) _
  have c0 : W0.cell? ⟨w.heap.size, 0, none⟩ = some (.int .i64 (N : Int)) := by rw [← hW0]; exact cell_new 0 rfl
  have c1 : W0.cell? ⟨w.heap.size, 1, none⟩ = some (.int .i64 S) := by rw [← hW0]; exact cell_new 1 rfl
  have c2 : W0.cell? ⟨w.heap.size, 2, none⟩ = some (.slice a rs.length c) := by rw [← hW0]; exact cell_new 2 rfl
  have H45 : Hid _ := fun (_ : Unit) => productive_any N S rs a c W0 hok ((hR.keep hB0).mono (by omega))
  go_enter Try.func55, Try.ntmps55
  go_wp2_with (go_at_call 45; refine (H45.out ()).mono ?_)
  rintro e W2 ⟨⟨v, rfl, so, hso, hl, hL⟩, hb2⟩
  obtain ⟨g, cp, rfl, hg1, hg2⟩ := row_at hso (by omega)
  have hs2 := hb2.size
  have H73 : Hid _ := fun (_ : Unit) => symbolIs_any (.slice (some ⟨g, 0, none⟩) N cp) (.func (.func 63) #[] #[]) ⟨_, _, _, rfl⟩ ⟨_, rfl⟩ W2
  obtain ⟨W4, hW4⟩ : ∃ W4, (W2.alloc (.cells #[.slice (some ⟨g, 0, none⟩) N cp] 33)).alloc (.cells #[.func (.func 63) #[] #[]] 76) = W4 := ⟨_, rfl⟩
  have hs4 : W2.heap.size + 2 ≤ W4.heap.size := by rw [← hW4]; simp
  have hB4 : Below W2.heap.size W2 W4 := by rw [← hW4]; exact ((Below.refl _ _).alloc (Nat.le_refl _) _).alloc (by simp) _
  have dD : W4.cell? ⟨W2.heap.size, 0, none⟩ = some (.slice (some ⟨g, 0, none⟩) N cp) := by
    rw [← hW4, World.cell?_alloc_past _ _ _ (by simp)]
    exact cell_new (w := W2) (cs := #[.slice (some ⟨g, 0, none⟩) N cp]) (t := 33) 0 rfl
  have dC : W4.cell? ⟨W2.heap.size + 1, 0, none⟩ = some (.func (.func 63) #[] #[]) := by
    rw [← hW4]
    have := cell_new (w := W2.alloc (.cells #[.slice (some ⟨g, 0, none⟩) N cp] 33)) (cs := #[.func (.func 63) #[] #[]]) (t := 76) 0 rfl
    simp only [World.size_alloc] at this; exact this
  have d2 : W4.cell? ⟨w.heap.size, 2, none⟩ = some (.slice a rs.length c) := (hB4.cell (p := ⟨w.heap.size, 2, none⟩) (by simp; omega)).trans ((hb2.cell (p := ⟨w.heap.size, 2, none⟩) (by simp; omega)).trans c2)
  have hso4 := row_below hso hB4
  have hBw4 : Below w.heap.size w W4 := (below_of hB0 hb2).trans (hB4.mono (by omega))
  rw [hW4] at H73
  clear hW4 c0 c1 c2 hW0 H45 hB0 hso hB4
  go_wp2_with (go_at_call 73; refine (H73.out ()).mono ?_; rintro e W9 ⟨rfl, rfl⟩)
  clear H73 d2
  go_loopw [4, 13] (fun lv i W => ∃ k : Nat, k ≤ rs.length ∧ i = .int .i64 k ∧ W.ownsRow W9.heap.size 3 1 lv (trimL rs so k).length (intsV (trimL rs so k)) ∧ Below W9.heap.size W9 W) (fun _ i _ => rs.length - (intOf i).toNat)
  case atStart => exact ⟨0, by omega, rfl, World.ownsRow_nil _ _ _ _, Below.refl _ _⟩
  case round =>
    obtain ⟨k, hk, rfl, hrow, hB⟩ := hrel
    have hsz := hB.size
    have hBw : Below w.heap.size w wr := hBw4.trans (hB.mono (by omega))
    by_cases hlt : k < rs.length
    · obtain ⟨r, hr⟩ : ∃ r, rs[k]? = some r := ⟨rs[k], by simp [hlt]⟩
      obtain ⟨b, o, sa, sc, rfl, hb, hK, e0', e1'⟩ := hR.cells k r hr
      have e0 := (hBw.cell (p := ⟨b, o + k * 2, none⟩) hb).trans e0'
      have e1 := (hBw.cell (p := ⟨b, o + k * 2 + 1, none⟩) hb).trans e1'
      clear e0' e1'
      have hrm := List.mem_of_getElem? hr
      have hsym := hok.sym r hrm
      obtain ⟨W5, hW5⟩ : ∃ W5, wr.alloc (.cells #[.int .i64 r.lhs, .slice sa r.rhs.length sc] 52) = W5 := ⟨_, rfl⟩
      have hB5 : Below wr.heap.size wr W5 := by rw [← hW5]; exact (Below.refl _ _).alloc (Nat.le_refl _) _
      have hs5 : W5.heap.size = wr.heap.size + 1 := by rw [← hW5]; simp
      have f1 : W5.cell? ⟨wr.heap.size, 1, none⟩ = some (.slice sa r.rhs.length sc) := by rw [← hW5]; exact cell_new 1 rfl
      have hB45 : Below W9.heap.size W9 W5 := hB.trans (hB5.mono hsz)
      have hBw5 : Below w.heap.size w W5 := hBw4.trans (hB45.mono (by omega))
      have H40 : Hid _ := fun (_ : Unit) => all_any 76 #[.pointer (some ⟨W2.heap.size + 1, 0, none⟩), .pointer (some ⟨W2.heap.size, 0, none⟩)] (symSo pP so) r.rhs sa sc W5 ((hK.keep hBw5).mono (by omega)) (enters_of Try.func76 (by kernel_rfl) rfl)
        (fun s hs W hW => by
          have hB6 : Below W9.heap.size W9 W := hB45.trans (hW.mono (by omega))
          have h6 := hB6.size
          refine symSo_any 63 pP (enters_of Try.func63 (by kernel_rfl) rfl) hk63 s so g N cp (W2.heap.size + 1) W2.heap.size W (by have := hsym s hs; omega) (by omega) (by omega) (by omega) (fun m hm => getD_cell (row_below hso4 hB6) m hm) ((hB6.cell (p := ⟨W2.heap.size + 1, 0, none⟩) (by simp; omega)).trans dC) ((hB6.cell (p := ⟨W2.heap.size, 0, none⟩) (by simp; omega)).trans dD))
      have HT : Hid (trimL rs so (k + 1) = trimL rs so k ++ (if r.rhs.all (symSo pP so) then [k] else [])) := by
        show _ = _; rw [trimL_succ]; simp [rhsAt, hr]
      have htl := trimL_len rs so k
      generalize trimL rs so k = xs at *
      cases hq : r.rhs.all (symSo pP so) with
      | false =>
        rw [hq] at H40 HT
        go_wp2_with (go_at_call 40; refine (H40.out ()).mono ?_; rintro e w2 ⟨rfl, hb2'⟩)
        have hBn : Below W9.heap.size W9 w2 := hB45.trans (hb2'.mono (by omega))
        refine ⟨⟨k + 1, by omega, by go_num, ?_, hBn⟩, by simp [intOf]; omega⟩
        rw [HT.out]
        simp only [Bool.false_eq_true, if_false, List.append_nil]
        exact row_below (row_below hrow hB5) hb2'
      | true =>
        rw [hq] at H40 HT
        simp only [if_true] at HT
        go_wp2_with (first | (go_at_call 40; refine (H40.out ()).mono ?_; rintro e w2 ⟨rfl, hb2'⟩; have hrow2 := row_below (row_below hrow hB5) hb2'; have hBn : Below W9.heap.size W9 w2 := hB45.trans (hb2'.mono (by omega)); have hsn := hBn.size) | (at_builtin; refine wpList_append_own _ rfl _ _ 41 rfl W9.heap.size 3 i0 (.int .i64 0) 1 8 Try.underlying41 hinf hz0 hz1 hz2 rfl (by decide) _ _ _ rfl (hrow2.alloc _) ⟨w2.heap.size, 0, none⟩ 1 1 [.int .i64 ((k : Nat) : Int)] rfl rfl ?ca1 ?ca2 ?ca3 ?ca4 ?ca5 ?_))
        try case ca1 => exact cell_one_new _ _ _
        case ca2 => first | rfl | (intro u hu; simp at hu; subst hu; rfl)
        case ca3 => unfold maxLen; omega
        case ca4 => omega
        case ca5 => first | omega | (simp; omega)
        intro v' w3 hown' hgrow _
        have hb3 : Below W9.heap.size w2 w3 := ((Below.refl _ w2).alloc hsn (.cells #[.int .i64 ((k : Nat) : Int)] 3)).grown hgrow (by simp; omega) (fun q hq => (hrow2.lt q hq).1)
        obtain ⟨g', cap', rfl, _⟩ := row_at hown' (by omega)
        go_wp2
        go_roundw
        case rel => exact ⟨k + 1, by omega, by go_num, by rw [HT.out, intsV_snoc, List.length_append]; exact hown', hBn.trans hb3⟩
        case measure => simp [intOf]; omega
    · obtain rfl : k = rs.length := by omega
      go_wp2
      go_ret
      exact ⟨⟨_, rfl, so, hl, hL, row_mono hrow (by omega)⟩, hBw⟩
end Go.Proofs.Ytopbibhpekjaeaa
