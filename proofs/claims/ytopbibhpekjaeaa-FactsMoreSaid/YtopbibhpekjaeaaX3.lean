/- A grammar is copied: the walk. -/
import Derived.Test.YtopbibhpekjaeaaX2
import Derived.Deep.RegionLaw
namespace Go.Proofs.Ytopbibhpekjaeaa
open Go.RowKit

set_option maxRecDepth 100000 in
set_option maxHeartbeats 16000000 in
theorem copyGram_any (G : Gm) (a : Option Addr) (c : Nat) (w : World) (hR : RAt w w.heap.size a G.rules) :
    Calls Try.prog 14 #[.agg #[.int .i64 G.nts, .int .i64 G.start, .slice a G.rules.length c]] w fun e w' => (∃ lv xs, e = .returned (.agg #[.int .i64 G.nts, .int .i64 G.start, lv]) ∧ w'.ownsRow (w.heap.size + 3) 52 2 lv G.rules.length xs ∧ Rx w' lv (· < w.heap.size + 3) G.rules xs) ∧ Below w.heap.size w w' := by
  have hlen := hR.len
  obtain ⟨i0, hinf, hz0, hz1, hz2⟩ := info_parts info52
  obtain ⟨n, hn⟩ : ∃ n, G.rules.length = n := ⟨_, rfl⟩
  rw [hn] at hlen ⊢
  have hX0 := XC.start w G.nts G.start (.slice a n c)
  go_enter Try.func14, Try.ntmps14
  go_wp2
  go_loopw [4] (fun iv W => ∃ (k : Nat) (lv : Value) (xs : List Value), k ≤ n ∧ iv = .int .i64 k ∧ XC w G.nts G.start (.slice a n c) (G.rules.take k) lv xs W) (fun iv _ => n - (intOf iv).toNat)
  case atStart => exact ⟨0, _, _, by omega, rfl, hX0⟩
  case round =>
    obtain ⟨k, lv, xs, hk, rfl, hX⟩ := hrel
    clear hX0
    by_cases hlt : k < n
    · obtain ⟨r, hr⟩ : ∃ r, G.rules[k]? = some r := ⟨G.rules[k]'(by omega), by simp⟩
      obtain ⟨b, o, sa, sc, rfl, hb, hK, e0, e1⟩ := hR.cells k r hr
      have hps : (G.rules.take k).length = k := by rw [List.length_take]; omega
      have HP : Hid (G.rules.take (k + 1) = G.rules.take k ++ [r]) := by show _ = _; rw [List.take_add_one, hr]; rfl
      generalize G.rules.take k = ps at hX hps HP
      have hg2 := hX.g2
      have hXl := hX.lt
      have hbs := hX.bel.size
      have hXb := hX.bel
      have e0' := (hXb.cell (p := ⟨b, o + k * 2, none⟩) hb).trans e0
      have e1' := (hXb.cell (p := ⟨b, o + k * 2 + 1, none⟩) hb).trans e1
      have hkI : (k : Int) < n := by omega
      have hKr := (hK.keep hXb).mono hbs
      have o0 : wr.cell? ⟨w.heap.size + 1 + 1, 0, none⟩ = some (.int .i64 G.nts) := hX.o0
      have o2 : wr.cell? ⟨w.heap.size + 1 + 1, 2, none⟩ = some lv := hX.o2
      have T0 : CS w.heap.size wr.heap.size b (o + k * 2) (.slice (some ⟨b, o, none⟩) n c) (.slice sa r.rhs.length sc) sa r.rhs (wr.alloc (.cells #[.int .i64 r.lhs, .slice none 0 0] 52)) := by
        have hB : Below wr.heap.size wr (wr.alloc (.cells #[.int .i64 r.lhs, .slice none 0 0] 52)) := (Below.refl _ _).alloc (Nat.le_refl _) _
        exact ⟨(hB.cell (p := ⟨w.heap.size, 2, none⟩) (by show w.heap.size < _; omega)).trans hg2, cell_new 1 rfl, World.frozen?_alloc_new _ _ _ _, (hB.cell (p := ⟨b, o + k * 2 + 1, none⟩) (by show b < _; omega)).trans e1', (hKr.keep hB).mono hB.size, by simp; omega, by simp, by simp; omega⟩
      have HKs : Hid _ := hKr.sets
      have HKl : Hid _ := hKr.len
      clear e0 e1 hR hK
      go_wp2
      have T := T0.below (Below.refl _ _).drew
      have t1 := T.gr
      have t2 := T.r1
      have t3 := T.fz
      have t4 := T.e1
      go_region_law (refine step_append_syms (by rfl) _ _ (by rfl) r.rhs sa sc (by rfl) (by rfl) T.ka ?_; intro va vc w1 hown hbel; have T1 := T.below hbel; have f1 := T1.r1; have f2 := T1.fz; have f3 := T1.gr; have f4 := T1.e1)
      all_goals
        obtain ⟨W6, hW6, hX6, q0, q1, hK6, hfar⟩ := hX.copied hbel hown HKs.out HKl.out
        rw [hW6]
        have hrow := hX6.row
        have o2' : W6.cell? ⟨w.heap.size + 1 + 1, 2, none⟩ = some lv := hX6.o2
        have hl6 := hX6.lt
        clear hW6 hbel hown T1 f1 f2 f3 f4 T T0 t1 t2 t3 t4 hg2 e0' e1' hKr o0 o2 hXb hX hXl
        go_wp2_with (at_builtin; refine wpList_append_lies _ rfl _ _ 22 rfl (w.heap.size + 3) 52 i0 _ 2 32 Try.underlying22 hinf hz0 hz1 hz2 rfl (by decide) lv ps.length xs rfl (hrow.alloc _) ⟨W6.heap.size, 0, none⟩ 1 1 [.int .i64 r.lhs, .slice va r.rhs.length vc] rfl rfl ?ca1 ?ca2 (by decide) ?ca3 ?ca4 ?ca5 (W6.heap.size + 1) (by simp) ?_)
        case ca1 => exact cell_two_new _ _ _ _
        case ca2 => first | rfl | (intro u hu; simp at hu; rcases hu with rfl | rfl <;> rfl)
        case ca3 => unfold maxLen; omega
        case ca4 => omega
        case ca5 => simp; omega
        intro g1 cap1 w7 hown7 hgrow hat _
        have hBm : Below W6.heap.size W6 (W6.alloc (.cells #[.int .i64 r.lhs, .slice va r.rhs.length vc] 52)) := (Below.refl _ _).alloc (Nat.le_refl _) _
        have hsm : (W6.alloc (.cells #[.int .i64 r.lhs, .slice va r.rhs.length vc] 52)).heap.size = W6.heap.size + 1 := by simp
        have n2 : lv.ownBlock ≠ some (w.heap.size + 1 + 1) := fun e => by have := (hrow.lt _ e).1; omega
        have p2 : w7.cell? ⟨w.heap.size + 1 + 1, 2, none⟩ = some lv := (hgrow.cell_far ⟨w.heap.size + 1 + 1, 2, none⟩ (by show w.heap.size + 1 + 1 < _; omega) (fun e => n2 e.symm)).trans ((hBm.cell (p := ⟨w.heap.size + 1 + 1, 2, none⟩) (by show w.heap.size + 1 + 1 < _; omega)).trans o2')
        have pf : w7.frozen? ⟨w.heap.size + 1 + 1, 2, none⟩ = false := (hgrow.frozen_far ⟨w.heap.size + 1 + 1, 2, none⟩ (by show w.heap.size + 1 + 1 < _; omega) (fun e => n2 e.symm)).trans ((hBm.frozen (p := ⟨w.heap.size + 1 + 1, 2, none⟩) (by show w.heap.size + 1 + 1 < _; omega)).trans hX6.fo)
        have hst := hX6.step (g1 := g1) (cap1 := cap1) (sc := vc) hBm hK6 hfar hgrow (by rw [hps]; exact hown7) (by rw [hsm]; exact hat)
        rw [hps] at hst
        have HX : Hid _ := hst
        clear hst
        clear hX6 hK6 hfar hgrow hown7 hat hBm hsm n2 hrow o2' q0 q1
        go_wp2
        refine ⟨⟨k + 1, .slice (some ⟨g1, 0, none⟩) (k + 1) cap1, xs ++ [.int .i64 r.lhs, .slice va r.rhs.length vc], by omega, by go_num, ?_⟩, by simp [intOf]; omega⟩
        rw [HP.out]
        exact HX.out
    · obtain rfl : k = n := by omega
      rw [List.take_of_length_le (by omega)] at hX
      have hrow := hX.row
      have hrx := hX.rx
      have g2 := hX.g2
      have a0 := hX.a0
      have a1 := hX.a1
      have a2 := hX.a2
      have f0 := hX.f0
      have f1 := hX.f1
      have f2 := hX.f2
      have o0 : wr.cell? ⟨w.heap.size + 1 + 1, 0, none⟩ = some (.int .i64 G.nts) := hX.o0
      have o1 : wr.cell? ⟨w.heap.size + 1 + 1, 1, none⟩ = some (.int .i64 G.start) := hX.o1
      have o2 : wr.cell? ⟨w.heap.size + 1 + 1, 2, none⟩ = some lv := hX.o2
      have hbel := hX.bel
      have hl := hX.lt
      clear hX hR
      obtain ⟨la, lc, rfl⟩ := row_slice hrow
      rw [hn] at hrow o2
      rw [hn] at hrx
      go_wp2
      refine bodyPost_ret (v := .agg #[.int .i64 G.nts, .int .i64 G.start, .slice la k lc]) (by simp [results, Try.results14, go_sem, a0, a1, a2]) rfl ?_
      have hsB : w.heap.size ≤ w.heap.size + 1 := by omega
      refine ⟨⟨_, xs, rfl, row_set (row_set (row_set hrow (by show w.heap.size + 1 < _; omega) _) (by show w.heap.size + 1 < _; omega) _) (by show w.heap.size + 1 < _; omega) _, ?_⟩, ((hbel.setCell hsB _).setCell hsB _).setCell hsB _⟩
      refine hrx.move (by simp [World.setCell]) (fun b _ _ hb q => ?_) (fun _ _ e => e)
      have hne : w.heap.size + 1 ≠ b := by omega
      rw [World.cell?_setCell_far _ _ _ _ hne, World.cell?_setCell_far _ _ _ _ hne, World.cell?_setCell_far _ _ _ _ hne]
end Go.Proofs.Ytopbibhpekjaeaa
