/- The document's own marks, round by round. -/
import Derived.Test.YtopbibhpekjaeaaR0
import Derived.Test.YtopbibhpekjaeaaR1
namespace Go.Proofs.Ytopbibhpekjaeaa
open Go.RowKit

set_option maxRecDepth 100000 in
set_option maxHeartbeats 4000000 in
theorem round_any (N : Nat) (S : Int) (rs : List Rl) (a : Option Addr) (c : Nat) (null : Bool) (so : List Bool) (g cm : Nat) (w : World) (hok : Ok N rs) (hR : RAt w w.heap.size a rs) (hg : g < w.heap.size) (hm : ∀ m, m < N → w.cell? ⟨g, m, none⟩ = some (.bool (so.getD m false))) :
    Calls Try.prog 62 #[.agg #[.int .i64 (N : Int), .int .i64 S, .slice a rs.length c], .slice (some ⟨g, 0, none⟩) N cm, .bool null] w fun e w' => (∃ v, e = .returned v ∧ w'.ownsRow w.heap.size 4 1 v N (boolsV (rnd N rs (pOf null) so rs.length))) ∧ Below w.heap.size w w' := by
  have hn1 := hok.n1
  have hn2 := hok.n2
  have hlen := hok.len
  obtain ⟨W0, hW0⟩ : ∃ W0, w.alloc (.cells #[.int .i64 (N : Int), .int .i64 S, .slice a rs.length c] 24) = W0 := ⟨_, rfl⟩
  have hs0 : W0.heap.size = w.heap.size + 1 := by rw [← hW0]; simp
  have hB0 : Below w.heap.size w W0 := by rw [← hW0]; exact (Below.refl _ _).alloc (Nat.le_refl _) _
  have c0 : W0.cell? ⟨w.heap.size, 0, none⟩ = some (.int .i64 (N : Int)) := by rw [← hW0]; exact cell_new 0 rfl
  have c2 : W0.cell? ⟨w.heap.size, 2, none⟩ = some (.slice a rs.length c) := by rw [← hW0]; exact cell_new 2 rfl
  have H47 : Hid _ := fun (_ : Unit) => none_any N hn2 W0
  go_enter Try.func62, Try.ntmps62
  go_wp2_with (go_at_call 47; refine (H47.out ()).mono ?_)
  rintro e W1 ⟨⟨v, rfl, hrow⟩, hb1⟩
  obtain ⟨go, co, rfl, hgo1, hgo2⟩ := row_at hrow (by omega)
  go_wp2
  go_loopw [8] (fun iv W => ∃ k : Nat, k ≤ rs.length ∧ iv = .int .i64 k ∧ W.ownsRow W0.heap.size 4 1 (.slice (some ⟨go, 0, none⟩) N co) N (boolsV (rnd N rs (pOf null) so k)) ∧ Below W0.heap.size W0 W) (fun iv _ => rs.length - (intOf iv).toNat)
  case atStart => exact ⟨0, by omega, rfl, hrow, hb1⟩
  case round =>
    clear hrow hb1 hW0 hgo2
    obtain ⟨k, hk, rfl, hrow, hB⟩ := hrel
    have hBw : Below w.heap.size w wr := hB0.trans (hB.mono (by omega))
    have d2 := (hB.cell (p := ⟨w.heap.size, 2, none⟩) (by simp; omega)).trans c2
    by_cases hlt : k < rs.length
    · obtain ⟨r, hr⟩ : ∃ r, rs[k]? = some r := ⟨rs[k], by simp [hlt]⟩
      obtain ⟨b, o, sa, sc, rfl, hb, hK, e0', e1'⟩ := hR.cells k r hr
      have e0 := (hBw.cell (p := ⟨b, o + k * 2, none⟩) hb).trans e0'
      have e1 := (hBw.cell (p := ⟨b, o + k * 2 + 1, none⟩) hb).trans e1'
      clear e0' e1'
      have hkI : (k : Int) < rs.length := by omega
      have hlh := hok.lhs r (List.mem_of_getElem? hr)
      have hsy := hok.sym r (List.mem_of_getElem? hr)
      obtain ⟨m, hmE⟩ : ∃ m : Nat, r.lhs = m := ⟨r.lhs.toNat, by omega⟩
      have hmI : (m : Int) < N := by omega
      have H56 : Hid _ := fun (_ : Unit) => refAll_any r sa sc null so g N cm wr ((hK.keep hBw).mono hBw.size) (fun s hs => by have := hsy s hs; omega) (by have := hBw.size; omega) (fun m h => (hBw.cell (p := ⟨g, m, none⟩) hg).trans (hm m h))
      have HE : Hid (rnd N rs (pOf null) so (k + 1) = if r.rhs.all (symSo (pOf null) so) then (rnd N rs (pOf null) so k).set m true else rnd N rs (pOf null) so k) := by
        show _ = _
        have e1 : rhsAt rs k = r.rhs := by unfold rhsAt; rw [hr]
        have e2 : lhsAt rs k = r.lhs := by unfold lhsAt; rw [hr]
        rw [rnd, e1, e2, hmE]; simp
      rw [hmE] at e0 H56
      cases hq : r.rhs.all (symSo (pOf null) so) with
      | false =>
        rw [hq] at H56 HE
        simp only [Bool.false_eq_true, if_false] at HE
        go_wp2_with (go_at_call 56; refine (H56.out ()).mono ?_; rintro e w2 ⟨rfl, hb2⟩)
        exact ⟨⟨k + 1, by omega, by go_num, by rw [HE.out]; exact row_below hrow hb2, hB.trans (hb2.mono hB.size)⟩, by simp [intOf]; omega⟩
      | true =>
        rw [hq] at H56 HE
        simp only [if_true] at HE
        go_wp2_with (go_at_call 56; refine (H56.out ()).mono ?_)
        rintro e w2 ⟨rfl, hb2⟩
        have hrow2 := row_below hrow hb2
        have hB2 : Below W0.heap.size W0 w2 := hB.trans (hb2.mono hB.size)
        have f2 := (hB2.cell (p := ⟨w.heap.size, 2, none⟩) (by simp; omega)).trans c2
        have f0 := (hb2.cell (p := ⟨b, o + k * 2, none⟩) (by have := hBw.size; simp; omega)).trans e0
        have hc := hrow2.cellAt m (by omega)
        have hfz := hrow2.frozenAt m
        have hst := (hrow2.stored m (.bool true)).1
        obtain ⟨x, hx⟩ : ∃ x, (boolsV (rnd N rs (pOf null) so k))[m]? = some x := ⟨(boolsV (rnd N rs (pOf null) so k))[m]'(by simp [boolsV, rnd_len]; omega), by simp⟩
        rw [hx] at hc
        go_wp2
        exact ⟨⟨k + 1, by omega, by go_num, by rw [HE.out, boolsV_set]; exact hst, hB2.setCell (p := ⟨go, m, none⟩) hgo1 _⟩, by simp [intOf]; omega⟩
    · obtain rfl : k = rs.length := by omega
      go_wp2
      go_ret
      exact ⟨⟨_, rfl, row_mono hrow (by omega)⟩, hBw⟩
set_option maxRecDepth 100000 in
set_option maxHeartbeats 4000000 in
theorem marks_any (N : Nat) (S : Int) (rs : List Rl) (a : Option Addr) (c : Nat) (null : Bool) (w : World) (hok : Ok N rs) (hR : RAt w w.heap.size a rs) :
    Calls Try.prog 44 #[.agg #[.int .i64 (N : Int), .int .i64 S, .slice a rs.length c], .bool null] w fun e w' => (∃ v, e = .returned v ∧ Marks w.heap.size N rs (pOf null) v w') ∧ Below w.heap.size w w' := by
  have hn1 := hok.n1
  have hn2 := hok.n2
  obtain ⟨W0, hW0⟩ : ∃ W0, w.alloc (.cells #[.int .i64 (N : Int), .int .i64 S, .slice a rs.length c] 24) = W0 := ⟨_, rfl⟩
  have hs0 : W0.heap.size = w.heap.size + 1 := by rw [← hW0]; simp
  have hB0 : Below w.heap.size w W0 := by rw [← hW0]; exact (Below.refl _ _).alloc (Nat.le_refl _) _
  have c0 : W0.cell? ⟨w.heap.size, 0, none⟩ = some (.int .i64 (N : Int)) := by rw [← hW0]; exact cell_new 0 rfl
  have c1 : W0.cell? ⟨w.heap.size, 1, none⟩ = some (.int .i64 S) := by rw [← hW0]; exact cell_new 1 rfl
  have c2 : W0.cell? ⟨w.heap.size, 2, none⟩ = some (.slice a rs.length c) := by rw [← hW0]; exact cell_new 2 rfl
  have H47 : Hid _ := fun (_ : Unit) => none_any N hn2 W0
  go_enter Try.func44, Try.ntmps44
  go_wp2_with (go_at_call 47; refine (H47.out ()).mono ?_)
  rintro e W1 ⟨⟨v, rfl, hrow⟩, hb1⟩
  go_wp2
  go_loopw [5, 6] (fun mv iv W => ∃ k : Nat, k ≤ N ∧ iv = .int .i64 k ∧ W.ownsRow W0.heap.size 4 1 mv N (boolsV (itr N rs (pOf null) k)) ∧ Below W0.heap.size W0 W) (fun _ iv _ => N - (intOf iv).toNat)
  case atStart => exact ⟨0, by omega, rfl, hrow, hb1⟩
  case round =>
    clear hrow hb1 hW0
    obtain ⟨k, hk, rfl, hrow, hB⟩ := hrel
    have hBw : Below w.heap.size w wr := hB0.trans (hB.mono (by omega))
    have d0 := (hB.cell (p := ⟨w.heap.size, 0, none⟩) (by simp; omega)).trans c0
    have d1 := (hB.cell (p := ⟨w.heap.size, 1, none⟩) (by simp; omega)).trans c1
    have d2 := (hB.cell (p := ⟨w.heap.size, 2, none⟩) (by simp; omega)).trans c2
    by_cases hlt : k < N
    · have hkI : (k : Int) < N := by omega
      obtain ⟨gm, cm, rfl, hg1, hg2⟩ := row_at hrow (by omega)
      have H62 : Hid _ := fun (_ : Unit) => round_any N S rs a c null (itr N rs (pOf null) k) gm cm wr hok ((hR.keep hBw).mono hBw.size) hg2 (fun m h => getD_cell hrow m h)
      go_wp2_with (go_at_call 62; refine (H62.out ()).mono ?_; rintro e w2 ⟨⟨v2, rfl, hr2⟩, hb2⟩)
      exact ⟨⟨k + 1, by omega, by go_num, row_mono hr2 hB.size, hB.trans (hb2.mono hB.size)⟩, by simp [intOf]; omega⟩
    · obtain rfl : k = N := by omega
      go_wp2
      go_ret
      exact ⟨⟨_, rfl, _, row_mono hrow (by omega), itr_len _ _ _ _, fun m => itr_done (fun r hr => hok.lhs r hr) m⟩, hBw⟩
end Go.Proofs.Ytopbibhpekjaeaa
