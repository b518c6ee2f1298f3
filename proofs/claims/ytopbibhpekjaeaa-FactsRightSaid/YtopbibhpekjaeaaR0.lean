/- The document's own marks: none of them, a symbol that is so, a rule whose symbols are all so. -/
import Derived.Test.YtopbibhpekjaeaaN2
namespace Go.Proofs.Ytopbibhpekjaeaa
open Go.RowKit

def pOf (null : Bool) : St → Bool := if null then pN else pP
set_option maxRecDepth 100000 in
set_option maxHeartbeats 4000000 in
theorem none_any (N : Nat) (hN : N ≤ 4096) (w : World) :
    Calls Try.prog 47 #[.int .i64 (N : Int)] w fun e w' => (∃ v, e = .returned v ∧ w'.ownsRow w.heap.size 4 1 v N (boolsV (List.replicate N false))) ∧ Below w.heap.size w w' := by
  obtain ⟨i0, hinf, hz0, hz1, hz2⟩ := info_parts info4
  go_enter Try.func47, Try.ntmps47
  go_wp2
  go_loopw [3, 4] (fun lv iv W => ∃ k : Nat, k ≤ N ∧ iv = .int .i64 k ∧ W.ownsRow w.heap.size 4 1 lv k (boolsV (List.replicate k false)) ∧ Below w.heap.size w W) (fun _ iv _ => N - (intOf iv).toNat)
  case atStart => exact ⟨0, by omega, rfl, World.ownsRow_nil _ _ _ _, Below.refl _ _⟩
  case round =>
    obtain ⟨k, hk, rfl, hrow, hB⟩ := hrel
    have hsz := hB.size
    by_cases hlt : k < N
    · have hkI : (k : Int) < N := by omega
      go_wp2_with (at_builtin; refine wpList_append_own _ rfl _ _ 33 rfl w.heap.size 4 i0 (.bool false) 1 1 Try.underlying33 hinf hz0 hz1 hz2 rfl (by decide) _ _ _ rfl (hrow.alloc _) ⟨wr.heap.size, 0, none⟩ 1 1 [.bool false] rfl rfl ?ca1 ?ca2 ?ca3 ?ca4 ?ca5 ?_)
      try case ca1 => exact cell_one_new _ _ _
      case ca2 => first | rfl | (intro u hu; simp at hu; subst hu; rfl)
      case ca3 => unfold maxLen; omega
      case ca4 => omega
      case ca5 => first | omega | (simp; omega)
      intro v' w3 hown' hgrow _
      have hb3 : Below w.heap.size wr w3 := ((Below.refl _ wr).alloc hsz (.cells #[.bool false] 4)).grown hgrow (by simp; omega) (fun q hq => (hrow.lt q hq).1)
      obtain ⟨g', cap', rfl, _⟩ := row_at hown' (by omega)
      go_wp2
      go_roundw
      case rel => exact ⟨k + 1, by omega, by go_num, by rw [List.replicate_succ']; simp only [boolsV, List.map_append, List.map_cons, List.map_nil]; exact hown', hB.trans hb3⟩
      case measure => simp [intOf]; omega
    · obtain rfl : k = N := by omega
      go_wp2
      go_ret
      exact ⟨⟨_, rfl, hrow⟩, hB⟩
set_option maxRecDepth 100000 in
set_option maxHeartbeats 4000000 in
theorem so_any (s : Ks) (null : Bool) (so : List Bool) (g N c : Nat) (w : World) (hs : s.nt = -1 ∨ (0 ≤ s.nt ∧ s.nt < (N : Int))) (hg : g < w.heap.size) (hm : ∀ m, m < N → w.cell? ⟨g, m, none⟩ = some (.bool (so.getD m false))) :
    Calls Try.prog 51 #[.agg #[.int .i64 s.nt, .int .u64 s.set.a, .int .u64 s.set.b, .int .u64 s.set.c, .int .u64 s.set.d], .slice (some ⟨g, 0, none⟩) N c, .bool null] w fun e w' => e = .returned (.bool (symSo (pOf null) so s)) ∧ Below w.heap.size w w' := by
  have hB := (Below.refl w.heap.size w).alloc (Nat.le_refl _) (.cells #[.int .i64 s.nt, .int .u64 s.set.a, .int .u64 s.set.b, .int .u64 s.set.c, .int .u64 s.set.d] 56)
  rcases hs with hs | ⟨h0, h1⟩
  · have he := fun w => eq49z s.set w
    have HS : Hid (symSo (pOf null) so s = (!null && !(s.set.same St.zero))) := by
      show _ = _
      unfold symSo; rw [if_pos (by omega)]
      cases null <;> rfl
    rw [HS.out]
    generalize s.set.same St.zero = z at *
    clear HS
    rw [hs] at hB ⊢
    cases null
    · go_enter Try.func51, Try.ntmps51
      go_wp2
      go_ret
      exact ⟨by simp, hB⟩
    · go_enter Try.func51, Try.ntmps51
      go_wp2
      go_ret
      exact ⟨by simp, hB⟩
  · obtain ⟨m, hmE⟩ : ∃ m : Nat, s.nt = m := ⟨s.nt.toNat, by omega⟩
    have HS : Hid (symSo (pOf null) so s = so.getD m false) := by
      show _ = _
      unfold symSo; rw [if_neg (by omega), hmE]; simp
    rw [HS.out]
    have hmI : (m : Int) < N := by omega
    have hc : (w.alloc (.cells #[.int .i64 s.nt, .int .u64 s.set.a, .int .u64 s.set.b, .int .u64 s.set.c, .int .u64 s.set.d] 56)).cell? ⟨g, m, none⟩ = some (.bool (so.getD m false)) := by
      rw [World.cell?_alloc_past _ _ _ hg]; exact hm m (by omega)
    rw [hmE] at hc hB ⊢
    clear HS hm
    generalize so.getD m false = x at *
    go_enter Try.func51, Try.ntmps51
    go_wp2
    go_ret
    exact ⟨rfl, hB⟩
set_option maxRecDepth 100000 in
set_option maxHeartbeats 4000000 in
theorem refAll_any (r : Rl) (sa : Option Addr) (sc : Nat) (null : Bool) (so : List Bool) (g N c : Nat) (w : World) (hK : KAt w w.heap.size sa r.rhs) (hs : ∀ s ∈ r.rhs, s.nt = -1 ∨ (0 ≤ s.nt ∧ s.nt < (N : Int))) (hg : g < w.heap.size) (hm : ∀ m, m < N → w.cell? ⟨g, m, none⟩ = some (.bool (so.getD m false))) :
    Calls Try.prog 56 #[.agg #[.int .i64 r.lhs, .slice sa r.rhs.length sc], .slice (some ⟨g, 0, none⟩) N c, .bool null] w fun e w' => e = .returned (.bool (r.rhs.all (symSo (pOf null) so))) ∧ Below w.heap.size w w' := by
  have hlen := hK.len
  obtain ⟨W0, hW0⟩ : ∃ W0, w.alloc (.cells #[.int .i64 r.lhs, .slice sa r.rhs.length sc] 52) = W0 := ⟨_, rfl⟩
  have hB0 : Below w.heap.size w W0 := by rw [← hW0]; exact (Below.refl _ _).alloc (Nat.le_refl _) _
  have hs0 : W0.heap.size = w.heap.size + 1 := by rw [← hW0]; simp
  have c1 : W0.cell? ⟨w.heap.size, 1, none⟩ = some (.slice sa r.rhs.length sc) := by rw [← hW0]; exact cell_new 1 rfl
  go_enter Try.func56, Try.ntmps56
  go_wp2
  go_loopw [7] (fun iv W => ∃ k : Nat, k ≤ r.rhs.length ∧ iv = .int .i64 k ∧ (r.rhs.take k).all (symSo (pOf null) so) = true ∧ Below W0.heap.size W0 W) (fun iv _ => r.rhs.length - (intOf iv).toNat)
  case atStart => exact ⟨0, by omega, rfl, rfl, Below.refl _ _⟩
  case round =>
    obtain ⟨k, hk, rfl, ha, hB⟩ := hrel
    have hBw : Below w.heap.size w wr := hB0.trans (hB.mono (by omega))
    have d1 := (hB.cell (p := ⟨w.heap.size, 1, none⟩) (by simp; omega)).trans c1
    by_cases hlt : k < r.rhs.length
    · obtain ⟨s, hsk⟩ : ∃ s, r.rhs[k]? = some s := ⟨r.rhs[k], by simp [hlt]⟩
      obtain ⟨b, o, rfl, hb, hok, e0, e1, e2, e3, e4⟩ := (hK.keep hBw).cells k s hsk
      have hkI : (k : Int) < r.rhs.length := by omega
      have H51 : Hid _ := fun (_ : Unit) => so_any s null so g N c wr (hs s (List.mem_of_getElem? hsk)) (by have := hBw.size; omega) (fun m h => (hBw.cell (p := ⟨g, m, none⟩) hg).trans (hm m h))
      have HA : Hid (r.rhs.all (symSo (pOf null) so) = true → symSo (pOf null) so s = true) := fun h => List.all_eq_true.1 h s (List.mem_of_getElem? hsk)
      have HT : Hid (symSo (pOf null) so s = true → (r.rhs.take (k + 1)).all (symSo (pOf null) so) = true) := fun h => by rw [List.take_add_one, hsk]; simpa [ha] using h
      clear ha hm
      generalize symSo (pOf null) so s = x at *
      cases x with
      | false =>
        go_wp2_with (go_at_call 51; refine (H51.out ()).mono ?_)
        rintro e w2 ⟨rfl, hb2⟩
        go_wp2
        go_ret
        refine ⟨?_, below_of hBw hb2⟩
        cases hx : r.rhs.all (symSo (pOf null) so)
        · rfl
        · exact absurd (HA.out hx) (by simp)
      | true =>
        have hT := HT.out rfl
        go_wp2_with (go_at_call 51; refine (H51.out ()).mono ?_; rintro e w2 ⟨rfl, hb2⟩)
        exact ⟨⟨k + 1, by omega, by go_num, hT, hB.trans (hb2.mono hB.size)⟩, by simp [intOf]; omega⟩
    · obtain rfl : k = r.rhs.length := by omega
      rw [List.take_length] at ha
      go_wp2
      go_ret
      exact ⟨by rw [ha]; rfl, hBw⟩
end Go.Proofs.Ytopbibhpekjaeaa
