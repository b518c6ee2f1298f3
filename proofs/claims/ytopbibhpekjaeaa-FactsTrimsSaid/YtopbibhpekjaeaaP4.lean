/- The productive rules alone: no program in it. -/
import Derived.Test.YtopbibhpekjaeaaP3
namespace Go.Proofs.Ytopbibhpekjaeaa

theorem trimL_mem {rs : List Rl} {so : List Bool} {k i : Nat} : i ∈ trimL rs so k ↔ i < k ∧ (rhsAt rs i).all (symSo pP so) = true := by
  unfold trimL; rw [List.mem_filter, List.mem_range]
theorem trimL_lt {rs : List Rl} {so : List Bool} {k : Nat} : ∀ i ∈ trimL rs so k, i < k := fun _ h => (trimL_mem.1 h).1
theorem trimL_rises {rs : List Rl} {so : List Bool} {k i x y : Nat} (h1 : (trimL rs so k)[i]? = some x) (h2 : (trimL rs so k)[i + 1]? = some y) : x < y := by
  have hp : (trimL rs so k).Pairwise (· < ·) := by unfold trimL; exact List.Pairwise.filter _ List.pairwise_lt_range
  obtain ⟨a1, rfl⟩ := List.getElem?_eq_some_iff.1 h1
  obtain ⟨a2, rfl⟩ := List.getElem?_eq_some_iff.1 h2
  exact List.pairwise_iff_getElem.1 hp i (i + 1) a1 a2 (by omega)
section
variable {rs : List Rl} {so : List Bool} (h : ∀ m, so.getD m false = true ↔ Lf rs pP m) (h0 : ∀ r ∈ rs, 0 ≤ r.lhs)
include h h0
theorem trim_mem (r : Rl) : r ∈ pick rs (trimL rs so rs.length) ↔ r ∈ rs ∧ LfS rs pP r.rhs := by
  rw [pick_mem]
  constructor
  · rintro ⟨i, hi, hr⟩
    have h1 := (trimL_mem.1 hi).2
    have e : rhsAt rs i = r.rhs := by unfold rhsAt; rw [hr]
    rw [e] at h1
    exact ⟨List.mem_of_getElem? hr, (all_lfs h h0 _).1 h1⟩
  · rintro ⟨hm, hl⟩
    obtain ⟨i, hi⟩ := List.mem_iff_getElem?.1 hm
    have e : rhsAt rs i = r.rhs := by unfold rhsAt; rw [hi]
    exact ⟨i, trimL_mem.2 ⟨(List.getElem?_eq_some_iff.1 hi).1, by rw [e]; exact (all_lfs h h0 _).2 hl⟩, hi⟩
theorem trim_ln (n k : Nat) : Ln rs n k ↔ Ln (pick rs (trimL rs so rs.length)) n k :=
  ⟨fun hl => hl.less fun r hr hs => (trim_mem h h0 r).2 ⟨hr, hs⟩, fun hl => hl.more fun r hr => ((trim_mem h h0 r).1 hr).1⟩
theorem trim_full {so2 : List Bool} (h2 : ∀ m, so2.getD m false = true ↔ Lf (pick rs (trimL rs so rs.length)) pP m) : (trimL (pick rs (trimL rs so rs.length)) so2 (pick rs (trimL rs so rs.length)).length).length = (pick rs (trimL rs so rs.length)).length := by
  have : trimL (pick rs (trimL rs so rs.length)) so2 (pick rs (trimL rs so rs.length)).length = List.range (pick rs (trimL rs so rs.length)).length := by
    unfold trimL
    refine List.filter_eq_self.2 fun i hi => ?_
    have hi' := List.mem_range.1 hi
    obtain ⟨r, hr⟩ : ∃ r, (pick rs (trimL rs so rs.length))[i]? = some r := ⟨_, List.getElem?_eq_getElem hi'⟩
    have e : rhsAt (pick rs (trimL rs so rs.length)) i = r.rhs := by unfold rhsAt; rw [hr]
    have hm := (trim_mem h h0 r).1 (List.mem_of_getElem? hr)
    obtain ⟨k, hk⟩ := lns_lf.1 hm.2
    unfold trimL at e
    rw [e]
    refine (all_lfs h2 (fun r hr => h0 r ((trim_mem h h0 r).1 hr).1) _).2 (lns_lf.2 ⟨k, ?_⟩)
    exact hk.less fun r hr hs => (trim_mem h h0 r).2 ⟨hr, hs⟩
  rw [this]; simp
end
end Go.Proofs.Ytopbibhpekjaeaa
