/- Does a rule lead to the nonterminal of its symbol at a place? The document's own answer. -/
import Derived.Test.YtopbibhpekjaeaaR4
import Derived.Test.YtopbibhpekjaeaaR9
namespace Go.Proofs.Ytopbibhpekjaeaa
open Go.RowKit

set_option maxRecDepth 100000 in
set_option maxHeartbeats 4000000 in
theorem leads_any (r : Rl) (sa : Option Addr) (sc k : Nat) (so : List Bool) (g N c : Nat) (w : World) (hK : KAt w w.heap.size sa r.rhs) (hk : k < r.rhs.length) (hs : ∀ s ∈ r.rhs, s.nt = -1 ∨ (0 ≤ s.nt ∧ s.nt < (N : Int))) (hg : g < w.heap.size) (hm : ∀ m, m < N → w.cell? ⟨g, m, none⟩ = some (.bool (so.getD m false))) :
    Calls Try.prog 59 #[.agg #[.int .i64 r.lhs, .slice sa r.rhs.length sc], .int .i64 (k : Int), .slice (some ⟨g, 0, none⟩) N c] w fun e w' => e = .returned (.bool (ldB so r.rhs k)) ∧ Below w.heap.size w w' := by
  have hlen := hK.len
  obtain ⟨W0, hW0⟩ : ∃ W0, w.alloc (.cells #[.int .i64 r.lhs, .slice sa r.rhs.length sc] 52) = W0 := ⟨_, rfl⟩
  have hB0 : Below w.heap.size w W0 := by rw [← hW0]; exact (Below.refl _ _).alloc (Nat.le_refl _) _
  have hs0 : W0.heap.size = w.heap.size + 1 := by rw [← hW0]; simp
  have c1 : W0.cell? ⟨w.heap.size, 1, none⟩ = some (.slice sa r.rhs.length sc) := by rw [← hW0]; exact cell_new 1 rfl
  obtain ⟨res, HR⟩ : ∃ res : Bool, Hid (ldB so r.rhs k = res) := ⟨_, rfl⟩
  rw [HR.out]
  go_enter Try.func59, Try.ntmps59
  go_wp2
  go_loopw [7] (fun iv W => ∃ i : Nat, i ≤ r.rhs.length ∧ iv = .int .i64 i ∧ (List.range i).all (skB so r.rhs k) = true ∧ Below W0.heap.size W0 W) (fun iv _ => r.rhs.length - (intOf iv).toNat)
  case atStart => exact ⟨0, by omega, rfl, rfl, Below.refl _ _⟩
  case round =>
    obtain ⟨i, hi, rfl, ha, hB⟩ := hrel
    have hBw : Below w.heap.size w wr := hB0.trans (hB.mono (by omega))
    have d1 := (hB.cell (p := ⟨w.heap.size, 1, none⟩) (by simp; omega)).trans c1
    by_cases hlt : i < r.rhs.length
    · obtain ⟨s, hsi⟩ : ∃ s, r.rhs[i]? = some s := ⟨r.rhs[i], by simp [hlt]⟩
      obtain ⟨b, o, rfl, hb, hok, e0, e1, e2, e3, e4⟩ := (hK.keep hBw).cells i s hsi
      have hiI : (i : Int) < r.rhs.length := by omega
      have HT : Hid (skB so r.rhs k i = true → (List.range (i + 1)).all (skB so r.rhs k) = true) := fun h => by rw [List.range_succ, List.all_append, ha]; simpa using h
      have HF : Hid (skB so r.rhs k i = false → res = false) := fun h => by
        rw [← HR.out]; unfold ldB
        cases hx : (List.range r.rhs.length).all (skB so r.rhs k)
        · rfl
        · exact absurd (List.all_eq_true.1 hx i (List.mem_range.2 hlt)) (by rw [h]; simp)
      clear ha
      by_cases hik : i = k
      · have hall := HT.out (by unfold skB; simp [hik])
        have hikI : ((i : Int) == (k : Int)) = true := by simp [hik]
        subst hik
        go_wp2
        exact ⟨⟨i + 1, by omega, by go_num, hall, hB⟩, by simp [intOf]; omega⟩
      · have hE : skB so r.rhs k i = symSo pN so s := by unfold skB; rw [hsi]; simp [hik]
        rw [hE] at HT HF
        have hikI : ((i : Int) == (k : Int)) = false := by simp; omega
        have H51 : Hid _ := fun (_ : Unit) => so_any s true so g N c wr (hs s (List.mem_of_getElem? hsi)) (by have := hBw.size; omega) (fun m h => (hBw.cell (p := ⟨g, m, none⟩) hg).trans (hm m h))
        have hpp : pOf true = pN := rfl
        rw [hpp] at H51
        clear hE hm
        generalize symSo pN so s = x at *
        cases x with
        | false =>
          have hres := HF.out rfl
          go_wp2_with (go_at_call 51; refine (H51.out ()).mono ?_; rintro e w2 ⟨rfl, hb2⟩)
          go_ret
          exact ⟨by first | rfl | (rw [hres]; rfl), below_of hBw hb2⟩
        | true =>
          have hall := HT.out rfl
          go_wp2_with (go_at_call 51; refine (H51.out ()).mono ?_; rintro e w2 ⟨rfl, hb2⟩)
          exact ⟨⟨i + 1, by omega, by go_num, hall, hB.trans (hb2.mono hB.size)⟩, by simp [intOf]; omega⟩
    · obtain rfl : i = r.rhs.length := by omega
      obtain ⟨s, hsk⟩ : ∃ s, r.rhs[k]? = some s := ⟨r.rhs[k], by simp⟩
      obtain ⟨b, o, rfl, hb, hok, e0, e1, e2, e3, e4⟩ := (hK.keep hBw).cells k s hsk
      have hkI : (k : Int) < r.rhs.length := by omega
      have hres : res = decide (0 ≤ s.nt) := by rw [← HR.out]; unfold ldB ntAt; rw [ha, hsk]; simp
      clear ha HR
      subst hres
      go_wp2
      go_ret
      exact ⟨rfl, hBw⟩
end Go.Proofs.Ytopbibhpekjaeaa
