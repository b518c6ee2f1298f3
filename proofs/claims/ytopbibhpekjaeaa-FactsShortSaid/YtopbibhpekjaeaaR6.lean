/- How long a rule's shortest text is, by what is known; the document's own lengths. -/
import Derived.Test.YtopbibhpekjaeaaR4
import Derived.Test.YtopbibhpekjaeaaR5
namespace Go.Proofs.Ytopbibhpekjaeaa
open Go.RowKit

theorem smL_take {out : List Int} {l : List Ks} {k : Nat} {s : Ks} (h : l[k]? = some s) : smL out (l.take (k + 1)) = smL out (l.take k) + symL out s := by
  rw [List.take_add_one, h]; exact smL_snoc out s _
set_option maxRecDepth 100000 in
set_option maxHeartbeats 4000000 in
theorem length_any (r : Rl) (sa : Option Addr) (sc : Nat) (out : List Int) (g N c : Nat) (w : World) (hK : KAt w w.heap.size sa r.rhs) (h80 : r.rhs.length ≤ 80) (hs : ∀ s ∈ r.rhs, s.nt = -1 ∨ (0 ≤ s.nt ∧ s.nt < (N : Int))) (hg : g < w.heap.size) (hm : ∀ m, m < N → w.cell? ⟨g, m, none⟩ = some (.int .i64 (out.getD m 0))) (hv : ∀ m, m < N → -1 ≤ out.getD m 0 ∧ out.getD m 0 ≤ 513) :
    Calls Try.prog 54 #[.agg #[.int .i64 r.lhs, .slice sa r.rhs.length sc], .slice (some ⟨g, 0, none⟩) N c] w fun e w' => e = .returned (.int .i64 (lenL out r.rhs)) ∧ Below w.heap.size w w' := by
  obtain ⟨W0, hW0⟩ : ∃ W0, w.alloc (.cells #[.int .i64 r.lhs, .slice sa r.rhs.length sc] 52) = W0 := ⟨_, rfl⟩
  have hB0 : Below w.heap.size w W0 := by rw [← hW0]; exact (Below.refl _ _).alloc (Nat.le_refl _) _
  have hs0 : W0.heap.size = w.heap.size + 1 := by rw [← hW0]; simp
  have c1 : W0.cell? ⟨w.heap.size, 1, none⟩ = some (.slice sa r.rhs.length sc) := by rw [← hW0]; exact cell_new 1 rfl
  have hm0 : ∀ m, m < N → W0.cell? ⟨g, m, none⟩ = some (.int .i64 (out.getD m 0)) := fun m h => (hB0.cell (p := ⟨g, m, none⟩) hg).trans (hm m h)
  have hK0 := hK.keep hB0
  clear hm hK
  obtain ⟨res, HR⟩ : ∃ res : Int, Hid (lenL out r.rhs = res) := ⟨_, rfl⟩
  rw [HR.out]
  go_enter Try.func54, Try.ntmps54
  go_wp2
  go_loopw [5, 6] (fun nv iv W => W = W0 ∧ ∃ k : Nat, k ≤ r.rhs.length ∧ iv = .int .i64 k ∧ nv = .int .i64 (smL out (r.rhs.take k)) ∧ (r.rhs.take k).all (fun s => decide (0 ≤ symL out s)) = true ∧ 0 ≤ smL out (r.rhs.take k) ∧ smL out (r.rhs.take k) ≤ 513 * k) (fun _ iv _ => r.rhs.length - (intOf iv).toNat)
  case atStart => exact ⟨rfl, 0, by omega, rfl, rfl, rfl, by simp [smL], by simp [smL]⟩
  case round =>
    obtain ⟨rfl, k, hk, rfl, rfl, ha, h0, h1⟩ := hrel
    by_cases hlt : k < r.rhs.length
    · obtain ⟨s, hsk⟩ : ∃ s, r.rhs[k]? = some s := ⟨r.rhs[k], by simp [hlt]⟩
      obtain ⟨b, o, rfl, hb, hok, e0, e1, e2, e3, e4⟩ := hK0.cells k s hsk
      have hkI : (k : Int) < r.rhs.length := by omega
      have hsn := hs s (List.mem_of_getElem? hsk)
      have HS : Hid (smL out (r.rhs.take (k + 1)) = smL out (r.rhs.take k) + symL out s) := smL_take hsk
      have HT : Hid (0 ≤ symL out s → (r.rhs.take (k + 1)).all (fun s => decide (0 ≤ symL out s)) = true) := fun h => by rw [List.take_add_one, hsk]; simp only [List.all_append, ha]; simpa using h
      have HF : Hid (symL out s < 0 → res = -1) := fun h => by
        rw [← HR.out]; unfold lenL
        rw [if_neg (fun hx => ?_)]
        have := List.all_eq_true.1 hx s (List.mem_of_getElem? hsk)
        simp at this; omega
      clear ha hsk
      by_cases hn : 0 ≤ s.nt
      · obtain ⟨m, hmE⟩ : ∃ m : Nat, s.nt = m := ⟨s.nt.toNat, by omega⟩
        have hmI : (m : Int) < N := by omega
        have hcm := hm0 m (by omega)
        have hvm := hv m (by omega)
        have HV : Hid (symL out s = out.getD m 0) := by show _ = _; unfold symL; rw [if_pos hn, hmE]; simp
        rw [HV.out] at HS HT HF
        rw [hmE] at e0
        clear HV hm0 hv hn hsn
        generalize out.getD m 0 = x at *
        by_cases hx : x < 0
        · have hres := HF.out hx
          go_wp2
          go_ret
          exact ⟨by first | (rw [hres]; rfl) | rfl, hB0⟩
        · have hx' : decide (x < 0) = false := by simp; omega
          have hall := HT.out (by omega)
          go_wp2
          exact ⟨⟨trivial, k + 1, by omega, by go_num, by rw [HS.out], hall, by rw [HS.out]; omega, by rw [HS.out]; omega⟩, by simp [intOf]; omega⟩
      · have hn1 : s.nt = -1 := by omega
        have he := fun w => eq49z s.set w
        have HV : Hid (symL out s = if s.set.same St.zero then -1 else 1) := by
          show _ = _
          unfold symL St.any; rw [if_neg hn]
          cases s.set.same St.zero <;> rfl
        rw [HV.out] at HS HT HF
        rw [hn1] at e0
        clear HV hm0 hv hn hsn hn1
        generalize s.set.same St.zero = z at *
        cases z with
        | true =>
          have hres := HF.out (by simp)
          go_wp2
          go_ret
          exact ⟨by first | (rw [hres]; rfl) | rfl, hB0⟩
        | false =>
          have hall := HT.out (by simp)
          simp only [Bool.false_eq_true, if_false] at HS
          go_wp2
          exact ⟨⟨trivial, k + 1, by omega, by go_num, by rw [HS.out], hall, by rw [HS.out]; omega, by rw [HS.out]; omega⟩, by simp [intOf]; omega⟩
    · obtain rfl : k = r.rhs.length := by omega
      rw [List.take_length] at ha h0 h1 ⊢
      have HE : Hid (res = if 512 < smL out r.rhs then 513 else smL out r.rhs) := by
        show _ = _
        rw [← HR.out]; unfold lenL; rw [if_pos ha]
      clear ha HR
      generalize smL out r.rhs = n at *
      by_cases hn : 512 < n
      · have hres : res = 513 := by rw [HE.out, if_pos hn]
        go_wp2
        go_ret
        exact ⟨by first | (rw [hres]; rfl) | rfl, hB0⟩
      · have hres : res = n := by rw [HE.out, if_neg hn]
        have hn' : decide (512 < n) = false := by simp; omega
        go_wp2
        go_ret
        exact ⟨by first | (rw [hres]; rfl) | rfl, hB0⟩
end Go.Proofs.Ytopbibhpekjaeaa
