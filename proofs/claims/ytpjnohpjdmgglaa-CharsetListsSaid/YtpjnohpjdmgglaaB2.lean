/- The document's own comparing: two lists of bytes, two lists of runs, that are the same. -/
import Derived.Test.YtpjnohpjdmgglaaW9
import Derived.Test.YtpjnohpjdmgglaaB1
import Derived.Laws.BytesArg
import Derived.BigQuiet
namespace Go.Proofs.Ytpjnohpjdmgglaa
open Go.RowKit

def numsB (l : List (Fin 256)) : List Int := l.map fun x => (x.val : Int)
theorem bcells_get (l : List (Fin 256)) (i : Nat) (h : i < l.length) : (bcells l)[i]? = some (.int .u8 ((numsB l).getD i 0)) := by
  simp [bcells, numsB, List.getD_eq_getElem?_getD, h]
theorem conv_row {W : World} {B : Nat} {v : Value} {l : List (Fin 256)} (h : W.ownsRow B 5 1 v l.length (bcells l)) : (convert 22 9 v).run Try.prog W = .ok (.string (strOfNums (numsB l))) W := by
  rcases h.2 with ⟨rfl, h0⟩ | ⟨g, cap, cur, rfl, _, hg, _, _, _, ht⟩
  · obtain rfl : l = [] := List.length_eq_zero_iff.1 h0
    rw [run_convert_bytes_nil W 22 5 Try.underlying22 Try.underlying5 0 0 9 Try.underlying9]; rfl
  · rw [run_convert_bytes_arg W 22 5 Try.underlying22 Try.underlying5 g 0 l.length cap (numsB l) (by simp [numsB]) (fun i hi => ?_) 9 Try.underlying9]
    have e : cur[i]? = (bcells l)[i]? := by rw [← ht, List.getElem?_take, if_pos (by omega)]; simp
    rw [bcells_get l i hi] at e
    simp [World.cell?, hg, e]
set_option maxRecDepth 100000 in
theorem sameB_any {w : World} {B1 B2 : Nat} {v1 v2 : Value} {l : List (Fin 256)} (h1 : w.ownsRow B1 5 1 v1 l.length (bcells l)) (h2 : w.ownsRow B2 5 1 v2 l.length (bcells l)) :
    Calls Try.prog 26 #[v1, v2] w fun e w' => e = .returned (.bool true) ∧ w' = w := by
  have c1 := conv_row h1
  have c2 := conv_row h2
  generalize strOfNums (numsB l) = bs at *
  go_enter Try.func26, Try.ntmps26
  go_wp2
  go_ret
  exact ⟨rfl, rfl⟩

theorem row_slice {W : World} {B : Nat} {e : TypeId} {k : Nat} {v : Value} {n : Nat} {xs : List Value} (h : W.ownsRow B e k v n xs) : ∃ a c, v = .slice a n c := by
  rcases h.2 with ⟨rfl, rfl⟩ | ⟨g, cap, cur, rfl, _⟩
  · exact ⟨_, _, rfl⟩
  · exact ⟨_, _, rfl⟩
theorem row_some {W : World} {B : Nat} {v : Value} {rs : List (Nat × Nat)} (h : W.ownsRow B 46 2 v rs.length (rcells rs)) (hn : rs ≠ []) : ∃ g cap cur, v = .slice (some ⟨g, 0, none⟩) rs.length cap ∧ B ≤ g ∧ W.heap[g]? = some (.cells cur 46 (0, 0)) ∧ cur.toList.take (rs.length * 2) = rcells rs := by
  rcases h.2 with ⟨_, h0⟩ | ⟨g, cap, cur, rfl, hb, hg, _, _, _, ht⟩
  · exact absurd (List.length_eq_zero_iff.1 h0) hn
  · exact ⟨g, cap, cur, rfl, hb, hg, ht⟩
set_option maxRecDepth 100000 in
set_option maxHeartbeats 2000000 in
theorem sameR_any {w : World} {B1 B2 : Nat} {v1 v2 : Value} {rs : List (Nat × Nat)} (hlen : rs.length ≤ 256) (h1 : w.ownsRow B1 46 2 v1 rs.length (rcells rs)) (h2 : w.ownsRow B2 46 2 v2 rs.length (rcells rs)) :
    Calls Try.prog 27 #[v1, v2] w fun e w' => e = .returned (.bool true) ∧ ∃ n, w' = w.drewN n := by
  by_cases hn : rs = []
  · subst hn
    obtain ⟨a1, c1, rfl⟩ := row_slice h1
    obtain ⟨a2, c2, rfl⟩ := row_slice h2
    clear h1 h2
    simp only [List.length_nil]
    go_enter Try.func27, Try.ntmps27
    go_wp2
    refine wp_loop_rounds 1 ?_
    rw [rounds_succ]
    go_wp2
    go_ret
    exact ⟨rfl, 0, rfl⟩
  · obtain ⟨g1, c1, cur1, rfl, _, hg1, ht1⟩ := row_some h1 hn
    obtain ⟨g2, c2, cur2, rfl, _, hg2, ht2⟩ := row_some h2 hn
    clear h1 h2
    have R1 : Hid _ := fun k hk => row_get ht1 k hk
    have R2 : Hid _ := fun k hk => row_get ht2 k hk
    clear ht1 ht2
    go_enter Try.func27, Try.ntmps27
    go_wp2
    go_loopw [5] (fun i wr => ∃ k : Nat, k ≤ rs.length ∧ i = .int .i64 k ∧ ∃ n, wr = w.drewN n) (fun i _ => rs.length - (intOf i).toNat)
    case atStart => exact ⟨0, by omega, rfl, 0, rfl⟩
    case round =>
      obtain ⟨k, hk, rfl, n, rfl⟩ := hrel
      by_cases hlt : k < rs.length
      · have q1 := cellAt46 hg1 (R1.out k hlt).1
        have q2 := cellAt46 hg1 (R1.out k hlt).2
        have q3 := cellAt46 hg2 (R2.out k hlt).1
        have q4 := cellAt46 hg2 (R2.out k hlt).2
        generalize rs.getD k (0, 0) = r at *
        go_wp2
        go_quiet (fail)
        go_wp2
        exact ⟨⟨k + 1, by omega, by go_num, _, rfl⟩, by simp [intOf]; omega⟩
      · obtain rfl : k = rs.length := by omega
        go_wp2
        go_ret
        exact ⟨rfl, n, rfl⟩
end Go.Proofs.Ytpjnohpjdmgglaa
