/- The document's Spans; lists of spans that are the same. -/
import Derived.Test.YtlnlkbkmnkjbhaaDoorSe
import Derived.Deep.QuietTactic
namespace Go.Proofs.YtlnlkbkmnkjbhaaDoor
open Go.RowKit

set_option maxRecDepth 100000 in
set_option maxHeartbeats 1000000 in
theorem refSpans_any (d : Tr) (sa : Option Addr) (sc f : Nat) (w : World) (hk : TAt w w.heap.size f sa d.kids) (hlen : sz d ≤ 1000000000000) :
    Calls Tryd.prog 26 #[.agg #[.int .i64 d.rule, .int .u8 (d.byte.toNat : Int), .slice sa d.kids.length sc]] w fun e w' => (∃ v, e = .returned v ∧ w'.ownsRow w.heap.size 58 2 v (spn d 0 false).length (rcs (spn d 0 false))) ∧ Below w.heap.size w w' := by
  obtain ⟨w1, hw1⟩ : ∃ w1, w.alloc (.cells #[.int .i64 d.rule, .int .u8 (d.byte.toNat : Int), .slice sa d.kids.length sc] 27) = w1 := ⟨_, rfl⟩
  have hB1 : Below w.heap.size w w1 := by rw [← hw1]; exact (Below.refl _ _).alloc (Nat.le_refl _) _
  have h := refSpn_any f (sz d) d sa sc 0 false w1 (Nat.le_refl _) ((hk.keep hB1).mono hB1.size) (by omega)
  have a0 : w1.cell? ⟨w.heap.size, 0, none⟩ = some (.int .i64 d.rule) := by rw [← hw1]; exact cell_new 0 rfl
  have a1 : w1.cell? ⟨w.heap.size, 1, none⟩ = some (.int .u8 (d.byte.toNat : Int)) := by rw [← hw1]; exact cell_new 1 rfl
  have a2 : w1.cell? ⟨w.heap.size, 2, none⟩ = some (.slice sa d.kids.length sc) := by rw [← hw1]; exact cell_new 2 rfl
  rw [show ((0 : Nat) : Int) = 0 from rfl] at h
  have HC : Hid _ := fun (_ : Unit) => h
  have HB : Hid _ := hB1
  clear h hk hB1
  go_enter Tryd.func26, Tryd.ntmps26
  go_wp2_with (go_at_call 47; refine (HC.out ()).mono ?_)
  rintro e w' ⟨⟨v, rfl, hrow⟩, hb⟩
  have HF : Hid ((∃ v', Ending.returned v = .returned v' ∧ w'.ownsRow w.heap.size 58 2 v' (spn d 0 false).length (rcs (spn d 0 false))) ∧ Below w.heap.size w w') := ⟨⟨v, rfl, row_base hrow HB.out.size⟩, HB.out.trans (hb.mono HB.out.size)⟩
  obtain ⟨va, vc, rfl⟩ := row_slice hrow
  clear hrow hb
  go_wp2
  go_ret
  exact HF.out
set_option maxRecDepth 100000 in
set_option maxHeartbeats 2000000 in
theorem sameRuns_any {w : World} {B1 B2 : Nat} {v1 v2 : Value} {l : List (Nat × Nat)} (hlen : l.length ≤ 1000000000000) (h1 : w.ownsRow B1 58 2 v1 l.length (rcs l)) (h2 : w.ownsRow B2 58 2 v2 l.length (rcs l)) :
    Calls Tryd.prog 25 #[v1, v2] w fun e w' => e = .returned (.bool true) ∧ ∃ n, w' = w.drewN n := by
  obtain ⟨a1, c1, e1⟩ := row_slice h1
  obtain ⟨a2, c2, e2⟩ := row_slice h2
  have HR1 : Hid (∀ (k : Nat) r, l[k]? = some r → ∃ g, a1 = some ⟨g, 0, none⟩ ∧ w.cell? ⟨g, k * 2, none⟩ = some (.int .i64 (r.1 : Int)) ∧ w.cell? ⟨g, k * 2 + 1, none⟩ = some (.int .i64 (r.2 : Int))) := fun k r hk => by
    obtain ⟨g, c, e, q1, q2⟩ := run_cells h1 hk
    rw [e1] at e
    injection e with e _ _
    exact ⟨g, e, q1, q2⟩
  have HR2 : Hid (∀ (k : Nat) r, l[k]? = some r → ∃ g, a2 = some ⟨g, 0, none⟩ ∧ w.cell? ⟨g, k * 2, none⟩ = some (.int .i64 (r.1 : Int)) ∧ w.cell? ⟨g, k * 2 + 1, none⟩ = some (.int .i64 (r.2 : Int))) := fun k r hk => by
    obtain ⟨g, c, e, q1, q2⟩ := run_cells h2 hk
    rw [e2] at e
    injection e with e _ _
    exact ⟨g, e, q1, q2⟩
  subst e1
  subst e2
  clear h1 h2
  go_enter Tryd.func25, Tryd.ntmps25
  go_wp2
  go_loopw [5] (fun i wr => ∃ k : Nat, k ≤ l.length ∧ i = .int .i64 k ∧ ∃ n, wr = w.drewN n) (fun i _ => l.length - (intOf i).toNat)
  case atStart => exact ⟨0, by omega, rfl, 0, rfl⟩
  case round =>
    obtain ⟨k, hk, rfl, n, rfl⟩ := hrel
    by_cases hlt : k < l.length
    · obtain ⟨r, hr⟩ : ∃ r, l[k]? = some r := ⟨l[k], by simp⟩
      obtain ⟨g1, e1, q1, q2⟩ := HR1.out k r hr
      obtain ⟨g2, e2, q3, q4⟩ := HR2.out k r hr
      subst e1
      subst e2
      clear hr
      go_wp2
      go_quiet (fail)
      go_wp2
      exact ⟨⟨k + 1, by omega, by go_num, _, rfl⟩, by simp [intOf]; omega⟩
    · obtain rfl : k = l.length := by omega
      go_wp2
      go_ret
      exact ⟨rfl, _, rfl⟩
end Go.Proofs.YtlnlkbkmnkjbhaaDoor
