/- The fixed tree of the laws; what is told of it where the grammar is none. -/
import Derived.Test.YtlnlkbkmnkjbhaaDoorX1
import Derived.Shelf.Abstract
import Derived.Laws.EntriesVeiled
namespace Go.Proofs.YtlnlkbkmnkjbhaaDoor
open Go.RowKit

/-- Node 0 of leaf 49, leaf 43, node 1 of leaf 50. -/
def someT : Tr := .mk 0 0 [.mk (-1) 49 [], .mk (-1) 43 [], .mk 1 0 [.mk (-1) 50 []]]
theorem someT_sz : sz someT = 5 := by simp [someT, sz, szL]
theorem someT_dp : dp someT = 3 := by simp [someT, dp, dpL]
set_option maxRecDepth 100000 in
set_option maxHeartbeats 4000000 in
theorem some_any (w : World) : Calls Tryd.prog 38 #[] w fun e w' => (∃ va vc, e = .returned (.agg #[.int .i64 someT.rule, .int .u8 (someT.byte.toNat : Int), .slice va someT.kids.length vc]) ∧ someT.kids.length ≤ vc ∧ TAt w' w'.heap.size 2 va someT.kids) ∧ Below w.heap.size w w' := by
  go_enter Tryd.func38, Tryd.ntmps38
  go_wp2
  obtain ⟨A1, h1⟩ : ∃ A1, w.alloc (.cells #[.int .i64 0, .int .u8 0, .slice (some ⟨w.heap.size + 1 + 1 + 1, 0, none⟩) 3 3] 27) = A1 := ⟨_, rfl⟩
  obtain ⟨A2, h2⟩ : ∃ A2, A1.alloc (.cells #[.int .i64 (-1), .int .u8 49, .slice none 0 0] 27) = A2 := ⟨_, rfl⟩
  obtain ⟨A3, h3⟩ : ∃ A3, A2.alloc (.cells #[.int .i64 (-1), .int .u8 50, .slice none 0 0] 27) = A3 := ⟨_, rfl⟩
  obtain ⟨A4, h4⟩ : ∃ A4, A3.alloc (.cells #[.int .i64 (-1), .int .u8 49, .slice none 0 0, .int .i64 (-1), .int .u8 43, .slice none 0 0, .int .i64 1, .int .u8 0, .slice (some ⟨w.heap.size + 1 + 1, 0, none⟩) 1 1] 27) = A4 := ⟨_, rfl⟩
  have s1 : A1.heap.size = w.heap.size + 1 := by rw [← h1]; simp
  have s2 : A2.heap.size = w.heap.size + 1 + 1 := by rw [← h2]; simp [s1]
  have s3 : A3.heap.size = w.heap.size + 1 + 1 + 1 := by rw [← h3]; simp [s2]
  have s4 : A4.heap.size = w.heap.size + 1 + 1 + 1 + 1 := by rw [← h4]; simp [s3]
  have b1 : Below w.heap.size w A1 := by rw [← h1]; exact (Below.refl _ _).alloc (Nat.le_refl _) _
  have b2 : Below A1.heap.size A1 A2 := by rw [← h2]; exact (Below.refl _ _).alloc (Nat.le_refl _) _
  have b3 : Below A2.heap.size A2 A3 := by rw [← h3]; exact (Below.refl _ _).alloc (Nat.le_refl _) _
  have b4 : Below A3.heap.size A3 A4 := by rw [← h4]; exact (Below.refl _ _).alloc (Nat.le_refl _) _
  have b14 : Below A1.heap.size A1 A4 := (b2.trans (b3.mono (by omega))).trans (b4.mono (by omega))
  have c1 : ∀ j v, (#[.int .i64 0, .int .u8 0, .slice (some ⟨w.heap.size + 1 + 1 + 1, 0, none⟩) 3 3] : Array Value)[j]? = some v → A4.cell? ⟨w.heap.size, j, none⟩ = some v := fun j v hv => (b14.cell (p := ⟨w.heap.size, j, none⟩) (by show w.heap.size < _; omega)).trans (by rw [← h1]; exact cell_new j hv)
  have c3 : ∀ j v, (#[.int .i64 (-1), .int .u8 50, .slice none 0 0] : Array Value)[j]? = some v → A4.cell? ⟨w.heap.size + 1 + 1, j, none⟩ = some v := fun j v hv => (b4.cell (p := ⟨w.heap.size + 1 + 1, j, none⟩) (by show w.heap.size + 1 + 1 < _; omega)).trans (by rw [← h3, ← s2]; exact cell_new j hv)
  have c4 : ∀ j v, (#[.int .i64 (-1), .int .u8 49, .slice none 0 0, .int .i64 (-1), .int .u8 43, .slice none 0 0, .int .i64 1, .int .u8 0, .slice (some ⟨w.heap.size + 1 + 1, 0, none⟩) 1 1] : Array Value)[j]? = some v → A4.cell? ⟨w.heap.size + 1 + 1 + 1, j, none⟩ = some v := fun j v hv => by rw [← h4, ← s3]; exact cell_new j hv
  rw [h1, h2, h3, h4]
  refine bodyPost_ret (v := .agg #[.int .i64 0, .int .u8 0, .slice (some ⟨w.heap.size + 1 + 1 + 1, 0, none⟩) 3 3]) (by simp [results, Tryd.results38, go_sem, c1 0 _ rfl, c1 1 _ rfl, c1 2 _ rfl]) rfl ?_
  refine ⟨⟨_, _, rfl, Nat.le_refl _, by decide, fun j d hj => ?_⟩, b1.trans (b14.mono (by omega))⟩
  match j, hj with
  | 0, hj => cases hj; exact ⟨_, 0, rfl, by omega, none, 0, c4 0 _ rfl, c4 1 _ rfl, c4 2 _ rfl, Nat.le_refl _, by decide, fun j d hj => by cases hj⟩
  | 1, hj => cases hj; exact ⟨_, 0, rfl, by omega, none, 0, c4 3 _ rfl, c4 4 _ rfl, c4 5 _ rfl, Nat.le_refl _, by decide, fun j d hj => by cases hj⟩
  | 2, hj =>
    cases hj
    refine ⟨_, 0, rfl, by omega, _, 1, c4 6 _ rfl, c4 7 _ rfl, c4 8 _ rfl, Nat.le_refl _, by decide, fun j d hj => ?_⟩
    match j, hj with
    | 0, hj => cases hj; exact ⟨_, 0, rfl, by omega, none, 0, c3 0 _ rfl, c3 1 _ rfl, c3 2 _ rfl, Nat.le_refl _, rfl⟩
set_option maxRecDepth 100000 in
set_option maxHeartbeats 4000000 in
theorem factsRight_none (w : World) : Calls Tryd.prog 39 #[.agg #[.int .i64 0, .int .i64 0, .slice none 0 0]] w fun e w' => e = .returned (.int .i64 3) ∧ Below w.heap.size w w' := by
  have hmf : ∀ (fn : Fn) (first cap : Array Value) (w : World), (Instr.makeFunc fn first cap).run Tryd.prog w = .ok (.func fn first cap) w := fun _ _ _ _ => rfl
  go_enter Tryd.func39, Tryd.ntmps39
  go_wp2
  go_ret
  exact ⟨rfl, ((Below.refl _ _).alloc (Nat.le_refl _) _).alloc (by simp) _⟩
set_option maxRecDepth 100000 in
set_option maxHeartbeats 4000000 in
theorem right_none (d : Tr) (sa : Option Addr) (sc : Nat) (w : World) : Calls Tryd.prog 17 #[.agg #[.int .i64 0, .int .i64 0, .slice none 0 0], .int .i64 0, .agg #[.int .i64 d.rule, .int .u8 (d.byte.toNat : Int), .slice sa d.kids.length sc]] w fun e w' => e = .returned (.int .i64 3) ∧ Below w.heap.size w w' := by
  have HC : Hid _ := fun w => factsRight_none w
  go_enter Tryd.func17, Tryd.ntmps17
  go_wp2_with (go_at_call 39; refine (HC.out _).mono ?_; rintro e w2 ⟨rfl, hb⟩)
  go_ret
  have h2 : Below w.heap.size w ((w.alloc (.cells #[.int .i64 0, .int .i64 0, .slice none 0 0] 24)).alloc (.cells #[.int .i64 d.rule, .int .u8 (d.byte.toNat : Int), .slice sa d.kids.length sc] 27)) := ((Below.refl _ _).alloc (Nat.le_refl _) _).alloc (by simp) _
  exact ⟨rfl, h2.trans (hb.mono h2.size)⟩
end Go.Proofs.YtlnlkbkmnkjbhaaDoor
