/- A grammar's size; what is told of a grammar that is right. -/
import Derived.Test.YtopbibhpekjaeaaM1
namespace Go.Proofs.Ytopbibhpekjaeaa
open Go.RowKit

def szs (rs : List Rl) : Nat := (rs.map fun r => 1 + r.rhs.length).sum
theorem szs_succ {rs : List Rl} {k : Nat} {r : Rl} (h : rs[k]? = some r) : szs (rs.take (k + 1)) = szs (rs.take k) + (1 + r.rhs.length) := by
  unfold szs; rw [List.take_add_one, h]; simp
theorem szs_take (rs : List Rl) (k : Nat) : szs (rs.take k) ≤ szs rs := by
  conv => rhs; rw [← List.take_append_drop k rs]
  unfold szs; rw [List.map_append, List.sum_append]; omega
set_option maxRecDepth 100000 in
set_option maxHeartbeats 1000000 in
theorem size_any (G : Gm) (a : Option Addr) (c : Nat) (w : World) (hR : RAt w w.heap.size a G.rules) (hs : szs G.rules ≤ 9223372036854775807) :
    Calls Try.prog 16 #[.agg #[.int .i64 G.nts, .int .i64 G.start, .slice a G.rules.length c]] w fun e w' => e = .returned (.int .i64 (szs G.rules)) ∧ Below w.heap.size w w' := by
  have hlen := hR.len
  have hB0 : Below w.heap.size w (w.alloc (.cells #[.int .i64 G.nts, .int .i64 G.start, .slice a G.rules.length c] 24)) := (Below.refl _ _).alloc (Nat.le_refl _) _
  go_enter Try.func16, Try.ntmps16
  go_wp2
  go_loopw [3, 9] (fun n i W => ∃ k : Nat, k ≤ G.rules.length ∧ i = .int .i64 k ∧ n = .int .i64 (szs (G.rules.take k)) ∧ Below w.heap.size w W) (fun _ i _ => G.rules.length - (intOf i).toNat)
  case atStart => exact ⟨0, by omega, rfl, rfl, hB0⟩
  case round =>
    obtain ⟨k, hk, rfl, rfl, hB⟩ := hrel
    by_cases hlt : k < G.rules.length
    · obtain ⟨r, hr⟩ : ∃ r, G.rules[k]? = some r := ⟨G.rules[k], by simp [hlt]⟩
      obtain ⟨b, o, sa, sc, rfl, hb, hK, c0, c1⟩ := (hR.keep hB).cells k r hr
      have hkl := hK.len
      have HS : Hid _ := szs_succ hr
      have h1 := szs_take G.rules (k + 1)
      rw [HS.out] at h1
      generalize szs (G.rules.take k) = n at *
      go_wp2
      exact ⟨⟨k + 1, by omega, by go_num, by rw [HS.out]; go_num, hB.alloc hB.size _⟩, by simp [intOf]; omega⟩
    · obtain rfl : k = G.rules.length := by omega
      rw [List.take_length]
      go_wp2
      go_ret
      exact ⟨rfl, hB⟩

set_option maxRecDepth 100000 in
set_option maxHeartbeats 1000000 in
theorem askB_any (K : Nat) (hent : Enters Try.prog K) (G : Gm) (a : Option Addr) (c : Nat) (w : World) (hR : RAt w w.heap.size a G.rules) (Post : Value → World → Prop)
    (HK : G.okB = true → ∀ W, Below w.heap.size w W → Calls Try.prog K #[.agg #[.int .i64 G.nts, .int .i64 G.start, .slice a G.rules.length c]] W fun e W' => (∃ v, e = .returned v ∧ Post v W') ∧ Below W.heap.size W W') :
    Calls Try.prog 42 #[.agg #[.int .i64 G.nts, .int .i64 G.start, .slice a G.rules.length c], .func (.func K) #[] #[]] w fun e w' => ((G.okB = false ∧ e = .returned (.tuple #[.slice none 0 0, .int .i64 3])) ∨ (G.okB = true ∧ ∃ v, e = .returned (.tuple #[v, .int .i64 0]) ∧ Post v w')) ∧ Below w.heap.size w w' := by
  have hB0 : Below w.heap.size w (w.alloc (.cells #[.int .i64 G.nts, .int .i64 G.start, .slice a G.rules.length c] 24)) := (Below.refl _ _).alloc (Nat.le_refl _) _
  have hR1 : RAt (w.alloc (.cells #[.int .i64 G.nts, .int .i64 G.start, .slice a G.rules.length c] 24)) (w.alloc (.cells #[.int .i64 G.nts, .int .i64 G.start, .slice a G.rules.length c] 24)).heap.size a G.rules := (hR.keep hB0).mono (by simp)
  have HR : Hid _ := fun (_ : Unit) => right_any G a c _ hR1
  have hcell : ∀ k v, #[.int .i64 G.nts, .int .i64 G.start, .slice a G.rules.length c][k]? = some v → (w.alloc (.cells #[.int .i64 G.nts, .int .i64 G.start, .slice a G.rules.length c] 24)).cell? ⟨w.heap.size, k, none⟩ = some v := fun k v h => cell_new k h
  have d0 := hcell 0 _ rfl
  have d1 := hcell 1 _ rfl
  have d2 := hcell 2 _ rfl
  clear hcell hR1 hR
  unfold Enters at hent
  cases hok : G.okB
  · skip
    rw [hok, if_neg (by simp)] at HR
    clear hok HK
    obtain ⟨W0, hW0⟩ : ∃ W0, w.alloc (.cells #[.int .i64 G.nts, .int .i64 G.start, .slice a G.rules.length c] 24) = W0 := ⟨_, rfl⟩
    have hs0 : W0.heap.size = w.heap.size + 1 := by rw [← hW0]; simp
    rw [hW0] at HR hB0 d0 d1 d2
    go_enter Try.func42, Try.ntmps42
    go_wp2_with (go_at_call 13; refine (HR.out ()).mono ?_; rintro e w2 ⟨rfl, hb2⟩)
    all_goals go_ret2
    all_goals exact ⟨.inl ⟨trivial, rfl⟩, below_of hB0 hb2⟩
  · skip
    have HK1 : Hid _ := HK hok
    rw [hok, if_pos rfl] at HR
    clear hok HK
    obtain ⟨W0, hW0⟩ : ∃ W0, w.alloc (.cells #[.int .i64 G.nts, .int .i64 G.start, .slice a G.rules.length c] 24) = W0 := ⟨_, rfl⟩
    have hs0 : W0.heap.size = w.heap.size + 1 := by rw [← hW0]; simp
    rw [hW0] at HR hB0 d0 d1 d2
    go_enter Try.func42, Try.ntmps42
    go_wp2_with (first | (go_at_call 13; refine (HR.out ()).mono ?_; rintro e w2 ⟨rfl, hb2⟩; have hB2 := below_of hB0 hb2; have g0 := (hb2.cell (p := ⟨w.heap.size, 0, none⟩) (by simp; omega)).trans d0; have g1 := (hb2.cell (p := ⟨w.heap.size, 1, none⟩) (by simp; omega)).trans d1; have g2 := (hb2.cell (p := ⟨w.heap.size, 2, none⟩) (by simp; omega)).trans d2) | (refine (HK1.out _ hB2).mono ?_; rintro e w3 ⟨⟨v, rfl, hv⟩, hb3⟩))
    all_goals go_ret2
    all_goals exact ⟨.inr ⟨trivial, v, rfl, hv⟩, below_of hB2 hb3⟩

set_option maxRecDepth 100000 in
set_option maxHeartbeats 1000000 in
theorem askS_any (K : Nat) (hent : Enters Try.prog K) (G : Gm) (a : Option Addr) (c : Nat) (w : World) (hR : RAt w w.heap.size a G.rules) (Post : Value → World → Prop)
    (HK : G.okB = true → ∀ W, Below w.heap.size w W → Calls Try.prog K #[.agg #[.int .i64 G.nts, .int .i64 G.start, .slice a G.rules.length c]] W fun e W' => (∃ v, e = .returned v ∧ Post v W') ∧ Below W.heap.size W W') :
    Calls Try.prog 48 #[.agg #[.int .i64 G.nts, .int .i64 G.start, .slice a G.rules.length c], .func (.func K) #[] #[]] w fun e w' => ((G.okB = false ∧ e = .returned (.tuple #[.slice none 0 0, .int .i64 3])) ∨ (G.okB = true ∧ ∃ v, e = .returned (.tuple #[v, .int .i64 0]) ∧ Post v w')) ∧ Below w.heap.size w w' := by
  have hB0 : Below w.heap.size w (w.alloc (.cells #[.int .i64 G.nts, .int .i64 G.start, .slice a G.rules.length c] 24)) := (Below.refl _ _).alloc (Nat.le_refl _) _
  have hR1 : RAt (w.alloc (.cells #[.int .i64 G.nts, .int .i64 G.start, .slice a G.rules.length c] 24)) (w.alloc (.cells #[.int .i64 G.nts, .int .i64 G.start, .slice a G.rules.length c] 24)).heap.size a G.rules := (hR.keep hB0).mono (by simp)
  have HR : Hid _ := fun (_ : Unit) => right_any G a c _ hR1
  have hcell : ∀ k v, #[.int .i64 G.nts, .int .i64 G.start, .slice a G.rules.length c][k]? = some v → (w.alloc (.cells #[.int .i64 G.nts, .int .i64 G.start, .slice a G.rules.length c] 24)).cell? ⟨w.heap.size, k, none⟩ = some v := fun k v h => cell_new k h
  have d0 := hcell 0 _ rfl
  have d1 := hcell 1 _ rfl
  have d2 := hcell 2 _ rfl
  clear hcell hR1 hR
  unfold Enters at hent
  cases hok : G.okB
  · skip
    rw [hok, if_neg (by simp)] at HR
    clear hok HK
    obtain ⟨W0, hW0⟩ : ∃ W0, w.alloc (.cells #[.int .i64 G.nts, .int .i64 G.start, .slice a G.rules.length c] 24) = W0 := ⟨_, rfl⟩
    have hs0 : W0.heap.size = w.heap.size + 1 := by rw [← hW0]; simp
    rw [hW0] at HR hB0 d0 d1 d2
    go_enter Try.func48, Try.ntmps48
    go_wp2_with (go_at_call 13; refine (HR.out ()).mono ?_; rintro e w2 ⟨rfl, hb2⟩)
    all_goals go_ret2
    all_goals exact ⟨.inl ⟨trivial, rfl⟩, below_of hB0 hb2⟩
  · skip
    have HK1 : Hid _ := HK hok
    rw [hok, if_pos rfl] at HR
    clear hok HK
    obtain ⟨W0, hW0⟩ : ∃ W0, w.alloc (.cells #[.int .i64 G.nts, .int .i64 G.start, .slice a G.rules.length c] 24) = W0 := ⟨_, rfl⟩
    have hs0 : W0.heap.size = w.heap.size + 1 := by rw [← hW0]; simp
    rw [hW0] at HR hB0 d0 d1 d2
    go_enter Try.func48, Try.ntmps48
    go_wp2_with (first | (go_at_call 13; refine (HR.out ()).mono ?_; rintro e w2 ⟨rfl, hb2⟩; have hB2 := below_of hB0 hb2; have g0 := (hb2.cell (p := ⟨w.heap.size, 0, none⟩) (by simp; omega)).trans d0; have g1 := (hb2.cell (p := ⟨w.heap.size, 1, none⟩) (by simp; omega)).trans d1; have g2 := (hb2.cell (p := ⟨w.heap.size, 2, none⟩) (by simp; omega)).trans d2) | (refine (HK1.out _ hB2).mono ?_; rintro e w3 ⟨⟨v, rfl, hv⟩, hb3⟩))
    all_goals go_ret2
    all_goals exact ⟨.inr ⟨trivial, v, rfl, hv⟩, below_of hB2 hb3⟩

set_option maxRecDepth 100000 in
set_option maxHeartbeats 1000000 in
theorem askI_any (K : Nat) (hent : Enters Try.prog K) (G : Gm) (a : Option Addr) (c : Nat) (w : World) (hR : RAt w w.heap.size a G.rules) (Post : Value → World → Prop)
    (HK : G.okB = true → ∀ W, Below w.heap.size w W → Calls Try.prog K #[.agg #[.int .i64 G.nts, .int .i64 G.start, .slice a G.rules.length c]] W fun e W' => (∃ v, e = .returned v ∧ Post v W') ∧ Below W.heap.size W W') :
    Calls Try.prog 52 #[.agg #[.int .i64 G.nts, .int .i64 G.start, .slice a G.rules.length c], .func (.func K) #[] #[]] w fun e w' => ((G.okB = false ∧ e = .returned (.tuple #[.slice none 0 0, .int .i64 3])) ∨ (G.okB = true ∧ ∃ v, e = .returned (.tuple #[v, .int .i64 0]) ∧ Post v w')) ∧ Below w.heap.size w w' := by
  have hB0 : Below w.heap.size w (w.alloc (.cells #[.int .i64 G.nts, .int .i64 G.start, .slice a G.rules.length c] 24)) := (Below.refl _ _).alloc (Nat.le_refl _) _
  have hR1 : RAt (w.alloc (.cells #[.int .i64 G.nts, .int .i64 G.start, .slice a G.rules.length c] 24)) (w.alloc (.cells #[.int .i64 G.nts, .int .i64 G.start, .slice a G.rules.length c] 24)).heap.size a G.rules := (hR.keep hB0).mono (by simp)
  have HR : Hid _ := fun (_ : Unit) => right_any G a c _ hR1
  have hcell : ∀ k v, #[.int .i64 G.nts, .int .i64 G.start, .slice a G.rules.length c][k]? = some v → (w.alloc (.cells #[.int .i64 G.nts, .int .i64 G.start, .slice a G.rules.length c] 24)).cell? ⟨w.heap.size, k, none⟩ = some v := fun k v h => cell_new k h
  have d0 := hcell 0 _ rfl
  have d1 := hcell 1 _ rfl
  have d2 := hcell 2 _ rfl
  clear hcell hR1 hR
  unfold Enters at hent
  cases hok : G.okB
  · skip
    rw [hok, if_neg (by simp)] at HR
    clear hok HK
    obtain ⟨W0, hW0⟩ : ∃ W0, w.alloc (.cells #[.int .i64 G.nts, .int .i64 G.start, .slice a G.rules.length c] 24) = W0 := ⟨_, rfl⟩
    have hs0 : W0.heap.size = w.heap.size + 1 := by rw [← hW0]; simp
    rw [hW0] at HR hB0 d0 d1 d2
    go_enter Try.func52, Try.ntmps52
    go_wp2_with (go_at_call 13; refine (HR.out ()).mono ?_; rintro e w2 ⟨rfl, hb2⟩)
    all_goals go_ret2
    all_goals exact ⟨.inl ⟨trivial, rfl⟩, below_of hB0 hb2⟩
  · skip
    have HK1 : Hid _ := HK hok
    rw [hok, if_pos rfl] at HR
    clear hok HK
    obtain ⟨W0, hW0⟩ : ∃ W0, w.alloc (.cells #[.int .i64 G.nts, .int .i64 G.start, .slice a G.rules.length c] 24) = W0 := ⟨_, rfl⟩
    have hs0 : W0.heap.size = w.heap.size + 1 := by rw [← hW0]; simp
    rw [hW0] at HR hB0 d0 d1 d2
    go_enter Try.func52, Try.ntmps52
    go_wp2_with (first | (go_at_call 13; refine (HR.out ()).mono ?_; rintro e w2 ⟨rfl, hb2⟩; have hB2 := below_of hB0 hb2; have g0 := (hb2.cell (p := ⟨w.heap.size, 0, none⟩) (by simp; omega)).trans d0; have g1 := (hb2.cell (p := ⟨w.heap.size, 1, none⟩) (by simp; omega)).trans d1; have g2 := (hb2.cell (p := ⟨w.heap.size, 2, none⟩) (by simp; omega)).trans d2) | (refine (HK1.out _ hB2).mono ?_; rintro e w3 ⟨⟨v, rfl, hv⟩, hb3⟩))
    all_goals go_ret2
    all_goals exact ⟨.inr ⟨trivial, v, rfl, hv⟩, below_of hB2 hb3⟩

set_option maxRecDepth 100000 in
set_option maxHeartbeats 1000000 in
theorem askO_any (K : Nat) (hent : Enters Try.prog K) (G : Gm) (a : Option Addr) (c : Nat) (w : World) (hR : RAt w w.heap.size a G.rules) (Post : Value → World → Prop)
    (HK : G.okB = true → ∀ W, Below w.heap.size w W → Calls Try.prog K #[.agg #[.int .i64 G.nts, .int .i64 G.start, .slice a G.rules.length c]] W fun e W' => (∃ v, e = .returned v ∧ Post v W') ∧ Below W.heap.size W W') :
    Calls Try.prog 57 #[.agg #[.int .i64 G.nts, .int .i64 G.start, .slice a G.rules.length c], .func (.func K) #[] #[]] w fun e w' => ((G.okB = false ∧ e = .returned (.tuple #[.bool false, .int .i64 3])) ∨ (G.okB = true ∧ ∃ v, e = .returned (.tuple #[v, .int .i64 0]) ∧ Post v w')) ∧ Below w.heap.size w w' := by
  have hB0 : Below w.heap.size w (w.alloc (.cells #[.int .i64 G.nts, .int .i64 G.start, .slice a G.rules.length c] 24)) := (Below.refl _ _).alloc (Nat.le_refl _) _
  have hR1 : RAt (w.alloc (.cells #[.int .i64 G.nts, .int .i64 G.start, .slice a G.rules.length c] 24)) (w.alloc (.cells #[.int .i64 G.nts, .int .i64 G.start, .slice a G.rules.length c] 24)).heap.size a G.rules := (hR.keep hB0).mono (by simp)
  have HR : Hid _ := fun (_ : Unit) => right_any G a c _ hR1
  have hcell : ∀ k v, #[.int .i64 G.nts, .int .i64 G.start, .slice a G.rules.length c][k]? = some v → (w.alloc (.cells #[.int .i64 G.nts, .int .i64 G.start, .slice a G.rules.length c] 24)).cell? ⟨w.heap.size, k, none⟩ = some v := fun k v h => cell_new k h
  have d0 := hcell 0 _ rfl
  have d1 := hcell 1 _ rfl
  have d2 := hcell 2 _ rfl
  clear hcell hR1 hR
  unfold Enters at hent
  cases hok : G.okB
  · skip
    rw [hok, if_neg (by simp)] at HR
    clear hok HK
    obtain ⟨W0, hW0⟩ : ∃ W0, w.alloc (.cells #[.int .i64 G.nts, .int .i64 G.start, .slice a G.rules.length c] 24) = W0 := ⟨_, rfl⟩
    have hs0 : W0.heap.size = w.heap.size + 1 := by rw [← hW0]; simp
    rw [hW0] at HR hB0 d0 d1 d2
    go_enter Try.func57, Try.ntmps57
    go_wp2_with (go_at_call 13; refine (HR.out ()).mono ?_; rintro e w2 ⟨rfl, hb2⟩)
    all_goals go_ret2
    all_goals exact ⟨.inl ⟨trivial, rfl⟩, below_of hB0 hb2⟩
  · skip
    have HK1 : Hid _ := HK hok
    rw [hok, if_pos rfl] at HR
    clear hok HK
    obtain ⟨W0, hW0⟩ : ∃ W0, w.alloc (.cells #[.int .i64 G.nts, .int .i64 G.start, .slice a G.rules.length c] 24) = W0 := ⟨_, rfl⟩
    have hs0 : W0.heap.size = w.heap.size + 1 := by rw [← hW0]; simp
    rw [hW0] at HR hB0 d0 d1 d2
    go_enter Try.func57, Try.ntmps57
    go_wp2_with (first | (go_at_call 13; refine (HR.out ()).mono ?_; rintro e w2 ⟨rfl, hb2⟩; have hB2 := below_of hB0 hb2; have g0 := (hb2.cell (p := ⟨w.heap.size, 0, none⟩) (by simp; omega)).trans d0; have g1 := (hb2.cell (p := ⟨w.heap.size, 1, none⟩) (by simp; omega)).trans d1; have g2 := (hb2.cell (p := ⟨w.heap.size, 2, none⟩) (by simp; omega)).trans d2) | (refine (HK1.out _ hB2).mono ?_; rintro e w3 ⟨⟨v, rfl, hv⟩, hb3⟩))
    all_goals go_ret2
    all_goals exact ⟨.inr ⟨trivial, v, rfl, hv⟩, below_of hB2 hb3⟩
end Go.Proofs.Ytopbibhpekjaeaa
