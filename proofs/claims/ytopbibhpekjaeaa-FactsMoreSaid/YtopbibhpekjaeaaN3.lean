/- First, Cyclic and Trim of any grammar. -/
import Derived.Test.YtopbibhpekjaeaaS1
import Derived.Test.YtopbibhpekjaeaaS2
namespace Go.Proofs.Ytopbibhpekjaeaa
open Go.RowKit

theorem first_any (N : Nat) (S : Int) (rs : List Rl) (a : Option Addr) (c : Nat) (w : World) (hok : Ok N rs) (hR : RAt w w.heap.size a rs) :
    Calls Try.prog 49 #[.agg #[.int .i64 (N : Int), .int .i64 S, .slice a rs.length c]] w fun e w' => (∃ v, e = .returned v ∧ Firsts w.heap.size N rs v w') ∧ Below w.heap.size w w' :=
  first_of N S rs a c w hok hR fun w hR => ownFirst_any N S rs a c w hok hR
def Cyclics (N : Nat) (rs : List Rl) (v : Value) (_ : World) : Prop := ∃ x, v = .bool x ∧ (x = true ↔ Cyc N rs)
theorem cyclic_any (N : Nat) (S : Int) (rs : List Rl) (a : Option Addr) (c : Nat) (w : World) (hok : Ok N rs) (hR : RAt w w.heap.size a rs) :
    Calls Try.prog 58 #[.agg #[.int .i64 (N : Int), .int .i64 S, .slice a rs.length c]] w fun e w' => (∃ v, e = .returned v ∧ Cyclics N rs v w') ∧ Below w.heap.size w w' :=
  cyclic_of N S rs a c w hok hR fun w hR => loneSteps_any N S rs a c w hok hR
theorem Firsts.mono {base base' N : Nat} {rs : List Rl} {v : Value} {W : World} (h : Firsts base N rs v W) (hb : base' ≤ base) : Firsts base' N rs v W := by
  obtain ⟨l, h1, h2⟩ := h; exact ⟨l, row_mono h1 hb, h2⟩
theorem Firsts.below {base N : Nat} {rs : List Rl} {v : Value} {W W' : World} (h : Firsts base N rs v W) (hb : Below W.heap.size W W') : Firsts base N rs v W' := by
  obtain ⟨l, h1, h2⟩ := h; exact ⟨l, row_below h1 hb, h2⟩
theorem Trims.mono {base base' N : Nat} {rs : List Rl} {v : Value} {W : World} (h : Trims base N rs v W) (hb : base' ≤ base) : Trims base' N rs v W := by
  obtain ⟨so, h1, h2, h3⟩ := h; exact ⟨so, h1, h2, row_mono h3 hb⟩
theorem Trims.below {base N : Nat} {rs : List Rl} {v : Value} {W W' : World} (h : Trims base N rs v W) (hb : Below W.heap.size W W') : Trims base N rs v W' := by
  obtain ⟨so, h1, h2, h3⟩ := h; exact ⟨so, h1, h2, row_below h3 hb⟩

set_option maxRecDepth 100000 in
set_option maxHeartbeats 1000000 in
theorem First_any (G : Gm) (a : Option Addr) (c : Nat) (w : World) (hR : RAt w w.heap.size a G.rules) :
    Calls Try.prog 26 #[.agg #[.int .i64 G.nts, .int .i64 G.start, .slice a G.rules.length c]] w fun e w' => ((G.okB = false ∧ e = .returned (.tuple #[.slice none 0 0, .int .i64 3])) ∨ (G.okB = true ∧ ∃ v, e = .returned (.tuple #[v, .int .i64 0]) ∧ Firsts w.heap.size G.nts.toNat G.rules v w')) ∧ Below w.heap.size w w' := by
  obtain ⟨W0, hW0⟩ : ∃ W0, w.alloc (.cells #[.int .i64 G.nts, .int .i64 G.start, .slice a G.rules.length c] 24) = W0 := ⟨_, rfl⟩
  have hs0 : W0.heap.size = w.heap.size + 1 := by rw [← hW0]; simp
  have hB0 : Below w.heap.size w W0 := by rw [← hW0]; exact (Below.refl _ _).alloc (Nat.le_refl _) _
  have c0 : W0.cell? ⟨w.heap.size, 0, none⟩ = some (.int .i64 G.nts) := by rw [← hW0]; exact cell_new 0 rfl
  have c1 : W0.cell? ⟨w.heap.size, 1, none⟩ = some (.int .i64 G.start) := by rw [← hW0]; exact cell_new 1 rfl
  have c2 : W0.cell? ⟨w.heap.size, 2, none⟩ = some (.slice a G.rules.length c) := by rw [← hW0]; exact cell_new 2 rfl
  have hR0 := (hR.keep hB0).mono (B' := W0.heap.size) (by omega)
  have H : Hid _ := fun (_ : Unit) => askS_any 49 (enters_of Try.func49 (by kernel_rfl) rfl) G a c W0 hR0 (Firsts w.heap.size G.nts.toNat G.rules) (fun hok W hW => by
    obtain ⟨N, S, hN, hS, _, hOk⟩ := ok_of hok
    have := first_any N G.start G.rules a c W hOk ((hR0.keep hW).mono hW.size)
    rw [← hN] at this
    refine this.mono ?_
    rintro e W' ⟨⟨v, rfl, hv⟩, hb⟩
    refine ⟨⟨v, rfl, ?_⟩, hb⟩
    rw [hN, Int.toNat_natCast]
    exact hv.mono (by have := hW.size; omega))
  go_enter Try.func26, Try.ntmps26
  go_wp2_with (go_at_call 48; refine (H.out ()).mono ?_)
  rintro e w2 ⟨⟨hn, rfl⟩ | ⟨hy, v, rfl, hv⟩, hb2⟩
  · have HN : Hid _ := hn
    clear hn
    go_wp2
    go_ret2
    exact ⟨.inl ⟨HN.out, rfl⟩, below_of hB0 hb2⟩
  · have HY : Hid _ := hy
    clear hy
    go_wp2
    go_ret2
    exact ⟨.inr ⟨HY.out, v, rfl, hv⟩, below_of hB0 hb2⟩

set_option maxRecDepth 100000 in
set_option maxHeartbeats 1000000 in
theorem Trim_any (G : Gm) (a : Option Addr) (c : Nat) (w : World) (hR : RAt w w.heap.size a G.rules) :
    Calls Try.prog 31 #[.agg #[.int .i64 G.nts, .int .i64 G.start, .slice a G.rules.length c]] w fun e w' => ((G.okB = false ∧ e = .returned (.tuple #[.slice none 0 0, .int .i64 3])) ∨ (G.okB = true ∧ ∃ v, e = .returned (.tuple #[v, .int .i64 0]) ∧ Trims w.heap.size G.nts.toNat G.rules v w')) ∧ Below w.heap.size w w' := by
  obtain ⟨W0, hW0⟩ : ∃ W0, w.alloc (.cells #[.int .i64 G.nts, .int .i64 G.start, .slice a G.rules.length c] 24) = W0 := ⟨_, rfl⟩
  have hs0 : W0.heap.size = w.heap.size + 1 := by rw [← hW0]; simp
  have hB0 : Below w.heap.size w W0 := by rw [← hW0]; exact (Below.refl _ _).alloc (Nat.le_refl _) _
  have c0 : W0.cell? ⟨w.heap.size, 0, none⟩ = some (.int .i64 G.nts) := by rw [← hW0]; exact cell_new 0 rfl
  have c1 : W0.cell? ⟨w.heap.size, 1, none⟩ = some (.int .i64 G.start) := by rw [← hW0]; exact cell_new 1 rfl
  have c2 : W0.cell? ⟨w.heap.size, 2, none⟩ = some (.slice a G.rules.length c) := by rw [← hW0]; exact cell_new 2 rfl
  have hR0 := (hR.keep hB0).mono (B' := W0.heap.size) (by omega)
  have H : Hid _ := fun (_ : Unit) => askI_any 55 (enters_of Try.func55 (by kernel_rfl) rfl) G a c W0 hR0 (Trims w.heap.size G.nts.toNat G.rules) (fun hok W hW => by
    obtain ⟨N, S, hN, hS, _, hOk⟩ := ok_of hok
    have := trim_any N G.start G.rules a c W hOk ((hR0.keep hW).mono hW.size)
    rw [← hN] at this
    refine this.mono ?_
    rintro e W' ⟨⟨v, rfl, hv⟩, hb⟩
    refine ⟨⟨v, rfl, ?_⟩, hb⟩
    rw [hN, Int.toNat_natCast]
    exact hv.mono (by have := hW.size; omega))
  go_enter Try.func31, Try.ntmps31
  go_wp2_with (go_at_call 52; refine (H.out ()).mono ?_)
  rintro e w2 ⟨⟨hn, rfl⟩ | ⟨hy, v, rfl, hv⟩, hb2⟩
  · have HN : Hid _ := hn
    clear hn
    go_wp2
    go_ret2
    exact ⟨.inl ⟨HN.out, rfl⟩, below_of hB0 hb2⟩
  · have HY : Hid _ := hy
    clear hy
    go_wp2
    go_ret2
    exact ⟨.inr ⟨HY.out, v, rfl, hv⟩, below_of hB0 hb2⟩

set_option maxRecDepth 100000 in
set_option maxHeartbeats 1000000 in
theorem Cyclic_any (G : Gm) (a : Option Addr) (c : Nat) (w : World) (hR : RAt w w.heap.size a G.rules) :
    Calls Try.prog 33 #[.agg #[.int .i64 G.nts, .int .i64 G.start, .slice a G.rules.length c]] w fun e w' => ((G.okB = false ∧ e = .returned (.tuple #[.bool false, .int .i64 3])) ∨ (G.okB = true ∧ ∃ v, e = .returned (.tuple #[v, .int .i64 0]) ∧ Cyclics G.nts.toNat G.rules v w')) ∧ Below w.heap.size w w' := by
  obtain ⟨W0, hW0⟩ : ∃ W0, w.alloc (.cells #[.int .i64 G.nts, .int .i64 G.start, .slice a G.rules.length c] 24) = W0 := ⟨_, rfl⟩
  have hs0 : W0.heap.size = w.heap.size + 1 := by rw [← hW0]; simp
  have hB0 : Below w.heap.size w W0 := by rw [← hW0]; exact (Below.refl _ _).alloc (Nat.le_refl _) _
  have c0 : W0.cell? ⟨w.heap.size, 0, none⟩ = some (.int .i64 G.nts) := by rw [← hW0]; exact cell_new 0 rfl
  have c1 : W0.cell? ⟨w.heap.size, 1, none⟩ = some (.int .i64 G.start) := by rw [← hW0]; exact cell_new 1 rfl
  have c2 : W0.cell? ⟨w.heap.size, 2, none⟩ = some (.slice a G.rules.length c) := by rw [← hW0]; exact cell_new 2 rfl
  have hR0 := (hR.keep hB0).mono (B' := W0.heap.size) (by omega)
  have H : Hid _ := fun (_ : Unit) => askO_any 58 (enters_of Try.func58 (by kernel_rfl) rfl) G a c W0 hR0 (Cyclics G.nts.toNat G.rules) (fun hok W hW => by
    obtain ⟨N, S, hN, hS, _, hOk⟩ := ok_of hok
    have := cyclic_any N G.start G.rules a c W hOk ((hR0.keep hW).mono hW.size)
    rw [← hN] at this
    refine this.mono ?_
    rintro e W' ⟨⟨v, rfl, hv⟩, hb⟩
    refine ⟨⟨v, rfl, ?_⟩, hb⟩
    rw [hN, Int.toNat_natCast]
    exact hv)
  go_enter Try.func33, Try.ntmps33
  go_wp2_with (go_at_call 57; refine (H.out ()).mono ?_)
  rintro e w2 ⟨⟨hn, rfl⟩ | ⟨hy, v, rfl, hv⟩, hb2⟩
  · have HN : Hid _ := hn
    clear hn
    go_wp2
    go_ret2
    exact ⟨.inl ⟨HN.out, rfl⟩, below_of hB0 hb2⟩
  · have HY : Hid _ := hy
    clear hy
    go_wp2
    go_ret2
    exact ⟨.inr ⟨HY.out, v, rfl, hv⟩, below_of hB0 hb2⟩
end Go.Proofs.Ytopbibhpekjaeaa
