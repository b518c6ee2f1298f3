/- What is nullable, what is productive, which rules are. -/
import Derived.Test.YtopbibhpekjaeaaL1
namespace Go.Proofs.Ytopbibhpekjaeaa
open Go.RowKit

def pN : St → Bool := fun _ => false
def pP : St → Bool := St.any
theorem hk61 : ∀ (st : St) (W : World), Calls Try.prog 61 #[.agg #[.int .u64 st.a, .int .u64 st.b, .int .u64 st.c, .int .u64 st.d]] W fun e W' => e = .returned (.bool (pN st)) ∧ Below W.heap.size W W' := fun st W => isNullable_any st W
theorem hk63 : ∀ (st : St) (W : World), Calls Try.prog 63 #[.agg #[.int .u64 st.a, .int .u64 st.b, .int .u64 st.c, .int .u64 st.d]] W fun e W' => e = .returned (.bool (pP st)) ∧ Below W.heap.size W W' := fun st W => hasByte_any st W
/-- Marks of nonterminals, as told in new memory. -/
def Marks (base N : Nat) (rs : List Rl) (p : St → Bool) (v : Value) (W : World) : Prop := ∃ so : List Bool, W.ownsRow base 4 1 v N (boolsV so) ∧ so.length = N ∧ ∀ m, so.getD m false = true ↔ Lf rs p m
theorem Marks.mono {base base' N : Nat} {rs : List Rl} {p : St → Bool} {v : Value} {W : World} (h : Marks base N rs p v W) (hb : base' ≤ base) : Marks base' N rs p v W := by
  obtain ⟨so, h1, h2⟩ := h; exact ⟨so, row_mono h1 hb, h2⟩
theorem Marks.below {base N : Nat} {rs : List Rl} {p : St → Bool} {v : Value} {W W' : World} (h : Marks base N rs p v W) (hb : Below W.heap.size W W') : Marks base N rs p v W' := by
  obtain ⟨so, h1, h2⟩ := h; exact ⟨so, row_below h1 hb, h2⟩

set_option maxRecDepth 100000 in
set_option maxHeartbeats 1000000 in
theorem nullable_any (N : Nat) (S : Int) (rs : List Rl) (a : Option Addr) (c : Nat) (w : World) (hok : Ok N rs) (hR : RAt w w.heap.size a rs) :
    Calls Try.prog 43 #[.agg #[.int .i64 (N : Int), .int .i64 S, .slice a rs.length c]] w fun e w' => (∃ v, e = .returned v ∧ Marks w.heap.size N rs pN v w') ∧ Below w.heap.size w w' := by
  obtain ⟨W0, hW0⟩ : ∃ W0, w.alloc (.cells #[.int .i64 (N : Int), .int .i64 S, .slice a rs.length c] 24) = W0 := ⟨_, rfl⟩
  have hs0 : W0.heap.size = w.heap.size + 1 := by rw [← hW0]; simp
  have hB0 : Below w.heap.size w W0 := by rw [← hW0]; exact (Below.refl _ _).alloc (Nat.le_refl _) _
  have c0 : W0.cell? ⟨w.heap.size, 0, none⟩ = some (.int .i64 (N : Int)) := by rw [← hW0]; exact cell_new 0 rfl
  have c1 : W0.cell? ⟨w.heap.size, 1, none⟩ = some (.int .i64 S) := by rw [← hW0]; exact cell_new 1 rfl
  have c2 : W0.cell? ⟨w.heap.size, 2, none⟩ = some (.slice a rs.length c) := by rw [← hW0]; exact cell_new 2 rfl
  have H60 : Hid _ := fun (_ : Unit) => least_any 61 pN (enters_of Try.func61 (by kernel_rfl) rfl) hk61 N S rs a c W0 hok ((hR.keep hB0).mono (by omega))
  go_enter Try.func43, Try.ntmps43
  go_wp2_with (go_at_call 60; refine (H60.out ()).mono ?_; rintro e w2 ⟨so, rfl, h1, h2, h3, hb2⟩)
  go_ret
  rw [hs0] at h1
  exact ⟨⟨_, rfl, so, row_mono (B := w.heap.size + 1 + 1) h1 (by omega), h2, h3⟩, below_of hB0 hb2⟩

set_option maxRecDepth 100000 in
set_option maxHeartbeats 1000000 in
theorem productive_any (N : Nat) (S : Int) (rs : List Rl) (a : Option Addr) (c : Nat) (w : World) (hok : Ok N rs) (hR : RAt w w.heap.size a rs) :
    Calls Try.prog 45 #[.agg #[.int .i64 (N : Int), .int .i64 S, .slice a rs.length c]] w fun e w' => (∃ v, e = .returned v ∧ Marks w.heap.size N rs pP v w') ∧ Below w.heap.size w w' := by
  obtain ⟨W0, hW0⟩ : ∃ W0, w.alloc (.cells #[.int .i64 (N : Int), .int .i64 S, .slice a rs.length c] 24) = W0 := ⟨_, rfl⟩
  have hs0 : W0.heap.size = w.heap.size + 1 := by rw [← hW0]; simp
  have hB0 : Below w.heap.size w W0 := by rw [← hW0]; exact (Below.refl _ _).alloc (Nat.le_refl _) _
  have c0 : W0.cell? ⟨w.heap.size, 0, none⟩ = some (.int .i64 (N : Int)) := by rw [← hW0]; exact cell_new 0 rfl
  have c1 : W0.cell? ⟨w.heap.size, 1, none⟩ = some (.int .i64 S) := by rw [← hW0]; exact cell_new 1 rfl
  have c2 : W0.cell? ⟨w.heap.size, 2, none⟩ = some (.slice a rs.length c) := by rw [← hW0]; exact cell_new 2 rfl
  have H60 : Hid _ := fun (_ : Unit) => least_any 63 pP (enters_of Try.func63 (by kernel_rfl) rfl) hk63 N S rs a c W0 hok ((hR.keep hB0).mono (by omega))
  go_enter Try.func45, Try.ntmps45
  go_wp2_with (go_at_call 60; refine (H60.out ()).mono ?_; rintro e w2 ⟨so, rfl, h1, h2, h3, hb2⟩)
  go_ret
  rw [hs0] at h1
  exact ⟨⟨_, rfl, so, row_mono (B := w.heap.size + 1 + 1) h1 (by omega), h2, h3⟩, below_of hB0 hb2⟩

/-- Right grammars, by their numbers. -/
theorem ok_of {G : Gm} (h : G.okB = true) : ∃ (N S : Nat), G.nts = N ∧ G.start = S ∧ S < N ∧ Ok N G.rules := by
  unfold Gm.okB isN at h
  simp only [Bool.and_eq_true, decide_eq_true_eq, List.all_eq_true] at h
  obtain ⟨⟨⟨⟨h1, h2⟩, h3, h4⟩, h5⟩, h6⟩ := h
  refine ⟨G.nts.toNat, G.start.toNat, by omega, by omega, by omega, by omega, by omega, h5, fun r hr => ?_, fun r hr => ?_, fun r hr s hs => ?_⟩
  all_goals
    have h7 := h6 r hr
    unfold Rl.okB isN at h7
    simp only [Bool.and_eq_true, decide_eq_true_eq, List.all_eq_true] at h7
    obtain ⟨⟨⟨h8, h9⟩, h10⟩, h11⟩ := h7
  · omega
  · exact h10
  · have h12 := h11 s hs
    unfold Ks.okB isN at h12
    simp only [Bool.and_eq_true, Bool.or_eq_true, decide_eq_true_eq, beq_iff_eq] at h12
    rcases h12 with h12 | ⟨⟨h12, h13⟩, h14⟩
    · exact .inl h12
    · exact .inr ⟨h12, by omega, (St.same_eq _ _).1 h14⟩

set_option maxRecDepth 100000 in
set_option maxHeartbeats 1000000 in
theorem Nullable_any (G : Gm) (a : Option Addr) (c : Nat) (w : World) (hR : RAt w w.heap.size a G.rules) :
    Calls Try.prog 19 #[.agg #[.int .i64 G.nts, .int .i64 G.start, .slice a G.rules.length c]] w fun e w' => ((G.okB = false ∧ e = .returned (.tuple #[.slice none 0 0, .int .i64 3])) ∨ (G.okB = true ∧ ∃ v, e = .returned (.tuple #[v, .int .i64 0]) ∧ Marks w.heap.size G.nts.toNat G.rules pN v w')) ∧ Below w.heap.size w w' := by
  obtain ⟨W0, hW0⟩ : ∃ W0, w.alloc (.cells #[.int .i64 G.nts, .int .i64 G.start, .slice a G.rules.length c] 24) = W0 := ⟨_, rfl⟩
  have hs0 : W0.heap.size = w.heap.size + 1 := by rw [← hW0]; simp
  have hB0 : Below w.heap.size w W0 := by rw [← hW0]; exact (Below.refl _ _).alloc (Nat.le_refl _) _
  have c0 : W0.cell? ⟨w.heap.size, 0, none⟩ = some (.int .i64 G.nts) := by rw [← hW0]; exact cell_new 0 rfl
  have c1 : W0.cell? ⟨w.heap.size, 1, none⟩ = some (.int .i64 G.start) := by rw [← hW0]; exact cell_new 1 rfl
  have c2 : W0.cell? ⟨w.heap.size, 2, none⟩ = some (.slice a G.rules.length c) := by rw [← hW0]; exact cell_new 2 rfl
  have hR0 := (hR.keep hB0).mono (B' := W0.heap.size) (by omega)
  have H : Hid _ := fun (_ : Unit) => askB_any 43 (enters_of Try.func43 (by kernel_rfl) rfl) G a c W0 hR0 (Marks w.heap.size G.nts.toNat G.rules pN) (fun hok W hW => by
    obtain ⟨N, S, hN, hS, _, hOk⟩ := ok_of hok
    have := nullable_any N G.start G.rules a c W hOk ((hR0.keep hW).mono hW.size)
    rw [← hN] at this
    refine this.mono ?_
    rintro e W' ⟨⟨v, rfl, hv⟩, hb⟩
    refine ⟨⟨v, rfl, ?_⟩, hb⟩
    rw [hN, Int.toNat_natCast]
    exact hv.mono (by have := hW.size; omega))
  go_enter Try.func19, Try.ntmps19
  go_wp2_with (go_at_call 42; refine (H.out ()).mono ?_)
  rintro e w2 ⟨⟨hn, rfl⟩ | ⟨hy, v, rfl, hv⟩, hb2⟩
  · have HN : Hid _ := hn
    clear hn
    go_wp2
    go_ret2
    exact ⟨.inl ⟨HN.out, rfl⟩, below_of hB0 hb2⟩
  · have HY : Hid _ := hy
    clear hy
    go_wp2
    go_ret2
    exact ⟨.inr ⟨HY.out, v, rfl, hv⟩, below_of hB0 hb2⟩

set_option maxRecDepth 100000 in
set_option maxHeartbeats 1000000 in
theorem Productive_any (G : Gm) (a : Option Addr) (c : Nat) (w : World) (hR : RAt w w.heap.size a G.rules) :
    Calls Try.prog 21 #[.agg #[.int .i64 G.nts, .int .i64 G.start, .slice a G.rules.length c]] w fun e w' => ((G.okB = false ∧ e = .returned (.tuple #[.slice none 0 0, .int .i64 3])) ∨ (G.okB = true ∧ ∃ v, e = .returned (.tuple #[v, .int .i64 0]) ∧ Marks w.heap.size G.nts.toNat G.rules pP v w')) ∧ Below w.heap.size w w' := by
  obtain ⟨W0, hW0⟩ : ∃ W0, w.alloc (.cells #[.int .i64 G.nts, .int .i64 G.start, .slice a G.rules.length c] 24) = W0 := ⟨_, rfl⟩
  have hs0 : W0.heap.size = w.heap.size + 1 := by rw [← hW0]; simp
  have hB0 : Below w.heap.size w W0 := by rw [← hW0]; exact (Below.refl _ _).alloc (Nat.le_refl _) _
  have c0 : W0.cell? ⟨w.heap.size, 0, none⟩ = some (.int .i64 G.nts) := by rw [← hW0]; exact cell_new 0 rfl
  have c1 : W0.cell? ⟨w.heap.size, 1, none⟩ = some (.int .i64 G.start) := by rw [← hW0]; exact cell_new 1 rfl
  have c2 : W0.cell? ⟨w.heap.size, 2, none⟩ = some (.slice a G.rules.length c) := by rw [← hW0]; exact cell_new 2 rfl
  have hR0 := (hR.keep hB0).mono (B' := W0.heap.size) (by omega)
  have H : Hid _ := fun (_ : Unit) => askB_any 45 (enters_of Try.func45 (by kernel_rfl) rfl) G a c W0 hR0 (Marks w.heap.size G.nts.toNat G.rules pP) (fun hok W hW => by
    obtain ⟨N, S, hN, hS, _, hOk⟩ := ok_of hok
    have := productive_any N G.start G.rules a c W hOk ((hR0.keep hW).mono hW.size)
    rw [← hN] at this
    refine this.mono ?_
    rintro e W' ⟨⟨v, rfl, hv⟩, hb⟩
    refine ⟨⟨v, rfl, ?_⟩, hb⟩
    rw [hN, Int.toNat_natCast]
    exact hv.mono (by have := hW.size; omega))
  go_enter Try.func21, Try.ntmps21
  go_wp2_with (go_at_call 42; refine (H.out ()).mono ?_)
  rintro e w2 ⟨⟨hn, rfl⟩ | ⟨hy, v, rfl, hv⟩, hb2⟩
  · have HN : Hid _ := hn
    clear hn
    go_wp2
    go_ret2
    exact ⟨.inl ⟨HN.out, rfl⟩, below_of hB0 hb2⟩
  · have HY : Hid _ := hy
    clear hy
    go_wp2
    go_ret2
    exact ⟨.inr ⟨HY.out, v, rfl, hv⟩, below_of hB0 hb2⟩
end Go.Proofs.Ytopbibhpekjaeaa
