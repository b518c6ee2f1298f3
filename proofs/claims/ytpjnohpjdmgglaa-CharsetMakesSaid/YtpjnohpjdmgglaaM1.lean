/- The law CharsetMakes: at every list, range and byte the call returns true, and turns nothing that was there. -/
import Derived.Test.YtpjnohpjdmgglaaW10
import Derived.Test.YtpjnohpjdmgglaaR3
import Derived.Test.YtpjnohpjdmgglaaR5
import Derived.Laws.BytesArg
import Derived.Laws.BytesString
namespace Go.Proofs.Ytpjnohpjdmgglaa
open Go.RowKit

/-- The value v is a slice of the bytes L. -/
def RV (v : Value) (L : List Nat) (W : World) : Prop :=
  (∃ a c, v = .slice a 0 c ∧ L = []) ∨ ∃ b o c, v = .slice (some ⟨b, o, none⟩) L.length c ∧ b < W.heap.size ∧ 0 < L.length ∧ ∀ i, i < L.length → W.cell? ⟨b, o + i, none⟩ = some (.int .u8 (L.getD i 0 : Nat))
theorem RV.below {v : Value} {L : List Nat} {W W' : World} (h : RV v L W) (hb : Below W.heap.size W W') : RV v L W' := by
  rcases h with h | ⟨b, o, c, hv, hl, h0, hc⟩
  · exact .inl h
  · exact .inr ⟨b, o, c, hv, Nat.lt_of_lt_of_le hl hb.size, h0, fun i hi => (hb.cell (p := ⟨b, o + i, none⟩) hl).trans (hc i hi)⟩
theorem RV.conv {v : Value} {L : List Nat} {W : World} (h : RV v L W) : (convert 22 9 v).run Try.prog W = .ok (.string (strOfNums (L.map (fun n : Nat => (n : Int))))) W := by
  rcases h with ⟨a, c, rfl, rfl⟩ | ⟨b, o, c, rfl, hl, h0, hc⟩
  · rw [run_convert_bytes_string W 22 9 5 a 0 c Try.underlying22 Try.underlying5 Try.underlying9]
    cases a with
    | none => simp [Conv.bytesToString]; rfl
    | some x =>
      have hld : (loadCells x 0).run Try.prog W = .ok (([] : List Int).map (Value.int .u8)).toArray W := run_loadCells_list W x [] (fun j v hj => by simp at hj)
      rw [run_bytesToString W x 0 c [] hld]; rfl
  · refine run_convert_bytes_arg W 22 5 Try.underlying22 Try.underlying5 b o L.length c (L.map (fun n : Nat => (n : Int))) (by simp) (fun i hi => ?_) 9 Try.underlying9
    rw [hc i hi]
    simp [List.getD_eq_getElem?_getD, List.getElem?_eq_getElem hi]

set_option maxHeartbeats 1000000 in
theorem of_zero (a : Option Addr) (c : Nat) (w : World) : Calls Try.prog 10 #[.slice a 0 c] w fun e w' => e = .returned (.agg #[.int .u64 (ofL []).a, .int .u64 (ofL []).b, .int .u64 (ofL []).c, .int .u64 (ofL []).d]) ∧ Below w.heap.size w w' := by
  go_enter Try.func10, Try.ntmps10
  go_wp2
  refine wp_loop_rounds 1 ?_
  rw [rounds_succ]
  go_wp2
  refine bodyPost_ret (v := .agg #[.int .u64 0, .int .u64 0, .int .u64 0, .int .u64 0]) (by simp [results, Try.results10, go_sem]) rfl ⟨rfl, ?_⟩
  exact ((Below.refl _ _).alloc (Nat.le_refl _) _).alloc (by simp <;> omega) _
set_option maxHeartbeats 1000000 in
theorem rof_zero (a : Option Addr) (c : Nat) (w : World) : Calls Try.prog 13 #[.slice a 0 c] w fun e w' => e = .returned (.agg #[.int .u64 (ofL []).a, .int .u64 (ofL []).b, .int .u64 (ofL []).c, .int .u64 (ofL []).d]) ∧ Below w.heap.size w w' := by
  go_enter Try.func13, Try.ntmps13
  go_wp2
  refine wp_loop_rounds 1 ?_
  rw [rounds_succ]
  go_wp2
  refine bodyPost_ret (v := .agg #[.int .u64 0, .int .u64 0, .int .u64 0, .int .u64 0]) (by simp [results, Try.results13, go_sem]) rfl ⟨rfl, ?_⟩
  exact ((Below.refl _ _).alloc (Nat.le_refl _) _).alloc (by simp <;> omega) _
theorem of_rv {v : Value} {L : List Nat} {W : World} (h : RV v L W) (hL : ∀ x ∈ L, x < 256) (hm : L.length ≤ maxLen) : Calls Try.prog 10 #[v] W fun e w' => e = .returned (.agg #[.int .u64 (ofL L).a, .int .u64 (ofL L).b, .int .u64 (ofL L).c, .int .u64 (ofL L).d]) ∧ Below W.heap.size W w' := by
  rcases h with ⟨a, c, rfl, rfl⟩ | ⟨b, o, c, rfl, hl, h0, hc⟩
  · exact of_zero a c W
  · exact of_any b o L.length c L W rfl hL hm hl hc
theorem rof_rv {v : Value} {L : List Nat} {W : World} (h : RV v L W) (hL : ∀ x ∈ L, x < 256) (hm : L.length ≤ maxLen) : Calls Try.prog 13 #[v] W fun e w' => e = .returned (.agg #[.int .u64 (ofL L).a, .int .u64 (ofL L).b, .int .u64 (ofL L).c, .int .u64 (ofL L).d]) ∧ Below W.heap.size W w' := by
  rcases h with ⟨a, c, rfl, rfl⟩ | ⟨b, o, c, rfl, hl, h0, hc⟩
  · exact rof_zero a c W
  · exact rof_any b o L.length c L W rfl hL hm hl hc
/-- Both ranges answer the same. -/
theorem both_range (lo hi : Int) : ∃ (q : St) (ec : Int), q.ok ∧ (∀ w, Calls Try.prog 11 #[.int .i64 lo, .int .i64 hi] w fun e w' => e = .returned (.tuple #[.agg #[.int .u64 q.a, .int .u64 q.b, .int .u64 q.c, .int .u64 q.d], .int .i64 ec]) ∧ Below w.heap.size w w') ∧ (∀ w, Calls Try.prog 12 #[.int .i64 lo, .int .i64 hi] w fun e w' => e = .returned (.tuple #[.agg #[.int .u64 q.a, .int .u64 q.b, .int .u64 q.c, .int .u64 q.d], .int .i64 ec]) ∧ Below w.heap.size w w') := by
  by_cases h : lo < 0 ∨ 255 < hi ∨ hi < lo
  · exact ⟨St.zero, 10, St.zero_ok, fun w => range_bad lo hi w h, fun w => rrange_bad lo hi w h⟩
  · obtain ⟨a, rfl⟩ := Int.eq_ofNat_of_zero_le (show 0 ≤ lo by omega)
    obtain ⟨b, rfl⟩ := Int.eq_ofNat_of_zero_le (show 0 ≤ hi by omega)
    exact ⟨rng a (b + 1 - a), 0, rng_ok _ _, fun w => range_any a b w (by omega) (by omega), fun w => rrange_any a b w (by omega) (by omega)⟩

/-- What stands while the law's last line is reckoned. -/
def Mk (w : World) (p q : St) (B1 B2 B3 : Nat) (v v0 : Value) (L : List Nat) (W : World) : Prop := SBox p B1 W ∧ SBox q B2 W ∧ SBox q B3 W ∧ RV v L W ∧ RV v0 L W ∧ Below w.heap.size w W
theorem Mk.drew {w W : World} {p q : St} {B1 B2 B3 : Nat} {v v0 : Value} {L : List Nat} (h : Mk w p q B1 B2 B3 v v0 L W) : Mk w p q B1 B2 B3 v v0 L W.drew := ⟨h.1, h.2.1, h.2.2.1, h.2.2.2.1, h.2.2.2.2.1, h.2.2.2.2.2.drew⟩
theorem Mk.nx {w W W' : World} {p q : St} {B1 B2 B3 : Nat} {v v0 : Value} {L : List Nat} (hb : Below W.heap.size W W') (h : Mk w p q B1 B2 B3 v v0 L W) : Mk w p q B1 B2 B3 v v0 L W' := ⟨h.1.below hb, h.2.1.below hb, h.2.2.1.below hb, h.2.2.2.1.below hb, h.2.2.2.2.1.below hb, below_of h.2.2.2.2.2 hb⟩
theorem Mk.cells {w W' : World} {p q : St} {B1 B2 B3 : Nat} {v v0 : Value} {L : List Nat} {X : ByteArray} (hX : strOfNums (L.map (fun n : Nat => (n : Int))) = X) (h : Mk w p q B1 B2 B3 v v0 L W') : W'.cell? ⟨B1, 0, none⟩ = some (.int .u64 p.a) ∧ W'.cell? ⟨B1, 1, none⟩ = some (.int .u64 p.b) ∧ W'.cell? ⟨B1, 2, none⟩ = some (.int .u64 p.c) ∧ W'.cell? ⟨B1, 3, none⟩ = some (.int .u64 p.d) ∧ W'.cell? ⟨B2, 0, none⟩ = some (.int .u64 q.a) ∧ W'.cell? ⟨B2, 1, none⟩ = some (.int .u64 q.b) ∧ W'.cell? ⟨B2, 2, none⟩ = some (.int .u64 q.c) ∧ W'.cell? ⟨B2, 3, none⟩ = some (.int .u64 q.d) ∧ W'.cell? ⟨B3, 0, none⟩ = some (.int .u64 q.a) ∧ W'.cell? ⟨B3, 1, none⟩ = some (.int .u64 q.b) ∧ W'.cell? ⟨B3, 2, none⟩ = some (.int .u64 q.c) ∧ W'.cell? ⟨B3, 3, none⟩ = some (.int .u64 q.d) ∧ (convert 22 9 v).run Try.prog W' = .ok (.string X) W' ∧ (convert 22 9 v0).run Try.prog W' = .ok (.string X) W' := by
  obtain ⟨a0, a1, a2, a3⟩ := h.1.cells
  obtain ⟨b0, b1, b2, b3⟩ := h.2.1.cells
  obtain ⟨c0, c1, c2, c3⟩ := h.2.2.1.cells
  exact ⟨a0, a1, a2, a3, b0, b1, b2, b3, c0, c1, c2, c3, by rw [← hX]; exact h.2.2.2.1.conv, by rw [← hX]; exact h.2.2.2.2.1.conv⟩

end Go.Proofs.Ytpjnohpjdmgglaa
