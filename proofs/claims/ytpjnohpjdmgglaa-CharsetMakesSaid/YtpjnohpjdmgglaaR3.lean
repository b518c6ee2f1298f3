/- The document's own answer Of: the set of a list of bytes. -/
import Derived.Test.YtpjnohpjdmgglaaR2
import Derived.Deep.RegionHeld3
import Derived.Deep.DrawnRows
namespace Go.Proofs.Ytpjnohpjdmgglaa
open Go.RowKit
attribute [local go_sem ↓] Go.wp_at_zero Go.wp_at_succ

set_option maxHeartbeats 1000000 in
theorem rof_any (bk o n c : Nat) (l : List Nat) (w : World) (hn : n = l.length) (hl : ∀ x ∈ l, x < 256) (hm : n ≤ maxLen) (hbk : bk < w.heap.size)
    (hc : ∀ i, i < n → w.cell? ⟨bk, o + i, none⟩ = some (.int .u8 (l.getD i 0 : Nat))) :
    Calls Try.prog 13 #[.slice (some ⟨bk, o, none⟩) n c] w fun e w' => e = .returned (.agg #[.int .u64 (ofL l).a, .int .u64 (ofL l).b, .int .u64 (ofL l).c, .int .u64 (ofL l).d]) ∧ Below w.heap.size w w' := by
  subst hn
  unfold maxLen at hm
  have hlk : ∀ k, l.getD k 0 < 256 := by
    intro k; rw [List.getD_eq_getElem?_getD]
    cases h : l[k]? with
    | none => simp
    | some v => simpa using hl v (List.mem_of_getElem? h)
  have z0 := (SBox.zero w).alloc (.cells #[.int .u64 0, .int .u64 0, .int .u64 0, .int .u64 0] 26)
  have z1 := SBox.zero (w.alloc (.cells #[.int .u64 0, .int .u64 0, .int .u64 0, .int .u64 0] 26))
  rw [World.size_alloc] at z1
  have hb0 : Below w.heap.size w ((w.alloc (.cells #[.int .u64 0, .int .u64 0, .int .u64 0, .int .u64 0] 26)).alloc (.cells #[.int .u64 0, .int .u64 0, .int .u64 0, .int .u64 0] 26)) := ((Below.refl _ _).alloc (Nat.le_refl _) _).alloc (by simp <;> omega) _
  go_enter Try.func13, Try.ntmps13
  go_wp2
  go_loopw [4] (fun i wr => ∃ (k : Nat) (t : St), k ≤ l.length ∧ i = .int .i64 k ∧ t = ofL (l.take k) ∧ t.ok ∧ SBox St.zero w.heap.size wr ∧ SBox t (w.heap.size + 1) wr ∧ Below w.heap.size w wr) (fun i _ => l.length - (intOf i).toNat)
  case atStart => exact ⟨0, St.zero, by omega, rfl, rfl, St.zero_ok, z0, z1, hb0⟩
  case round =>
    clear z0 z1 hb0
    obtain ⟨k, t, hk, rfl, ht, hok, y0, y1, hB⟩ := hrel
    obtain ⟨c0, c1, c2, c3⟩ := y1.cells
    have ff := y1.frozen
    by_cases hlt : k < l.length
    · have hv := hlk k
      have hck : wr.cell? ⟨bk, o + k, none⟩ = some (.int .u8 (l.getD k 0 : Nat)) := (hB.cell (p := ⟨bk, o + k, none⟩) hbk).trans (hc k hlt)
      have HT : Hid (t.add (l.getD k 0) = ofL (l.take (k + 1))) := by
        show _ = _
        unfold ofL at *
        rw [List.take_succ_eq_append_getElem (by omega), List.foldl_append, ← ht]
        simp [List.getD_eq_getElem?_getD, List.getElem?_eq_getElem (show k < l.length by omega)]
      have HA : Hid ((t.add (l.getD k 0)).ok) := St.add_ok hok _
      clear ht
      have HW : Hid _ := fun w => rwith_any t (l.getD k 0) w hok hv
      generalize t.add (l.getD k 0) = r at *
      generalize l.getD k 0 = v at *
      have hwv : IntKind.i64.wrap (v : Int) = (v : Int) := by simp [IntKind.wrap, IntKind.bits, IntKind.signed]; omega
      have hi1 : (0 : Int) ≤ (k : Int) := by omega
      have hi2 : (k : Int) < (l.length : Int) := by omega
      go_wp2
      go_region_with (go_at_call 33; go_must (refine (HW.out _).mono ?_; rintro e w1 ⟨rfl, hb1⟩); go_must (have x0 := SBox.below (W := wr.drew) y0 hb1; have x1 := SBox.below (W := wr.drew) y1 hb1; obtain ⟨c0, c1, c2, c3⟩ := x1.cells; have ff := x1.frozen))
      all_goals go_wp2
      all_goals exact ⟨⟨k + 1, r, by omega, by go_num, HT.out, HA.out, x0.other4 _ _ _ _ (by omega), x1.store r, below4 (below_of hB.drew hb1) (by omega) _ _ _ _⟩, by simp [intOf]; omega⟩
    · have e : l.take k = l := List.take_of_length_le (by omega)
      rw [e] at ht
      have HT0 : Hid (t = ofL l) := ht
      clear ht
      have ff0 := y0.frozen
      obtain ⟨d0, d1, d2, d3⟩ := y0.cells
      simp only [St.zero] at d0 d1 d2 d3
      go_wp2
      refine bodyPost_ret (v := .agg #[.int .u64 t.a, .int .u64 t.b, .int .u64 t.c, .int .u64 t.d]) (by simp [results, Try.results13, go_sem, d0, d1, d2, d3]) rfl ⟨by rw [HT0.out], ?_⟩
      exact below4 hB (Nat.le_refl _) _ _ _ _

end Go.Proofs.Ytpjnohpjdmgglaa
