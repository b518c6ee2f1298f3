/- Whether a tree is too great. -/
import Derived.Test.YtlnlkbkmnkjbhaaDoorS1
namespace Go.Proofs.YtlnlkbkmnkjbhaaDoor
open Go.RowKit

set_option maxRecDepth 100000 in
set_option maxHeartbeats 4000000 in
theorem weigh_any (f : Nat) : ∀ (N : Nat) (d : Tr) (sa : Option Addr) (sc most : Nat) (w : World), sz d ≤ N → TAt w w.heap.size f sa d.kids → most ≤ 1000000 →
    Calls Tryd.prog 37 #[.agg #[.int .i64 d.rule, .int .u8 (d.byte.toNat : Int), .slice sa d.kids.length sc], .int .i64 (most : Int)] w fun e w' => (∃ r : Nat, e = .returned (.int .i64 (r : Int)) ∧ (r ≤ most → r = sz d) ∧ (sz d ≤ most → r = sz d) ∧ r ≤ most + 1) ∧ Below w.heap.size w w' := by
  intro N
  induction N with
  | zero => intro d sa sc most w hN; rw [sz_eq] at hN; omega
  | succ N ih =>
  intro d sa sc most w hN hk hmost
  have hlen := hk.len
  have hwt := sz_eq d
  obtain ⟨w1, hw1⟩ : ∃ w1, w.alloc (.cells #[.int .i64 d.rule, .int .u8 (d.byte.toNat : Int), .slice sa d.kids.length sc] 27) = w1 := ⟨_, rfl⟩
  have hB1 : Below w.heap.size w w1 := by rw [← hw1]; exact (Below.refl _ _).alloc (Nat.le_refl _) _
  have s1 : w1.heap.size = w.heap.size + 1 := by rw [← hw1]; simp
  have a3 : w1.cell? ⟨w.heap.size, 2, none⟩ = some (.slice sa d.kids.length sc) := by rw [← hw1]; exact cell_new 2 rfl
  have HW : Hid _ := hwt
  have HI : Hid _ := ih
  have HK : Hid _ := hk
  have HN : Hid _ := hN
  have HB1 : Hid _ := hB1
  have HS1 : Hid _ := s1
  clear hwt ih hk hN hB1 s1
  go_enter Tryd.func37, Tryd.ntmps37
  go_wp2
  go_loopw [5, 6] (fun n i W => ∃ (k r : Nat), k ≤ d.kids.length ∧ i = .int .i64 k ∧ n = .int .i64 r ∧ (r ≤ most → r = 1 + szL (d.kids.take k)) ∧ (r ≤ most ∨ most < sz d) ∧ r ≤ most + 1 ∧ Below w1.heap.size w1 W) (fun _ i _ => d.kids.length - (intOf i).toNat)
  case atStart => exact ⟨0, 1, by omega, rfl, by go_num, by simp [szL], by rw [HW.out]; omega, by omega, Below.refl _ _⟩
  case round =>
    obtain ⟨k, r, hk, rfl, rfl, hr1, hr2, hr3, hB⟩ := hrel
    have hs1 := HS1.out
    have b3 := (hB.cell (p := ⟨w.heap.size, 2, none⟩) (by show w.heap.size < _; omega)).trans a3
    have hBw : Below w.heap.size w wr := HB1.out.trans (hB.mono (by omega))
    have HBw : Hid _ := hBw
    have HR1 : Hid _ := hr1
    have HR2 : Hid _ := hr2
    have HB : Hid _ := hB
    clear hBw hr1 hr2 hB hs1
    by_cases hlt : k < d.kids.length
    · by_cases hle : r ≤ most
      · obtain ⟨x, hx⟩ : ∃ x, d.kids[k]? = some x := ⟨d.kids[k], by simp [hlt]⟩
        obtain ⟨b, o, hsa, hb, xa, xc, c0, c1, c3, hxc, hxk⟩ := ((HK.out.keep HBw.out).mono HBw.out.size).one hx
        have hwx : szL (d.kids.take (k + 1)) = szL (d.kids.take k) + sz x := szL_take hx
        have hwle := szL_take_le d.kids (k + 1)
        have HC : Hid (Calls Tryd.prog 37 #[.agg #[.int .i64 x.rule, .int .u8 (x.byte.toNat : Int), .slice xa x.kids.length xc], .int .i64 ((most : Int) - (r : Int))] wr fun e w' => (∃ r2 : Nat, e = .returned (.int .i64 (r2 : Int)) ∧ (r2 ≤ most - r → r2 = sz x) ∧ (sz x ≤ most - r → r2 = sz x) ∧ r2 ≤ most - r + 1) ∧ Below wr.heap.size wr w') := by
          have h := HI.out x xa xc (most - r) wr (by have := HN.out; have := HW.out; omega) hxk (by omega)
          rw [Int.ofNat_sub hle] at h
          exact h
        have HX : Hid _ := hwx
        have HXL : Hid _ := hwle
        subst hsa
        clear hwx hwle hx hxk
        go_wp2_with (go_at_call 37; refine (HC.out).mono ?_)
        rintro e w2 ⟨⟨r2, rfl, h1, h2, h3⟩, hb2⟩
        have H1 : Hid _ := h1
        have H2 : Hid _ := h2
        have HB2 : Hid _ := hb2
        clear h1 h2 hb2
        go_wp2
        refine ⟨⟨k + 1, r + r2, by omega, by go_num, by go_num, ?_, ?_, by omega, HB.out.trans (HB2.out.mono HB.out.size)⟩, by simp [intOf]; omega⟩
        · intro h
          have e1 := HR1.out hle
          have e2 := H1.out (by omega)
          rw [HX.out]; omega
        · have e1 := HR1.out hle
          have e3 := HX.out
          have e4 := HXL.out
          have e5 := HW.out
          rcases Nat.lt_or_ge most (r + r2) with h | h
          · right
            rcases Nat.lt_or_ge (most - r) (sz x) with h' | h'
            · omega
            · have := H2.out h'; omega
          · exact .inl h
      · have hgt : (most : Int) < r := by omega
        go_wp2
        go_ret
        refine ⟨⟨r, rfl, fun h => by omega, fun h => ?_, by omega⟩, HBw.out⟩
        rcases HR2.out with h' | h' <;> omega
    · obtain rfl : k = d.kids.length := by omega
      rw [List.take_length] at HR1
      go_wp2
      go_ret
      refine ⟨⟨r, rfl, fun h => ?_, fun h => ?_, by omega⟩, HBw.out⟩
      · rw [HW.out]; exact HR1.out h
      · rcases HR2.out with h' | h'
        · rw [HW.out]; exact HR1.out h'
        · omega
set_option maxRecDepth 100000 in
theorem heavy_any (d : Tr) (sa : Option Addr) (sc f : Nat) (w : World) (hk : TAt w w.heap.size f sa d.kids) :
    Calls Tryd.prog 13 #[.agg #[.int .i64 d.rule, .int .u8 (d.byte.toNat : Int), .slice sa d.kids.length sc]] w fun e w' => e = .returned (.bool (decide (1500 < sz d))) ∧ Below w.heap.size w w' := by
  have HC : Hid _ := fun (W : World) (hW : Below w.heap.size w W) => weigh_any f (sz d) d sa sc 1500 W (Nat.le_refl _) ((hk.keep hW).mono hW.size) (by omega)
  clear hk
  obtain ⟨w1, hw1⟩ : ∃ w1, w.alloc (.cells #[.int .i64 d.rule, .int .u8 (d.byte.toNat : Int), .slice sa d.kids.length sc] 27) = w1 := ⟨_, rfl⟩
  have HB1 : Hid (Below w.heap.size w w1) := by show Below _ _ _; rw [← hw1]; exact (Below.refl _ _).alloc (Nat.le_refl _) _
  have a0 : w1.cell? ⟨w.heap.size, 0, none⟩ = some (.int .i64 d.rule) := by rw [← hw1]; exact cell_new 0 rfl
  have a1 : w1.cell? ⟨w.heap.size, 1, none⟩ = some (.int .u8 (d.byte.toNat : Int)) := by rw [← hw1]; exact cell_new 1 rfl
  have a2 : w1.cell? ⟨w.heap.size, 2, none⟩ = some (.slice sa d.kids.length sc) := by rw [← hw1]; exact cell_new 2 rfl
  go_enter Tryd.func13, Tryd.ntmps13
  go_wp2_with (go_at_call 37; refine (HC.out w1 HB1.out).mono ?_)
  rintro e w2 ⟨⟨r, rfl, h1, h2, h3⟩, hb⟩
  have HB2 : Hid (Below w.heap.size w w2) := HB1.out.trans (hb.mono HB1.out.size)
  have HE : Hid (decide ((1500 : Int) < (r : Int)) = decide (1500 < sz d)) := by
    show _ = _
    rw [decide_eq_decide]
    constructor
    · intro h; rcases Nat.lt_or_ge 1500 (sz d) with h' | h'
      · exact h'
      · have := h2 h'; omega
    · intro h; rcases Nat.lt_or_ge 1500 r with h' | h'
      · omega
      · have := h1 h'; omega
  clear hb h1 h2 h3
  go_wp2
  go_ret
  refine ⟨?_, HB2.out⟩
  rw [← HE.out]
  simp
end Go.Proofs.YtlnlkbkmnkjbhaaDoor
