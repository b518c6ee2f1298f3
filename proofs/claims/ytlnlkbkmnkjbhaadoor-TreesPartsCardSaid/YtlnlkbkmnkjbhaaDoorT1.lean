/- Which trees have a text: isPlain, hasText. -/
import Derived.Test.YtlnlkbkmnkjbhaaDoorT0
import Derived.Test.YtlnlkbkmnkjbhaaDoorY1
namespace Go.Proofs.YtlnlkbkmnkjbhaaDoor
open Go.RowKit Go.Shelf

set_option maxRecDepth 100000 in
set_option maxHeartbeats 4000000 in
theorem isPlain_any (d : Tr) (sa : Option Addr) (sc : Nat) (w : World) : Calls Tryd.prog 73 #[.agg #[.int .i64 d.rule, .int .u8 (d.byte.toNat : Int), .slice sa d.kids.length sc]] w fun e w' => e = .returned (.bool (isPl d)) ∧ Below w.heap.size w w' := by
  obtain ⟨w1, hw1⟩ : ∃ w1, w.alloc (.cells #[.int .i64 d.rule, .int .u8 (d.byte.toNat : Int), .slice sa d.kids.length sc] 27) = w1 := ⟨_, rfl⟩
  have hB1 : Below w.heap.size w w1 := by rw [← hw1]; exact (Below.refl _ _).alloc (Nat.le_refl _) _
  have s1 : w1.heap.size = w.heap.size + 1 := by rw [← hw1]; simp
  have a0 : w1.cell? ⟨w.heap.size, 0, none⟩ = some (.int .i64 d.rule) := by rw [← hw1]; exact cell_new 0 rfl
  have a1 : w1.cell? ⟨w.heap.size, 1, none⟩ = some (.int .u8 (d.byte.toNat : Int)) := by rw [← hw1]; exact cell_new 1 rfl
  have a2 : w1.cell? ⟨w.heap.size, 2, none⟩ = some (.slice sa d.kids.length sc) := by rw [← hw1]; exact cell_new 2 rfl
  have HB1 : Hid _ := hB1
  have HS1 : Hid _ := s1
  have HL : Hid _ := fun (_ : Unit) => isLeaf_any d (.slice sa d.kids.length sc) w1
  have HC : Hid (∀ W, Below w1.heap.size w1 W → W.cell? ⟨w.heap.size, 0, none⟩ = some (.int .i64 d.rule) ∧ W.cell? ⟨w.heap.size, 1, none⟩ = some (.int .u8 (d.byte.toNat : Int)) ∧ W.cell? ⟨w.heap.size, 2, none⟩ = some (.slice sa d.kids.length sc)) := fun W hW => by
    have k : ∀ q, W.cell? ⟨w.heap.size, q, none⟩ = w1.cell? ⟨w.heap.size, q, none⟩ := fun q => hW.cell (p := ⟨w.heap.size, q, none⟩) (by show w.heap.size < _; omega)
    exact ⟨(k 0).trans a0, (k 1).trans a1, (k 2).trans a2⟩
  clear hB1 s1
  by_cases hr : d.rule = -1
  · have hre : (d.rule == -1) = true := by simpa using hr
    have HP : Hid (isPl d = d.kids.isEmpty) := by show _ = _; unfold isPl; rw [if_pos hr]
    rw [hre] at HL
    clear hr hre
    go_enter Tryd.func73, Tryd.ntmps73
    go_wp2_with (go_at_call 69; refine (HL.out ()).mono ?_)
    first | rintro e w2 rfl hb | rintro e w2 ⟨rfl, hb⟩
    obtain ⟨c0, c1, c2⟩ := HC.out w2 hb
    have HB : Hid (Below w.heap.size w w2) := HB1.out.trans (hb.mono HB1.out.size)
    clear hb a0 a1 a2
    go_wp2
    go_ret
    refine ⟨ret_bool ?_, HB.out⟩
    rw [HP.out]
    cases d.kids <;> simp <;> omega
  · have hre : (d.rule == -1) = false := by simpa using hr
    have HP : Hid (isPl d = (d.byte == 0 && decide (0 ≤ d.rule) && decide (d.rule ≤ 999999))) := by show _ = _; unfold isPl; rw [if_neg hr]
    rw [hre] at HL
    clear hr hre
    go_enter Tryd.func73, Tryd.ntmps73
    go_wp2_with (go_at_call 69; refine (HL.out ()).mono ?_)
    first | rintro e w2 rfl hb | rintro e w2 ⟨rfl, hb⟩
    obtain ⟨c0, c1, c2⟩ := HC.out w2 hb
    have HB : Hid (Below w.heap.size w w2) := HB1.out.trans (hb.mono HB1.out.size)
    clear hb a0 a1 a2
    by_cases hb0 : d.byte = 0
    · have hbe : ((d.byte.toNat : Int) == 0) = true := by rw [hb0]; rfl
      by_cases h0 : 0 ≤ d.rule
      · go_wp2
        go_ret
        refine ⟨ret_bool ?_, HB.out⟩
        rw [HP.out]; simp [hb0, h0]
      · have h0' : decide (0 ≤ d.rule) = false := by simpa using h0
        go_wp2
        go_ret
        refine ⟨ret_bool ?_, HB.out⟩
        rw [HP.out]; simp; omega
    · have hbe : ((d.byte.toNat : Int) == 0) = false := by
        have : d.byte.toNat ≠ 0 := fun e => hb0 (UInt8.toNat_inj.1 (by simpa using e))
        simp; omega
      go_wp2
      go_ret
      refine ⟨ret_bool ?_, HB.out⟩
      rw [HP.out]; simp [hb0]
end Go.Proofs.YtlnlkbkmnkjbhaaDoor
