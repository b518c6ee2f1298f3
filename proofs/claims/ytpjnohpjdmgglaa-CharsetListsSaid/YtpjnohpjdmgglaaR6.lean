/- The document's own answer Runs: a set's runs, each from its first byte to its last, in a slice of its own. -/
import Derived.Test.YtpjnohpjdmgglaaR5
import Derived.Test.YtpjnohpjdmgglaaW7
namespace Go.Proofs.Ytpjnohpjdmgglaa
open Go.RowKit

def ext (s : St) : Nat → Nat → Nat
  | 0, k => k
  | f + 1, k => if s.has (k + 1) then ext s f (k + 1) else k
def prevB (s : St) (k : Nat) : Bool := decide (0 < k) && s.has (k - 1)
def refTo (s : St) : Nat → List (Nat × Nat)
  | 0 => []
  | k + 1 => if s.has k && !prevB s k then refTo s k ++ [(k, ext s (255 - k) k)] else refTo s k
theorem refTo_len (s : St) : ∀ k, (refTo s k).length ≤ k
  | 0 => Nat.le_refl _
  | k + 1 => by have := refTo_len s k; unfold refTo; split <;> simp <;> omega
theorem ext_step (s : St) (h : Nat) (h1 : h < 255) (hh : s.has (h + 1) = true) : ext s (255 - h) h = ext s (255 - (h + 1)) (h + 1) := by
  rw [show 255 - h = (255 - (h + 1)) + 1 from by omega]; simp [ext, hh]
theorem ext_stop (s : St) (h : Nat) (h1 : h < 255) (hh : s.has (h + 1) = false) : ext s (255 - h) h = h := by
  rw [show 255 - h = (255 - (h + 1)) + 1 from by omega]; simp [ext, hh]
theorem ext_end (s : St) : ext s (255 - 255) 255 = 255 := rfl

set_option maxRecDepth 100000 in
set_option maxHeartbeats 4000000 in
theorem rruns_any (s : St) (hs : s.ok) (w : World) :
    Calls Try.prog 28 #[.agg #[.int .u64 s.a, .int .u64 s.b, .int .u64 s.c, .int .u64 s.d]] w fun e w' => ∃ v, e = .returned v ∧ w'.ownsRow w.heap.size 46 2 v (refTo s 256).length (rcells (refTo s 256)) ∧ Below w.heap.size w w' := by
  obtain ⟨i0, hi0, hz0, hz1, hz2⟩ := info_parts info46
  have b0 := SBox.new s w
  have hB0 : Below w.heap.size w (w.alloc (.cells #[.int .u64 s.a, .int .u64 s.b, .int .u64 s.c, .int .u64 s.d] 26)) := (Below.refl _ _).alloc (Nat.le_refl _) _
  go_enter Try.func28, Try.ntmps28
  go_wp2
  go_loopw [3, 4] (fun v i wr => ∃ k : Nat, k ≤ 256 ∧ i = .int .i64 k ∧ wr.ownsRow w.heap.size 46 2 v (refTo s k).length (rcells (refTo s k)) ∧ SBox s w.heap.size wr ∧ Below w.heap.size w wr) (fun _ i _ => 256 - (intOf i).toNat)
  case atStart => exact ⟨0, by omega, rfl, World.ownsRow_nil _ _ _ _, b0, hB0⟩
  case round =>
    obtain ⟨k, hk, rfl, hrow, hbx, hB⟩ := hrel
    clear b0 hB0
    obtain ⟨e0, e1, e2, e3⟩ := hbx.cells
    by_cases hlt : k < 256
    · have HH : Hid _ := fun w => rhas_any s k w hs hlt
      have hlen := refTo_len s k
      have HP : Hid (∀ w, Calls Try.prog 15 #[.agg #[.int .u64 s.a, .int .u64 s.b, .int .u64 s.c, .int .u64 s.d], .int .i64 ((k : Int) - 1)] w fun e w' => e = .returned (.bool (prevB s k)) ∧ Below w.heap.size w w') := by
        intro w
        cases k with
        | zero => exact rhas_out s _ w (.inl (by decide))
        | succ m =>
          have e : (((m + 1 : Nat) : Int) - 1) = (m : Int) := by omega
          have e' : prevB s (m + 1) = s.has m := by simp [prevB]
          rw [e, e']
          exact rhas_any s m w hs (by omega)
      cases hh : s.has k with
      | false =>
        rw [hh] at HH
        have EY : Hid (refTo s (k + 1) = refTo s k) := by show _ = _; simp [refTo, hh]
        clear hh HP
        go_wp2_with (go_at_call 15; refine (HH.out _).mono ?_)
        rintro e w1 ⟨rfl, hb1⟩
        have hrow1 := row_below hrow hb1
        have hbx1 := hbx.below hb1
        have hB1 := below_of hB hb1
        go_wp2
        exact ⟨⟨k + 1, by omega, by go_num, by rw [EY.out]; exact hrow1, hbx1, hB1⟩, by simp [intOf]; omega⟩
      | true =>
        rw [hh] at HH
        cases hp : prevB s k with
        | true =>
          rw [hp] at HP
          have EY : Hid (refTo s (k + 1) = refTo s k) := by show _ = _; simp [refTo, hp]
          clear hh hp
          go_wp2_with (go_at_call 15; refine (HH.out _).mono ?_)
          rintro e w1 ⟨rfl, hb1⟩
          have hrow1 := row_below hrow hb1
          have hbx1 := hbx.below hb1
          have hB1 := below_of hB hb1
          obtain ⟨e0, e1, e2, e3⟩ := hbx1.cells
          go_wp2_with (go_at_call 15; refine (HP.out _).mono ?_)
          rintro e w2 ⟨rfl, hb2⟩
          have hrow2 := row_below hrow1 hb2
          have hbx2 := hbx1.below hb2
          have hB2 := below_of hB1 hb2
          go_wp2
          exact ⟨⟨k + 1, by omega, by go_num, by rw [EY.out]; exact hrow2, hbx2, hB2⟩, by simp [intOf]; omega⟩
        | false =>
          rw [hp] at HP
          have EY : Hid (refTo s (k + 1) = refTo s k ++ [(k, ext s (255 - k) k)]) := by show _ = _; simp [refTo, hh, hp]
          clear hh hp
          go_wp2_with (go_at_call 15; refine (HH.out _).mono ?_)
          rintro e w1 ⟨rfl, hb1⟩
          have hrow1 := row_below hrow hb1
          have hbx1 := hbx.below hb1
          have hB1 := below_of hB hb1
          obtain ⟨e0, e1, e2, e3⟩ := hbx1.cells
          go_wp2_with (go_at_call 15; refine (HP.out _).mono ?_)
          rintro e w2 ⟨rfl, hb2⟩
          have hrow2 := row_below hrow1 hb2
          have hbx2 := hbx1.below hb2
          have hB2 := below_of hB1 hb2
          clear hrow hbx hB hb1 hrow1 hbx1 hB1 hb2 e0 e1 e2 e3 HH HP
          obtain ⟨E, hE⟩ : ∃ E, ext s (255 - k) k = E := ⟨_, rfl⟩
          rw [hE] at EY
          have HE : Hid _ := hE
          clear hE
          go_wp2
          go_loopw [5] (fun h wi => ∃ j : Nat, j ≤ 255 ∧ h = .int .i64 j ∧ ext s (255 - j) j = E ∧ wi.ownsRow w.heap.size 46 2 u3 (refTo s k).length (rcells (refTo s k)) ∧ SBox s w.heap.size wi ∧ Below w.heap.size w wi) (fun h _ => 256 - (intOf h).toNat)
          case atStart => exact ⟨k, by omega, rfl, HE.out, hrow2, hbx2, hB2⟩
          case round =>
            clear hrow2 hbx2 hB2 HE
            obtain ⟨j, hj, rfl, hE, hrow, hbx, hB⟩ := hrel
            obtain ⟨e0, e1, e2, e3⟩ := hbx.cells
            obtain ⟨nx, HN, hT, hF⟩ : ∃ nx : Bool, (∀ w, Calls Try.prog 15 #[.agg #[.int .u64 s.a, .int .u64 s.b, .int .u64 s.c, .int .u64 s.d], .int .i64 ((j : Int) + 1)] w fun e w' => e = .returned (.bool nx) ∧ Below w.heap.size w w') ∧ (nx = true → j < 255 ∧ ext s (255 - (j + 1)) (j + 1) = E) ∧ (nx = false → E = j) := by
              by_cases hj5 : j = 255
              · subst hj5
                exact ⟨false, fun w => rhas_out s _ w (.inr (by decide)), fun h => (by cases h), fun _ => hE.symm.trans (ext_end s)⟩
              · refine ⟨s.has (j + 1), fun w => ?_, fun h => ⟨by omega, by rw [← ext_step s j (by omega) h]; exact hE⟩, fun h => by rw [← hE]; exact ext_stop s j (by omega) h⟩
                have := rhas_any s (j + 1) w hs (by omega)
                rw [show (((j + 1 : Nat)) : Int) = (j : Int) + 1 from by omega] at this
                exact this
            have HN' : Hid _ := HN
            clear HN hE
            cases nx with
            | true =>
              obtain ⟨h5, hE'⟩ := hT rfl
              have HE' : Hid _ := hE'
              clear hT hF hE'
              go_wp2_with (go_at_call 15; refine (HN'.out _).mono ?_)
              rintro e w3 ⟨rfl, hb3⟩
              have hrow3 := row_below hrow hb3
              have hbx3 := hbx.below hb3
              have hB3 := below_of hB hb3
              go_wp2
              exact ⟨⟨j + 1, by omega, by go_num, HE'.out, hrow3, hbx3, hB3⟩, by simp [intOf]; omega⟩
            | false =>
              have hEj : Hid _ := hF rfl
              clear hT hF
              go_wp2_with (go_at_call 15; refine (HN'.out _).mono ?_)
              rintro e w3 ⟨rfl, hb3⟩
              have hrow3 := row_below hrow hb3
              have hbx3 := hbx.below hb3
              have hB3 := below_of hB hb3
              go_wp2_with (at_builtin; refine wpList_append_own _ rfl _ _ 41 rfl w.heap.size 46 i0 (.agg #[.int .i64 0, .int .i64 0]) 2 16 Try.underlying41 hi0 hz0 hz1 hz2 rfl (by decide) _ _ _ rfl (hrow3.alloc _) ⟨w3.heap.size, 0, none⟩ 1 1 [.int .i64 k, .int .i64 j] rfl rfl ?c1 ?c2 ?c3 ?c4 ?c5 ?_)
              case c1 => exact two_new _ _ _ _
              case c2 => intro u hu; simp at hu; rcases hu with rfl | rfl <;> rfl
              case c3 => unfold maxLen; omega
              case c4 => omega
              case c5 => have := hB3.size; simp; omega
              intro v' w4 hown' hgrow _
              have hbx4 := (hbx3.alloc (.cells #[.int .i64 (k : Int), .int .i64 (j : Int)] 46)).kept hgrow (hbx3.not_row (by decide) hrow3)
              have hB4 := (hB3.alloc hB3.size (.cells #[.int .i64 (k : Int), .int .i64 (j : Int)] 46)).grown hgrow (by have := hB3.size; simp; omega) (fun j hj => (hrow3.lt j hj).1)
              obtain ⟨g', cap', rfl⟩ := ownsRow_succ hown'
              go_wp2
              exact ⟨⟨k + 1, by omega, by go_num, by rw [EY.out, rcells_snoc, List.length_append, hEj.out]; exact hown', hbx4, hB4⟩, by simp [intOf]; omega⟩
    · obtain rfl : k = 256 := by omega
      go_wp2
      go_ret
      exact ⟨_, rfl, hrow, hB⟩

end Go.Proofs.Ytpjnohpjdmgglaa
