/- In each width the same is written, but for breaks and blanks: the walk. -/
import Derived.Test.YtbmejfcbladofaaG0
import Derived.Laws.Concat
namespace Go.Proofs.Ytbmejfcbladofaa
open Go.RowKit

theorem cat_eq (l m : List UInt8) : (⟨l.toArray⟩ : ByteArray) ++ ⟨m.toArray⟩ = ⟨(l ++ m).toArray⟩ := by
  apply ByteArray.ext
  rw [ByteArray.data_append]
  simp
theorem cat_run (l m : List UInt8) (h : l.length + m.length ≤ 1000000000) (W : World) : (Op.stringOp .add ⟨l.toArray⟩ ⟨m.toArray⟩).run Try.prog W = .ok (.string ⟨(l ++ m).toArray⟩) W := by
  rw [run_string_add_sum W _ _ (by simp [ByteArray.size]; omega), cat_eq]
theorem wo_take {x : ByteArray} {k : Nat} (h : k < x.size) : wo (x.data.toList.take (k + 1)) = wo (x.data.toList.take k) ++ (if bt x k = 10 ∨ bt x k = 32 then [] else [(bt x k).toUInt8]) := by
  obtain ⟨u, hu, e⟩ := bt_take x k h
  rw [e, wo_app, hu]
  congr 1
  by_cases a : u = 10
  · subst a; rfl
  · have a' : ¬ u.toNat = 10 := fun e => a (UInt8.toNat_inj.1 e)
    by_cases b : u = 32
    · subst b; rfl
    · have b' : ¬ u.toNat = 32 := fun e => b (UInt8.toNat_inj.1 e)
      simp [wo, woB, a, b, a', b']
set_option maxRecDepth 100000 in
set_option maxHeartbeats 4000000 in
theorem without_any (x : ByteArray) (w : World) (hx : x.size ≤ 1000000) : Calls Try.prog 17 #[.string x] w fun e w' => e = .returned (.string ⟨(wo x.data.toList).toArray⟩) ∧ Below w.heap.size w w' := by
  obtain ⟨i0, hinf, hz0, hz1, hz2⟩ := info_parts info5
  go_enter Try.func17, Try.ntmps17
  go_wp2
  go_loopw [3, 4] (fun v iv W => ∃ (k : Nat) (l : List UInt8), k ≤ x.size ∧ iv = .int .i64 k ∧ l = wo (x.data.toList.take k) ∧ l.length ≤ k ∧ W.ownsRow w.heap.size 5 1 v l.length (bytesU l) ∧ Below w.heap.size w W) (fun _ iv _ => x.size - (intOf iv).toNat)
  case atStart => exact ⟨0, [], Nat.zero_le _, rfl, rfl, Nat.zero_le _, World.ownsRow_nil _ _ _ _, Below.refl _ _⟩
  case round =>
    obtain ⟨k, l, hk, rfl, hl, hlk, hrow, hB⟩ := hrel
    have HL : Hid _ := hl
    clear hl
    by_cases hlt : k < x.size
    · have hlt' : (k : Int) < x.size := by omega
      have hbt := bt_eq x k hlt
      have HT : Hid _ := wo_take hlt
      have hc256 := bt_lt x k
      generalize bt x k = c at *
      by_cases h1 : c = 10
      · subst h1
        have HE : Hid (wo (x.data.toList.take (k + 1)) = l) := by show _ = _; rw [HT.out, HL.out]; simp
        clear HT HL
        go_wp2
        go_roundw
        case rel => exact ⟨k + 1, l, by omega, by go_num, HE.out.symm, by omega, hrow, hB⟩
        case measure => simp [intOf]; omega
      · have h1' : ((c : Int) != 10) = true := by simp; omega
        have h1n : ¬ (c : Int) = 10 := by omega
        by_cases h2 : c = 32
        · subst h2
          have HE : Hid (wo (x.data.toList.take (k + 1)) = l) := by show _ = _; rw [HT.out, HL.out]; simp
          clear HT HL h1 h1' h1n
          go_wp2
          go_roundw
          case rel => exact ⟨k + 1, l, by omega, by go_num, HE.out.symm, by omega, hrow, hB⟩
          case measure => simp [intOf]; omega
        · have h2' : ((c : Int) != 32) = true := by simp; omega
          have h2n : ¬ (c : Int) = 32 := by omega
          have HE : Hid (wo (x.data.toList.take (k + 1)) = l ++ [c.toUInt8]) := by show _ = _; rw [HT.out, HL.out, if_neg (by omega)]
          clear HT HL h1 h2
          go_wp2_with (at_builtin; refine wpList_append_own _ rfl _ _ 40 rfl w.heap.size 5 i0 (.int .u8 0) 1 1 Try.underlying40 hinf hz0 hz1 hz2 rfl (by decide) _ _ _ rfl (hrow.alloc _) ⟨wr.heap.size, 0, none⟩ 1 1 [.int .u8 ((c : Nat) : Int)] rfl rfl ?cb1 ?cb2 ?cb3 ?cb4 ?cb5 ?_)
          try case cb1 => exact cells_new _ _ _
          case cb2 => first | rfl | (intro u hu; simp at hu; subst hu; rfl) | simp
          case cb3 => unfold maxLen; omega
          case cb4 => omega
          case cb5 => first | omega | (have := hB.size; simp; omega)
          intro v' w6 hown' hgrow _
          have hB6 := (hB.alloc hB.size (.cells #[.int .u8 ((c : Nat) : Int)] 5)).grown hgrow (by have := hB.size; simp; omega) (fun j hj => by have := (hrow.lt j hj).1; omega)
          obtain ⟨g', cap', rfl⟩ := ownsRow_succ hown'
          have HW6 : Hid (w6.ownsRow w.heap.size 5 1 (.slice (some ⟨g', 0, none⟩) (l.length + 1) cap') (l ++ [c.toUInt8]).length (bytesU (l ++ [c.toUInt8]))) := by
            show World.ownsRow _ _ _ _ _ _ _
            rw [bytesU_app, List.length_append]
            have : bytesU [c.toUInt8] = [.int .u8 ((c : Nat) : Int)] := by simp [bytesU, Nat.mod_eq_of_lt hc256]
            rw [this]; exact hown'
          have HB6 : Hid _ := hB6
          clear hown' hgrow hB6 hrow hB
          go_wp2
          go_roundw
          case rel => exact ⟨k + 1, l ++ [c.toUInt8], by omega, by go_num, HE.out.symm, by simp; omega, HW6.out, HB6.out⟩
          case measure => simp [intOf]; omega
    · obtain rfl : k = x.size := by omega
      have HE : Hid (l = wo x.data.toList) := by show _ = _; rw [HL.out, List.take_of_length_le (by simp)]
      have hcv := conv_row hrow
      obtain ⟨va, vc, rfl⟩ := row_slice hrow
      clear HL hrow
      go_wp2
      go_ret
      exact ⟨by rw [HE.out]; rfl, hB⟩
end Go.Proofs.Ytbmejfcbladofaa
