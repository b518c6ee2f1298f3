/- The document's own digits. -/
import Derived.Test.YtlnlkbkmnkjbhaaDoorT6
namespace Go.Proofs.YtlnlkbkmnkjbhaaDoor
open Go.RowKit Go.Shelf

theorem cat_eq (l m : List UInt8) : (bstr l) ++ (bstr m) = bstr (l ++ m) := by
  unfold bstr
  apply ByteArray.ext
  simp [ByteArray.data_append]
theorem bstr_size (l : List UInt8) : (bstr l).size = l.length := by simp [bstr, ByteArray.size]
theorem cat_run (l m : List UInt8) (h : l.length + m.length ≤ 100000000000000) (W : World) : (Op.stringOp .add (bstr l) (bstr m)).run Tryd.prog W = .ok (.string (bstr (l ++ m))) W := by
  rw [run_string_add_sum W _ _ (by rw [bstr_size, bstr_size]; omega), cat_eq]
theorem one_conv (W : World) (c : UInt8) : (convert 40 9 (.slice (some ⟨W.heap.size, 0, none⟩) 1 1)).run Tryd.prog (W.alloc (.cells #[.int .u8 (c.toNat : Int)] 5)) = .ok (.string (bstr [c])) (W.alloc (.cells #[.int .u8 (c.toNat : Int)] 5)) := by
  refine run_convert_bytes_back _ 40 9 5 ⟨W.heap.size, 0, none⟩ 1 [c] Tryd.underlying40 Tryd.underlying5 Tryd.underlying9 ?_
  intro j hj
  have h0 : j = 0 := by simp at hj; exact hj
  subst h0
  have e : (⟨W.heap.size, 0, none⟩ : Addr).add 0 = ⟨W.heap.size, 0, none⟩ := rfl
  rw [e]
  exact cell_new 0 rfl
set_option maxRecDepth 100000 in
set_option maxHeartbeats 4000000 in
theorem digits_any (n : Nat) (hn : n ≤ 999999) (w : World) : Calls Tryd.prog 76 #[.int .i64 (n : Int)] w fun e w' => e = .returned (.string (bstr (Lib.decDigits n))) ∧ Below w.heap.size w w' := by
  go_enter Tryd.func76, Tryd.ntmps76
  go_wp2
  go_loopw [0, 3] (fun a b W => ∃ (u : Nat) (out : List UInt8), u ≤ n ∧ a = .int .i64 (u : Int) ∧ b = .string (bstr out) ∧ Lib.decDigits u ++ out = Lib.decDigits n ∧ Below w.heap.size w W) (fun a _ _ => (intOf a).toNat)
  case atStart => exact ⟨n, [], Nat.le_refl _, rfl, rfl, by simp, Below.refl _ _⟩
  case round =>
    obtain ⟨u, out, hu, rfl, rfl, he, hb⟩ := hrel
    obtain ⟨m, hm⟩ : ∃ m, u % 10 = m := ⟨_, rfl⟩
    obtain ⟨q, hq⟩ : ∃ q, u / 10 = q := ⟨_, rfl⟩
    have hmI : (u : Int) % 10 = (m : Int) := by omega
    have hqI : (u : Int) / 10 = (q : Int) := by omega
    have hm10 : m < 10 := by omega
    have hol : out.length ≤ 6 := by
      have h1 := decDigits_len 5 n (by omega)
      have h2 := congrArg List.length he
      simp at h2; omega
    have hc : ((UInt8.ofNat (48 + m)).toNat : Int) = 48 + (m : Int) := by
      rw [UInt8.toNat_ofNat']; omega
    have hcv := one_conv wr (UInt8.ofNat (48 + m))
    rw [hc] at hcv
    have hcat := fun W => cat_run [UInt8.ofNat (48 + m)] out (by simp; omega) W
    have hB2 : Below w.heap.size w (wr.alloc (.cells #[.int .u8 (48 + (m : Int))] 5)) := hb.alloc hb.size _
    have HB2 : Hid _ := hB2
    have HEQ : Hid _ := he
    have HM : Hid _ := hm
    have HQ : Hid _ := hq
    obtain ⟨t1, ht1⟩ : ∃ t1, bstr [UInt8.ofNat (48 + m)] = t1 := ⟨_, rfl⟩
    obtain ⟨t2, ht2⟩ : ∃ t2, bstr ([UInt8.ofNat (48 + m)] ++ out) = t2 := ⟨_, rfl⟩
    have HT2 : Hid _ := ht2
    rw [ht1] at hcv hcat
    rw [ht2] at hcat
    clear hb he hc hm hq ht1 ht2 hB2
    by_cases hq0 : q = 0
    · have hqe : ((q : Int) == 0) = true := by simp [hq0]
      have HQ0 : Hid _ := hq0
      clear hq0
      go_wp2
      go_ret
      refine ⟨?_, HB2.out⟩
      rw [← HT2.out, ← HEQ.out]
      have hu10 : u < 10 := by have := HQ.out; have := HQ0.out; omega
      have hmm : u = m := by have := HM.out; omega
      rw [Lib.decDigits, dif_pos hu10, hmm]
      rfl
    · have hqe : ((q : Int) == 0) = false := by simp [hq0]
      have hq0' : ¬ q = 0 := hq0
      have HQ0 : Hid _ := hq0
      clear hq0
      go_wp2
      go_roundw
      case rel =>
        refine ⟨q, _, ?_, rfl, by rw [← HT2.out], ?_, HB2.out⟩
        · have := HQ.out; omega
        · have hu10 : ¬ u < 10 := by have := HQ.out; have := HQ0.out; omega
          rw [← HEQ.out, Lib.decDigits.eq_1 u, dif_neg hu10, HQ.out, HM.out]
          simp
      case measure => simp [intOf]; have := HQ.out; have := HQ0.out; omega
end Go.Proofs.YtlnlkbkmnkjbhaaDoor
