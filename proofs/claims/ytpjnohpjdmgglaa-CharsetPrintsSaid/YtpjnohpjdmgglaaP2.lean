/- The document's own answer Print, at every set and in every memory: the text that the program prints. -/
import Derived.Test.YtpjnohpjdmgglaaW9
import Derived.Test.YtpjnohpjdmgglaaS1
import Derived.Test.YtpjnohpjdmgglaaP1
import Derived.BigQuiet
namespace Go.Proofs.Ytpjnohpjdmgglaa
open Go.RowKit

theorem cat_eq (l m : List UInt8) : (⟨l.toArray⟩ : ByteArray) ++ ⟨m.toArray⟩ = ⟨(l ++ m).toArray⟩ := by
  apply ByteArray.ext; simp [ByteArray.data_append]
theorem cat_run (l m : List UInt8) (h : l.length + m.length ≤ 100000) (W : World) : (Op.stringOp .add ⟨l.toArray⟩ ⟨m.toArray⟩).run Try.prog W = .ok (.string ⟨(l ++ m).toArray⟩) W := by
  rw [run_string_add_sum W _ _ (by simp [ByteArray.size]; omega), cat_eq]
theorem str_eq {a b : ByteArray} (h : a = b) : Value.string a = .string b := by rw [h]

set_option maxHeartbeats 4000000 in
set_option maxRecDepth 100000 in
theorem rprint_any (s : St) (hs : s.ok) (w : World) :
    Calls Try.prog 30 #[.agg #[.int .u64 s.a, .int .u64 s.b, .int .u64 s.c, .int .u64 s.d]] w fun e w' => e = .returned (.string ⟨(printL s).toArray⟩) ∧ Below w.heap.size w w' := by
  have hsm := (runs_small s 256 (Nat.le_refl _)).1
  have hcnt := runs_count s
  have HR : Hid _ := fun w => rruns_any s hs w
  have HP : Hid (printL s = textL (runsOf (upTo s 256)) ++ [93]) := rfl
  rw [runs_eq] at HR
  generalize runsOf (upTo s 256) = rs at *
  have b0 := SBox.new s w
  have hB0 : Below w.heap.size w (w.alloc (.cells #[.int .u64 s.a, .int .u64 s.b, .int .u64 s.c, .int .u64 s.d] 26)) := (Below.refl _ _).alloc (Nat.le_refl _) _
  go_enter Try.func30, Try.ntmps30
  go_wp2_with (go_at_call 28; refine (HR.out _).mono ?_)
  rintro e w2 ⟨v, rfl, hrow, hb2⟩
  have hB2 := below_of hB0 hb2
  rcases hrow.2 with ⟨rfl, hn⟩ | ⟨g, cap, cur, rfl, hgb, hg2, _, _, _, htk⟩
  · obtain rfl : rs = [] := List.length_eq_zero_iff.1 hn
    clear HR b0 hB0 hrow hb2 hsm hcnt
    go_wp2
    refine wp_loop_rounds 1 ?_
    rw [rounds_succ]
    go_wp2
    go_ret
    refine ⟨ret_str (by rw [HP.out]; rfl), hB2⟩
  · have HROW : Hid _ := fun k hk => row_get htk k hk
    clear htk HR b0 hB0 hrow hb2
    go_wp2
    go_loopw [3, 5] (fun t i wr => ∃ k : Nat, k ≤ rs.length ∧ i = .int .i64 k ∧ t = .string ⟨(textL (rs.take k)).toArray⟩ ∧ wr.heap[g]? = some (.cells cur 46 (0, 0)) ∧ Below w.heap.size w wr) (fun _ i _ => rs.length - (intOf i).toNat)
    case atStart => exact ⟨0, by omega, rfl, rfl, hg2, hB2⟩
    case round =>
      obtain ⟨k, hk, rfl, rfl, hg, hB⟩ := hrel
      clear hg2 hB2
      by_cases hlt : k < rs.length
      · obtain ⟨r1, r2⟩ := HROW.out k hlt
        have q1 := cellAt46 hg r1
        have q2 := cellAt46 hg r2
        have hmem : rs.getD k (0, 0) ∈ rs := by
          rw [List.getD_eq_getElem?_getD, List.getElem?_eq_getElem hlt]; exact List.getElem_mem _
        obtain ⟨s1, s2, s3⟩ := hsm _ hmem
        have HT : Hid (textL (rs.take (k + 1)) = textL (rs.take k) ++ itemL (rs.getD k (0, 0))) := by
          show _ = _
          rw [List.take_succ_eq_append_getElem hlt, textL_snoc]
          simp [List.getD_eq_getElem?_getD, List.getElem?_eq_getElem hlt]
        have hlen : (textL (rs.take k)).length ≤ 1 + 9 * k := by
          have := text_le (rs.take k) (fun r hr => ⟨(hsm r (List.mem_of_mem_take hr)).1, (hsm r (List.mem_of_mem_take hr)).2.1⟩)
          rw [List.length_take] at this; omega
        clear hmem
        generalize rs.getD k (0, 0) = r at *
        obtain ⟨lo, hi⟩ := r
        simp only at *
        generalize textL (rs.take k) = l at *
        have SL : Hid _ := fun w => rsign_any lo w s1
        go_wp2_with (go_at_call 40; refine (SL.out _).mono ?_)
        rintro e w3 ⟨rfl, hb3⟩
        have hg3 := (hb3.block g (heap_lt hg)).trans hg
        have hB3 := below_of hB hb3
        have q1 := cellAt46 hg3 r1
        have q2 := cellAt46 hg3 r2
        clear hb3 SL
        have p2 := sign_le lo s1
        have cat1 := cat_run l (signL lo) (by omega)
        obtain ⟨l1, hl1⟩ : ∃ l1, l ++ signL lo = l1 := ⟨_, rfl⟩
        have len1 : l1.length ≤ 1 + 9 * k + 4 := by rw [← hl1]; simp; omega
        have HL1 : Hid _ := hl1
        rw [hl1] at cat1
        clear hl1
        by_cases h1 : lo < hi
        · have SH : Hid _ := fun w => rsign_any hi w s2
          have g2 : ((hi : Int) != (lo : Int)) = true := by rw [bne_iff_ne]; omega
          by_cases h2 : lo + 1 < hi
          · have g1 : decide ((2 : Int) ≤ (hi : Int) - (lo : Int)) = true := by simp; omega
            have HI : Hid (itemL (lo, hi) = signL lo ++ [UInt8.ofNat 45] ++ signL hi) := by
              show _ = _; unfold itemL; simp only; rw [if_pos h2, if_pos h1]; simp
            have p4 := sign_le hi s2
            have cat2 : ∀ W, (Op.stringOp .add ⟨l1.toArray⟩ ⟨#[45]⟩).run Try.prog W = .ok (.string ⟨(l1 ++ [45]).toArray⟩) W := cat_run l1 [45] (by simp; omega)
            obtain ⟨l2, hl2⟩ : ∃ l2, l1 ++ [45] = l2 := ⟨_, rfl⟩
            have len2 : l2.length ≤ 1 + 9 * k + 5 := by rw [← hl2]; simp; omega
            have HL2 : Hid _ := hl2
            rw [hl2] at cat2
            clear hl2
            have cat3 := cat_run l2 (signL hi) (by omega)
            obtain ⟨l3, hl3⟩ : ∃ l3, l2 ++ signL hi = l3 := ⟨_, rfl⟩
            have HL3 : Hid _ := hl3
            rw [hl3] at cat3
            clear hl3
            go_wp2
            go_quiet (fail)
            go_wp2
            go_quiet (fail)
            go_wp2_with (go_at_call 40; refine (SH.out _).mono ?_)
            rintro e w4 ⟨rfl, hb4⟩
            have hg4 := (hb4.block g (heap_lt (by simpa using hg3))).trans (by simpa using hg3)
            have hB4 := below_of (below_drewN hB3 _) hb4
            go_wp2
            refine ⟨⟨k + 1, by omega, by go_num, ?_, hg4, hB4⟩, by simp [intOf]; omega⟩
            rw [HT.out, HI.out, ← HL3.out, ← HL2.out, ← HL1.out]
            simp
          · have g1 : decide ((2 : Int) ≤ (hi : Int) - (lo : Int)) = false := by simp; omega
            have HI : Hid (itemL (lo, hi) = signL lo ++ signL hi) := by
              show _ = _; unfold itemL; simp only; rw [if_neg h2, if_pos h1]; simp
            have p4 := sign_le hi s2
            have cat3 := cat_run l1 (signL hi) (by omega)
            obtain ⟨l3, hl3⟩ : ∃ l3, l1 ++ signL hi = l3 := ⟨_, rfl⟩
            have HL3 : Hid _ := hl3
            rw [hl3] at cat3
            clear hl3
            go_wp2
            go_quiet (fail)
            go_wp2
            go_quiet (fail)
            go_wp2_with (go_at_call 40; refine (SH.out _).mono ?_)
            rintro e w4 ⟨rfl, hb4⟩
            have hg4 := (hb4.block g (heap_lt (by simpa using hg3))).trans (by simpa using hg3)
            have hB4 := below_of (below_drewN hB3 _) hb4
            go_wp2
            refine ⟨⟨k + 1, by omega, by go_num, ?_, hg4, hB4⟩, by simp [intOf]; omega⟩
            rw [HT.out, HI.out, ← HL3.out, ← HL1.out]
            simp
        · have g1 : decide ((2 : Int) ≤ (hi : Int) - (lo : Int)) = false := by simp; omega
          obtain rfl : hi = lo := by omega
          have HI : Hid (itemL (hi, hi) = signL hi) := by
            show _ = _; unfold itemL; simp only; rw [if_neg (by omega), if_neg h1]; simp
          go_wp2
          go_quiet (fail)
          go_wp2
          go_quiet (fail)
          go_wp2
          refine ⟨⟨k + 1, by omega, by go_num, ?_, by simpa using hg3, below_drewN hB3 _⟩, by simp [intOf]; omega⟩
          rw [HT.out, HI.out, ← HL1.out]
      · have e : rs.take k = rs := List.take_of_length_le (by omega)
        rw [e]
        have hlen : (textL rs).length ≤ 1 + 9 * rs.length := text_le rs (fun r hr => ⟨(hsm r hr).1, (hsm r hr).2.1⟩)
        have cat1 : ∀ W, (Op.stringOp .add ⟨(textL rs).toArray⟩ ⟨#[93]⟩).run Try.prog W = .ok (.string ⟨(textL rs ++ [93]).toArray⟩) W := cat_run (textL rs) [93] (by simp; omega)
        generalize textL rs = l at *
        obtain ⟨l3, hl3⟩ : ∃ l3, l ++ [93] = l3 := ⟨_, rfl⟩
        rw [hl3] at HP cat1
        go_wp2
        go_ret
        exact ⟨ret_str (by rw [HP.out]), hB⟩
end Go.Proofs.Ytpjnohpjdmgglaa
