/- A tree's text, and its Print: the document's own. -/
import Derived.Test.YtlnlkbkmnkjbhaaDoorT9
namespace Go.Proofs.YtlnlkbkmnkjbhaaDoor
open Go.RowKit Go.Shelf

set_option maxRecDepth 100000 in
set_option maxHeartbeats 4000000 in
theorem refText_any (f : Nat) : ∀ (N : Nat) (d : Tr) (sa : Option Addr) (sc : Nat) (w : World), sz d ≤ N → TAt w w.heap.size f sa d.kids → pl d = true → sz d ≤ 1000000000000 →
    Calls Tryd.prog 56 #[.agg #[.int .i64 d.rule, .int .u8 (d.byte.toNat : Int), .slice sa d.kids.length sc]] w fun e w' => e = .returned (.string (bstr (txt d))) ∧ Below w.heap.size w w' := by
  intro N
  induction N with
  | zero => intro d sa sc w hN; rw [sz_eq] at hN; omega
  | succ N ih =>
  intro d sa sc w hN hk hpl hlim
  by_cases hr : d.rule = -1
  · exact refText_leaf d _ w hr
  have hlen := hk.len
  have hsz := sz_eq d
  have hpn := hpl
  rw [pl_node hr] at hpn
  simp only [Bool.and_eq_true] at hpn
  have hrr : 0 ≤ d.rule ∧ d.rule ≤ 999999 := by
    have h := hpn.1
    unfold isPl at h; rw [if_neg hr] at h
    simp only [Bool.and_eq_true, decide_eq_true_eq] at h
    exact ⟨h.1.2, h.2⟩
  have HPK : Hid (∀ x ∈ d.kids, pl x = true) := by have h := hpn.2; rw [plL_all, List.all_eq_true] at h; exact h
  obtain ⟨w1, hw1⟩ : ∃ w1, w.alloc (.cells #[.int .i64 d.rule, .int .u8 (d.byte.toNat : Int), .slice sa d.kids.length sc] 27) = w1 := ⟨_, rfl⟩
  have hB1 : Below w.heap.size w w1 := by rw [← hw1]; exact (Below.refl _ _).alloc (Nat.le_refl _) _
  have s1 : w1.heap.size = w.heap.size + 1 := by rw [← hw1]; simp
  have hc1 : ∀ j v, (#[.int .i64 d.rule, .int .u8 (d.byte.toNat : Int), .slice sa d.kids.length sc] : Array Value)[j]? = some v → w1.cell? ⟨w.heap.size, j, none⟩ = some v := fun j v hv => by rw [← hw1]; exact cell_new j hv
  have HCE : Hid (∀ W, Below w1.heap.size w1 W → W.cell? ⟨w.heap.size, 0, none⟩ = some (.int .i64 d.rule) ∧ W.cell? ⟨w.heap.size, 1, none⟩ = some (.int .u8 (d.byte.toNat : Int)) ∧ W.cell? ⟨w.heap.size, 2, none⟩ = some (.slice sa d.kids.length sc)) := fun W h => by
    have k : ∀ q, W.cell? ⟨w.heap.size, q, none⟩ = w1.cell? ⟨w.heap.size, q, none⟩ := fun q => h.cell (p := ⟨w.heap.size, q, none⟩) (by show w.heap.size < _; omega)
    exact ⟨(k 0).trans (hc1 0 _ rfl), (k 1).trans (hc1 1 _ rfl), (k 2).trans (hc1 2 _ rfl)⟩
  have HK : Hid (∀ W, Below w1.heap.size w1 W → TAt W W.heap.size f sa d.kids) := fun W h => ((hk.keep hB1).mono hB1.size |>.keep h).mono h.size
  have HB1 : Hid _ := hB1
  have HW : Hid (∀ W, Below w1.heap.size w1 W → Below w.heap.size w W) := fun W h => hB1.trans (h.mono hB1.size)
  obtain ⟨a0, a1, a2⟩ := HCE.out w1 (Below.refl _ _)
  have hre : (d.rule == -1) = false := by simpa using hr
  have HTX : Hid _ := txt_node hr
  have hil := itoa_len hrr.1 hrr.2
  have hdg := digits_any d.rule.toNat (by omega) w1
  rw [show ((d.rule.toNat : Nat) : Int) = d.rule by omega, ← itoa_nat hrr.1] at hdg
  have HDG : Hid _ := fun (_ : Unit) => hdg
  have HI : Hid _ := ih
  have HN : Hid _ := hN
  have HZ : Hid _ := hsz
  have HLI : Hid _ := hlim
  have hcat1 := fun W => cat_run (Lib.itoa d.rule) [40] (by simp; omega) W
  have e40 : (⟨#[40]⟩ : ByteArray) = bstr [40] := rfl
  have e32 : (⟨#[32]⟩ : ByteArray) = bstr [32] := rfl
  have e41 : (⟨#[41]⟩ : ByteArray) = bstr [41] := rfl
  have E40 : Hid _ := e40
  rw [← e40] at hcat1
  obtain ⟨t0, ht0⟩ : ∃ t0, bstr (Lib.itoa d.rule) = t0 := ⟨_, rfl⟩
  rw [ht0] at hcat1 HDG
  obtain ⟨acc0, hacc0⟩ : ∃ acc0, Lib.itoa d.rule ++ [40] = acc0 := ⟨_, rfl⟩
  rw [hacc0] at hcat1
  have HAL : Hid (acc0.length ≤ 7) := by show _ ≤ _; rw [← hacc0, List.length_append]; simp; omega
  have HTOT : Hid (txt d = acc0 ++ txtL true d.kids ++ [41]) := by show _ = _; rw [HTX.out, ← hacc0]; simp
  have HE32 : Hid _ := e32
  have HE41 : Hid _ := e41
  clear hB1 hc1 hk s1 ih hN hsz hpn hpl hlim hr hdg ht0 hacc0 e40 e32 e41 hil
  go_enter Tryd.func56, Tryd.ntmps56
  go_wp2_with (go_at_call 76; refine (HDG.out ()).mono ?_)
  first | rintro e w2 rfl hb2 | rintro e w2 ⟨rfl, hb2⟩
  obtain ⟨b0, b1, b2⟩ := HCE.out w2 hb2
  have HB2 : Hid _ := hb2
  clear hb2 a0 a1 a2
  go_wp2
  go_loopw [3, 4] (fun v i W => ∃ (k : Nat) (acc : List UInt8), k ≤ d.kids.length ∧ i = .int .i64 k ∧ acc = acc0 ++ txtL true (d.kids.take k) ∧ v = .string (bstr acc) ∧ Below w1.heap.size w1 W) (fun _ i _ => d.kids.length - (intOf i).toNat)
  case atStart => exact ⟨0, acc0, by omega, rfl, by simp [txtL], rfl, HB2.out⟩
  case round =>
    obtain ⟨k, acc, hkl, rfl, hacc, rfl, hB⟩ := hrel
    have HAA : Hid _ := hacc
    have HB : Hid _ := hB
    obtain ⟨d0, d1, d2⟩ := HCE.out wr hB
    have hplt : plL (d.kids.take k) = true := by
      rw [plL_all, List.all_eq_true]; exact fun x hx => HPK.out x (List.mem_of_mem_take hx)
    have hacl : acc.length ≤ 7 + 10 * szL (d.kids.take k) := by
      rw [hacc, List.length_append]; have := txtL_le _ true hplt; have := HAL.out; omega
    have hle0 := szL_take_le d.kids k
    have hac2 : acc.length ≤ 20000000000000 := by have := HLI.out; have := HZ.out; omega
    clear hB hacc hplt b0 b1 b2 hacl hle0
    by_cases hlt : k < d.kids.length
    · obtain ⟨x, hx⟩ : ∃ x, d.kids[k]? = some x := ⟨d.kids[k], by simp [hlt]⟩
      obtain ⟨b, o, hsa, hb, xa, xc, c0, c1, c2, hxc, hxk⟩ := (HK.out wr HB.out).one hx
      have hzx := szL_take hx
      have hle := szL_take_le d.kids (k + 1)
      have hplx := HPK.out x (List.mem_of_getElem? hx)
      have hxs : sz x ≤ 1000000000000 := by have := HLI.out; have := HZ.out; omega
      have htx := txt_le x hplx
      have HE : Hid (acc ++ (if k = 0 then [] else [32]) ++ txt x = acc0 ++ txtL true (d.kids.take (k + 1))) := by
        show _ = _
        rw [List.take_add_one, hx]
        simp only [Option.toList_some]
        rw [txtL_snoc, HAA.out]
        have e : (true && (d.kids.take k).isEmpty) = decide (k = 0) := by
          cases k with
          | zero => simp
          | succ k => simp; intro h; rw [h] at hlt; simp at hlt
        rw [e]
        by_cases h0 : k = 0 <;> simp [h0]
      have HC : Hid _ := fun (_ : Unit) => HI.out x xa xc wr (by have := HN.out; have := HZ.out; omega) hxk hplx hxs
      subst hsa
      by_cases h0 : k = 0
      · rw [if_pos h0, List.append_nil] at HE
        have h0I : decide ((0 : Int) < (k : Int)) = false := by simp; omega
        have h0N : ¬ (0 : Int) < (k : Int) := by omega
        have hcat := fun W => cat_run acc (txt x) (by omega) W
        obtain ⟨t1, ht1⟩ : ∃ t1, bstr acc = t1 := ⟨_, rfl⟩
        obtain ⟨t2, ht2⟩ : ∃ t2, bstr (txt x) = t2 := ⟨_, rfl⟩
        obtain ⟨t3, ht3⟩ : ∃ t3, bstr (acc ++ txt x) = t3 := ⟨_, rfl⟩
        rw [ht1, ht2, ht3] at hcat
        rw [ht2] at HC
        rw [ht1]
        have HT3 : Hid _ := ht3
        clear hzx hle hplx hxs htx hx hxk h0 ht1 ht2 ht3
        go_wp2_with (go_at_call 56; refine (HC.out ()).mono ?_)
        first | rintro e w3 rfl hb3 | rintro e w3 ⟨rfl, hb3⟩
        have HB3 : Hid (Below w1.heap.size w1 w3) := HB.out.trans (hb3.mono HB.out.size)
        clear hb3
        go_wp2
        go_roundw
        case rel => exact ⟨k + 1, _, by omega, by go_num, HE.out, by rw [← HT3.out], HB3.out⟩
        case measure => simp [intOf]; omega
      · rw [if_neg h0] at HE
        have h0I : decide ((0 : Int) < (k : Int)) = true := by simp; omega
        have h0N : (0 : Int) < (k : Int) := by omega
        have hcat1' := fun W => cat_run acc [32] (by simp; omega) W
        have hcat := fun W => cat_run (acc ++ [32]) (txt x) (by simp; omega) W
        rw [← HE32.out] at hcat1'
        obtain ⟨t1, ht1⟩ : ∃ t1, bstr acc = t1 := ⟨_, rfl⟩
        obtain ⟨t2, ht2⟩ : ∃ t2, bstr (txt x) = t2 := ⟨_, rfl⟩
        obtain ⟨t3, ht3⟩ : ∃ t3, bstr (acc ++ [32] ++ txt x) = t3 := ⟨_, rfl⟩
        obtain ⟨t4, ht4⟩ : ∃ t4, bstr (acc ++ [32]) = t4 := ⟨_, rfl⟩
        rw [ht4, ht2, ht3] at hcat
        rw [ht1, ht4] at hcat1'
        rw [ht2] at HC
        rw [ht1]
        have HT3 : Hid _ := ht3
        clear hzx hle hplx hxs htx hx hxk h0 ht1 ht2 ht3 ht4
        go_wp2_with (go_at_call 56; refine (HC.out ()).mono ?_)
        first | rintro e w3 rfl hb3 | rintro e w3 ⟨rfl, hb3⟩
        have HB3 : Hid (Below w1.heap.size w1 w3) := HB.out.trans (hb3.mono HB.out.size)
        clear hb3
        go_wp2
        go_roundw
        case rel => exact ⟨k + 1, _, by omega, by go_num, HE.out, by rw [← HT3.out], HB3.out⟩
        case measure => simp [intOf]; omega
    · obtain rfl : k = d.kids.length := by omega
      have HE : Hid (acc ++ [41] = txt d) := by show _ = _; rw [HTOT.out, HAA.out, List.take_length]
      have hcat := fun W => cat_run acc [41] (by simp; omega) W
      rw [← HE41.out] at hcat
      obtain ⟨t1, ht1⟩ : ∃ t1, bstr acc = t1 := ⟨_, rfl⟩
      obtain ⟨t2, ht2⟩ : ∃ t2, bstr (acc ++ [41]) = t2 := ⟨_, rfl⟩
      have HT2 : Hid _ := ht2
      rw [ht1, ht2] at hcat
      rw [ht1]
      clear ht1 ht2
      go_wp2
      go_ret
      refine ⟨?_, HW.out _ HB.out⟩
      rw [← HE.out, HT2.out]; rfl
set_option maxRecDepth 100000 in
set_option maxHeartbeats 4000000 in
theorem refPrint_any (d : Tr) (sa : Option Addr) (sc f : Nat) (w : World) (hk : TAt w w.heap.size f sa d.kids) (hlim : sz d ≤ 1000000000000) :
    Calls Tryd.prog 34 #[.agg #[.int .i64 d.rule, .int .u8 (d.byte.toNat : Int), .slice sa d.kids.length sc]] w fun e w' => e = .returned (.tuple #[.string (prt d).1, .int .i64 (prt d).2]) ∧ Below w.heap.size w w' := by
  obtain ⟨w1, hw1⟩ : ∃ w1, w.alloc (.cells #[.int .i64 d.rule, .int .u8 (d.byte.toNat : Int), .slice sa d.kids.length sc] 27) = w1 := ⟨_, rfl⟩
  have hB1 : Below w.heap.size w w1 := by rw [← hw1]; exact (Below.refl _ _).alloc (Nat.le_refl _) _
  have s1 : w1.heap.size = w.heap.size + 1 := by rw [← hw1]; simp
  have hc1 : ∀ j v, (#[.int .i64 d.rule, .int .u8 (d.byte.toNat : Int), .slice sa d.kids.length sc] : Array Value)[j]? = some v → w1.cell? ⟨w.heap.size, j, none⟩ = some v := fun j v hv => by rw [← hw1]; exact cell_new j hv
  have HCE : Hid (∀ W, Below w1.heap.size w1 W → W.cell? ⟨w.heap.size, 0, none⟩ = some (.int .i64 d.rule) ∧ W.cell? ⟨w.heap.size, 1, none⟩ = some (.int .u8 (d.byte.toNat : Int)) ∧ W.cell? ⟨w.heap.size, 2, none⟩ = some (.slice sa d.kids.length sc)) := fun W h => by
    have k : ∀ q, W.cell? ⟨w.heap.size, q, none⟩ = w1.cell? ⟨w.heap.size, q, none⟩ := fun q => h.cell (p := ⟨w.heap.size, q, none⟩) (by show w.heap.size < _; omega)
    exact ⟨(k 0).trans (hc1 0 _ rfl), (k 1).trans (hc1 1 _ rfl), (k 2).trans (hc1 2 _ rfl)⟩
  have HK : Hid (∀ W, Below w1.heap.size w1 W → TAt W W.heap.size f sa d.kids) := fun W h => ((hk.keep hB1).mono hB1.size |>.keep h).mono h.size
  have HB1 : Hid _ := hB1
  have HW : Hid (∀ W, Below w1.heap.size w1 W → Below w.heap.size w W) := fun W h => hB1.trans (h.mono hB1.size)
  obtain ⟨a0, a1, a2⟩ := HCE.out w1 (Below.refl _ _)
  have HSZ : Hid _ := fun (_ : Unit) => refSize_any f (sz d) d sa sc w1 (Nat.le_refl _) (HK.out w1 (Below.refl _ _)) hlim
  have HPL : Hid (∀ W, Below w1.heap.size w1 W → _) := fun W h => refPlain_any f (sz d) d sa sc W (Nat.le_refl _) (HK.out W h)
  have hdl := dp_le d
  have HTX : Hid (∀ W, Below w1.heap.size w1 W → pl d = true → _) := fun W h hp => refText_any f (sz d) d sa sc W (Nat.le_refl _) (HK.out W h) hp hlim
  have HLI : Hid _ := hlim
  clear hB1 hc1 hk s1 hlim
  have HP : Hid (prt d = _) := rfl
  cases hp : pl d with
  | false =>
    have HPR : Hid (prt d = (bstr [], 90)) := by show _ = _; unfold prt; rw [hp]; rfl
    rw [hp] at HPL
    clear hp HTX HP
    go_enter Tryd.func34, Tryd.ntmps34
    go_wp2_with (go_at_call 21; refine (HSZ.out ()).mono ?_)
    first | rintro e w2 rfl hb2 | rintro e w2 ⟨rfl, hb2⟩
    obtain ⟨b0, b1, b2⟩ := HCE.out w2 hb2
    have HB2 : Hid _ := hb2
    clear hb2 a0 a1 a2
    go_wp2_with (go_at_call 55; refine (HPL.out w2 HB2.out).mono ?_)
    first | rintro e w3 rfl hb3 | rintro e w3 ⟨rfl, hb3⟩
    have HB3 : Hid (Below w1.heap.size w1 w3) := HB2.out.trans (hb3.mono HB2.out.size)
    clear hb3
    go_wp2
    refine bodyPost_ret (results_tmp2 rfl _ _ _) rfl ?_
    exact ⟨by rw [HPR.out]; rfl, HW.out _ HB3.out⟩
  | true =>
    have htl := txt_le d hp
    have HTT : Hid (∀ W, Below w1.heap.size w1 W → _) := fun W h => HTX.out W h hp
    rw [hp] at HPL
    by_cases hdp : dp d ≤ 200
    · have hdI : decide ((200 : Int) < (dp d : Int)) = false := by simp; omega
      have hdN : ¬ (200 : Int) < (dp d : Int) := by omega
      have hss : (bstr (txt d)).size = (txt d).length := bstr_size _
      have HPR : Hid (prt d = if (txt d).length > 65536 then (bstr [], 2) else (bstr (txt d), 0)) := by show _ = _; unfold prt; rw [hp, decide_eq_true hdp]; rfl
      have hlb : (txt d).length ≤ 10000000000000 := by have := HLI.out; omega
      obtain ⟨t1, ht1⟩ : ∃ t1, bstr (txt d) = t1 := ⟨_, rfl⟩
      rw [ht1] at hss HTT HPR
      obtain ⟨tl, htl'⟩ : ∃ tl, (txt d).length = tl := ⟨_, rfl⟩
      rw [htl'] at hss HPR hlb
      clear hp hdp HTX HP ht1 htl htl'
      by_cases hl : tl > 65536
      · have hlI : (65536 : Int) < (tl : Int) := by omega
        rw [if_pos hl] at HPR
        clear hl
        go_enter Tryd.func34, Tryd.ntmps34
        go_wp2_with (go_at_call 21; refine (HSZ.out ()).mono ?_)
        first | rintro e w2 rfl hb2 | rintro e w2 ⟨rfl, hb2⟩
        obtain ⟨b0, b1, b2⟩ := HCE.out w2 hb2
        have HB2 : Hid _ := hb2
        clear hb2 a0 a1 a2
        go_wp2_with (go_at_call 55; refine (HPL.out w2 HB2.out).mono ?_)
        first | rintro e w3 rfl hb3 | rintro e w3 ⟨rfl, hb3⟩
        have HB3 : Hid (Below w1.heap.size w1 w3) := HB2.out.trans (hb3.mono HB2.out.size)
        obtain ⟨c0, c1, c2⟩ := HCE.out w3 HB3.out
        clear hb3 b0 b1 b2
        go_wp2_with (go_at_call 56; refine (HTT.out w3 HB3.out).mono ?_)
        first | rintro e w4 rfl hb4 | rintro e w4 ⟨rfl, hb4⟩
        have HB4 : Hid (Below w1.heap.size w1 w4) := HB3.out.trans (hb4.mono HB3.out.size)
        clear hb4
        go_wp2
        refine bodyPost_ret (results_tmp2 rfl _ _ _) rfl ?_
        exact ⟨by rw [HPR.out]; rfl, HW.out _ HB4.out⟩
      · have hlI : ¬ (65536 : Int) < (tl : Int) := by omega
        rw [if_neg hl] at HPR
        clear hl
        go_enter Tryd.func34, Tryd.ntmps34
        go_wp2_with (go_at_call 21; refine (HSZ.out ()).mono ?_)
        first | rintro e w2 rfl hb2 | rintro e w2 ⟨rfl, hb2⟩
        obtain ⟨b0, b1, b2⟩ := HCE.out w2 hb2
        have HB2 : Hid _ := hb2
        clear hb2 a0 a1 a2
        go_wp2_with (go_at_call 55; refine (HPL.out w2 HB2.out).mono ?_)
        first | rintro e w3 rfl hb3 | rintro e w3 ⟨rfl, hb3⟩
        have HB3 : Hid (Below w1.heap.size w1 w3) := HB2.out.trans (hb3.mono HB2.out.size)
        obtain ⟨c0, c1, c2⟩ := HCE.out w3 HB3.out
        clear hb3 b0 b1 b2
        go_wp2_with (go_at_call 56; refine (HTT.out w3 HB3.out).mono ?_)
        first | rintro e w4 rfl hb4 | rintro e w4 ⟨rfl, hb4⟩
        have HB4 : Hid (Below w1.heap.size w1 w4) := HB3.out.trans (hb4.mono HB3.out.size)
        clear hb4
        go_wp2
        refine bodyPost_ret (results_tmp2 rfl _ _ _) rfl ?_
        exact ⟨by rw [HPR.out]; rfl, HW.out _ HB4.out⟩
    · have hdI : decide ((200 : Int) < (dp d : Int)) = true := by simp; omega
      have hdN : (200 : Int) < (dp d : Int) := by omega
      have HPR : Hid (prt d = (bstr [], 90)) := by show _ = _; unfold prt; rw [hp, decide_eq_false hdp]; rfl
      clear hp hdp HTX HP htl HTT
      go_enter Tryd.func34, Tryd.ntmps34
      go_wp2_with (go_at_call 21; refine (HSZ.out ()).mono ?_)
      first | rintro e w2 rfl hb2 | rintro e w2 ⟨rfl, hb2⟩
      obtain ⟨b0, b1, b2⟩ := HCE.out w2 hb2
      have HB2 : Hid _ := hb2
      clear hb2 a0 a1 a2
      go_wp2_with (go_at_call 55; refine (HPL.out w2 HB2.out).mono ?_)
      first | rintro e w3 rfl hb3 | rintro e w3 ⟨rfl, hb3⟩
      have HB3 : Hid (Below w1.heap.size w1 w3) := HB2.out.trans (hb3.mono HB2.out.size)
      clear hb3
      go_wp2
      refine bodyPost_ret (results_tmp2 rfl _ _ _) rfl ?_
      exact ⟨by rw [HPR.out]; rfl, HW.out _ HB3.out⟩
end Go.Proofs.YtlnlkbkmnkjbhaaDoor
