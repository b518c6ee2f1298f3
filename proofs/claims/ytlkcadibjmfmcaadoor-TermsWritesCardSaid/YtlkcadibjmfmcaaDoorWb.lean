/- A term's text, and its Print: the document's own. -/
import Derived.Test.YtlkcadibjmfmcaaDoorWa
import Derived.Test.YtlkcadibjmfmcaaDoorAa
namespace Go.Proofs.YtlkcadibjmfmcaaDoor
open Go.RowKit Go.Shelf

theorem cat_eq (l m : List UInt8) : (bstr l) ++ (bstr m) = bstr (l ++ m) := by
  apply ByteArray.ext
  simp [bstr]
theorem bstr_len (l : List UInt8) : (bstr l).size = l.length := by show l.toArray.size = _; simp
theorem cat_run (l m : List UInt8) (h : l.length + m.length ≤ 100000000000000) (W : World) : (Op.stringOp .add (bstr l) (bstr m)).run Tryd.prog W = .ok (.string (bstr (l ++ m))) W := by
  rw [run_string_add_sum W _ _ (by rw [bstr_len, bstr_len]; omega), cat_eq]
theorem bstr_self (c : ByteArray) : bstr c.data.toList = c := by show (⟨_⟩ : ByteArray) = c; simp
mutual
theorem txt_wt : ∀ d : Tm, wl d = true → (txt d).length + 1 ≤ 300 * wt d
  | .mk k c t l, h => by
    rw [wl, Bool.and_eq_true] at h
    obtain ⟨h1, h2⟩ := h
    have ih := txtL_wt l h2 true
    rw [txt, wt]
    rcases okC_kind h1 with rfl | rfl | rfl | rfl | rfl
    · obtain ⟨hn, ht⟩ := okC_one h1
      have := (name_facts hn).2.1
      rw [if_neg (by decide), if_neg (by decide), if_neg (by decide), if_neg (by decide), List.length_append]
      have h3 : (if l.isEmpty = true then ([] : List UInt8) else [40] ++ txtL true l ++ [41]).length ≤ (txtL true l).length + 2 := by
        split
        · simp
        · simp
      omega
    · have := (qlen_le t)
      unfold qlen at this
      rw [if_pos rfl]; omega
    · rw [if_neg (by decide), if_pos rfl]; simp only [List.length_append, List.length_cons, List.length_nil]; omega
    · rw [if_neg (by decide), if_neg (by decide), if_pos rfl]; simp only [List.length_cons, List.length_nil]; omega
    · rw [if_neg (by decide), if_neg (by decide), if_neg (by decide), if_pos rfl]; simp only [List.length_append, List.length_cons, List.length_nil]; omega
theorem txtL_wt : ∀ l : List Tm, wlL l = true → ∀ b, (txtL b l).length ≤ 300 * wtL l
  | [], _, b => by rw [txtL]; simp
  | d :: l, h, b => by
    rw [wlL, Bool.and_eq_true] at h
    have h1 := txt_wt d h.1
    have h2 := txtL_wt l h.2 false
    have h3 : (if b = true then ([] : List UInt8) else [44]).length ≤ 1 := by split <;> simp
    rw [txtL, wtL, List.length_append, List.length_append]
    omega
end
theorem wtL_take_le' (l : List Tm) (k : Nat) : wtL (l.take k) ≤ wtL l := wtL_take_le l k
theorem wlL_take_all {l : List Tm} (h : wlL l = true) (k : Nat) : wlL (l.take k) = true := by
  rw [wlL_all, List.all_eq_true] at h ⊢
  exact fun x hx => h x (List.mem_of_mem_take hx)
set_option maxRecDepth 100000 in
set_option maxHeartbeats 8000000 in
theorem refText_any (f : Nat) : ∀ (N : Nat) (d : Tm) (ta : Option Addr) (tc : Nat) (sa : Option Addr) (sc : Nat) (w : World), sz d ≤ N → BAt w w.heap.size ta d.text → MAt w w.heap.size f sa d.kids → wl d = true → wt d ≤ 1000 →
    Calls Tryd.prog 49 #[.agg #[.int .i64 d.kind, .string d.cons, .slice ta d.text.length tc, .slice sa d.kids.length sc]] w fun e w' => e = .returned (.string (bstr (txt d))) ∧ Below w.heap.size w w' := by
  intro N
  induction N with
  | zero => intro d ta tc sa sc w hN; rw [sz_eq] at hN; omega
  | succ N ih =>
  intro d ta tc sa sc w hN hbt hk hwl hwt
  have hlen := hk.len
  have hsz := sz_eq d
  have hwe := wt_eq d
  have hwx := wl_eq d
  rw [hwl] at hwx
  have hwx2 : okK d = true ∧ wlL d.kids = true := by
    have := hwx.symm
    rwa [Bool.and_eq_true] at this
  have hwk := hwx2.2
  have HWK : Hid (∀ x ∈ d.kids, wl x = true) := wl_kids hwl
  have HTL : Hid (∀ k, (txtL true (d.kids.take k)).length ≤ 300000) := fun k => by
    have h1 := txtL_wt (d.kids.take k) (wlL_take_all hwk k) true
    have h2 := wtL_take_le d.kids k
    omega
  obtain ⟨w1, hw1⟩ : ∃ w1, w.alloc (.cells #[.int .i64 d.kind, .string d.cons, .slice ta d.text.length tc, .slice sa d.kids.length sc] 25) = w1 := ⟨_, rfl⟩
  have hB1 : Below w.heap.size w w1 := by rw [← hw1]; exact (Below.refl _ _).alloc (Nat.le_refl _) _
  have s1 : w1.heap.size = w.heap.size + 1 := by rw [← hw1]; simp
  have hc1 : ∀ j v, (#[.int .i64 d.kind, .string d.cons, .slice ta d.text.length tc, .slice sa d.kids.length sc] : Array Value)[j]? = some v → w1.cell? ⟨w.heap.size, j, none⟩ = some v := fun j v hv => by rw [← hw1]; exact cell_new j hv
  have HCE : Hid (∀ W, Below w1.heap.size w1 W → W.cell? ⟨w.heap.size, 0, none⟩ = some (.int .i64 d.kind) ∧ W.cell? ⟨w.heap.size, 1, none⟩ = some (.string d.cons) ∧ W.cell? ⟨w.heap.size, 2, none⟩ = some (.slice ta d.text.length tc) ∧ W.cell? ⟨w.heap.size, 3, none⟩ = some (.slice sa d.kids.length sc)) := fun W h => by
    have k : ∀ q, W.cell? ⟨w.heap.size, q, none⟩ = w1.cell? ⟨w.heap.size, q, none⟩ := fun q => h.cell (p := ⟨w.heap.size, q, none⟩) (by show w.heap.size < _; omega)
    exact ⟨(k 0).trans (hc1 0 _ rfl), (k 1).trans (hc1 1 _ rfl), (k 2).trans (hc1 2 _ rfl), (k 3).trans (hc1 3 _ rfl)⟩
  have HK : Hid (∀ W, Below w1.heap.size w1 W → MAt W W.heap.size f sa d.kids) := fun W h => ((hk.keep hB1).mono hB1.size |>.keep h).mono h.size
  have HBT : Hid (∀ W, Below w1.heap.size w1 W → BAt W W.heap.size ta d.text) := fun W h => by
    have hb := hB1.trans (h.mono hB1.size)
    exact (hbt.keep (fun b q hlt => hb.cell (p := ⟨b, q, none⟩) hlt)).mono hb.size
  have HW : Hid (∀ W, Below w1.heap.size w1 W → Below w.heap.size w W) := fun W h => hB1.trans (h.mono hB1.size)
  obtain ⟨a0, a1, a2, a3⟩ := HCE.out w1 (Below.refl _ _)
  have htxe := txt_eq d
  have hkd := okC_kind hwx2.1
  have HOK : Hid _ := hwx2.1
  have HTE : Hid _ := htxe
  have HKD : Hid _ := hkd
  have HI : Hid _ := ih
  have HN : Hid _ := hN
  have HZ : Hid _ := hsz
  have HWE : Hid _ := hwe
  have HWT : Hid _ := hwt
  have e44 : (⟨#[44]⟩ : ByteArray) = bstr [44] := rfl
  have HE44 : Hid _ := e44
  have HEM : Hid ((⟨#[]⟩ : ByteArray) = bstr []) := rfl
  clear hB1 hc1 hk s1 ih hN hsz hwx hwx2 hwk hwl hwt hwe htxe hkd e44 hbt
  go_enter Tryd.func49, Tryd.ntmps49
  go_wp2
  go_loopw [3, 4] (fun v i W => ∃ (k : Nat) (acc : List UInt8), k ≤ d.kids.length ∧ i = .int .i64 k ∧ acc = txtL true (d.kids.take k) ∧ v = .string (bstr acc) ∧ Below w1.heap.size w1 W) (fun _ i _ => d.kids.length - (intOf i).toNat)
  case atStart => exact ⟨0, [], by omega, rfl, by simp [txtL], rfl, Below.refl _ _⟩
  case round =>
    obtain ⟨k, acc, hkl, rfl, hacc, rfl, hB⟩ := hrel
    have HAA : Hid _ := hacc
    have HB : Hid _ := hB
    obtain ⟨d0, d1, d2, d3⟩ := HCE.out wr hB
    have hac2 : acc.length ≤ 300000 := by rw [hacc]; exact HTL.out k
    clear hB hacc a0 a1 a2 a3
    by_cases hlt : k < d.kids.length
    · obtain ⟨x, hx⟩ : ∃ x, d.kids[k]? = some x := ⟨d.kids[k], by simp [hlt]⟩
      obtain ⟨b, o, hsa, hb, xa, xc, c0, c1, ⟨ya, yc, c2, hyc, hyl, hyb⟩, c3, hxc, hxk⟩ := (HK.out wr HB.out).one hx
      have hzx := szL_take hx
      have hle := szL_take_le d.kids (k + 1)
      have hwx := wtL_take hx
      have hwle := wtL_take_le d.kids (k + 1)
      have hplx := HWK.out x (List.mem_of_getElem? hx)
      have hwtx : wt x ≤ 1000 := by have := HWT.out; have := HWE.out; omega
      have htx := txt_wt x hplx
      have HE : Hid (acc ++ (if k = 0 then [] else [44]) ++ txt x = txtL true (d.kids.take (k + 1))) := by
        show _ = _
        rw [List.take_add_one, hx]
        simp only [Option.toList_some]
        rw [txtL_snoc, HAA.out]
        have e : (true && (d.kids.take k).isEmpty) = decide (k = 0) := by
          cases k with
          | zero => simp
          | succ k => simp; intro h; rw [h] at hlt; simp at hlt
        rw [e]
        by_cases h0 : k = 0 <;> simp [h0]
      have HC : Hid _ := fun (_ : Unit) => HI.out x ya yc xa xc wr (by have := HN.out; have := HZ.out; omega) hyb hxk hplx hwtx
      subst hsa
      by_cases h0 : k = 0
      · rw [if_pos h0, List.append_nil] at HE
        have h0I : decide ((0 : Int) < (k : Int)) = false := by simp; omega
        have h0N : ¬ (0 : Int) < (k : Int) := by omega
        have hcat := fun W => cat_run acc (txt x) (by omega) W
        obtain ⟨t1, ht1⟩ : ∃ t1, bstr acc = t1 := ⟨_, rfl⟩
        obtain ⟨t2, ht2⟩ : ∃ t2, bstr (txt x) = t2 := ⟨_, rfl⟩
        obtain ⟨t3, ht3⟩ : ∃ t3, bstr (acc ++ txt x) = t3 := ⟨_, rfl⟩
        rw [ht1, ht2, ht3] at hcat
        rw [ht2] at HC
        rw [ht1]
        have HT3 : Hid _ := ht3
        clear hzx hle hwx hwle hplx hwtx htx hx hxk h0 ht1 ht2 ht3 hyb hyl hyc
        go_wp2_with (go_at_call 49; refine (HC.out ()).mono ?_)
        first | rintro e w3 rfl hb3 | rintro e w3 ⟨rfl, hb3⟩
        have HB3 : Hid (Below w1.heap.size w1 w3) := HB.out.trans (hb3.mono HB.out.size)
        clear hb3
        go_wp2
        go_roundw
        case rel => exact ⟨k + 1, _, by omega, by go_num, HE.out, by rw [← HT3.out], HB3.out⟩
        case measure => simp [intOf]; omega
      · rw [if_neg h0] at HE
        have h0I : decide ((0 : Int) < (k : Int)) = true := by simp; omega
        have h0N : (0 : Int) < (k : Int) := by omega
        have hcat1' := fun W => cat_run acc [44] (by simp; omega) W
        have hcat := fun W => cat_run (acc ++ [44]) (txt x) (by simp; omega) W
        rw [← HE44.out] at hcat1'
        obtain ⟨t1, ht1⟩ : ∃ t1, bstr acc = t1 := ⟨_, rfl⟩
        obtain ⟨t2, ht2⟩ : ∃ t2, bstr (txt x) = t2 := ⟨_, rfl⟩
        obtain ⟨t3, ht3⟩ : ∃ t3, bstr (acc ++ [44] ++ txt x) = t3 := ⟨_, rfl⟩
        obtain ⟨t4, ht4⟩ : ∃ t4, bstr (acc ++ [44]) = t4 := ⟨_, rfl⟩
        rw [ht4, ht2, ht3] at hcat
        rw [ht1, ht4] at hcat1'
        rw [ht2] at HC
        rw [ht1]
        have HT3 : Hid _ := ht3
        clear hzx hle hwx hwle hplx hwtx htx hx hxk h0 ht1 ht2 ht3 ht4 hyb hyl hyc
        go_wp2_with (go_at_call 49; refine (HC.out ()).mono ?_)
        first | rintro e w3 rfl hb3 | rintro e w3 ⟨rfl, hb3⟩
        have HB3 : Hid (Below w1.heap.size w1 w3) := HB.out.trans (hb3.mono HB.out.size)
        clear hb3
        go_wp2
        go_roundw
        case rel => exact ⟨k + 1, _, by omega, by go_num, HE.out, by rw [← HT3.out], HB3.out⟩
        case measure => simp [intOf]; omega
    · obtain rfl : k = d.kids.length := by omega
      rw [List.take_length] at HAA
      clear HI HTL HWK HK HN HZ hlt
      rcases HKD.out with h1 | h1 | h1 | h1 | h1
      · rw [h1] at d0
        have HTX : Hid (txt d = d.cons.data.toList ++ (if d.kids.isEmpty then [] else [40] ++ txtL true d.kids ++ [41])) := by
          show _ = _
          rw [HTE.out, h1, if_neg (by decide), if_neg (by decide), if_neg (by decide), if_neg (by decide)]
        have hnl : d.cons.data.toList.length ≤ 32 := by
          have h := HOK.out
          unfold okK at h
          rw [h1] at h
          exact (name_facts (okC_one h).1).2.1
        clear HTE HKD HOK h1
        by_cases hl0 : d.kids.length = 0
        · have hl0I : ((d.kids.length : Int) == 0) = true := by rw [hl0]; rfl
          have HFI : Hid (bstr (txt d) = d.cons) := by
            show _ = _
            rw [HTX.out, if_pos (by rw [List.isEmpty_iff]; exact List.length_eq_zero_iff.1 hl0), List.append_nil, bstr_self]
          clear hl0 HTX hnl
          go_wp2
          go_ret
          exact ⟨by rw [HFI.out]; rfl, HW.out _ HB.out⟩
        · have hl0I : ((d.kids.length : Int) == 0) = false := by simpa using hl0
          have HFI : Hid (txt d = ((d.cons.data.toList ++ [40]) ++ acc) ++ [41]) := by
            show _ = _
            rw [HTX.out, if_neg (by rw [List.isEmpty_iff]; intro h; rw [h] at hl0; exact hl0 rfl), HAA.out]
            simp
          have q1 := fun W => cat_run d.cons.data.toList [40] (by simp at hnl ⊢; omega) W
          have q2 := fun W => cat_run (d.cons.data.toList ++ [40]) acc (by simp at hnl ⊢; omega) W
          have q3 := fun W => cat_run ((d.cons.data.toList ++ [40]) ++ acc) [41] (by simp at hnl ⊢; omega) W
          rw [bstr_self, show bstr [40] = (⟨#[40]⟩ : ByteArray) from rfl] at q1
          rw [show bstr [41] = (⟨#[41]⟩ : ByteArray) from rfl, ← HFI.out] at q3
          obtain ⟨t9, ht9⟩ : ∃ t9, bstr (txt d) = t9 := ⟨_, rfl⟩
          rw [ht9] at q3
          have HT9 : Hid _ := ht9
          clear ht9
          generalize bstr ((d.cons.data.toList ++ [40]) ++ acc) = t8 at *
          generalize bstr (d.cons.data.toList ++ [40]) = t7 at *
          generalize bstr acc = t6 at *
          clear hl0 HTX hnl HFI HAA hac2
          go_wp2
          go_ret
          exact ⟨by rw [HT9.out]; rfl, HW.out _ HB.out⟩
      · rw [h1] at d0
        have HTX : Hid (txt d = quoteL (nums d.text)) := by show _ = _; rw [HTE.out, if_pos h1]
        have hq := rquote_any (nums d.text) ta tc wr (nums_lt _) (by rw [nums_len]; have := HWT.out; have := HWE.out; omega) (bat_row (HBT.out _ HB.out) (Nat.le_refl _))
        rw [nums_len] at hq
        have HQ : Hid _ := fun (_ : Unit) => hq
        clear HTE HKD HOK h1 hq HAA hac2
        go_wp2_with (go_at_call 65; refine (HQ.out ()).mono ?_)
        first | rintro e w3 rfl hb3 | rintro e w3 ⟨rfl, hb3⟩
        go_wp2
        go_ret
        refine ⟨?_, HW.out _ (HB.out.trans (hb3.mono HB.out.size))⟩
        rw [HTX.out]; rfl
      · rw [h1] at d0
        have HTX : Hid (txt d = ([91] ++ acc) ++ [93]) := by show _ = _; rw [HTE.out, if_neg (by rw [h1]; decide), if_pos h1, HAA.out]
        have q1 := fun W => cat_run [91] acc (by simp; omega) W
        have q2 := fun W => cat_run ([91] ++ acc) [93] (by simp; omega) W
        rw [show bstr [91] = (⟨#[91]⟩ : ByteArray) from rfl] at q1
        rw [show bstr [93] = (⟨#[93]⟩ : ByteArray) from rfl, ← HTX.out] at q2
        obtain ⟨t9, ht9⟩ : ∃ t9, bstr (txt d) = t9 := ⟨_, rfl⟩
        rw [ht9] at q2
        have HT9 : Hid _ := ht9
        clear ht9
        generalize bstr ([91] ++ acc) = t8 at *
        generalize bstr acc = t6 at *
        clear HTE HKD HOK h1 HAA hac2 HTX
        go_wp2
        go_ret
        exact ⟨by rw [HT9.out]; rfl, HW.out _ HB.out⟩
      · rw [h1] at d0
        have HTX : Hid (txt d = [45]) := by show _ = _; rw [HTE.out, if_neg (by rw [h1]; decide), if_neg (by rw [h1]; decide), if_pos h1]
        clear HTE HKD HOK h1 HAA hac2
        go_wp2
        go_ret
        refine ⟨?_, HW.out _ HB.out⟩
        rw [HTX.out]; rfl
      · rw [h1] at d0
        have HTX : Hid (txt d = [63] ++ acc) := by show _ = _; rw [HTE.out, if_neg (by rw [h1]; decide), if_neg (by rw [h1]; decide), if_neg (by rw [h1]; decide), if_pos h1, HAA.out]
        have q1 := fun W => cat_run [63] acc (by simp; omega) W
        rw [show bstr [63] = (⟨#[63]⟩ : ByteArray) from rfl, ← HTX.out] at q1
        obtain ⟨t9, ht9⟩ : ∃ t9, bstr (txt d) = t9 := ⟨_, rfl⟩
        rw [ht9] at q1
        have HT9 : Hid _ := ht9
        clear ht9
        generalize bstr acc = t6 at *
        clear HTE HKD HOK h1 HAA hac2 HTX
        go_wp2
        go_ret
        exact ⟨by rw [HT9.out]; rfl, HW.out _ HB.out⟩
set_option maxRecDepth 100000 in
set_option maxHeartbeats 4000000 in
theorem refPrint_any (f : Nat) (d : Tm) (ta : Option Addr) (tc : Nat) (sa : Option Addr) (sc : Nat) (w : World) (hbt : BAt w w.heap.size ta d.text) (hk : MAt w w.heap.size f sa d.kids) (hwt : wt d ≤ 1000) :
    Calls Tryd.prog 29 #[.agg #[.int .i64 d.kind, .string d.cons, .slice ta d.text.length tc, .slice sa d.kids.length sc]] w fun e w' => e = .returned (.tuple #[.string (prt d).1, .int .i64 (prt d).2]) ∧ Below w.heap.size w w' := by
  have hzw := sz_wt d
  obtain ⟨w1, hw1⟩ : ∃ w1, w.alloc (.cells #[.int .i64 d.kind, .string d.cons, .slice ta d.text.length tc, .slice sa d.kids.length sc] 25) = w1 := ⟨_, rfl⟩
  have hB1 : Below w.heap.size w w1 := by rw [← hw1]; exact (Below.refl _ _).alloc (Nat.le_refl _) _
  have s1 : w1.heap.size = w.heap.size + 1 := by rw [← hw1]; simp
  have hc1 : ∀ j v, (#[.int .i64 d.kind, .string d.cons, .slice ta d.text.length tc, .slice sa d.kids.length sc] : Array Value)[j]? = some v → w1.cell? ⟨w.heap.size, j, none⟩ = some v := fun j v hv => by rw [← hw1]; exact cell_new j hv
  have HCE : Hid (∀ W, Below w1.heap.size w1 W → W.cell? ⟨w.heap.size, 0, none⟩ = some (.int .i64 d.kind) ∧ W.cell? ⟨w.heap.size, 1, none⟩ = some (.string d.cons) ∧ W.cell? ⟨w.heap.size, 2, none⟩ = some (.slice ta d.text.length tc) ∧ W.cell? ⟨w.heap.size, 3, none⟩ = some (.slice sa d.kids.length sc)) := fun W h => by
    have k : ∀ q, W.cell? ⟨w.heap.size, q, none⟩ = w1.cell? ⟨w.heap.size, q, none⟩ := fun q => h.cell (p := ⟨w.heap.size, q, none⟩) (by show w.heap.size < _; omega)
    exact ⟨(k 0).trans (hc1 0 _ rfl), (k 1).trans (hc1 1 _ rfl), (k 2).trans (hc1 2 _ rfl), (k 3).trans (hc1 3 _ rfl)⟩
  have HK : Hid (∀ W, Below w1.heap.size w1 W → MAt W W.heap.size f sa d.kids) := fun W h => ((hk.keep hB1).mono hB1.size |>.keep h).mono h.size
  have HBT : Hid (∀ W, Below w1.heap.size w1 W → BAt W W.heap.size ta d.text) := fun W h => by
    have hb := hB1.trans (h.mono hB1.size)
    exact (hbt.keep (fun b q hlt => hb.cell (p := ⟨b, q, none⟩) hlt)).mono hb.size
  have HW : Hid (∀ W, Below w1.heap.size w1 W → Below w.heap.size w W) := fun W h => hB1.trans (h.mono hB1.size)
  obtain ⟨a0, a1, a2, a3⟩ := HCE.out w1 (Below.refl _ _)
  have HR : Hid _ := fun (_ : Unit) => refRight_any d ta tc sa sc f w1 (HK.out w1 (Below.refl _ _)) (by omega)
  have HT : Hid (∀ W, Below w1.heap.size w1 W → wl d = true → _) := fun W h hp => refText_any f (sz d) d ta tc sa sc W (Nat.le_refl _) (HBT.out W h) (HK.out W h) hp hwt
  clear hB1 hc1 hk s1 hbt HBT HK
  cases hr : rightT d with
  | false =>
    have HPR : Hid (prt d = (bstr [], 110)) := by show _ = _; unfold prt; rw [hr]; rfl
    rw [hr] at HR
    clear hr HT
    go_enter Tryd.func29, Tryd.ntmps29
    go_wp2_with (go_at_call 20; refine (HR.out ()).mono ?_)
    first | rintro e w2 rfl hb2 | rintro e w2 ⟨rfl, hb2⟩
    have HB2 : Hid _ := hb2
    clear hb2
    go_wp2
    refine bodyPost_ret (results_tmp2 rfl _ _ _) rfl ?_
    exact ⟨by rw [HPR.out]; rfl, HW.out _ HB2.out⟩
  | true =>
    have hwl : wl d = true := by rw [rightT_eq, Bool.and_eq_true] at hr; exact hr.2
    have htw := txt_wt d hwl
    have HPR : Hid (prt d = if (txt d).length ≤ 65536 then (bstr (txt d), 0) else (bstr [], 2)) := by show _ = _; unfold prt; rw [hr]; rfl
    rw [hr] at HR
    have HT' : Hid (∀ W, Below w1.heap.size w1 W → _) := fun W h => HT.out W h hwl
    have hbl := bstr_len (txt d)
    by_cases hl : (txt d).length ≤ 65536
    · have hlI : ¬ (65536 : Int) < ((bstr (txt d)).size : Int) := by rw [hbl]; omega
      rw [if_pos hl] at HPR
      generalize bstr (txt d) = X at *
      clear hr HT hwl htw hbl hl
      go_enter Tryd.func29, Tryd.ntmps29
      go_wp2_with (go_at_call 20; refine (HR.out ()).mono ?_)
      first | rintro e w2 rfl hb2 | rintro e w2 ⟨rfl, hb2⟩
      obtain ⟨b0, b1, b2, b3⟩ := HCE.out w2 hb2
      have HB2 : Hid _ := hb2
      clear hb2
      go_wp2_with (go_at_call 49; refine (HT'.out w2 HB2.out).mono ?_)
      first | rintro e w3 rfl hb3 | rintro e w3 ⟨rfl, hb3⟩
      have HB3 : Hid (Below w1.heap.size w1 w3) := HB2.out.trans (hb3.mono HB2.out.size)
      clear hb3
      go_wp2
      refine bodyPost_ret (results_tmp2 rfl _ _ _) rfl ?_
      exact ⟨by rw [HPR.out]; rfl, HW.out _ HB3.out⟩
    · have hlI : (65536 : Int) < ((bstr (txt d)).size : Int) := by rw [hbl]; omega
      rw [if_neg hl] at HPR
      generalize bstr (txt d) = X at *
      clear hr HT hwl htw hbl hl
      go_enter Tryd.func29, Tryd.ntmps29
      go_wp2_with (go_at_call 20; refine (HR.out ()).mono ?_)
      first | rintro e w2 rfl hb2 | rintro e w2 ⟨rfl, hb2⟩
      obtain ⟨b0, b1, b2, b3⟩ := HCE.out w2 hb2
      have HB2 : Hid _ := hb2
      clear hb2
      go_wp2_with (go_at_call 49; refine (HT'.out w2 HB2.out).mono ?_)
      first | rintro e w3 rfl hb3 | rintro e w3 ⟨rfl, hb3⟩
      have HB3 : Hid (Below w1.heap.size w1 w3) := HB2.out.trans (hb3.mono HB2.out.size)
      clear hb3
      go_wp2
      refine bodyPost_ret (results_tmp2 rfl _ _ _) rfl ?_
      exact ⟨by rw [HPR.out]; rfl, HW.out _ HB3.out⟩
theorem refPrint_t (d : Tm) (ta : Option Addr) (tc : Nat) (sa : Option Addr) (sc : Nat) (w : World) (h : TA w d ta tc sa sc) (hwt : wt d ≤ 1000) :
    Calls Tryd.prog 29 #[.agg #[.int .i64 d.kind, .string d.cons, .slice ta d.text.length tc, .slice sa d.kids.length sc]] w fun e w' => e = .returned (.tuple #[.string (prt d).1, .int .i64 (prt d).2]) ∧ Below w.heap.size w w' := by
  obtain ⟨f, hf⟩ := h.mat
  exact refPrint_any f d ta tc sa sc w h.bat hf hwt
end Go.Proofs.YtlkcadibjmfmcaaDoor
