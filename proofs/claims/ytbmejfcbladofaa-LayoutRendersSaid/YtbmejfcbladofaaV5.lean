/- What laying out tells. -/
import Derived.Test.YtbmejfcbladofaaV4
import Derived.Laws.IdiomStrings
import Derived.Lib.BufferRead
import Derived.RegionTactic
namespace Go.Proofs.Ytbmejfcbladofaa
open Go.RowKit

theorem conv_row {W : World} {lo : Nat} {v : Value} {tx : List UInt8} (h : W.ownsRow lo 5 1 v tx.length (bytesU tx)) : (convert 40 9 v).run Try.prog W = .ok (.string ⟨tx.toArray⟩) W := by
  rcases h.2 with ⟨rfl, hn⟩ | ⟨g, cap, cur, rfl, _, hg, hcap, _, hcs, ht⟩
  · obtain rfl : tx = [] := List.length_eq_zero_iff.1 hn
    exact Lib.run_convert_nil_bytes W 40 9 5 0 Try.underlying40 Try.underlying5 Try.underlying9
  · refine run_convert_bytes_back W 40 9 5 ⟨g, 0, none⟩ cap tx Try.underlying40 Try.underlying5 Try.underlying9 (fun j hj => ?_)
    have h1 : (cur.toList.take (tx.length * 1))[j]? = some (.int .u8 (tx[j].toNat : Int)) := by rw [ht]; simp [bytesU, hj]
    rw [List.getElem?_take_of_lt (by omega), Array.getElem?_toList] at h1
    have := (blk_cell hg h1).1
    rw [Addr.add_lit, Nat.zero_add]
    exact this
/-- What laying out tells: a text, how many groups are broken, a code. -/
def layV (d : Dc) (wd : Int) : Value := .tuple #[.string (if rightD d && !(layP d wd).long then ⟨(layP d wd).tx.toArray⟩ else ⟨#[]⟩), .int .i64 (if rightD d && !(layP d wd).long then ((layP d wd).br : Int) else 0), .int .i64 (if rightD d then (if (layP d wd).long then 2 else 0) else 140)]
theorem layV_bad {d : Dc} {wd : Int} (h : rightD d = false) : layV d wd = .tuple #[.string ⟨#[]⟩, .int .i64 0, .int .i64 140] := by simp [layV, h]
theorem layV_long {d : Dc} {wd : Int} (h : rightD d = true) (hl : (layP d wd).long = true) : layV d wd = .tuple #[.string ⟨#[]⟩, .int .i64 0, .int .i64 2] := by simp [layV, h, hl]
theorem layV_ok {d : Dc} {wd : Int} (h : rightD d = true) (hl : (layP d wd).long = false) : layV d wd = .tuple #[.string ⟨(layP d wd).tx.toArray⟩, .int .i64 ((layP d wd).br : Int), .int .i64 0] := by simp [layV, h, hl]
set_option maxRecDepth 100000 in
set_option maxHeartbeats 4000000 in
theorem lay_any (d : Dc) (sa : Option Addr) (sc f : Nat) (wd : Int) (w : World) (hk : DAt w w.heap.size f sa d.kids) (hsc : d.kids.length ≤ sc) (hlen : (pre d 1).length ≤ 1000000000000) (hok : rightD d = true → OkL (thg d 0) ∧ (thg d 0).length ≤ 1000000) (hwd : wd ≤ 9223372036854775807) :
    Calls Try.prog 21 #[.agg #[.int .i64 d.kind, .string d.text, .int .i64 d.n, .slice sa d.kids.length sc], .int .i64 wd] w fun e w' => e = .returned (layV d wd) ∧ Below w.heap.size w w' := by
  obtain ⟨w1, hw1⟩ : ∃ w1, w.alloc (.cells #[.int .i64 d.kind, .string d.text, .int .i64 d.n, .slice sa d.kids.length sc] 24) = w1 := ⟨_, rfl⟩
  have hB1 : Below w.heap.size w w1 := by rw [← hw1]; exact (Below.refl _ _).alloc (Nat.le_refl _) _
  have s1 : w1.heap.size = w.heap.size + 1 := by rw [← hw1]; simp
  have a0 : w1.cell? ⟨w.heap.size, 0, none⟩ = some (.int .i64 d.kind) := by rw [← hw1]; exact cell_new 0 rfl
  have a1 : w1.cell? ⟨w.heap.size, 1, none⟩ = some (.string d.text) := by rw [← hw1]; exact cell_new 1 rfl
  have a2 : w1.cell? ⟨w.heap.size, 2, none⟩ = some (.int .i64 d.n) := by rw [← hw1]; exact cell_new 2 rfl
  have a3 : w1.cell? ⟨w.heap.size, 3, none⟩ = some (.slice sa d.kids.length sc) := by rw [← hw1]; exact cell_new 3 rfl
  have hD : ∀ W, Below w.heap.size w W → DAt W W.heap.size f sa d.kids := fun W hW => (hk.keep hW).mono hW.size
  have HR : Hid _ := fun (_ : Unit) => right_any d sa sc f w1 (hD w1 hB1) hsc hlen
  have HD : Hid _ := hD
  have HB1 : Hid _ := hB1
  have HOK : Hid _ := hok
  clear hk hD hB1 hok
  cases hr : rightD d with
  | false =>
    rw [hr] at HR
    have HV : Hid _ := layV_bad (wd := wd) hr
    clear hr
    go_enter Try.func21, Try.ntmps21
    go_wp2_with (go_at_call 15; refine (HR.out ()).mono ?_; rintro e w2 ⟨rfl, hb2⟩; have HB2 : Hid (Below w.heap.size w w2) := HB1.out.trans (hb2.mono (by omega)); clear hb2)
    refine bodyPost_ret (results_tmp3 rfl _ _ _) rfl ?_
    rw [HV.out]
    exact ⟨rfl, HB2.out⟩
  | true =>
    rw [hr] at HR
    obtain ⟨hl, hll⟩ := HOK.out hr
    have HL : Hid _ := hl
    have HRR : Hid _ := hr
    have hw0 : 0 ≤ max wd 0 ∧ max wd 0 ≤ 9223372036854775807 := by omega
    have HLP : Hid (layP d wd = (fillN (thg d 0).length ⟨max wd 0, [], 0, 0, false⟩ (thg d 0)).1) := by show _ = _; rfl
    have HW0 : Hid _ := hw0
    clear hw0
    clear hl hr
    go_enter Try.func21, Try.ntmps21
    go_wp2_with (first
      | (go_at_call 15; refine (HR.out ()).mono ?_; rintro e w2 ⟨rfl, hb2⟩; have HB2 : Hid (Below w.heap.size w w2) := HB1.out.trans (hb2.mono (by omega)); have HZ2 : Hid (0 < w2.heap.size) := Nat.lt_of_lt_of_le (by omega) hb2.size; have hb2' : ∀ q, w2.cell? ⟨w.heap.size, q, none⟩ = w1.cell? ⟨w.heap.size, q, none⟩ := fun q => hb2.cell (p := ⟨w.heap.size, q, none⟩) (by show w.heap.size < _; omega); have b0 := (hb2' 0).trans a0; have b1 := (hb2' 1).trans a1; have b2 := (hb2' 2).trans a2; have b3 := (hb2' 3).trans a3; clear hb2 hb2' a0 a1 a2 a3)
      | (go_at_call 34; refine (things_any d sa sc f w2 (HD.out w2 HB2.out) HRR.out).mono ?_))
    rintro e w3 ⟨⟨v, rfl, hown⟩, hb3⟩
    have HB3 : Hid (Below w.heap.size w w3) := HB2.out.trans (hb3.mono HB2.out.size)
    have hz3 : 0 < w3.heap.size := Nat.lt_of_lt_of_le HZ2.out hb3.size
    obtain ⟨tb, htb, hth⟩ := own_th hown hz3
    have HN : Hid _ := fun (_ : Unit) => newPage_any (thg d 0) v tb (max wd 0) w3 hth htb HL.out hll
    obtain ⟨va, vc, rfl⟩ := row_slice hown
    clear hown hb3 hth htb b0 b1 b2 b3
    go_wp2_with (go_at_call 33; refine (HN.out ()).mono ?_)
    rintro e w4 ⟨⟨PB, sb, fv, rfl, hPB, hP⟩, hb4⟩
    have HF : Hid _ := fun (_ : Unit) => fill_any w3.heap.size PB tb sb _ (thg d 0) _ _ fv w4 hP ⟨by simp, by simp, HW0.out, by simp; exact hll⟩ HL.out hb4.size
    have HPB : Hid _ := hPB
    have HB4 : Hid (Below w.heap.size w w4) := HB3.out.trans (hb4.mono HB3.out.size)
    clear hP hb4 hPB HN
    go_wp2_with (go_at_call 35; refine (HF.out ()).mono ?_)
    rintro e w5 ⟨rfl, l', tv', rv', fv', hP5, hT5⟩
    rw [← HLP.out] at hP5 ⊢
    have HB5 : Hid (Below w.heap.size w w5) := HB4.out.trans (Turn.below_nil hT5 (Nat.le_trans HB3.out.size HPB.out) HB4.out.size)
    obtain ⟨c1, f1⟩ := blk_cell hP5.blk (j := 1) rfl
    obtain ⟨c3, f3⟩ := blk_cell hP5.blk (j := 3) rfl
    have hrow := hP5.row
    have HROW : Hid _ := hrow
    clear hP5 hT5 hrow HF HLP
    have hcv := conv_row (W := w5) HROW.out
    have hcv2 : (convert 40 9 tv').run Try.prog w5.drew = _ := conv_row (W := w5.drew) (lo := w3.heap.size) (tx := (layP d wd).tx) HROW.out
    obtain ⟨va5, vc5, rfl⟩ := row_slice HROW.out
    obtain ⟨q, hq⟩ : ∃ q, layP d wd = q := ⟨_, rfl⟩
    rw [hq] at c1 c3 hcv hcv2 ⊢
    have HQ : Hid _ := hq
    clear hq HROW
    cases hlong : q.long with
    | true =>
      have HV : Hid _ := layV_long (wd := wd) HRR.out (by rw [HQ.out]; exact hlong)
      simp only [Bool.not_true]
      clear hlong
      go_wp2
      refine bodyPost_ret (results_tmp3 rfl _ _ _) rfl ?_
      rw [HV.out]
      exact ⟨rfl, HB5.out⟩
    | false =>
      have HV : Hid _ := layV_ok (wd := wd) HRR.out (by rw [HQ.out]; exact hlong)
      rw [HQ.out] at HV
      simp only [Bool.not_false]
      clear hlong
      go_wp2
      go_region
      all_goals go_wp2
      all_goals refine bodyPost_ret (results_tmp3 rfl _ _ _) rfl ?_
      all_goals rw [HV.out]
      all_goals exact ⟨rfl, HB5.out.drew⟩
end Go.Proofs.Ytbmejfcbladofaa
