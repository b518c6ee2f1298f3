/- What trees.Print tells. -/
import Derived.Test.YtlnlkbkmnkjbhaaDoorT5
import Derived.Laws.IdiomStrings
import Derived.Laws.BytesString
import Derived.Laws.BytesArg
namespace Go.Proofs.YtlnlkbkmnkjbhaaDoor
open Go.RowKit Go.Shelf

def bstr (l : List UInt8) : ByteArray := ⟨l.toArray⟩
theorem row_conv {W : World} {base : Nat} {v : Value} {l : List UInt8} (h : W.ownsRow base 5 1 v l.length (bvs l)) : (convert 40 9 v).run Tryd.prog W = .ok (.string (bstr l)) W := by
  rcases h.2 with ⟨rfl, h0⟩ | ⟨g, cap, cur, rfl, hrest⟩
  · obtain rfl := List.eq_nil_of_length_eq_zero h0
    rw [run_convert_bytes_string W 40 9 5 none 0 0 Tryd.underlying40 Tryd.underlying5 Tryd.underlying9]
    simp [Conv.bytesToString]; rfl
  · refine run_convert_bytes_back W 40 9 5 ⟨g, 0, none⟩ cap l Tryd.underlying40 Tryd.underlying5 Tryd.underlying9 ?_
    intro j hj
    have e : (⟨g, 0, none⟩ : Addr).add j = ⟨g, j, none⟩ := by simp [Addr.add]; omega
    rw [e]
    exact (own_cell h (u := .int .u8 (l[j].toNat : Int)) (by unfold bvs; rw [List.getElem?_map, List.getElem?_eq_getElem hj]; rfl)).1
/-- A text is told: no text, too long, or it. -/
def prt (d : Tr) : ByteArray × Int := if pl d && decide (dp d ≤ 200) then (if (txt d).length > 65536 then (bstr [], 2) else (bstr (txt d), 0)) else (bstr [], 90)
set_option maxRecDepth 100000 in
set_option maxHeartbeats 4000000 in
theorem print_any (d : Tr) (sa : Option Addr) (sc f : Nat) (w : World) (hk : TAt w w.heap.size f sa d.kids) (hsc : d.kids.length ≤ sc) (hlen : sz d ≤ 1000000000000) (hTab : Tab w.heap.size w) :
    Calls Tryd.prog 33 #[.agg #[.int .i64 d.rule, .int .u8 (d.byte.toNat : Int), .slice sa d.kids.length sc]] w fun e w' => e = .returned (.tuple #[.string (prt d).1, .int .i64 (prt d).2]) ∧ Below w.heap.size w w' := by
  obtain ⟨w1, hw1⟩ : ∃ w1, w.alloc (.cells #[.int .i64 d.rule, .int .u8 (d.byte.toNat : Int), .slice sa d.kids.length sc] 27) = w1 := ⟨_, rfl⟩
  have hB1 : Below w.heap.size w w1 := by rw [← hw1]; exact (Below.refl _ _).alloc (Nat.le_refl _) _
  have s1 : w1.heap.size = w.heap.size + 1 := by rw [← hw1]; simp
  have hc1 : ∀ j v, (#[.int .i64 d.rule, .int .u8 (d.byte.toNat : Int), .slice sa d.kids.length sc] : Array Value)[j]? = some v → w1.cell? ⟨w.heap.size, j, none⟩ = some v := fun j v hv => by rw [← hw1]; exact cell_new j hv
  have HCE : Hid (∀ W, Below w1.heap.size w1 W → W.cell? ⟨w.heap.size, 0, none⟩ = some (.int .i64 d.rule) ∧ W.cell? ⟨w.heap.size, 1, none⟩ = some (.int .u8 (d.byte.toNat : Int)) ∧ W.cell? ⟨w.heap.size, 2, none⟩ = some (.slice sa d.kids.length sc)) := fun W h => by
    have k : ∀ q, W.cell? ⟨w.heap.size, q, none⟩ = w1.cell? ⟨w.heap.size, q, none⟩ := fun q => h.cell (p := ⟨w.heap.size, q, none⟩) (by show w.heap.size < _; omega)
    exact ⟨(k 0).trans (hc1 0 _ rfl), (k 1).trans (hc1 1 _ rfl), (k 2).trans (hc1 2 _ rfl)⟩
  have HK : Hid (∀ W, Below w1.heap.size w1 W → TAt W W.heap.size f sa d.kids) := fun W h => ((hk.keep hB1).mono hB1.size |>.keep h).mono h.size
  have HT : Hid (∀ W, Below w1.heap.size w1 W → Tab W.heap.size W) := fun W h => (hTab.nx hB1).nx h
  have HB1 : Hid _ := hB1
  obtain ⟨a0, a1, a2⟩ := HCE.out w1 (Below.refl _ _)
  have HH : Hid _ := fun (_ : Unit) => hasText_any d sa sc f w1 (HK.out w1 (Below.refl _ _)) hsc hlen
  clear hB1 hc1 hk hTab s1
  cases hp : (pl d && decide (dp d ≤ 200)) with
  | false =>
    have HP : Hid (prt d = (bstr [], 90)) := by show _ = _; unfold prt; rw [hp]; rfl
    rw [hp] at HH
    clear hp
    go_enter Tryd.func33, Tryd.ntmps33
    go_wp2_with (go_at_call 52; refine (HH.out ()).mono ?_)
    first | rintro e w2 rfl hb2 | rintro e w2 ⟨rfl, hb2⟩
    have HB : Hid (Below w.heap.size w w2) := HB1.out.trans (hb2.mono HB1.out.size)
    clear hb2
    go_wp2
    refine bodyPost_ret (results_tmp2 rfl _ _ _) rfl ?_
    refine ⟨?_, HB.out⟩
    rw [HP.out]; rfl
  | true =>
    rw [hp] at HH
    have hpl : pl d = true := by simp only [Bool.and_eq_true] at hp; exact hp.1
    have htl := txt_le d hpl
    have HS : Hid (∀ W, Below w1.heap.size w1 W → _) := fun W h => textSize_any d sa sc f W (HK.out W h) hsc hlen hpl (HT.out W h)
    by_cases hl : (txt d).length > 65536
    · have HP : Hid (prt d = (bstr [], 2)) := by show _ = _; unfold prt; rw [hp, if_pos rfl, if_pos hl]
      have hlI : (65536 : Int) < ((txt d).length : Int) := by omega
      clear hp hl
      go_enter Tryd.func33, Tryd.ntmps33
      go_wp2_with (go_at_call 52; refine (HH.out ()).mono ?_)
      first | rintro e w2 rfl hb2 | rintro e w2 ⟨rfl, hb2⟩
      obtain ⟨b0, b1, b2⟩ := HCE.out w2 hb2
      have HB2 : Hid _ := hb2
      clear hb2 a0 a1 a2
      go_wp2_with (go_at_call 53; refine (HS.out w2 HB2.out).mono ?_)
      first | rintro e w3 rfl hb3 | rintro e w3 ⟨rfl, hb3⟩
      have HB : Hid (Below w.heap.size w w3) := HB1.out.trans ((HB2.out.trans (hb3.mono HB2.out.size)).mono HB1.out.size)
      clear hb3
      go_wp2
      refine bodyPost_ret (results_tmp2 rfl _ _ _) rfl ?_
      refine ⟨?_, HB.out⟩
      rw [HP.out]; rfl
    · have HP : Hid (prt d = (bstr (txt d), 0)) := by show _ = _; unfold prt; rw [hp, if_pos rfl, if_neg hl]
      have hlI : ¬ (65536 : Int) < ((txt d).length : Int) := by omega
      clear hp hl
      go_enter Tryd.func33, Tryd.ntmps33
      go_wp2_with (go_at_call 52; refine (HH.out ()).mono ?_)
      first | rintro e w2 rfl hb2 | rintro e w2 ⟨rfl, hb2⟩
      obtain ⟨b0, b1, b2⟩ := HCE.out w2 hb2
      have HB2 : Hid _ := hb2
      clear hb2 a0 a1 a2
      go_wp2_with (go_at_call 53; refine (HS.out w2 HB2.out).mono ?_)
      first | rintro e w3 rfl hb3 | rintro e w3 ⟨rfl, hb3⟩
      have hb13 := HB2.out.trans (hb3.mono HB2.out.size)
      obtain ⟨c0, c1, c2⟩ := HCE.out w3 hb13
      have HB : Hid (Below w.heap.size w w3) := HB1.out.trans (hb13.mono HB1.out.size)
      have HA : Hid _ := fun (_ : Unit) => appendTree_any w3.heap.size f (sz d) d sa sc 0 [] (.slice none 0 0) w3 (Nat.le_refl _) hpl (World.ownsRow_nil _ _ _ _) (Nat.le_refl _) (HK.out w3 hb13) (HT.out w3 hb13) (by omega)
      clear hb3 hb13 b0 b1 b2
      go_wp2_with (go_at_call 54; refine (HA.out ()).mono ?_)
      first | rintro e w4 v4 rfl hr4 hb4 hok4 | rintro e w4 ⟨v4, rfl, hr4, hb4, hok4⟩
      simp only [Nat.zero_add, List.nil_append] at hr4
      have hcv := row_conv (l := txt d) hr4
      have HBF : Hid (Below w.heap.size w w4) := HB.out.trans (hb4.mono HB.out.size)
      obtain ⟨va, vc, rfl⟩ := row_slice hr4
      clear hr4 hb4 hok4
      go_wp2
      refine bodyPost_ret (results_tmp2 rfl _ _ _) rfl ?_
      refine ⟨?_, HBF.out⟩
      rw [HP.out]; rfl
end Go.Proofs.YtlnlkbkmnkjbhaaDoor
