/- What terms.Print tells. -/
import Derived.Test.YtlkcadibjmfmcaaDoorPc
import Derived.Test.YtlkcadibjmfmcaaDoorBf
import Derived.Laws.IdiomStrings
import Derived.Laws.BytesString
import Derived.Laws.BytesArg
namespace Go.Proofs.YtlkcadibjmfmcaaDoor
open Go.RowKit Go.Shelf

theorem own_cell {w : World} {B : Nat} {e : TypeId} {k : Nat} {g n cap : Nat} {xs : List Value} (h : w.ownsRow B e k (.slice (some ⟨g, 0, none⟩) n cap) n xs) {j : Nat} {u : Value} (hj : xs[j]? = some u) : w.cell? ⟨g, j, none⟩ = some u ∧ w.frozen? ⟨g, j, none⟩ = false := by
  have hlt := (List.getElem?_eq_some_iff.1 hj).1
  exact ⟨(h.cellAt j (by rw [← h.1]; exact hlt)).trans hj, h.frozenAt j⟩
theorem row_conv {W : World} {base : Nat} {v : Value} {l : List UInt8} (h : W.ownsRow base 5 1 v l.length (Lib.byteCells l)) : (convert 22 9 v).run Tryd.prog W = .ok (.string (bstr l)) W := by
  rcases h.2 with ⟨rfl, h0⟩ | ⟨g, cap, cur, rfl, hrest⟩
  · obtain rfl := List.eq_nil_of_length_eq_zero h0
    rw [run_convert_bytes_string W 22 9 5 none 0 0 Tryd.underlying22 Tryd.underlying5 Tryd.underlying9]
    simp [Conv.bytesToString]; rfl
  · refine run_convert_bytes_back W 22 9 5 ⟨g, 0, none⟩ cap l Tryd.underlying22 Tryd.underlying5 Tryd.underlying9 ?_
    intro j hj
    have e : (⟨g, 0, none⟩ : Addr).add j = ⟨g, j, none⟩ := by simp [Addr.add]; omega
    rw [e]
    exact (own_cell h (u := .int .u8 (l[j].toNat : Int)) (by unfold Lib.byteCells; rw [List.getElem?_map, List.getElem?_eq_getElem hj]; rfl)).1
theorem right_cons {d : Tm} (h : rightT d = true) : ∀ p ∈ pre d 1, p.1.cons.size ≤ 1000000000000 := by
  intro p hp
  have h1 : okP p = true := List.all_eq_true.1 h p hp
  unfold okP at h1
  simp only [Bool.and_eq_true] at h1
  have h2 : okC p.1.kind p.1.cons p.1.text.length p.1.kids.length = true := h1.2
  have e : p.1.cons.data.toList.length = p.1.cons.size := Array.length_toList
  generalize p.1.kind = k at h2
  rcases okC_kind h2 with rfl | rfl | rfl | rfl | rfl
  · have := (okC_one h2).1
    unfold nameB whole at this
    simp only [Bool.and_eq_true, decide_eq_true_eq] at this
    omega
  · have := (okC_two h2).1; omega
  · have := (okC_three h2).1; omega
  · have := (okC_four h2).1; omega
  · have := (okC_five h2).1; omega
/-- A text is told: no text, too long, or it. -/
def prt (d : Tm) : ByteArray × Int := if rightT d then (if (txt d).length ≤ 65536 then (bstr (txt d), 0) else (bstr [], 2)) else (bstr [], 110)
set_option maxRecDepth 100000 in
set_option maxHeartbeats 4000000 in
theorem print_any (d : Tm) (tv : Value) (sa : Option Addr) (sc f : Nat) (w : World) (htv : Txt w w.heap.size tv d.text) (hk : MAt w w.heap.size f sa d.kids) (hsc : d.kids.length ≤ sc) (hlen : sz d ≤ 1000000000000) :
    Calls Tryd.prog 28 #[.agg #[.int .i64 d.kind, .string d.cons, tv, .slice sa d.kids.length sc]] w fun e w' => e = .returned (.tuple #[.string (prt d).1, .int .i64 (prt d).2]) ∧ Below w.heap.size w w' := by
  have hlen' : (pre d 1).length ≤ 1000000000000 := by rw [pre_len]; exact hlen
  obtain ⟨ta, tc, rfl, htc, htl, hta⟩ := htv
  obtain ⟨w1, hw1⟩ : ∃ w1, w.alloc (.cells #[.int .i64 d.kind, .string d.cons, .slice ta d.text.length tc, .slice sa d.kids.length sc] 25) = w1 := ⟨_, rfl⟩
  have hB1 : Below w.heap.size w w1 := by rw [← hw1]; exact (Below.refl _ _).alloc (Nat.le_refl _) _
  have s1 : w1.heap.size = w.heap.size + 1 := by rw [← hw1]; simp
  have hc1 : ∀ j v, (#[.int .i64 d.kind, .string d.cons, .slice ta d.text.length tc, .slice sa d.kids.length sc] : Array Value)[j]? = some v → w1.cell? ⟨w.heap.size, j, none⟩ = some v := fun j v hv => by rw [← hw1]; exact cell_new j hv
  have HCE : Hid (∀ W, Below w1.heap.size w1 W → W.cell? ⟨w.heap.size, 0, none⟩ = some (.int .i64 d.kind) ∧ W.cell? ⟨w.heap.size, 1, none⟩ = some (.string d.cons) ∧ W.cell? ⟨w.heap.size, 2, none⟩ = some (.slice ta d.text.length tc) ∧ W.cell? ⟨w.heap.size, 3, none⟩ = some (.slice sa d.kids.length sc)) := fun W h => by
    have k : ∀ q, W.cell? ⟨w.heap.size, q, none⟩ = w1.cell? ⟨w.heap.size, q, none⟩ := fun q => h.cell (p := ⟨w.heap.size, q, none⟩) (by show w.heap.size < _; omega)
    exact ⟨(k 0).trans (hc1 0 _ rfl), (k 1).trans (hc1 1 _ rfl), (k 2).trans (hc1 2 _ rfl), (k 3).trans (hc1 3 _ rfl)⟩
  have HK : Hid (∀ W, Below w1.heap.size w1 W → MAt W W.heap.size f sa d.kids) := fun W h => ((hk.keep hB1).mono hB1.size |>.keep h).mono h.size
  have HT : Hid (∀ W, Below w1.heap.size w1 W → BAt W W.heap.size ta d.text) := fun W h => ((hta.keep (fun b q hb => (hB1.trans (h.mono hB1.size)).cell (p := ⟨b, q, none⟩) hb)).mono (by have := h.size; omega))
  have HTX : Hid (∀ W, Below w1.heap.size w1 W → Txt W W.heap.size (.slice ta d.text.length tc) d.text) := fun W h => ⟨ta, tc, rfl, htc, htl, HT.out W h⟩
  have HB1 : Hid _ := hB1
  obtain ⟨a0, a1, a2, a3⟩ := HCE.out w1 (Below.refl _ _)
  have HH : Hid _ := fun (_ : Unit) => right_any d _ sa sc f w1 (HTX.out w1 (Below.refl _ _)) (HK.out w1 (Below.refl _ _)) hsc hlen'
  clear hB1 hc1 hk s1 hta
  cases hp : rightT d with
  | false =>
    have HP : Hid (prt d = (bstr [], 110)) := by show _ = _; unfold prt; rw [hp]; rfl
    rw [hp] at HH
    clear hp
    go_enter Tryd.func28, Tryd.ntmps28
    go_wp2_with (go_at_call 19; refine (HH.out ()).mono ?_)
    first | rintro e w2 rfl hb2 | rintro e w2 ⟨rfl, hb2⟩
    have HB : Hid (Below w.heap.size w w2) := HB1.out.trans (hb2.mono HB1.out.size)
    clear hb2
    go_wp2
    refine bodyPost_ret (results_tmp2 rfl _ _ _) rfl ?_
    refine ⟨?_, HB.out⟩
    rw [HP.out]; rfl
  | true =>
    rw [hp] at HH
    have hwl : wl d = true := by rw [rightT_eq] at hp; simp only [Bool.and_eq_true] at hp; exact hp.2
    have HS : Hid (∀ W, Below w1.heap.size w1 W → Calls Tryd.prog 47 #[.agg #[.int .i64 d.kind, .string d.cons, .slice ta d.text.length tc, .slice sa d.kids.length sc]] W fun e w' => e = .returned (.bool (decide ((txt d).length ≤ 65536))) ∧ Below W.heap.size W w') := fun W h => by
      rw [← fits_txt hwl]
      exact fits_any d _ sa sc f W (HTX.out W h) (HK.out W h) hsc hlen' (right_cons hp)
    by_cases hl : (txt d).length ≤ 65536
    · have HP : Hid (prt d = (bstr (txt d), 0)) := by show _ = _; unfold prt; rw [hp, if_pos rfl, if_pos hl]
      rw [decide_eq_true hl] at HS
      have HA : Hid (∀ W, Below w1.heap.size w1 W → Calls Tryd.prog 48 #[.slice none 0 0, .agg #[.int .i64 d.kind, .string d.cons, .slice ta d.text.length tc, .slice sa d.kids.length sc]] W fun e w' => APost W.heap.size 0 [] (txt d) W e w') := fun W h => appendTerm_any W.heap.size f (sz d) d (Nat.le_refl _) ta tc sa sc 0 [] (.slice none 0 0) W hwl hl (World.ownsRow_nil _ _ _ _) (Nat.le_refl _) (HT.out W h) (HK.out W h) (by omega)
      clear hp hl
      go_enter Tryd.func28, Tryd.ntmps28
      go_wp2_with (go_at_call 19; refine (HH.out ()).mono ?_)
      first | rintro e w2 rfl hb2 | rintro e w2 ⟨rfl, hb2⟩
      obtain ⟨b0, b1, b2, b3⟩ := HCE.out w2 hb2
      have HB2 : Hid _ := hb2
      clear hb2 a0 a1 a2 a3
      go_wp2_with (go_at_call 47; refine (HS.out w2 HB2.out).mono ?_)
      first | rintro e w3 rfl hb3 | rintro e w3 ⟨rfl, hb3⟩
      have hb13 := HB2.out.trans (hb3.mono HB2.out.size)
      obtain ⟨c0, c1, c2, c3⟩ := HCE.out w3 hb13
      have HB3 : Hid _ := hb13
      have HB : Hid (Below w.heap.size w w3) := HB1.out.trans (hb13.mono HB1.out.size)
      clear hb3 hb13 b0 b1 b2 b3
      go_wp2_with (go_at_call 48; refine (HA.out w3 HB3.out).mono ?_)
      first | rintro e w4 v4 rfl hr4 hb4 hok4 | rintro e w4 ⟨v4, rfl, hr4, hb4, hok4⟩
      simp only [Nat.zero_add, List.nil_append] at hr4
      have hcv := row_conv (l := txt d) hr4
      have HBF : Hid (Below w.heap.size w w4) := HB.out.trans (hb4.mono HB.out.size)
      obtain ⟨va, vc, rfl⟩ := row_slice hr4
      clear hr4 hb4 hok4
      go_wp2
      refine bodyPost_ret (results_tmp2 rfl _ _ _) rfl ?_
      refine ⟨?_, HBF.out⟩
      rw [HP.out]; rfl
    · have HP : Hid (prt d = (bstr [], 2)) := by show _ = _; unfold prt; rw [hp, if_pos rfl, if_neg hl]
      rw [decide_eq_false hl] at HS
      clear hp hl
      go_enter Tryd.func28, Tryd.ntmps28
      go_wp2_with (go_at_call 19; refine (HH.out ()).mono ?_)
      first | rintro e w2 rfl hb2 | rintro e w2 ⟨rfl, hb2⟩
      obtain ⟨b0, b1, b2, b3⟩ := HCE.out w2 hb2
      have HB2 : Hid _ := hb2
      clear hb2 a0 a1 a2 a3
      go_wp2_with (go_at_call 47; refine (HS.out w2 HB2.out).mono ?_)
      first | rintro e w3 rfl hb3 | rintro e w3 ⟨rfl, hb3⟩
      have HB : Hid (Below w.heap.size w w3) := HB1.out.trans ((HB2.out.trans (hb3.mono HB2.out.size)).mono HB1.out.size)
      clear hb3
      go_wp2
      refine bodyPost_ret (results_tmp2 rfl _ _ _) rfl ?_
      refine ⟨?_, HB.out⟩
      rw [HP.out]; rfl
end Go.Proofs.YtlkcadibjmfmcaaDoor
