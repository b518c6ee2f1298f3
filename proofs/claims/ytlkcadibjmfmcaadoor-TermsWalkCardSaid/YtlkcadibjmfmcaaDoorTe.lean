/- Two terms compared, as the document does. -/
import Derived.Test.YtlkcadibjmfmcaaDoorTa
import Derived.BigRegion
import Derived.Deep.RegionWith
namespace Go.Proofs.YtlkcadibjmfmcaaDoor
open Go.RowKit

/-- Are two terms the same? -/
noncomputable def eqT (a b : Tm) : Bool := @decide (a = b) (Classical.propDecidable _)
theorem eqT_true {a b : Tm} (h : a = b) : eqT a b = true := @decide_eq_true _ (Classical.propDecidable _) h
theorem eqT_false {a b : Tm} (h : ¬ a = b) : eqT a b = false := @decide_eq_false _ (Classical.propDecidable _) h
theorem of_eqT {a b : Tm} (h : eqT a b = true) : a = b := @of_decide_eq_true _ (Classical.propDecidable _) h
theorem not_eqT {a b : Tm} (h : eqT a b = false) : ¬ a = b := @of_decide_eq_false _ (Classical.propDecidable _) h
theorem Tm.ext' {a b : Tm} (h1 : a.kind = b.kind) (h2 : a.cons = b.cons) (h3 : a.text = b.text) (h4 : a.kids = b.kids) : a = b := by
  cases a; cases b
  simp only [Tm.kind, Tm.cons, Tm.text, Tm.kids] at h1 h2 h3 h4
  subst h1 h2 h3 h4
  rfl
set_option maxRecDepth 100000 in
set_option maxHeartbeats 8000000 in
theorem refSame_any (f f' : Nat) : ∀ (N : Nat) (a b : Tm) (ya za : Option Addr) (yc zc : Nat) (sa sb : Option Addr) (sc sd : Nat) (w : World), sz a ≤ N → BAt w w.heap.size ya a.text → BAt w w.heap.size za b.text → MAt w w.heap.size f sa a.kids → MAt w w.heap.size f' sb b.kids →
    Calls Tryd.prog 21 #[.agg #[.int .i64 a.kind, .string a.cons, .slice ya a.text.length yc, .slice sa a.kids.length sc], .agg #[.int .i64 b.kind, .string b.cons, .slice za b.text.length zc, .slice sb b.kids.length sd]] w fun e w' => e = .returned (.bool (eqT a b)) ∧ Below w.heap.size w w' := by
  intro N
  induction N with
  | zero => intro a b ya za yc zc sa sb sc sd w hN; rw [sz_eq] at hN; omega
  | succ N ih =>
  intro a b ya za yc zc sa sb sc sd w hN hta htb hka hkb
  have hlena := hka.len
  have hlenb := hkb.len
  have hsz := sz_eq a
  obtain ⟨w1, hw1⟩ : ∃ w1, w.alloc (.cells #[.int .i64 a.kind, .string a.cons, .slice ya a.text.length yc, .slice sa a.kids.length sc] 25) = w1 := ⟨_, rfl⟩
  have s1 : w1.heap.size = w.heap.size + 1 := by rw [← hw1]; simp
  have hB1 : Below w.heap.size w w1 := by rw [← hw1]; exact (Below.refl _ _).alloc (Nat.le_refl _) _
  obtain ⟨w2, hw2⟩ : ∃ w2, w1.alloc (.cells #[.int .i64 b.kind, .string b.cons, .slice za b.text.length zc, .slice sb b.kids.length sd] 25) = w2 := ⟨_, rfl⟩
  have s2 : w2.heap.size = w.heap.size + 2 := by rw [← hw2]; simp [s1]
  have hB2' : Below w1.heap.size w1 w2 := by rw [← hw2]; exact (Below.refl _ _).alloc (Nat.le_refl _) _
  have ea : ∀ j v, (#[.int .i64 a.kind, .string a.cons, .slice ya a.text.length yc, .slice sa a.kids.length sc] : Array Value)[j]? = some v → w2.cell? ⟨w.heap.size, j, none⟩ = some v := fun j v hv => (hB2'.cell (p := ⟨w.heap.size, j, none⟩) (by show w.heap.size < _; omega)).trans (by rw [← hw1]; exact cell_new j hv)
  have eb : ∀ j v, (#[.int .i64 b.kind, .string b.cons, .slice za b.text.length zc, .slice sb b.kids.length sd] : Array Value)[j]? = some v → w2.cell? ⟨w.heap.size + 1, j, none⟩ = some v := fun j v hv => by rw [← hw2, ← s1]; exact cell_new j hv
  have e0 := ea 0 _ rfl
  have e1 := ea 1 _ rfl
  have e2 := ea 2 _ rfl
  have e3 := ea 3 _ rfl
  have g0 := eb 0 _ rfl
  have g1 := eb 1 _ rfl
  have g2 := eb 2 _ rfl
  have g3 := eb 3 _ rfl
  have hB2 : Below w.heap.size w w2 := hB1.trans (hB2'.mono (by omega))
  have cva := bat_conv (tc := yc) (hta.keep (fun b q hb => hB2.cell (p := ⟨b, q, none⟩) hb))
  have cvb := bat_conv (tc := zc) (htb.keep (fun b q hb => hB2.cell (p := ⟨b, q, none⟩) hb))
  have HZ : Hid _ := hsz
  have HI : Hid _ := ih
  have HKA : Hid _ := hka
  have HKB : Hid _ := hkb
  have HN : Hid _ := hN
  have HB2 : Hid _ := hB2
  have HS2 : Hid _ := s2
  clear hsz ih hka hkb hN hB1 hB2 hB2' s2 ea eb hta htb
  by_cases h1 : a.kind = b.kind
  · have q1 : (a.kind != b.kind) = false := by simp [h1]
    by_cases h2 : a.cons = b.cons
    · have q2 : (a.cons.toList == b.cons.toList) = true := str_beq h2
      by_cases h5 : a.text = b.text
      · have q5 : ((bstr a.text).toList == (bstr b.text).toList) = true := str_beq (by rw [h5])
        by_cases h3 : a.kids.length = b.kids.length
        · have HE : Hid (a.kids = b.kids → eqT a b = true) := fun h => eqT_true (Tm.ext' h1 h2 h5 h)
          have HF : Hid (¬ a.kids = b.kids → eqT a b = false) := fun h => eqT_false (fun e => h (by rw [e]))
          have H3 : Hid _ := h3
          have q3 : ((a.kids.length : Int) != (b.kids.length : Int)) = false := by simp [h3]
          clear h1 h2 h3 h5
          generalize bstr a.text = u1 at *
          generalize bstr b.text = u2 at *
          go_enter Tryd.func21, Tryd.ntmps21
          go_wp2
          go_loopw [5] (fun i W => ∃ k : Nat, k ≤ a.kids.length ∧ i = .int .i64 k ∧ a.kids.take k = b.kids.take k ∧ Below w2.heap.size w2 W) (fun i _ => a.kids.length - (intOf i).toNat)
          case atStart => exact ⟨0, by omega, rfl, by simp, Below.refl _ _⟩
          case round =>
            obtain ⟨k, hk, rfl, htk, hB⟩ := hrel
            have hs2 := HS2.out
            have b2 := (hB.cell (p := ⟨w.heap.size, 3, none⟩) (by show w.heap.size < _; omega)).trans e3
            have d2 := (hB.cell (p := ⟨w.heap.size + 1, 3, none⟩) (by show w.heap.size + 1 < _; omega)).trans g3
            have HBw : Hid (Below w.heap.size w wr) := HB2.out.trans (hB.mono (by omega))
            have HB : Hid _ := hB
            have HT : Hid _ := htk
            clear hB hs2 htk e0 e1 e2 e3 g0 g1 g2 g3 cva cvb
            by_cases hlt : k < a.kids.length
            · have hltb : k < b.kids.length := by have := H3.out; omega
              obtain ⟨x, hx⟩ : ∃ x, a.kids[k]? = some x := ⟨a.kids[k], by simp [hlt]⟩
              obtain ⟨y, hy⟩ : ∃ y, b.kids[k]? = some y := ⟨b.kids[k], by simp [hltb]⟩
              obtain ⟨bx, ox, hsa, hbx, xa, xc, c0, c1, ⟨xt, xtc, c2, _, _, hxt⟩, c3, hxc, hxk⟩ := ((HKA.out.keep HBw.out).mono HBw.out.size).one hx
              obtain ⟨by', oy, hsb, hby, ka, kc, p0, p1, ⟨kt, ktc, p2, _, _, hkt⟩, p3, hyc, hyk⟩ := ((HKB.out.keep HBw.out).mono HBw.out.size).one hy
              have hzx := szL_take hx
              have hle := szL_take_le a.kids (k + 1)
              have hxN : sz x ≤ N := by have := HN.out; have := HZ.out; omega
              have hW : Below wr.heap.size wr wr.drew := ⟨rfl, rfl, rfl, Nat.le_refl _, fun _ _ => rfl⟩
              have HC : Hid _ := fun (_ : Unit) => HI.out x y xt kt xtc ktc xa ka xc kc wr.drew hxN (hxt.keep (fun b q hb => hW.cell (p := ⟨b, q, none⟩) hb)) (hkt.keep (fun b q hb => hW.cell (p := ⟨b, q, none⟩) hb)) (hxk.keep hW) (hyk.keep hW)
              clear hW
              have HX : Hid (x = y → a.kids.take (k + 1) = b.kids.take (k + 1)) := fun e => by
                rw [List.take_add_one, List.take_add_one, hx, hy, HT.out, e]
              have HY : Hid (¬ x = y → ¬ a.kids = b.kids) := fun e h => by
                rw [h, hy] at hx; exact e (Option.some.inj hx).symm
              subst hsa
              subst hsb
              clear hzx hle hx hy hxk hyk hxN HI hxt hkt
              cases hxy : eqT x y with
              | true =>
                have HX' : Hid _ := HX.out (of_eqT hxy)
                rw [hxy] at HC
                clear hxy HX HY HE HF
                go_wp2
                go_region_with (go_at_call 21; refine (HC.out ()).mono ?_; rintro e w3 ⟨rfl, hb3⟩)
                all_goals (
                  have hb4 : Below w2.heap.size wr wr.drew := ⟨rfl, rfl, rfl, Nat.le_refl _, fun _ _ => rfl⟩
                  have HB3 : Hid (Below w2.heap.size w2 w3) := HB.out.trans (hb4.trans (hb3.mono HB.out.size))
                  clear hb4 hb3
                  go_wp2
                  exact ⟨⟨k + 1, by omega, by go_num, HX'.out, HB3.out⟩, by simp [intOf]; omega⟩)
              | false =>
                have HY' : Hid _ := HF.out (HY.out (not_eqT hxy))
                rw [hxy] at HC
                clear hxy HX HY HE HF
                go_wp2
                go_region_with (go_at_call 21; refine (HC.out ()).mono ?_; rintro e w3 ⟨rfl, hb3⟩)
                all_goals (
                  have hb4 : Below w.heap.size wr wr.drew := ⟨rfl, rfl, rfl, Nat.le_refl _, fun _ _ => rfl⟩
                  have HB3 : Hid (Below w.heap.size w w3) := HBw.out.trans (hb4.trans (hb3.mono HBw.out.size))
                  clear hb4 hb3
                  go_wp2
                  go_ret
                  exact ⟨by rw [HY'.out]; rfl, HB3.out⟩)
            · obtain rfl : k = a.kids.length := by omega
              go_wp2
              go_ret
              refine ⟨?_, HBw.out⟩
              have h := HT.out
              rw [List.take_length, H3.out, List.take_length] at h
              rw [HE.out h]; rfl
        · have HF : Hid (eqT a b = false) := eqT_false (fun e => h3 (by rw [e]))
          have q3 : ((a.kids.length : Int) != (b.kids.length : Int)) = true := by simp; omega
          have q3' : ¬ (a.kids.length : Int) = (b.kids.length : Int) := by omega
          clear h1 h2 h3 h5
          generalize bstr a.text = u1 at *
          generalize bstr b.text = u2 at *
          go_enter Tryd.func21, Tryd.ntmps21
          go_wp2
          go_ret
          exact ⟨by rw [HF.out]; rfl, HB2.out⟩
      · have HF : Hid (eqT a b = false) := eqT_false (fun e => h5 (by rw [e]))
        have q5 : ((bstr a.text).toList == (bstr b.text).toList) = false := str_bne (fun e => h5 (bstr_inj e))
        clear h1 h2 h5
        generalize bstr a.text = u1 at *
        generalize bstr b.text = u2 at *
        go_enter Tryd.func21, Tryd.ntmps21
        go_wp2
        go_ret
        exact ⟨by rw [HF.out]; rfl, HB2.out⟩
    · have HF : Hid (eqT a b = false) := eqT_false (fun e => h2 (by rw [e]))
      have q2 : (a.cons.toList == b.cons.toList) = false := str_bne h2
      clear h1 h2
      go_enter Tryd.func21, Tryd.ntmps21
      go_wp2
      go_ret
      exact ⟨by rw [HF.out]; rfl, HB2.out⟩
  · have HF : Hid (eqT a b = false) := eqT_false (fun e => h1 (by rw [e]))
    have q1 : (a.kind != b.kind) = true := by simpa using h1
    go_enter Tryd.func21, Tryd.ntmps21
    go_wp2
    go_ret
    exact ⟨by rw [HF.out]; rfl, HB2.out⟩
end Go.Proofs.YtlkcadibjmfmcaaDoor
