/- A row in a row, a row of one, and a group of a text change nothing: the walk. -/
import Derived.Test.YtbmejfcbladofaaS0
namespace Go.Proofs.Ytbmejfcbladofaa
open Go.RowKit

/-- A document's four cells in a box. -/
structure Bx (W : World) (b : Nat) (k : Int) (t : ByteArray) (n : Int) (v : Value) : Prop where
  c0 : W.cell? ⟨b, 0, none⟩ = some (.int .i64 k)
  c1 : W.cell? ⟨b, 1, none⟩ = some (.string t)
  c2 : W.cell? ⟨b, 2, none⟩ = some (.int .i64 n)
  c3 : W.cell? ⟨b, 3, none⟩ = some v
theorem Bx.new (W : World) (k : Int) (t : ByteArray) (n : Int) (v : Value) (T : TypeId) : Bx (W.alloc (.cells #[.int .i64 k, .string t, .int .i64 n, v] T)) W.heap.size k t n v := ⟨cell_new 0 rfl, cell_new 1 rfl, cell_new 2 rfl, cell_new 3 rfl⟩
theorem Bx.keep {W W' : World} {b m : Nat} {k : Int} {t : ByteArray} {n : Int} {v : Value} (h : Bx W b k t n v) (hb : Below m W W') (hlt : b < m) : Bx W' b k t n v := by
  have e : ∀ q, W'.cell? ⟨b, q, none⟩ = W.cell? ⟨b, q, none⟩ := fun q => hb.cell (p := ⟨b, q, none⟩) hlt
  exact ⟨(e _).trans h.c0, (e _).trans h.c1, (e _).trans h.c2, (e _).trans h.c3⟩
/-- A row of one. -/
theorem dat_one {W : World} {B b f : Nat} {t : TypeId} {d : Dc} {sa : Option Addr} {sc : Nat} (hb : W.heap[b]? = some (.cells #[.int .i64 d.kind, .string d.text, .int .i64 d.n, .slice sa d.kids.length sc] t (0, 0))) (hlt : b < B) (hc : d.kids.length ≤ sc) (hk : DAt W B f sa d.kids) : DAt W B (f + 1) (some ⟨b, 0, none⟩) [d] := by
  refine dat_mk hb hlt (by show 1 * 56 ≤ _; decide) fun j x hj => ?_
  have hj1 : j < 1 := (List.getElem?_eq_some_iff.1 hj).1
  obtain rfl : j = 0 := by omega
  simp at hj
  subst hj
  exact ⟨sa, sc, rfl, rfl, rfl, rfl, hc, hk⟩
/-- A row of two. -/
theorem dat_two {W : World} {B b f : Nat} {t : TypeId} {d x : Dc} {sa xa : Option Addr} {sc xc : Nat} (hb : W.heap[b]? = some (.cells #[.int .i64 d.kind, .string d.text, .int .i64 d.n, .slice sa d.kids.length sc, .int .i64 x.kind, .string x.text, .int .i64 x.n, .slice xa x.kids.length xc] t (0, 0))) (hlt : b < B) (hc : d.kids.length ≤ sc) (hk : DAt W B f sa d.kids) (xh : x.kids.length ≤ xc) (xk : DAt W B f xa x.kids) : DAt W B (f + 1) (some ⟨b, 0, none⟩) [d, x] := by
  refine dat_mk hb hlt (by show 2 * 56 ≤ _; decide) fun j y hj => ?_
  have hj1 : j < 2 := (List.getElem?_eq_some_iff.1 hj).1
  obtain rfl | rfl : j = 0 ∨ j = 1 := by omega
  · simp at hj
    subst hj
    exact ⟨sa, sc, rfl, rfl, rfl, rfl, hc, hk⟩
  · simp at hj
    subst hj
    exact ⟨xa, xc, rfl, rfl, rfl, rfl, xh, xk⟩
set_option maxRecDepth 100000 in
set_option maxHeartbeats 4000000 in
theorem same_walk (d : Dc) (sa : Option Addr) (sc f : Nat) (wd : Int) (tx : ByteArray) (w : World) (hk : DAt w w.heap.size f sa d.kids) (hsc : d.kids.length ≤ sc) (ht : TxD d) (_ : -9223372036854775808 ≤ wd) (hwd : wd ≤ 9223372036854775807) (htx : tx.size ≤ 140737488355328) :
    Calls Try.prog 7 #[.agg #[.int .i64 d.kind, .string d.text, .int .i64 d.n, .slice sa d.kids.length sc], .int .i64 wd, .string tx] w fun e w' => e = .returned (.bool true) ∧ Below w.heap.size w w' := by
  obtain ⟨w1, hw1⟩ : ∃ w1, w.alloc (.cells #[.int .i64 d.kind, .string d.text, .int .i64 d.n, .slice sa d.kids.length sc] 24) = w1 := ⟨_, rfl⟩
  have hB1 : Below w.heap.size w w1 := by rw [← hw1]; exact (Below.refl _ _).alloc (Nat.le_refl _) _
  have s1 : w1.heap.size = w.heap.size + 1 := by rw [← hw1]; simp
  have x1 : Bx w1 w.heap.size d.kind d.text d.n (.slice sa d.kids.length sc) := by rw [← hw1]; exact Bx.new _ _ _ _ _ _
  obtain ⟨a0, a1, a2, a3⟩ := x1
  have HX1 : Hid _ := Bx.mk a0 a1 a2 a3
  have hD : ∀ W, Below w.heap.size w W → DAt W W.heap.size f sa d.kids := fun W hW => (hk.keep hW).mono hW.size
  have HH : Hid _ := fun (_ : Unit) => heavy_any d sa sc f w1 (hD w1 hB1) ht
  have HD : Hid _ := hD
  have HB1 : Hid _ := hB1
  have HS1 : Hid _ := s1
  clear hD hB1 s1 hk
  by_cases hwt : 700 < wt d
  · rw [decide_eq_true hwt] at HH
    clear hwt
    go_enter Try.func7, Try.ntmps7
    go_wp2_with (go_at_call 9; refine (HH.out ()).mono ?_)
    rintro e w2 ⟨rfl, hb2⟩
    have HB2 : Hid (Below w.heap.size w w2) := HB1.out.trans (hb2.mono HB1.out.size)
    clear hb2
    go_wp2_with (go_at_call 10; refine (alive_any _).mono ?_)
    rintro e w3 ⟨rfl, hb3⟩
    have HB3 : Hid (Below w.heap.size w w3) := HB2.out.trans (hb3.mono HB2.out.size)
    clear hb3
    go_wp2
    go_ret
    exact ⟨rfl, HB3.out⟩
  · rw [decide_eq_false hwt] at HH
    have HOK : Hid _ := fun (h : rightD d = true) => okL_right h (by omega)
    have HPL : Hid ((pre d 1).length ≤ 700) := Nat.le_trans (pre_wt d 1) (by omega)
    have HWT : Hid (wt d ≤ 700) := by show _ ≤ _; omega
    clear hwt ht
    by_cases hlen : 1000 < tx.size
    · have hlenI : (1000 : Int) < tx.size := by omega
      go_enter Try.func7, Try.ntmps7
      go_wp2_with (go_at_call 9; refine (HH.out ()).mono ?_)
      rintro e w2 ⟨rfl, hb2⟩
      have HB2 : Hid (Below w.heap.size w w2) := HB1.out.trans (hb2.mono HB1.out.size)
      clear hb2
      go_wp2_with (go_at_call 10; refine (alive_any _).mono ?_)
      rintro e w3 ⟨rfl, hb3⟩
      have HB3 : Hid (Below w.heap.size w w3) := HB2.out.trans (hb3.mono HB2.out.size)
      clear hb3
      go_wp2
      go_ret
      exact ⟨rfl, HB3.out⟩
    · have HLN : Hid _ := hlen
      have hlenI : (tx.size : Int) ≤ 1000 := by omega
      clear hlen
      go_enter Try.func7, Try.ntmps7
      go_wp2_with (go_at_call 9; refine (HH.out ()).mono ?_)
      rintro e w2 ⟨rfl, hb2⟩
      have x2 := HX1.out.keep hb2 (by rw [HS1.out]; omega)
      obtain ⟨b0, b1, b2, b3⟩ := x2
      have HX2 : Hid _ := Bx.mk b0 b1 b2 b3
      have HB2 : Hid (Below w.heap.size w w2) := HB1.out.trans (hb2.mono HB1.out.size)
      have HS2 : Hid (w.heap.size < w2.heap.size) := Nat.lt_of_lt_of_le (by rw [HS1.out]; omega) hb2.size
      have HR : Hid _ := fun (_ : Unit) => render_any d sa sc f wd w2 (HD.out w2 HB2.out) hsc (by have := HPL.out; omega) HOK.out hwd
      clear hb2 a0 a1 a2 a3
      go_wp2_with (go_at_call 11; refine (HR.out ()).mono ?_)
      rintro e w3 ⟨rfl, hb3⟩
      have x3 := HX2.out.keep hb3 HS2.out
      obtain ⟨c0, c1, c2, c3⟩ := x3
      have HX3 : Hid _ := Bx.mk c0 c1 c2 c3
      have HB3 : Hid (Below w.heap.size w w3) := HB2.out.trans (hb3.mono HB2.out.size)
      have HS3 : Hid (w.heap.size < w3.heap.size) := Nat.lt_of_lt_of_le HS2.out hb3.size
      clear hb3 b0 b1 b2 b3
      obtain ⟨w6, hw6⟩ : ∃ w6, ((w3.alloc (.cells #[.int .i64 d.kind, .string d.text, .int .i64 d.n, .slice sa d.kids.length sc] 24)).alloc (.cells #[.int .i64 6, .string ⟨#[]⟩, .int .i64 0, .slice none 0 0, .int .i64 6, .string ⟨#[]⟩, .int .i64 0, .slice (some ⟨w3.heap.size, 0, none⟩) 1 1] 24)).alloc (.cells #[.int .i64 6, .string ⟨#[]⟩, .int .i64 0, .slice (some ⟨w3.heap.size + 1, 0, none⟩) 2 2] 24) = w6 := ⟨_, rfl⟩
      have b36 : Below w3.heap.size w3 w6 := by rw [← hw6]; exact (((Below.refl _ _).alloc (Nat.le_refl _) _).alloc (by simp) _).alloc (by simp; omega) _
      have HB6 : Hid (Below w.heap.size w w6) := HB3.out.trans (b36.mono HB3.out.size)
      have HS6 : Hid (w6.heap.size = w3.heap.size + 3) := by show _ = _; rw [← hw6]; simp
      have k1 : w6.heap[w3.heap.size]? = some (.cells #[.int .i64 d.kind, .string d.text, .int .i64 d.n, .slice sa d.kids.length sc] 24 (0, 0)) := by
        rw [← hw6]; exact (old_blk _ _ (by simp; omega)).trans ((old_blk _ _ (by simp)).trans (blk_new _ _ _))
      have k2 : w6.heap[w3.heap.size + 1]? = some (.cells #[.int .i64 6, .string ⟨#[]⟩, .int .i64 0, .slice none 0 0, .int .i64 6, .string ⟨#[]⟩, .int .i64 0, .slice (some ⟨w3.heap.size, 0, none⟩) 1 1] 24 (0, 0)) := by
        rw [← hw6]; exact (old_blk _ _ (by simp)).trans (by simpa using blk_new (w3.alloc (.cells #[.int .i64 d.kind, .string d.text, .int .i64 d.n, .slice sa d.kids.length sc] 24)) #[.int .i64 6, .string ⟨#[]⟩, .int .i64 0, .slice none 0 0, .int .i64 6, .string ⟨#[]⟩, .int .i64 0, .slice (some ⟨w3.heap.size, 0, none⟩) 1 1] 24)
      have x6 : Bx w6 (w3.heap.size + 1 + 1) 6 ⟨#[]⟩ 0 (.slice (some ⟨w3.heap.size + 1, 0, none⟩) 2 2) := by
        rw [← hw6]
        have := Bx.new ((w3.alloc (.cells #[.int .i64 d.kind, .string d.text, .int .i64 d.n, .slice sa d.kids.length sc] 24)).alloc (.cells #[.int .i64 6, .string ⟨#[]⟩, .int .i64 0, .slice none 0 0, .int .i64 6, .string ⟨#[]⟩, .int .i64 0, .slice (some ⟨w3.heap.size, 0, none⟩) 1 1] 24)) 6 ⟨#[]⟩ 0 (.slice (some ⟨w3.heap.size + 1, 0, none⟩) 2 2) 24
        simpa only [World.size_alloc] using this
      have hD6 : DAt w6 w6.heap.size (f + 2) (some ⟨w3.heap.size + 1, 0, none⟩) (oneD d).kids := by
        have hs6 := HS6.out
        exact dat_two (d := catN) (x := catD d) k2 (by omega) (Nat.le_refl _) DAt.nil (Nat.le_refl 1) (dat_one k1 (by omega) hsc (HD.out w6 HB6.out))
      obtain ⟨d0, d1, d2, d3⟩ := x6
      have HX6 : Hid _ := Bx.mk d0 d1 d2 d3
      have HD6 : Hid _ := hD6
      have hpl : (pre (oneD d) 1).length ≤ 1000000000000 := by rw [one_pre]; have := HPL.out; rw [pre_shift 2 d 1]; simp; omega
      have HR6 : Hid (Calls Try.prog 11 #[.agg #[.int .i64 6, .string ⟨#[]⟩, .int .i64 0, .slice (some ⟨w3.heap.size + 1, 0, none⟩) 2 2], .int .i64 wd] w6 fun e w' => e = .returned (.tuple #[.string (layT (oneD d) wd), .int .i64 (layC (oneD d) wd)]) ∧ Below w6.heap.size w6 w') := render_any (oneD d) _ 2 (f + 2) wd w6 hD6 (by show 2 ≤ 2; omega) hpl (fun h => okL_right h (by rw [one_wt]; have := HWT.out; omega)) hwd
      have HPL6 : Hid _ := hpl
      clear k1 k2 hD6 b36 hpl
      go_wp2_with (go_at_call 11; refine (HR6.out).mono ?_)
      rintro e w7 ⟨rfl, hb7⟩
      have hs6 := HS6.out
      have x7 := HX6.out.keep hb7 (by omega)
      obtain ⟨e0, e1, e2, e3⟩ := x7
      have HX7 : Hid _ := Bx.mk e0 e1 e2 e3
      have HB7 : Hid (Below w.heap.size w w7) := HB6.out.trans (hb7.mono HB6.out.size)
      have HD7 : Hid (DAt w7 w6.heap.size (f + 2) (some ⟨w3.heap.size + 1, 0, none⟩) (oneD d).kids) := DAt.keep hb7 HD6.out
      have HS7 : Hid (w6.heap.size ≤ w7.heap.size) := hb7.size
      clear hb7 c0 c1 c2 c3 d0 d1 d2 d3 hs6
      obtain ⟨w8, hw8⟩ : ∃ w8, w7.alloc (.cells #[.int .i64 1, .string tx, .int .i64 0, .slice none 0 0] 24) = w8 := ⟨_, rfl⟩
      have b78 : Below w7.heap.size w7 w8 := by rw [← hw8]; exact (Below.refl _ _).alloc (Nat.le_refl _) _
      have HS8 : Hid (w8.heap.size = w7.heap.size + 1) := by show _ = _; rw [← hw8]; simp
      have x8 : Bx w8 w7.heap.size 1 tx 0 (.slice none 0 0) := by rw [← hw8]; exact Bx.new _ _ _ _ _ _
      obtain ⟨f0, f1, f2, f3⟩ := x8
      have HX8 : Hid _ := Bx.mk f0 f1 f2 f3
      have HB78 : Hid _ := b78
      have HOKW : Hid (∀ D, wt D ≤ 1000 → rightD D = true → OkL (thg D 0) ∧ (thg D 0).length ≤ 1000000) := fun D h1 h2 => okL_right h2 (by omega)
      have HWW : Hid (wt (wordD tx) ≤ 500 ∧ wt (grpD (wordD tx)) ≤ 500) := by
        have e0 : (⟨#[]⟩ : ByteArray).size = 0 := rfl
        have := HLN.out
        constructor <;> simp [grpD, wordD, wt, wtL, e0] <;> omega
      have HR8 : Hid (Calls Try.prog 11 #[.agg #[.int .i64 1, .string tx, .int .i64 0, .slice none 0 0], .int .i64 wd] w8 fun e w' => e = .returned (.tuple #[.string (layT (wordD tx) wd), .int .i64 (layC (wordD tx) wd)]) ∧ Below w8.heap.size w8 w') := render_any (wordD tx) none 0 0 wd w8 rfl (Nat.le_refl _) (by rw [pre_eq]; show (1 : Nat) ≤ _; omega) (HOKW.out _ (by have := HWW.out.1; omega)) hwd
      have HW8 : Hid _ := hw8
      rw [← hw8] at HR8
      clear b78 hw8 f0 f1 f2 f3
      go_wp2_with (go_at_call 11; refine (HR8.out).mono ?_)
      rintro e w9 ⟨rfl, hb9⟩
      rw [HW8.out] at hb9
      have hs8 := HS8.out
      have x9 := HX8.out.keep hb9 (by omega)
      obtain ⟨g0, g1, g2, g3⟩ := x9
      have HB79 : Hid (Below w7.heap.size w7 w9) := HB78.out.trans (hb9.mono (by omega))
      clear hb9 hs8
      obtain ⟨w10, hw10⟩ : ∃ w10, w9.alloc (.cells #[.int .i64 1, .string tx, .int .i64 0, .slice none 0 0] 24) = w10 := ⟨_, rfl⟩
      have HB710 : Hid (Below w7.heap.size w7 w10) := by show Below _ _ _; rw [← hw10]; exact HB79.out.alloc HB79.out.size _
      have hD10 : DAt w10 w10.heap.size 1 (some ⟨w9.heap.size, 0, none⟩) (grpD (wordD tx)).kids := by
        rw [← hw10]
        exact dat_one (d := wordD tx) (blk_new _ _ _) (by simp) (Nat.le_refl _) DAt.nil
      have HR10 : Hid (Calls Try.prog 11 #[.agg #[.int .i64 5, .string ⟨#[]⟩, .int .i64 0, .slice (some ⟨w9.heap.size, 0, none⟩) 1 1], .int .i64 wd] w10 fun e w' => e = .returned (.tuple #[.string (layT (wordD tx) wd), .int .i64 (layC (wordD tx) wd)]) ∧ Below w10.heap.size w10 w') := by
        have := render_any (grpD (wordD tx)) (some ⟨w9.heap.size, 0, none⟩) 1 1 wd w10 hD10 (Nat.le_refl _) (by simp [grpD, wordD, pre, preL]) (HOKW.out _ (by have := HWW.out.2; omega)) hwd
        rw [(grp_lay tx wd).1, (grp_lay tx wd).2] at this
        exact this
      clear hD10
      go_wp2_with (go_at_call 11; refine (HR10.out).mono ?_)
      rintro e w11 ⟨rfl, hb11⟩
      have HB711 : Hid (Below w7.heap.size w7 w11) := HB710.out.trans (hb11.mono HB710.out.size)
      have hs67 := HS7.out
      have hs66 := HS6.out
      have x11 := HX7.out.keep HB711.out (by omega)
      obtain ⟨h0, h1, h2, h3⟩ := x11
      have HR11 : Hid (Calls Try.prog 15 #[.agg #[.int .i64 6, .string ⟨#[]⟩, .int .i64 0, .slice (some ⟨w3.heap.size + 1, 0, none⟩) 2 2]] w11 fun e w' => e = .returned (.bool (rightD (oneD d))) ∧ Below w11.heap.size w11 w') := right_any (oneD d) _ 2 (f + 2) w11 (DAt.mono (Nat.le_trans hs67 HB711.out.size) (DAt.keep (HB711.out.mono hs67) HD7.out)) (by show 2 ≤ 2; omega) HPL6.out
      have HB11 : Hid (Below w.heap.size w w11) := HB7.out.trans (HB711.out.mono HB7.out.size)
      clear hb11 e0 e1 e2 e3 g0 g1 g2 g3 hs67 hs66
      obtain ⟨cw, hcw⟩ : ∃ c, layC (wordD tx) wd = c := ⟨_, rfl⟩
      obtain ⟨tw, htw⟩ : ∃ c, layT (wordD tx) wd = c := ⟨_, rfl⟩
      rw [hcw, htw]
      go_wp2_with (go_at_call 15; refine (HR11.out).mono ?_)
      rintro e w12 ⟨rfl, hb12⟩
      have HB12 : Hid (Below w.heap.size w w12) := HB11.out.trans (hb12.mono HB11.out.size)
      clear hb12
      cases hr : rightD (oneD d) with
      | false =>
        have hc : layC (oneD d) wd = 140 := by unfold layC; rw [hr]; rfl
        rw [hc]
        clear hr hc
        go_wp2_with (go_at_call 10; refine (alive_any _).mono ?_)
        rintro e w13 ⟨rfl, hb13⟩
        have HB13 : Hid (Below w.heap.size w w13) := HB12.out.trans (hb13.mono HB12.out.size)
        clear hb13
        go_wp2
        go_ret
        exact ⟨rfl, HB13.out⟩
      | true =>
        obtain ⟨ht1, hc1⟩ := one_lay hr wd
        rw [ht1, hc1]
        obtain ⟨cd, hcd⟩ : ∃ c, layC d wd = c := ⟨_, rfl⟩
        obtain ⟨td, htd⟩ : ∃ c, layT d wd = c := ⟨_, rfl⟩
        rw [hcd, htd]
        clear hr ht1 hc1
        go_wp2_with (go_at_call 10; refine (alive_any _).mono ?_)
        rintro e w13 ⟨rfl, hb13⟩
        have HB13 : Hid (Below w.heap.size w w13) := HB12.out.trans (hb13.mono HB12.out.size)
        clear hb13
        go_wp2
        go_ret
        exact ⟨by simp, HB13.out⟩
end Go.Proofs.Ytbmejfcbladofaa
