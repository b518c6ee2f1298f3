/- The law of the productive rules alone, walked. -/
import Derived.Test.YtopbibhpekjaeaaP4
import Derived.Test.YtopbibhpekjaeaaU2
import Derived.Test.YtopbibhpekjaeaaH1
namespace Go.Proofs.Ytopbibhpekjaeaa
open Go.RowKit

theorem n_cell {W : World} {base g N c m x : Nat} {l : List Nat} (h : W.ownsRow base 3 1 (.slice (some ⟨g, 0, none⟩) N c) N (intsV l)) (hm : l[m]? = some x) (hN : m < N) : W.cell? ⟨g, m, none⟩ = some (.int .i64 (x : Int)) := by
  rw [h.cellAt m (by omega)]
  simp [intsV, hm]
set_option maxRecDepth 100000 in
set_option maxHeartbeats 16000000 in
theorem trims_walk (G : Gm) (a : Option Addr) (c : Nat) (w : World) (hR : RAt w w.heap.size a G.rules) :
    Calls Try.prog 8 #[.agg #[.int .i64 G.nts, .int .i64 G.start, .slice a G.rules.length c]] w fun e w' => e = .returned (.bool true) ∧ Below w.heap.size w w' := by
  obtain ⟨W0, hW0⟩ : ∃ W0, w.alloc (.cells #[.int .i64 G.nts, .int .i64 G.start, .slice a G.rules.length c] 24) = W0 := ⟨_, rfl⟩
  have hs0 : W0.heap.size = w.heap.size + 1 := by rw [← hW0]; simp
  have hB0 : Below w.heap.size w W0 := by rw [← hW0]; exact (Below.refl _ _).alloc (Nat.le_refl _) _
  have gG : GB w.heap.size G a c W0 := ⟨by rw [← hW0]; exact cell_new 0 rfl, by rw [← hW0]; exact cell_new 1 rfl, by rw [← hW0]; exact cell_new 2 rfl, (hR.keep hB0).mono (by omega), by omega⟩
  have hlen := hR.len
  have HA : Hid _ := fun W => alive_any W
  have H11 : Hid _ := fun (_ : Unit) => heavy_any G a c 300 W0 gG.rat
  have H31 : Hid _ := fun G a c W h => Trim_row G a c W h
  have H29 : Hid _ := fun G a c W h => Shortest_row G a c W h
  have c0 := gG.c0
  have c1 := gG.c1
  have c2 := gG.c2
  go_enter Try.func8, Try.ntmps8
  go_wp2_with (go_at_call 11; refine (H11.out ()).mono ?_)
  rintro e W1 ⟨⟨x, rfl⟩, hb⟩
  have B1 := below_of hB0 hb
  replace gG := gG.below hb
  clear hb hs0 hB0 hW0 H11 c0 c1 c2
  have c0 := gG.c0
  have c1 := gG.c1
  have c2 := gG.c2
  cases x with
  | true =>
    go_wp2_with (go_at_call 12; refine (HA.out _).mono ?_)
    rintro e W2 ⟨rfl, hb2⟩
    go_wp2
    go_ret
    exact ⟨rfl, below_of B1 hb2⟩
  | false =>
    go_wp2_with (go_at_call 31; refine (H31.out G a c _ gG.rat).mono ?_)
    rintro e W2 ⟨⟨v, l, rfl, hl, hI⟩, hb⟩
    have B2 := below_of B1 hb
    replace gG := gG.below hb
    clear hb c0 c1 c2 B1
    have c0 := gG.c0
    have c1 := gG.c1
    have c2 := gG.c2
    rcases hI with ⟨hno, rfl⟩ | ⟨hok, so, hsl, hso, rfl⟩
    · rw [← code_no hno]
      obtain ⟨la, lc, rfl⟩ := row_slice hl
      go_wp2_with (go_at_call 12; refine (HA.out _).mono ?_)
      rintro e W3 ⟨rfl, hb2⟩
      go_wp2
      go_ret
      exact ⟨rfl, below_of B2 hb2⟩
    · rw [← code_ok hok]
      obtain ⟨n, hn⟩ : ∃ n, G.rules.length = n := ⟨_, rfl⟩
      obtain ⟨N, S, hN, hS, _, hOk⟩ := ok_of hok
      have h0l : ∀ r ∈ G.rules, 0 ≤ r.lhs := fun r hr => (hOk.lhs r hr).1
      clear hN hS hOk
      have HLn : Hid _ := fun (_ : Unit) => trim_ln hso h0l
      have HFull : Hid _ := fun so2 h2 => trim_full (so2 := so2) hso h0l h2
      have HMem : Hid _ := fun (_ : Unit) => trim_mem hso h0l
      have hil := trimL_lt (rs := G.rules) (so := so) (k := G.rules.length)
      have hri := fun i x y => @trimL_rises G.rules so G.rules.length i x y
      have hll := trimL_len G.rules so G.rules.length
      generalize trimL G.rules so G.rules.length = idx at *
      obtain ⟨la, lc, rfl⟩ := row_slice hl
      obtain ⟨i0, hinf, hz0, hz1, hz2⟩ := info_parts info52
      rw [hn] at c2 hlen hll hil
      rw [hn]
      go_wp2
      go_loopw [6] (fun iv W => ∃ (k : Nat) (lv : Value) (xs : List Value), k ≤ idx.length ∧ iv = .int .i64 k ∧ XI w G.nts G.start W2 (pick G.rules (idx.take k)) lv xs W) (fun iv _ => idx.length - (intOf iv).toNat)
      case atStart => exact ⟨0, _, _, by omega, rfl, XI.start _ _ _ _⟩
      case round =>
        obtain ⟨k, lv, xs, hk, rfl, hX⟩ := hrel
        have hBw : Below w.heap.size w wr := B2.trans (hX.bel.mono B2.size)
        have hlt1 := gG.lt
        by_cases hlt : k < idx.length
        · obtain ⟨m, hik⟩ : ∃ m, idx[k]? = some m := ⟨idx[k], by simp⟩
          have hml := hil m (List.mem_of_getElem? hik)
          obtain ⟨r, hr⟩ : ∃ r, G.rules[m]? = some r := ⟨G.rules[m]'(by omega), by simp⟩
          obtain ⟨b, o, sa, sc, rfl, hb, hK, e0, e1⟩ := hR.cells m r hr
          have hps : (pick G.rules (idx.take k)).length = k := by
            rw [pick_len (fun i hi => by rw [hn]; exact hil i (List.mem_of_mem_take hi)), List.length_take]; exact Nat.min_eq_left (Nat.le_of_lt hlt)
          have HP : Hid (pick G.rules (idx.take (k + 1)) = pick G.rules (idx.take k) ++ [r]) := pick_take hik hr
          generalize pick G.rules (idx.take k) = ps at hX hps HP
          obtain ⟨gl, lc', hle, _, hgl⟩ := row_at hl (by omega)
          obtain ⟨rfl, -, rfl⟩ : la = some ⟨gl, 0, none⟩ ∧ idx.length = idx.length ∧ lc = lc' := by simpa using hle
          clear hle
          have hlc : wr.cell? ⟨gl, k, none⟩ = some (.int .i64 (m : Int)) := (hX.bel.cell (p := ⟨gl, k, none⟩) hgl).trans (n_cell hl hik hlt)
          have hlt2 := Nat.lt_trans hlt1 hX.lt
          have t0 : wr.cell? ⟨w.heap.size, 2, none⟩ = some (.slice (some ⟨b, o, none⟩) n c) := (hX.bel.cell (p := ⟨w.heap.size, 2, none⟩) hlt1).trans c2
          have hmI : (m : Int) < n := by omega
          have hkI : (k : Int) < idx.length := by omega
          have q0 : decide ((m : Int) < 0) = false := by simp
          have q1 : decide (n ≤ m) = false := by simp; omega
          by_cases hk0 : k = 0
          · have q2 : decide (0 < k) = false := by simp; omega
            clear hk0
            go_wp2
            go_big_quiet (fail)
            obtain ⟨V, hV⟩ : ∃ V, wr.drewN nq = V := ⟨_, rfl⟩
            have hX2 : XI w G.nts G.start W2 ps lv xs V := by rw [← hV]; exact hX.drewN nq
            have hlc2 : V.cell? ⟨gl, k, none⟩ = some (.int .i64 (m : Int)) := by rw [← hV]; exact hlc
            rw [hV]
            clear hX hV hBw hlc t0 q0 q1 q2
            have hBw : Below w.heap.size w V := B2.trans (hX2.bel.mono B2.size)
            have T : XS w.heap.size W2.heap.size b (o + m * 2) (.slice (some ⟨b, o, none⟩) n c) lv (.int .i64 r.lhs) (.slice sa r.rhs.length sc) V :=
              ⟨(hX2.bel.cell (p := ⟨w.heap.size, 2, none⟩) hlt1).trans c2, hX2.c2, hX2.fz, (hBw.cell (p := ⟨b, o + m * 2, none⟩) hb).trans e0, (hBw.cell (p := ⟨b, o + m * 2 + 1, none⟩) hb).trans e1, Nat.lt_trans hlt1 hX2.lt, hX2.lt, Nat.lt_of_lt_of_le hb hBw.size⟩
            have hrow := hX2.row
            have hxl := hX2.lt
            have hxb := hX2.bel.size
            have n0 : lv.ownBlock ≠ some w.heap.size := fun e => by have := (hrow.lt _ e).1; omega
            have n1 : lv.ownBlock ≠ some W2.heap.size := fun e => by have := (hrow.lt _ e).1; omega
            have n2 : lv.ownBlock ≠ some b := fun e => by have := (hrow.lt _ e).1; have := B2.size; omega
            have hBm : Below V.heap.size V (V.alloc (.cells #[.int .i64 r.lhs, .slice sa r.rhs.length sc] 52)).drew := ((Below.refl _ _).alloc (Nat.le_refl _) _).drew
            have t1 := T.gr
            have t2 := T.xr
            have t3 := T.e0
            have t4 := T.e1
            have t5 := T.fz
            clear hR e0 e1 hl hil hri
            go_wp2
            have HN : Hid _ := cell_two_new V (.int .i64 r.lhs) (.slice sa r.rhs.length sc) 52
            have a2 := (T.alloc (.cells #[.int .i64 r.lhs, .slice sa r.rhs.length sc] 52)).xr
            go_region_law (refine step_append_lies _ (by rfl) _ _ _ (by rfl) (W2.heap.size + 1) 52 i0 _ 2 32 Try.underlying22 hinf hz0 hz1 hz2 rfl (by omega) lv ps.length xs (by rfl) (by first | exact (hrow.alloc _).drew | exact (hrow.drew.alloc _)) ⟨V.heap.size, 0, none⟩ 1 1 [.int .i64 r.lhs, .slice sa r.rhs.length sc] (by rfl) (by rfl) HN.out (by simp [Value.oneCell']) (by omega) (by unfold maxLen; omega) (by omega) (by simp; omega) (V.heap.size + 1) (by simp) ?_; intro g1 cap1 w1 hown1 hgrow hat hlt1; replace T : XS w.heap.size W2.heap.size b (o + m * 2) (.slice (some ⟨b, o, none⟩) n c) lv (.int .i64 r.lhs) (.slice sa r.rhs.length sc) w1 := (by first | exact XS.grown (T.alloc _).drew hgrow n0 n1 n2 hgrow.size | exact XS.grown (T.drew.alloc _) hgrow n0 n1 n2 hgrow.size); have f1 := T.fz; have f2 := T.xr)
            all_goals go_wp2
            all_goals refine ⟨⟨k + 1, .slice (some ⟨g1, 0, none⟩) (k + 1) cap1, xs ++ [.int .i64 r.lhs, .slice sa r.rhs.length sc], by omega, by go_num, ?_⟩, by simp [intOf]; omega⟩
            all_goals (rw [HP.out]; have hst := hX2.step hBm hK hgrow hown1; rw [hps] at hst; exact hst)
          · obtain ⟨k', hkk⟩ : ∃ k', k = k' + 1 := ⟨k - 1, by omega⟩
            obtain ⟨m', hik'⟩ : ∃ m', idx[k']? = some m' := ⟨idx[k']'(by omega), by simp⟩
            have hrise := hri k' m' m hik' (by rw [← hkk]; exact hik)
            have hlc' : wr.cell? ⟨gl, k', none⟩ = some (.int .i64 (m' : Int)) := (hX.bel.cell (p := ⟨gl, k', none⟩) hgl).trans (n_cell hl hik' (by omega))
            have q2 : decide (0 < k) = true := by simp; omega
            have q4 : IntKind.i64.wrap ((k : Int) - 1) = (k' : Int) := by rw [IntKind.wrap_i64]; omega
            have q5 : (k' : Int) < idx.length := by omega
            have q3 : decide (m ≤ m') = false := by simp; omega
            clear hkk hk0
            go_wp2
            go_big_quiet (fail)
            obtain ⟨V, hV⟩ : ∃ V, wr.drewN nq = V := ⟨_, rfl⟩
            have hX2 : XI w G.nts G.start W2 ps lv xs V := by rw [← hV]; exact hX.drewN nq
            have hlc2 : V.cell? ⟨gl, k, none⟩ = some (.int .i64 (m : Int)) := by rw [← hV]; exact hlc
            rw [hV]
            clear hX hV hBw hlc t0 q0 q1 q2
            have hBw : Below w.heap.size w V := B2.trans (hX2.bel.mono B2.size)
            have T : XS w.heap.size W2.heap.size b (o + m * 2) (.slice (some ⟨b, o, none⟩) n c) lv (.int .i64 r.lhs) (.slice sa r.rhs.length sc) V :=
              ⟨(hX2.bel.cell (p := ⟨w.heap.size, 2, none⟩) hlt1).trans c2, hX2.c2, hX2.fz, (hBw.cell (p := ⟨b, o + m * 2, none⟩) hb).trans e0, (hBw.cell (p := ⟨b, o + m * 2 + 1, none⟩) hb).trans e1, Nat.lt_trans hlt1 hX2.lt, hX2.lt, Nat.lt_of_lt_of_le hb hBw.size⟩
            have hrow := hX2.row
            have hxl := hX2.lt
            have hxb := hX2.bel.size
            have n0 : lv.ownBlock ≠ some w.heap.size := fun e => by have := (hrow.lt _ e).1; omega
            have n1 : lv.ownBlock ≠ some W2.heap.size := fun e => by have := (hrow.lt _ e).1; omega
            have n2 : lv.ownBlock ≠ some b := fun e => by have := (hrow.lt _ e).1; have := B2.size; omega
            have hBm : Below V.heap.size V (V.alloc (.cells #[.int .i64 r.lhs, .slice sa r.rhs.length sc] 52)).drew := ((Below.refl _ _).alloc (Nat.le_refl _) _).drew
            have t1 := T.gr
            have t2 := T.xr
            have t3 := T.e0
            have t4 := T.e1
            have t5 := T.fz
            clear hR e0 e1 hl hil hri
            go_wp2
            have HN : Hid _ := cell_two_new V (.int .i64 r.lhs) (.slice sa r.rhs.length sc) 52
            have a2 := (T.alloc (.cells #[.int .i64 r.lhs, .slice sa r.rhs.length sc] 52)).xr
            go_region_law (refine step_append_lies _ (by rfl) _ _ _ (by rfl) (W2.heap.size + 1) 52 i0 _ 2 32 Try.underlying22 hinf hz0 hz1 hz2 rfl (by omega) lv ps.length xs (by rfl) (by first | exact (hrow.alloc _).drew | exact (hrow.drew.alloc _)) ⟨V.heap.size, 0, none⟩ 1 1 [.int .i64 r.lhs, .slice sa r.rhs.length sc] (by rfl) (by rfl) HN.out (by simp [Value.oneCell']) (by omega) (by unfold maxLen; omega) (by omega) (by simp; omega) (V.heap.size + 1) (by simp) ?_; intro g1 cap1 w1 hown1 hgrow hat hlt1; replace T : XS w.heap.size W2.heap.size b (o + m * 2) (.slice (some ⟨b, o, none⟩) n c) lv (.int .i64 r.lhs) (.slice sa r.rhs.length sc) w1 := (by first | exact XS.grown (T.alloc _).drew hgrow n0 n1 n2 hgrow.size | exact XS.grown (T.drew.alloc _) hgrow n0 n1 n2 hgrow.size); have f1 := T.fz; have f2 := T.xr)
            all_goals go_wp2
            all_goals refine ⟨⟨k + 1, .slice (some ⟨g1, 0, none⟩) (k + 1) cap1, xs ++ [.int .i64 r.lhs, .slice sa r.rhs.length sc], by omega, by go_num, ?_⟩, by simp [intOf]; omega⟩
            all_goals (rw [HP.out]; have hst := hX2.step hBm hK hgrow hown1; rw [hps] at hst; exact hst)
        · obtain rfl : k = idx.length := by omega
          subst hn
          rw [List.take_length] at hX
          have hpl : (pick G.rules idx).length = idx.length := pick_len hil
          obtain ⟨a', c', rfl, hRx⟩ := hX.rat B2 (by omega)
          have hmem := HMem.out ()
          have hokx : Gm.okB ⟨G.nts, G.start, pick G.rules idx⟩ = true := okB_mem (G := G) (X := ⟨G.nts, G.start, pick G.rules idx⟩) rfl rfl (by show (pick G.rules idx).length ≤ _; omega) (fun r hr => ((hmem r).1 hr).1) hok
          have HS : Hid (∀ l1 l2, ShortIs G l1 → ShortIs ⟨G.nts, G.start, pick G.rules idx⟩ l2 → l1 = l2) := fun l1 l2 h1 h2 => h1.one h2 (hokx.trans hok.symm) rfl (HLn.out ())
          have HT : Hid (∀ l, TrimIs ⟨G.nts, G.start, pick G.rules idx⟩ l → l.length = (pick G.rules idx).length) := fun l h => by
            rcases h with ⟨h, _⟩ | ⟨_, so2, _, h2, rfl⟩
            · rw [hokx] at h; cases h
            · exact HFull.out so2 h2
          generalize pick G.rules idx = ps at hX hRx hpl hokx HS HT
          have gG : GB w.heap.size G a c wr := ⟨(hX.bel.cell (p := ⟨w.heap.size, 0, none⟩) hlt1).trans c0, (hX.bel.cell (p := ⟨w.heap.size, 1, none⟩) hlt1).trans c1, (hX.bel.cell (p := ⟨w.heap.size, 2, none⟩) hlt1).trans c2, (hR.keep hBw).mono hBw.size, Nat.lt_trans hlt1 hX.lt⟩
          have gX : GB W2.heap.size ⟨G.nts, G.start, ps⟩ a' c' wr := ⟨hX.c0, hX.c1, hX.c2, hRx, hX.lt⟩
          have hz := code_ok hok
          have hzx := code_ok hokx
          clear hX hRx hmem hpl hokx c0 c1 c2 hR hlt1 B2 HMem HFull HLn hil hri hl hso hsl hok
          have c0 := gG.c0
          have c1 := gG.c1
          have c2 := gG.c2
          have d0 : wr.cell? ⟨W2.heap.size, 0, none⟩ = some (.int .i64 G.nts) := gX.c0
          have d1 : wr.cell? ⟨W2.heap.size, 1, none⟩ = some (.int .i64 G.start) := gX.c1
          have d2 : wr.cell? ⟨W2.heap.size, 2, none⟩ = some (.slice a' ps.length c') := gX.c2
          go_wp2_with (go_at_call 29; refine (H29.out G a c _ gG.rat).mono ?_)
          rintro e V1 ⟨⟨v1, l1, he, r1, i1⟩, hb⟩
          rw [← hz] at he
          subst he
          replace hBw := below_of hBw hb
          replace gG := gG.below hb
          replace gX := gX.below hb
          clear hb c0 c1 c2 d0 d1 d2
          have c0 := gG.c0
          have c1 := gG.c1
          have c2 := gG.c2
          have d0 : V1.cell? ⟨W2.heap.size, 0, none⟩ = some (.int .i64 G.nts) := gX.c0
          have d1 : V1.cell? ⟨W2.heap.size, 1, none⟩ = some (.int .i64 G.start) := gX.c1
          have d2 : V1.cell? ⟨W2.heap.size, 2, none⟩ = some (.slice a' ps.length c') := gX.c2
          go_wp2_with (go_at_call 29; refine (H29.out ⟨G.nts, G.start, ps⟩ a' c' _ gX.rat).mono ?_)
          rintro e V2 ⟨⟨v2, l2, he, r2, i2⟩, hb⟩
          rw [← hzx] at he
          subst he
          replace hBw := below_of hBw hb
          replace gG := gG.below hb
          replace gX := gX.below hb
          replace r1 := row_below r1 hb
          clear hb c0 c1 c2 d0 d1 d2
          have c0 := gG.c0
          have c1 := gG.c1
          have c2 := gG.c2
          have d0 : V2.cell? ⟨W2.heap.size, 0, none⟩ = some (.int .i64 G.nts) := gX.c0
          have d1 : V2.cell? ⟨W2.heap.size, 1, none⟩ = some (.int .i64 G.start) := gX.c1
          have d2 : V2.cell? ⟨W2.heap.size, 2, none⟩ = some (.slice a' ps.length c') := gX.c2
          go_wp2_with (go_at_call 31; refine (H31.out ⟨G.nts, G.start, ps⟩ a' c' _ gX.rat).mono ?_)
          rintro e V3 ⟨⟨v3, l3, he, r3, i3⟩, hb⟩
          rw [← hzx] at he
          subst he
          replace hBw := below_of hBw hb
          replace gG := gG.below hb
          replace gX := gX.below hb
          replace r1 := row_below r1 hb
          replace r2 := row_below r2 hb
          clear hb c0 c1 c2 d0 d1 d2
          have c0 := gG.c0
          have c1 := gG.c1
          have c2 := gG.c2
          have d0 : V3.cell? ⟨W2.heap.size, 0, none⟩ = some (.int .i64 G.nts) := gX.c0
          have d1 : V3.cell? ⟨W2.heap.size, 1, none⟩ = some (.int .i64 G.start) := gX.c1
          have d2 : V3.cell? ⟨W2.heap.size, 2, none⟩ = some (.slice a' ps.length c') := gX.c2
          obtain rfl := HS.out _ _ i1 i2
          rw [HT.out _ i3] at r3
          obtain ⟨a3, c3, rfl⟩ := row_slice r3
          have hl1 := i1.len
          go_wp2_with (go_at_call 12; refine (HA.out _).mono ?_)
          rintro e V4 ⟨rfl, hb⟩
          replace hBw := below_of hBw hb
          replace r1 := row_below r1 hb
          replace r2 := row_below r2 hb
          replace gX := gX.below hb
          have H35 : Hid _ := fun (_ : Unit) => sameInts_rows r1 r2 (by omega)
          clear hb d0 d1 d2 c0 c1 c2
          go_wp2_with (go_at_call 35; refine (H35.out ()).mono ?_)
          rintro e V5 ⟨rfl, hb⟩
          replace gX := gX.below hb
          have d2 : V5.cell? ⟨W2.heap.size, 2, none⟩ = some (.slice a' ps.length c') := gX.c2
          go_wp2
          go_ret
          exact ⟨rfl, below_of hBw hb⟩
end Go.Proofs.Ytopbibhpekjaeaa
