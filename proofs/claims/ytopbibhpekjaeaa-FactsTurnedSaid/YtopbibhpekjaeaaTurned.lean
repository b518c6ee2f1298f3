/- The law of rules in another order, walked. -/
import Derived.Test.YtopbibhpekjaeaaP3
import Derived.Test.YtopbibhpekjaeaaH1
namespace Go.Proofs.Ytopbibhpekjaeaa
open Go.RowKit

/-- The places of n rules, s further on. -/
def turnI (n s : Nat) : List Nat := (List.range n).map fun i => (i + s) % n
theorem turn_len (n s : Nat) : (turnI n s).length = n := by simp [turnI]
theorem turn_get {n s k : Nat} (h : k < n) : (turnI n s)[k]? = some ((k + s) % n) := by simp [turnI, h]
theorem turn_lt {n s : Nat} : ∀ i ∈ turnI n s, i < n := by
  intro i hi
  obtain ⟨j, hj, rfl⟩ := List.mem_map.1 hi
  have := List.mem_range.1 hj
  exact Nat.mod_lt _ (by omega)
theorem turn_mem {rs : List Rl} {s : Nat} (hs : s < rs.length) (r : Rl) : r ∈ pick rs (turnI rs.length s) ↔ r ∈ rs := by
  rw [pick_mem]
  constructor
  · rintro ⟨i, _, h⟩; exact List.mem_of_getElem? h
  · intro h
    obtain ⟨i, hi⟩ := List.mem_iff_getElem?.1 h
    have hl := (List.getElem?_eq_some_iff.1 hi).1
    refine ⟨i, ?_, hi⟩
    refine List.mem_map.2 ⟨(i + (rs.length - s)) % rs.length, List.mem_range.2 (Nat.mod_lt _ (by omega)), ?_⟩
    by_cases hc : s ≤ i
    · have e1 : (i + (rs.length - s)) % rs.length = i - s := by
        rw [show i + (rs.length - s) = (i - s) + rs.length by omega, Nat.add_mod_right, Nat.mod_eq_of_lt (by omega)]
      rw [e1, show i - s + s = i by omega, Nat.mod_eq_of_lt hl]
    · have e1 : (i + (rs.length - s)) % rs.length = i + (rs.length - s) := Nat.mod_eq_of_lt (by omega)
      rw [e1, show i + (rs.length - s) + s = i + rs.length by omega, Nat.add_mod_right, Nat.mod_eq_of_lt hl]

set_option maxRecDepth 100000 in
set_option maxHeartbeats 16000000 in
theorem turned_walk (G : Gm) (a : Option Addr) (c : Nat) (by_ : Int) (w : World) (hR : RAt w w.heap.size a G.rules) :
    Calls Try.prog 10 #[.agg #[.int .i64 G.nts, .int .i64 G.start, .slice a G.rules.length c], .int .i64 by_] w fun e w' => e = .returned (.bool true) ∧ Below w.heap.size w w' := by
  obtain ⟨W0, hW0⟩ : ∃ W0, w.alloc (.cells #[.int .i64 G.nts, .int .i64 G.start, .slice a G.rules.length c] 24) = W0 := ⟨_, rfl⟩
  have hs0 : W0.heap.size = w.heap.size + 1 := by rw [← hW0]; simp
  have hB0 : Below w.heap.size w W0 := by rw [← hW0]; exact (Below.refl _ _).alloc (Nat.le_refl _) _
  have c0 : W0.cell? ⟨w.heap.size, 0, none⟩ = some (.int .i64 G.nts) := by rw [← hW0]; exact cell_new 0 rfl
  have c1 : W0.cell? ⟨w.heap.size, 1, none⟩ = some (.int .i64 G.start) := by rw [← hW0]; exact cell_new 1 rfl
  have c2 : W0.cell? ⟨w.heap.size, 2, none⟩ = some (.slice a G.rules.length c) := by rw [← hW0]; exact cell_new 2 rfl
  have hR0 := (hR.keep hB0).mono (B' := W0.heap.size) (by omega)
  have hlt0 : w.heap.size < W0.heap.size := by omega
  have hlen := hR.len
  have HA : Hid _ := fun W => alive_any W
  have H11 : Hid _ := fun (_ : Unit) => heavy_any G a c 300 W0 hR0
  go_enter Try.func10, Try.ntmps10
  go_wp2_with (go_at_call 11; refine (H11.out ()).mono ?_)
  rintro e W1 ⟨⟨x, rfl⟩, hb1⟩
  have B1 := below_of hB0 hb1
  have k1 : ∀ q, W1.cell? ⟨w.heap.size, q, none⟩ = W0.cell? ⟨w.heap.size, q, none⟩ := fun q => hb1.cell (p := ⟨w.heap.size, q, none⟩) hlt0
  rw [← k1] at c0 c1 c2
  have hlt1 := Nat.lt_of_lt_of_le hlt0 hb1.size
  clear hb1 k1 hB0 hlt0 hR0 hs0 hW0 H11
  cases x with
  | true =>
    go_wp2_with (go_at_call 12; refine (HA.out _).mono ?_)
    rintro e W2 ⟨rfl, hb2⟩
    go_wp2
    go_ret
    exact ⟨rfl, below_of B1 hb2⟩
  | false =>
    by_cases h0 : (G.rules.length : Int) = 0
    · go_wp2_with (go_at_call 12; refine (HA.out _).mono ?_)
      rintro e W2 ⟨rfl, hb2⟩
      go_wp2
      go_ret
      exact ⟨rfl, below_of B1 hb2⟩
    · have h0' : decide ((G.rules.length : Int) = 0) = false := by simpa using h0
      obtain ⟨n, hn⟩ : ∃ n, G.rules.length = n := ⟨_, rfl⟩
      rw [hn] at h0 h0' c2 hlen
      have hn0 : 0 < n := by omega
      have h0b : ((n : Int) == 0) = false := by simp; omega
      have hn1 : ¬ n = 0 := by omega
      obtain ⟨i0, hinf, hz0, hz1, hz2⟩ := info_parts info52
      obtain ⟨s, hs, hsl⟩ : ∃ s : Nat, (by_.tmod (n : Int) + (n : Int)).tmod (n : Int) = (s : Int) ∧ s < n := by
        have a1 := Int.tmod_lt_of_pos by_ (b := (n : Int)) (by omega)
        have a2 := Int.lt_tmod_of_pos by_ (b := (n : Int)) (by omega)
        have a3 := Int.tmod_lt_of_pos (by_.tmod n + n) (b := (n : Int)) (by omega)
        have a4 := Int.tmod_nonneg (n : Int) (a := by_.tmod n + n) (by omega)
        exact ⟨((by_.tmod (n : Int) + (n : Int)).tmod (n : Int)).toNat, by omega, by omega⟩
      have hd1 := Int.tmod_lt_of_pos by_ (b := (n : Int)) (by omega)
      have hd2 := Int.lt_tmod_of_pos by_ (b := (n : Int)) (by omega)
      have hw1 : IntKind.i64.wrap (by_.tmod (n : Int) + (n : Int)) = by_.tmod (n : Int) + (n : Int) := (by rw [IntKind.wrap_i64]; omega)
      rw [hn]
      go_wp2
      go_loopw [7] (fun iv W => ∃ (k : Nat) (lv : Value) (xs : List Value), k ≤ n ∧ iv = .int .i64 k ∧ XI w G.nts G.start W1 (pick G.rules ((turnI n s).take k)) lv xs W) (fun iv _ => n - (intOf iv).toNat)
      case atStart => exact ⟨0, _, _, by omega, rfl, XI.start _ _ _ _⟩
      case round =>
        obtain ⟨k, lv, xs, hk, rfl, hX⟩ := hrel
        have hBw : Below w.heap.size w wr := B1.trans (hX.bel.mono B1.size)
        by_cases hlt : k < n
        · have hm : ((k : Int) + (s : Int)).tmod (n : Int) = (((k + s) % n : Nat) : Int) := by
            rw [show (k : Int) + (s : Int) = ((k + s : Nat) : Int) by omega]; first | rfl | exact (Int.ofNat_tmod _ _).symm
          have hml : (k + s) % n < n := Nat.mod_lt _ hn0
          have hw2 : IntKind.i64.wrap ((k : Int) + (s : Int)) = (k : Int) + (s : Int) := (by rw [IntKind.wrap_i64]; omega)
          have hik := turn_get (s := s) hlt
          generalize (k + s) % n = m at hm hml hik
          obtain ⟨r, hr⟩ : ∃ r, G.rules[m]? = some r := ⟨G.rules[m]'(by omega), by simp⟩
          obtain ⟨b, o, sa, sc, rfl, hb, hK, e0, e1⟩ := hR.cells m r hr
          have hps : (pick G.rules ((turnI n s).take k)).length = k := by
            rw [pick_len (fun i hi => by rw [hn]; exact turn_lt i (List.mem_of_mem_take hi)), List.length_take, turn_len]; omega
          have HP : Hid (pick G.rules ((turnI n s).take (k + 1)) = pick G.rules ((turnI n s).take k) ++ [r]) := pick_take hik hr
          generalize pick G.rules ((turnI n s).take k) = ps at hX hps HP
          have T : XS w.heap.size W1.heap.size b (o + m * 2) (.slice (some ⟨b, o, none⟩) n c) lv (.int .i64 r.lhs) (.slice sa r.rhs.length sc) wr :=
            ⟨(hX.bel.cell (p := ⟨w.heap.size, 2, none⟩) hlt1).trans c2, hX.c2, hX.fz, (hBw.cell (p := ⟨b, o + m * 2, none⟩) hb).trans e0, (hBw.cell (p := ⟨b, o + m * 2 + 1, none⟩) hb).trans e1, Nat.lt_trans hlt1 hX.lt, hX.lt, Nat.lt_of_lt_of_le hb hBw.size⟩
          have hrow := hX.row
          have hxl := hX.lt
          have hxb := hX.bel.size
          have n0 : lv.ownBlock ≠ some w.heap.size := fun e => by have := (hrow.lt _ e).1; omega
          have n1 : lv.ownBlock ≠ some W1.heap.size := fun e => by have := (hrow.lt _ e).1; omega
          have n2 : lv.ownBlock ≠ some b := fun e => by have := (hrow.lt _ e).1; have := B1.size; omega
          have hmI : (m : Int) < n := by omega
          have t1 := T.gr
          have t2 := T.xr
          have t3 := T.e0
          have t4 := T.e1
          have t5 := T.fz
          clear hR e0 e1 h0 h0'
          go_wp2
          have HN : Hid _ := cell_two_new wr (.int .i64 r.lhs) (.slice sa r.rhs.length sc) 52
          have a1 := (T.alloc (.cells #[.int .i64 r.lhs, .slice sa r.rhs.length sc] 52)).gr
          have a2 := (T.alloc (.cells #[.int .i64 r.lhs, .slice sa r.rhs.length sc] 52)).xr
          have a3 := (T.alloc (.cells #[.int .i64 r.lhs, .slice sa r.rhs.length sc] 52)).e0
          have a4 := (T.alloc (.cells #[.int .i64 r.lhs, .slice sa r.rhs.length sc] 52)).e1
          have hBm : Below wr.heap.size wr (wr.alloc (.cells #[.int .i64 r.lhs, .slice sa r.rhs.length sc] 52)).drew := ((Below.refl _ _).alloc (Nat.le_refl _) _).drew
          go_region_law (refine step_append_lies _ (by rfl) _ _ _ (by rfl) (W1.heap.size + 1) 52 i0 _ 2 32 Try.underlying22 hinf hz0 hz1 hz2 rfl (by omega) lv ps.length xs (by rfl) (by first | exact (hrow.alloc _).drew | exact (hrow.drew.alloc _)) ⟨wr.heap.size, 0, none⟩ 1 1 [.int .i64 r.lhs, .slice sa r.rhs.length sc] (by rfl) (by rfl) HN.out (by simp [Value.oneCell']) (by omega) (by unfold maxLen; omega) (by omega) (by simp; omega) (wr.heap.size + 1) (by simp) ?_; intro g1 cap1 w1 hown1 hgrow hat hlt1; replace T : XS w.heap.size W1.heap.size b (o + m * 2) (.slice (some ⟨b, o, none⟩) n c) lv (.int .i64 r.lhs) (.slice sa r.rhs.length sc) w1 := (by first | exact XS.grown (T.alloc _).drew hgrow n0 n1 n2 hgrow.size | exact XS.grown (T.drew.alloc _) hgrow n0 n1 n2 hgrow.size); have f1 := T.fz; have f2 := T.xr; have f3 := T.gr; have f4 := T.e0; have f5 := T.e1)
          all_goals go_wp2
          all_goals refine ⟨⟨k + 1, .slice (some ⟨g1, 0, none⟩) (k + 1) cap1, xs ++ [.int .i64 r.lhs, .slice sa r.rhs.length sc], by omega, by go_num, ?_⟩, by simp [intOf]; omega⟩
          all_goals (rw [HP.out]; have hst := hX.step hBm hK hgrow hown1; rw [hps] at hst; exact hst)
        · obtain rfl : k = n := by omega
          subst hn
          rw [List.take_of_length_le (Nat.le_of_eq (turn_len _ _))] at hX
          obtain ⟨a', c', rfl, hRx⟩ := hX.rat B1 (by
            rw [pick_len turn_lt, turn_len]; exact hlen)
          have hmem := turn_mem (rs := G.rules) hsl
          have hpl : (pick G.rules (turnI G.rules.length s)).length = G.rules.length := by rw [pick_len turn_lt, turn_len]
          generalize pick G.rules (turnI G.rules.length s) = ps at hX hRx hmem hpl
          have gG : GB w.heap.size G a c wr := ⟨(hX.bel.cell (p := ⟨w.heap.size, 0, none⟩) hlt1).trans c0, (hX.bel.cell (p := ⟨w.heap.size, 1, none⟩) hlt1).trans c1, (hX.bel.cell (p := ⟨w.heap.size, 2, none⟩) hlt1).trans c2, (hR.keep hBw).mono hBw.size, Nat.lt_trans hlt1 hX.lt⟩
          have gX : GB W1.heap.size ⟨G.nts, G.start, ps⟩ a' c' wr := ⟨hX.c0, hX.c1, hX.c2, hRx, hX.lt⟩
          have hok : Gm.okB ⟨G.nts, G.start, ps⟩ = G.okB := by
            refine Bool.eq_iff_iff.2 ⟨fun h => okB_mem (G := ⟨G.nts, G.start, ps⟩) (X := G) rfl rfl (by show G.rules.length ≤ ps.length; omega) (fun r hr => (hmem r).2 hr) h, fun h => okB_mem (G := G) (X := ⟨G.nts, G.start, ps⟩) rfl rfl (by show ps.length ≤ G.rules.length; omega) (fun r hr => (hmem r).1 hr) h⟩
          obtain ⟨z, hz⟩ : ∃ z, G.code = z := ⟨_, rfl⟩
          have hzx : Gm.code ⟨G.nts, G.start, ps⟩ = z := by rw [← hz]; unfold Gm.code; rw [hok]
          have HF : Hid (∀ l1 l2, FirstIs G l1 → FirstIs ⟨G.nts, G.start, ps⟩ l2 → l1 = l2) := fun l1 l2 h1 h2 => h1.one h2 hok rfl fun n k => ⟨fun h => h.more fun r hr => (hmem r).2 hr, fun h => h.more fun r hr => (hmem r).1 hr⟩
          have HS : Hid (∀ l1 l2, ShortIs G l1 → ShortIs ⟨G.nts, G.start, ps⟩ l2 → l1 = l2) := fun l1 l2 h1 h2 => h1.one h2 hok rfl fun n k => ⟨fun h => h.more fun r hr => (hmem r).2 hr, fun h => h.more fun r hr => (hmem r).1 hr⟩
          have HC : Hid (∀ x y, CycIs G x → CycIs ⟨G.nts, G.start, ps⟩ y → x = y) := fun l1 l2 h1 h2 => h1.one h2 hok rfl ⟨fun h => h.more fun r hr => (hmem r).2 hr, fun h => h.more fun r hr => (hmem r).1 hr⟩
          have H26 : Hid _ := fun G a c W h => First_row G a c W h
          have H29 : Hid _ := fun G a c W h => Shortest_row G a c W h
          have H33 : Hid _ := fun G a c W h => Cyclic_row G a c W h
          clear hX hRx hmem hpl hok c0 c1 c2 hR hlt1 B1
          have c0 := gG.c0
          have c1 := gG.c1
          have c2 := gG.c2
          have d0 : wr.cell? ⟨W1.heap.size, 0, none⟩ = some (.int .i64 G.nts) := gX.c0
          have d1 : wr.cell? ⟨W1.heap.size, 1, none⟩ = some (.int .i64 G.start) := gX.c1
          have d2 : wr.cell? ⟨W1.heap.size, 2, none⟩ = some (.slice a' ps.length c') := gX.c2
          go_wp2_with (go_at_call 26; refine (H26.out G a c _ gG.rat).mono ?_)
          rintro e V1 ⟨⟨v1, l1, he, r1, i1⟩, hb⟩
          rw [hz] at he
          subst he
          replace hBw := below_of hBw hb
          replace gG := gG.below hb
          replace gX := gX.below hb
          clear hb c0 c1 c2 d0 d1 d2
          have c0 := gG.c0
          have c1 := gG.c1
          have c2 := gG.c2
          have d0 : V1.cell? ⟨W1.heap.size, 0, none⟩ = some (.int .i64 G.nts) := gX.c0
          have d1 : V1.cell? ⟨W1.heap.size, 1, none⟩ = some (.int .i64 G.start) := gX.c1
          have d2 : V1.cell? ⟨W1.heap.size, 2, none⟩ = some (.slice a' ps.length c') := gX.c2
          go_wp2_with (go_at_call 26; refine (H26.out ⟨G.nts, G.start, ps⟩ a' c' _ gX.rat).mono ?_)
          rintro e V2 ⟨⟨v2, l2, he, r2, i2⟩, hb⟩
          rw [hzx] at he
          subst he
          replace hBw := below_of hBw hb
          replace gG := gG.below hb
          replace gX := gX.below hb
          replace r1 := row_below r1 hb
          clear hb c0 c1 c2 d0 d1 d2
          have c0 := gG.c0
          have c1 := gG.c1
          have c2 := gG.c2
          have d0 : V2.cell? ⟨W1.heap.size, 0, none⟩ = some (.int .i64 G.nts) := gX.c0
          have d1 : V2.cell? ⟨W1.heap.size, 1, none⟩ = some (.int .i64 G.start) := gX.c1
          have d2 : V2.cell? ⟨W1.heap.size, 2, none⟩ = some (.slice a' ps.length c') := gX.c2
          go_wp2_with (go_at_call 29; refine (H29.out G a c _ gG.rat).mono ?_)
          rintro e V3 ⟨⟨v3, l3, he, r3, i3⟩, hb⟩
          rw [hz] at he
          subst he
          replace hBw := below_of hBw hb
          replace gG := gG.below hb
          replace gX := gX.below hb
          replace r1 := row_below r1 hb
          replace r2 := row_below r2 hb
          clear hb c0 c1 c2 d0 d1 d2
          have c0 := gG.c0
          have c1 := gG.c1
          have c2 := gG.c2
          have d0 : V3.cell? ⟨W1.heap.size, 0, none⟩ = some (.int .i64 G.nts) := gX.c0
          have d1 : V3.cell? ⟨W1.heap.size, 1, none⟩ = some (.int .i64 G.start) := gX.c1
          have d2 : V3.cell? ⟨W1.heap.size, 2, none⟩ = some (.slice a' ps.length c') := gX.c2
          go_wp2_with (go_at_call 29; refine (H29.out ⟨G.nts, G.start, ps⟩ a' c' _ gX.rat).mono ?_)
          rintro e V4 ⟨⟨v4, l4, he, r4, i4⟩, hb⟩
          rw [hzx] at he
          subst he
          replace hBw := below_of hBw hb
          replace gG := gG.below hb
          replace gX := gX.below hb
          replace r1 := row_below r1 hb
          replace r2 := row_below r2 hb
          replace r3 := row_below r3 hb
          clear hb c0 c1 c2 d0 d1 d2
          have c0 := gG.c0
          have c1 := gG.c1
          have c2 := gG.c2
          have d0 : V4.cell? ⟨W1.heap.size, 0, none⟩ = some (.int .i64 G.nts) := gX.c0
          have d1 : V4.cell? ⟨W1.heap.size, 1, none⟩ = some (.int .i64 G.start) := gX.c1
          have d2 : V4.cell? ⟨W1.heap.size, 2, none⟩ = some (.slice a' ps.length c') := gX.c2
          go_wp2_with (go_at_call 33; refine (H33.out G a c _ gG.rat).mono ?_)
          rintro e V5 ⟨⟨x5, he, i5⟩, hb⟩
          rw [hz] at he
          subst he
          replace hBw := below_of hBw hb
          replace gG := gG.below hb
          replace gX := gX.below hb
          replace r1 := row_below r1 hb
          replace r2 := row_below r2 hb
          replace r3 := row_below r3 hb
          replace r4 := row_below r4 hb
          clear hb c0 c1 c2 d0 d1 d2
          have c0 := gG.c0
          have c1 := gG.c1
          have c2 := gG.c2
          have d0 : V5.cell? ⟨W1.heap.size, 0, none⟩ = some (.int .i64 G.nts) := gX.c0
          have d1 : V5.cell? ⟨W1.heap.size, 1, none⟩ = some (.int .i64 G.start) := gX.c1
          have d2 : V5.cell? ⟨W1.heap.size, 2, none⟩ = some (.slice a' ps.length c') := gX.c2
          go_wp2_with (go_at_call 33; refine (H33.out ⟨G.nts, G.start, ps⟩ a' c' _ gX.rat).mono ?_)
          rintro e V6 ⟨⟨x6, he, i6⟩, hb⟩
          rw [hzx] at he
          subst he
          replace hBw := below_of hBw hb
          replace gG := gG.below hb
          replace gX := gX.below hb
          replace r1 := row_below r1 hb
          replace r2 := row_below r2 hb
          replace r3 := row_below r3 hb
          replace r4 := row_below r4 hb
          clear hb c0 c1 c2 d0 d1 d2
          have c0 := gG.c0
          have c1 := gG.c1
          have c2 := gG.c2
          have d0 : V6.cell? ⟨W1.heap.size, 0, none⟩ = some (.int .i64 G.nts) := gX.c0
          have d1 : V6.cell? ⟨W1.heap.size, 1, none⟩ = some (.int .i64 G.start) := gX.c1
          have d2 : V6.cell? ⟨W1.heap.size, 2, none⟩ = some (.slice a' ps.length c') := gX.c2
          obtain rfl := HF.out _ _ i1 i2
          obtain rfl := HS.out _ _ i3 i4
          obtain rfl := HC.out _ _ i5 i6
          have hl1 := i1.len
          have hl3 := i3.len
          go_wp2_with (go_at_call 12; refine (HA.out _).mono ?_)
          rintro e V7 ⟨rfl, hb⟩
          replace hBw := below_of hBw hb
          replace r1 := row_below r1 hb
          replace r2 := row_below r2 hb
          replace r3 := row_below r3 hb
          replace r4 := row_below r4 hb
          have H28 : Hid _ := fun (_ : Unit) => sameSets_rows r1 r2 (by omega)
          clear hb
          go_wp2_with (go_at_call 28; refine (H28.out ()).mono ?_)
          rintro e V8 ⟨rfl, hb⟩
          replace hBw := below_of hBw hb
          replace r3 := row_below r3 hb
          replace r4 := row_below r4 hb
          have H35 : Hid _ := fun (_ : Unit) => sameInts_rows r3 r4 (by omega)
          clear hb
          go_wp2_with (go_at_call 35; refine (H35.out ()).mono ?_)
          rintro e V9 ⟨rfl, hb⟩
          go_wp2
          go_ret
          exact ⟨rfl, below_of hBw hb⟩
end Go.Proofs.Ytopbibhpekjaeaa
