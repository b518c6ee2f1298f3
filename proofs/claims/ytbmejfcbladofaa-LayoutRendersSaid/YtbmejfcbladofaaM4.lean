/- The document's own writer: a leaf. -/
import Derived.Test.YtbmejfcbladofaaM3
import Derived.BigRegion
namespace Go.Proofs.Ytbmejfcbladofaa
open Go.RowKit

theorem rspc_snoc (n : Nat) (w : Wr) : rspc (n + 1) w = if (rspc n w).long then rspc n w else rput (rspc n w) ⟨#[32]⟩ := by
  induction n generalizing w with
  | zero => rfl
  | succ n ih =>
    rw [rspc]
    by_cases hw : w.long = true
    · rw [if_pos hw, rspc_long _ hw, if_pos hw]
    · rw [if_neg hw, ih, rspc, if_neg hw]
theorem rput_len {w : Wr} (s : ByteArray) (h : w.out.length ≤ 65536) : (rput w s).out.length ≤ 65536 := by
  unfold rput
  split
  · exact h
  · rw [List.length_append]; show _ + s.data.toList.length ≤ _; simp; omega
theorem rput_col {w : Wr} (s : ByteArray) (hc : 0 ≤ w.col ∧ w.col ≤ 200000 + w.out.length) : 0 ≤ (rput w s).col ∧ (rput w s).col ≤ 200000 + (rput w s).out.length := by
  unfold rput
  split
  · exact hc
  · rw [List.length_append]; show 0 ≤ w.col + s.size ∧ w.col + s.size ≤ _; simp; omega
theorem rspc_ok (n : Nat) {w : Wr} (h : w.out.length ≤ 65536) (hc : 0 ≤ w.col ∧ w.col ≤ 200000 + w.out.length) : (rspc n w).out.length ≤ 65536 ∧ 0 ≤ (rspc n w).col ∧ (rspc n w).col ≤ 200000 + (rspc n w).out.length := by
  induction n with
  | zero => exact ⟨h, hc⟩
  | succ n ih =>
    rw [rspc_snoc]
    split
    · exact ih
    · exact ⟨rput_len _ ih.1, rput_col _ ih.2⟩
theorem rspc_stop {w : Wr} {k i : Nat} (h : (rspc k w).long = true) (hk : k ≤ i) : rspc i w = rspc k w := by
  induction i with
  | zero => obtain rfl : k = 0 := by omega
            rfl
  | succ i ih =>
    rcases Nat.lt_or_ge i k with h' | h'
    · obtain rfl : k = i + 1 := by omega
      rfl
    · rw [rspc_snoc, ih h', if_pos h]
theorem WrAt.drew {lo WB : Nat} {w : Wr} {wd : Int} {lv tv : Value} {ls : List Dc} {W : World} (h : WrAt lo WB w wd lv tv ls W) : WrAt lo WB w wd lv tv ls W.drew := ⟨h.blk, h.row, h.lrow, h.n1, h.n2, h.n3⟩
set_option maxRecDepth 100000 in
set_option maxHeartbeats 8000000 in
theorem rleaf_any (lo WB : Nat) (wt : Wr) (wd : Int) (lv tv : Value) (ls : List Dc) (i : Nat) (flat : Bool) (w : World) (h : WrAt lo WB wt wd lv tv ls w) (ht : wt.out.length ≤ 65536) (hc : 0 ≤ wt.col ∧ wt.col ≤ 200000 + wt.out.length) (hp : wt.pos < ls.length) (hls : ls.length ≤ 1000000) (htx : ∀ x ∈ ls, x.text.size ≤ 1000000) (hi : i ≤ 200000) (hlo : lo ≤ w.heap.size) :
    Calls Try.prog 38 #[.pointer (some ⟨WB, 0, none⟩), .int .i64 (i : Int), .bool flat] w fun e w' => (∃ r, e = .returned r) ∧ ∃ tv', WrAt lo WB (rleaf ls wt i flat) wd lv tv' ls w' ∧ Turn WB tv tv' w w' := by
  obtain ⟨x, hx⟩ : ∃ x, ls[wt.pos]? = some x := ⟨ls[wt.pos], by simp [hp]⟩
  obtain ⟨lo', hl⟩ := h.lrow
  obtain ⟨g, cap, hsl, _, hglt⟩ := hl.form (by omega)
  subst hsl
  obtain ⟨q0, q1, q2, q3⟩ := lfV_get4 hx
  have r0 := (own_cell hl q0).1
  have r1 := (own_cell hl q1).1
  have r2 := (own_cell hl q2).1
  have r3 := (own_cell hl q3).1
  have hWB := (Array.getElem?_eq_some_iff.1 h.blk).1
  obtain ⟨c0, f0⟩ := blk_cell h.blk (j := 0) rfl
  obtain ⟨c1, f1⟩ := blk_cell h.blk (j := 1) rfl
  have hpI : (wt.pos : Int) < ls.length := by omega
  have hxt : x.text.size ≤ 1000000 := htx x (List.mem_of_getElem? hx)
  have HH : Hid _ := h
  clear h hl q0 q1 q2 q3 htx
  go_enter Try.func38, Try.ntmps38
  go_wp2
  go_region
  have HBX : Hid (Below w.heap.size w (w.alloc (.cells #[.int .i64 x.kind, .string x.text, .int .i64 x.n, .slice none 0 0] 24)).drew) := ((Below.refl _ _).alloc (Nat.le_refl _) _).drew
  have xB : Bx (w.alloc (.cells #[.int .i64 x.kind, .string x.text, .int .i64 x.n, .slice none 0 0] 24)).drew w.heap.size x.kind x.text x.n (.slice none 0 0) := by
    have b := Bx.new w x.kind x.text x.n (.slice none 0 0) 24
    exact ⟨b.c0, b.c1, b.c2, b.c3⟩
  obtain ⟨w1, hw1⟩ : ∃ w1, (w.alloc (.cells #[.int .i64 x.kind, .string x.text, .int .i64 x.n, .slice none 0 0] 24)).drew = w1 := ⟨_, rfl⟩
  rw [hw1] at HBX xB ⊢
  have hs1 : w.heap.size < w1.heap.size := by rw [← hw1]; show _ < (w.alloc _).heap.size; simp
  clear hw1 r0 r1 r2 r3 c0 c1 f0 f1 hpI
  have h1 := HH.out.below HBX.out
  have hs2 := h1.set 1 (.int .i64 ((wt.pos : Int) + 1)) (w' := { wt with pos := wt.pos + 1 }) rfl rfl
  obtain ⟨c1, f1⟩ := blk_cell h1.blk (j := 1) rfl
  obtain ⟨w2, hw2⟩ : ∃ w2, w1.setCell ⟨WB, 1, none⟩ (.int .i64 ((wt.pos : Int) + 1)) = w2 := ⟨_, rfl⟩
  rw [hw2] at hs2
  have x2 : Bx w2 w.heap.size x.kind x.text x.n (.slice none 0 0) := by
    have e : ∀ q, w2.cell? ⟨w.heap.size, q, none⟩ = w1.cell? ⟨w.heap.size, q, none⟩ := fun q => by
      rw [← hw2]
      exact World.cell?_of_block (a := ⟨w.heap.size, q, none⟩) (Below.heap_setCell w1 ⟨WB, 1, none⟩ _ w.heap.size (by show w.heap.size ≠ WB; omega))
    exact ⟨(e _).trans xB.c0, (e _).trans xB.c1, (e _).trans xB.c2, (e _).trans xB.c3⟩
  have HLO2 : Hid (lo ≤ w2.heap.size) := Nat.le_trans (Nat.le_trans hlo HBX.out.size) hs2.2.size
  obtain ⟨d0, d1, d2, d3⟩ := x2
  have H2 : Hid _ := hs2.1
  have HT2 : Hid (Turn WB tv tv w w2) := (Turn.of_below HBX.out).trans hs2.2
  have HRL : Hid (rleaf ls wt i flat = if x.kind = 1 ∨ (x.kind = 2 ∧ flat = true) then rput { wt with pos := wt.pos + 1 } x.text else rbrk { wt with pos := wt.pos + 1 } i) := by
    show _ = _
    unfold rleaf
    rw [hx]
  have hc1 : wt.col ≤ 1000000 := by omega
  have hc0 : 0 ≤ wt.col := hc.1
  have HCC : Hid _ := hc
  clear hs2 h1 xB hx hc
  by_cases hk : x.kind = 1 ∨ (x.kind = 2 ∧ flat = true)
  · rw [if_pos hk] at HRL
    have HP : Hid _ := fun (_ : Unit) => rput_any lo WB { wt with pos := wt.pos + 1 } wd (.slice (some ⟨g, 0, none⟩) ls.length cap) tv ls x.text w2 H2.out ht hc0 hc1 hxt HLO2.out
    have HK : Hid _ := hk
    clear hk
    rcases HK.out with h1 | ⟨h2, h3⟩
    · rw [h1] at d0
      clear h1 HK
      go_wp2_with (go_at_call 47; refine (HP.out ()).mono ?_)
      rintro e w3 ⟨⟨r, rfl⟩, tv', hP3, hT3⟩
      have HP3 : Hid _ := hP3
      have HT3 : Hid _ := hT3
      clear hP3 hT3
      go_wp2
      first | go_end0 | refine bodyPost_ret (results_none rfl _ _ _) rfl ?_
      rw [HRL.out]
      exact ⟨⟨_, rfl⟩, tv', HP3.out, HT2.out.trans HT3.out⟩
    · rw [h2] at d0
      subst h3
      clear h2 HK
      go_wp2_with (go_at_call 47; refine (HP.out ()).mono ?_)
      rintro e w3 ⟨⟨r, rfl⟩, tv', hP3, hT3⟩
      have HP3 : Hid _ := hP3
      have HT3 : Hid _ := hT3
      clear hP3 hT3
      go_wp2
      first | go_end0 | refine bodyPost_ret (results_none rfl _ _ _) rfl ?_
      rw [HRL.out]
      exact ⟨⟨_, rfl⟩, tv', HP3.out, HT2.out.trans HT3.out⟩
  · rw [if_neg hk] at HRL
    have k1 : ¬ x.kind = 1 := fun e => hk (.inl e)
    have k1b : (x.kind == 1) = false := by simpa using k1
    have HP : Hid _ := fun (_ : Unit) => rput_any lo WB { wt with pos := wt.pos + 1 } wd (.slice (some ⟨g, 0, none⟩) ls.length cap) tv ls ⟨#[10]⟩ w2 H2.out ht hc0 hc1 (by show 1 ≤ _; omega) HLO2.out
    have HOK : Hid (∀ k, (rspc k (rput { wt with pos := wt.pos + 1 } ⟨#[10]⟩)).out.length ≤ 65536 ∧ 0 ≤ (rspc k (rput { wt with pos := wt.pos + 1 } ⟨#[10]⟩)).col ∧ (rspc k (rput { wt with pos := wt.pos + 1 } ⟨#[10]⟩)).col ≤ 200000 + (rspc k (rput { wt with pos := wt.pos + 1 } ⟨#[10]⟩)).out.length) := fun k => rspc_ok k (rput_len _ ht) (rput_col _ HCC.out)
    have HRB : Hid (rbrk { wt with pos := wt.pos + 1 } i = { rspc i (rput { wt with pos := wt.pos + 1 } ⟨#[10]⟩) with col := (i : Int) }) := rfl
    rw [HRB.out] at HRL
    obtain ⟨u, hu⟩ : ∃ u, rput { wt with pos := wt.pos + 1 } ⟨#[10]⟩ = u := ⟨_, rfl⟩
    rw [hu] at HP HOK HRL
    clear HRB hu
    have HMAIN : Hid (∀ W1 tv1, WrAt lo WB u wd (.slice (some ⟨g, 0, none⟩) ls.length cap) tv1 ls W1 → Turn WB tv tv1 w W1 → lo ≤ W1.heap.size → True) := fun _ _ _ _ _ => trivial
    clear HMAIN
    have HK2 : Hid (x.kind = 2 → flat = false) := fun e => by
      cases flat with
      | true => exact absurd (.inr ⟨e, rfl⟩) hk
      | false => rfl
    clear hk
    by_cases k2 : x.kind = 2
    · have hfl := HK2.out k2
      subst hfl
      rw [k2] at d0
      clear k1 k1b k2 HK2
      go_wp2_with (go_at_call 47; refine (HP.out ()).mono ?_; rintro e w3 ⟨⟨r, rfl⟩, tv3, hP3, hT3⟩; have HP3 : Hid _ := hP3; have HT3 : Hid (Turn WB tv tv3 w w3) := HT2.out.trans hT3; have HLO3 : Hid (lo ≤ w3.heap.size) := Nat.le_trans HLO2.out hT3.size; clear hP3 hT3 d0 d1 d2 d3)
      go_loopw [7] (fun kv W => ∃ (k : Nat) (tv' : Value), k ≤ i ∧ kv = .int .i64 k ∧ WrAt lo WB (rspc k u) wd (.slice (some ⟨g, 0, none⟩) ls.length cap) tv' ls W ∧ Turn WB tv tv' w W ∧ lo ≤ W.heap.size) (fun kv _ => i - (intOf kv).toNat)
      case atStart => exact ⟨0, tv3, Nat.zero_le _, rfl, HP3.out, HT3.out, HLO3.out⟩
      case round =>
        obtain ⟨k, tv', hk, rfl, hP, hT, hlo'⟩ := hrel
        have HPk : Hid _ := hP
        have HTk : Hid _ := hT
        obtain ⟨c6, f6⟩ := blk_cell hP.blk (j := 6) rfl
        obtain ⟨c3, f3⟩ := blk_cell hP.blk (j := 3) rfl
        have HFIN : Hid (rspc i u = rspc k u → ∀ W', W' = wr.setCell ⟨WB, 3, none⟩ (.int .i64 (i : Int)) → ∃ tv'', WrAt lo WB (rleaf ls wt i false) wd (.slice (some ⟨g, 0, none⟩) ls.length cap) tv'' ls W' ∧ Turn WB tv tv'' w W') := fun e W' hW' => by
          subst hW'
          have := HPk.out.set 3 (.int .i64 (i : Int)) (w' := { rspc k u with col := (i : Int) }) rfl rfl
          rw [HRL.out, e]
          exact ⟨tv', this.1, HTk.out.trans this.2⟩
        have hok := HOK.out k
        have HPUT : Hid _ := fun (_ : Unit) => rput_any lo WB (rspc k u) wd (.slice (some ⟨g, 0, none⟩) ls.length cap) tv' ls ⟨#[32]⟩ wr HPk.out hok.1 hok.2.1 (by omega) (by show 1 ≤ _; omega) hlo'
        have HSN : Hid _ := rspc_snoc k u
        have HST : Hid ((rspc k u).long = true → rspc i u = rspc k u) := fun h => rspc_stop h hk
        clear hP hT hok HP3 HT3
        by_cases hlt : k < i
        · have hltI : (k : Int) < i := by omega
          cases hlg : (rspc k u).long with
          | true =>
            have HF : Hid _ := HFIN.out (HST.out hlg) _ rfl
            rw [hlg] at c6
            clear hlg HFIN HST HSN HPUT
            go_wp2
            first | go_end0 | refine bodyPost_ret (results_none rfl _ _ _) rfl ?_
            exact ⟨⟨_, rfl⟩, HF.out⟩
          | false =>
            have HS2 : Hid (rspc (k + 1) u = rput (rspc k u) ⟨#[32]⟩) := by show _ = _; rw [HSN.out, hlg]; rfl
            rw [hlg] at c6
            clear hlg HFIN HST HSN
            go_wp2_with (go_at_call 47; refine (HPUT.out ()).mono ?_)
            rintro e w4 ⟨⟨r, rfl⟩, tv4, hP4, hT4⟩
            have HP4 : Hid _ := hP4
            have HT4 : Hid (Turn WB tv tv4 w w4) := HTk.out.trans hT4
            have HLO4 : Hid (lo ≤ w4.heap.size) := Nat.le_trans hlo' hT4.size
            clear hP4 hT4 c6 f6 c3 f3
            go_wp2
            go_roundw
            case rel => exact ⟨k + 1, tv4, by omega, by go_num, by rw [HS2.out]; exact HP4.out, HT4.out, HLO4.out⟩
            case measure => simp [intOf]; omega
        · obtain rfl : k = i := by omega
          have HF : Hid _ := HFIN.out rfl _ rfl
          clear HFIN HST HSN HPUT
          go_wp2
          first | go_end0 | refine bodyPost_ret (results_none rfl _ _ _) rfl ?_
          exact ⟨⟨_, rfl⟩, HF.out⟩
    · have k2b : (x.kind == 2) = false := by simpa using k2
      go_wp2_with (go_at_call 47; refine (HP.out ()).mono ?_; rintro e w3 ⟨⟨r, rfl⟩, tv3, hP3, hT3⟩; have HP3 : Hid _ := hP3; have HT3 : Hid (Turn WB tv tv3 w w3) := HT2.out.trans hT3; have HLO3 : Hid (lo ≤ w3.heap.size) := Nat.le_trans HLO2.out hT3.size; clear hP3 hT3 d0 d1 d2 d3)
      go_loopw [7] (fun kv W => ∃ (k : Nat) (tv' : Value), k ≤ i ∧ kv = .int .i64 k ∧ WrAt lo WB (rspc k u) wd (.slice (some ⟨g, 0, none⟩) ls.length cap) tv' ls W ∧ Turn WB tv tv' w W ∧ lo ≤ W.heap.size) (fun kv _ => i - (intOf kv).toNat)
      case atStart => exact ⟨0, tv3, Nat.zero_le _, rfl, HP3.out, HT3.out, HLO3.out⟩
      case round =>
        obtain ⟨k, tv', hk, rfl, hP, hT, hlo'⟩ := hrel
        have HPk : Hid _ := hP
        have HTk : Hid _ := hT
        obtain ⟨c6, f6⟩ := blk_cell hP.blk (j := 6) rfl
        obtain ⟨c3, f3⟩ := blk_cell hP.blk (j := 3) rfl
        have HFIN : Hid (rspc i u = rspc k u → ∀ W', W' = wr.setCell ⟨WB, 3, none⟩ (.int .i64 (i : Int)) → ∃ tv'', WrAt lo WB (rleaf ls wt i flat) wd (.slice (some ⟨g, 0, none⟩) ls.length cap) tv'' ls W' ∧ Turn WB tv tv'' w W') := fun e W' hW' => by
          subst hW'
          have := HPk.out.set 3 (.int .i64 (i : Int)) (w' := { rspc k u with col := (i : Int) }) rfl rfl
          rw [HRL.out, e]
          exact ⟨tv', this.1, HTk.out.trans this.2⟩
        have hok := HOK.out k
        have HPUT : Hid _ := fun (_ : Unit) => rput_any lo WB (rspc k u) wd (.slice (some ⟨g, 0, none⟩) ls.length cap) tv' ls ⟨#[32]⟩ wr HPk.out hok.1 hok.2.1 (by omega) (by show 1 ≤ _; omega) hlo'
        have HSN : Hid _ := rspc_snoc k u
        have HST : Hid ((rspc k u).long = true → rspc i u = rspc k u) := fun h => rspc_stop h hk
        clear hP hT hok HP3 HT3
        by_cases hlt : k < i
        · have hltI : (k : Int) < i := by omega
          cases hlg : (rspc k u).long with
          | true =>
            have HF : Hid _ := HFIN.out (HST.out hlg) _ rfl
            rw [hlg] at c6
            clear hlg HFIN HST HSN HPUT
            go_wp2
            first | go_end0 | refine bodyPost_ret (results_none rfl _ _ _) rfl ?_
            exact ⟨⟨_, rfl⟩, HF.out⟩
          | false =>
            have HS2 : Hid (rspc (k + 1) u = rput (rspc k u) ⟨#[32]⟩) := by show _ = _; rw [HSN.out, hlg]; rfl
            rw [hlg] at c6
            clear hlg HFIN HST HSN
            go_wp2_with (go_at_call 47; refine (HPUT.out ()).mono ?_)
            rintro e w4 ⟨⟨r, rfl⟩, tv4, hP4, hT4⟩
            have HP4 : Hid _ := hP4
            have HT4 : Hid (Turn WB tv tv4 w w4) := HTk.out.trans hT4
            have HLO4 : Hid (lo ≤ w4.heap.size) := Nat.le_trans hlo' hT4.size
            clear hP4 hT4 c6 f6 c3 f3
            go_wp2
            go_roundw
            case rel => exact ⟨k + 1, tv4, by omega, by go_num, by rw [HS2.out]; exact HP4.out, HT4.out, HLO4.out⟩
            case measure => simp [intOf]; omega
        · obtain rfl : k = i := by omega
          have HF : Hid _ := HFIN.out rfl _ rfl
          clear HFIN HST HSN HPUT
          go_wp2
          first | go_end0 | refine bodyPost_ret (results_none rfl _ _ _) rfl ?_
          exact ⟨⟨_, rfl⟩, HF.out⟩
end Go.Proofs.Ytbmejfcbladofaa
