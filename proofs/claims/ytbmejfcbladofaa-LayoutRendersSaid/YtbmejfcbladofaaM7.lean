/- The document's own way lays out: the walk. -/
import Derived.Test.YtbmejfcbladofaaM6
namespace Go.Proofs.Ytbmejfcbladofaa
open Go.RowKit

theorem rlay_eq (L : List Dc) (wd : Int) (d : Dc) (s : Wr) (i : Int) (fl : Bool) : rlay L wd d s i fl = if d.kind = 1 ∨ d.kind = 2 ∨ d.kind = 3 then rleaf L s i.toNat fl else if d.kind = 4 then rlayL L wd d.kids s (i + d.n) fl else if d.kind = 5 ∧ fl = false then (if rfits L wd s (rlvL d.kids).length then rlayL L wd d.kids s i true else rlayL L wd d.kids { s with br := s.br + 1 } i false) else rlayL L wd d.kids s i fl := by
  cases d; rw [rlay]; rfl
theorem cntL_mono (l : List Dc) (k : Nat) : cntL (l.take k) ≤ cntL l ∧ (rlvL (l.take k)).length ≤ (rlvL l).length := by
  induction l generalizing k with
  | nil => simp
  | cons x l ih =>
    cases k with
    | zero => simp [cntL, rlvL]
    | succ k => rw [List.take_succ_cons, cntL, cntL, rlvL, rlvL, List.length_append, List.length_append]; have := ih k; omega
theorem preL_take {l : List Dc} {m k : Nat} (h : ∀ p ∈ preL l m, okP p = true) : ∀ p ∈ preL (l.take k) m, okP p = true := by
  intro p hp
  induction l generalizing k with
  | nil => simp [preL] at hp
  | cons x l ih =>
    rw [preL] at h
    cases k with
    | zero => simp [preL] at hp
    | succ k =>
      rw [List.take_succ_cons, preL] at hp
      rcases List.mem_append.1 hp with hp | hp
      · exact h p (List.mem_append_left _ hp)
      · exact ih (fun q hq => h q (List.mem_append_right _ hq)) hp
set_option maxRecDepth 100000 in
set_option maxHeartbeats 16000000 in
theorem rlay_any (lo WB : Nat) (wd : Int) (lv : Value) (ls : List Dc) (f : Nat) (hls : ls.length ≤ 1000) (htx : ∀ x ∈ ls, x.text.size ≤ 12000) (hlw : lo ≤ WB) : ∀ (N : Nat) (d : Dc) (m : Nat) (sa : Option Addr) (sc : Nat) (s : Wr) (tv : Value) (i : Int) (fl : Bool) (w : World), wt d ≤ N → (∀ p ∈ pre d m, okP p = true) → 1 ≤ m → 0 ≤ i → i ≤ 1000 * (m - 1 : Nat) → DAt w lo f sa d.kids → wt d ≤ 700 → WrAt lo WB s wd lv tv ls w → WOk s → s.pos + (rlv d).length ≤ ls.length → s.br + cnt d ≤ 1000000 → lo ≤ w.heap.size →
    Calls Try.prog 24 #[.pointer (some ⟨WB, 0, none⟩), .agg #[.int .i64 d.kind, .string d.text, .int .i64 d.n, .slice sa d.kids.length sc], .int .i64 i, .bool fl] w fun e w' => (∃ r, e = .returned r) ∧ ∃ tv', WrAt lo WB (rlay ls wd d s i fl) wd lv tv' ls w' ∧ Turn WB tv tv' w w' := by
  intro N
  induction N with
  | zero => intro d m sa sc s tv i fl w hN; rw [wt_eq] at hN; omega
  | succ N ih =>
  intro d m sa sc s tv i fl w hN hp h1 hi0 hi1 hk h700 h hok hpos hbr hlo
  have hlen := hk.len
  have hwt := wt_eq d
  have hpe := pre_eq d m
  obtain ⟨hm, hn0, hn1⟩ := okP_n (hp (d, m) (by rw [hpe]; simp))
  simp only at hm hn0 hn1
  have hpl : ∀ p ∈ preL d.kids (m + 1), okP p = true := fun p hq => hp p (by rw [hpe]; exact List.mem_cons_of_mem _ hq)
  have hWB := (Array.getElem?_eq_some_iff.1 h.blk).1
  have htvlt : ∀ b, tv.ownBlock = some b → lo ≤ b ∧ b < w.heap.size := fun b e => h.row.lt b e
  obtain ⟨w1, hw1⟩ : ∃ w1, w.alloc (.cells #[.int .i64 d.kind, .string d.text, .int .i64 d.n, .slice sa d.kids.length sc] 24) = w1 := ⟨_, rfl⟩
  have hB1 : Below w.heap.size w w1 := by rw [← hw1]; exact (Below.refl _ _).alloc (Nat.le_refl _) _
  have s1 : w1.heap.size = w.heap.size + 1 := by rw [← hw1]; simp
  have x1 : Bx w1 w.heap.size d.kind d.text d.n (.slice sa d.kids.length sc) := by rw [← hw1]; exact Bx.new _ _ _ _ _ _
  have HX1 : Hid _ := x1
  obtain ⟨a0, a1, a2, a3⟩ := x1
  have HRL : Hid _ := rlay_eq ls wd d s i fl
  have HT1 : Hid (Turn WB tv tv w w1) := Turn.of_below hB1
  have H1 : Hid _ := h.below hB1
  obtain ⟨i, rfl⟩ := Int.eq_ofNat_of_zero_le hi0
  have hi2 : i ≤ 199000 := by omega
  have hi3 : i + 1000 ≤ 1000 * m := by omega
  have HI : Hid (∀ (x : Dc) (k : Nat) (xa : Option Addr) (xc : Nat) (u : Wr) (tvk : Value) (j : Int) (b : Bool) (W : World), d.kids[k]? = some x → 0 ≤ j → j ≤ 1000 * (m : Nat) → DAt W lo f xa x.kids → WrAt lo WB u wd lv tvk ls W → WOk u → u.pos ≤ s.pos + (rlvL (d.kids.take k)).length → u.br ≤ s.br + 1 + cntL (d.kids.take k) → (rlv d = rlvL d.kids) → lo ≤ W.heap.size → Calls Try.prog 24 #[.pointer (some ⟨WB, 0, none⟩), .agg #[.int .i64 x.kind, .string x.text, .int .i64 x.n, .slice xa x.kids.length xc], .int .i64 j, .bool b] W fun e w' => (∃ r, e = .returned r) ∧ ∃ tv', WrAt lo WB (rlay ls wd x u j b) wd lv tv' ls w' ∧ Turn WB tvk tv' W w') := fun x k xa xc u tvk j b W hx hj0 hj1 hxk hW hu hup hub hrl hlo2 => by
    have hxm : x ∈ d.kids := List.mem_of_getElem? hx
    have g1 := wtL_take hx
    have g2 := wtL_take_le d.kids (k + 1)
    have g3 := cntL_mono d.kids (k + 1)
    rw [cntL_take hx, rlvL_take hx, List.length_append] at g3
    have g4 := cnt_eq d
    rw [hrl] at hpos
    exact ih x (m + 1) xa xc u tvk j b W (by omega) (fun p hq => hpl p (preL_mem hxm hq)) (by omega) hj0 (by omega) hxk (by omega) hW hu (by omega) (by omega) hlo2
  have HK : Hid _ := hk
  have HDT : Hid (∀ (tvk : Value) (W : World), Turn WB tv tvk w W → DAt W lo f sa d.kids) := fun tvk W hT => hT.dat hlw (fun b e => (htvlt b e).1) hlo HK.out
  have HLK : Hid (∀ (tvk : Value) (W : World), Turn WB tv tvk w1 W → W.cell? ⟨w.heap.size, 3, none⟩ = some (.slice sa d.kids.length sc)) := fun tvk W hT => by
    refine (World.cell?_of_block (a := ⟨w.heap.size, 3, none⟩) (hT.keep w.heap.size (by omega) (by omega) (fun e => ?_))).trans HX1.out.c3
    have := (htvlt _ e).2
    omega
  have HOKL : Hid (∀ (s0 : Wr) (j : Int) (b : Bool) (k : Nat), WOk s0 → s0.pos = s.pos → s0.br ≤ s.br + 1 → 0 ≤ j → j ≤ 1000 * (m : Nat) → WOk (rlayL ls wd (d.kids.take k) s0 j b) ∧ (rlayL ls wd (d.kids.take k) s0 j b).pos ≤ s.pos + (rlvL (d.kids.take k)).length ∧ (rlayL ls wd (d.kids.take k) s0 j b).br ≤ s.br + 1 + cntL (d.kids.take k)) := fun s0 j b k hs0 hsp hsb hj0 hj1 => by
    have := rlayL_ok ls wd (d.kids.take k) (m + 1) s0 j b (preL_take hpl) (by omega) hj0 (by omega) hs0
    rw [hsp] at this
    exact ⟨this.1, this.2.1, by omega⟩
  have HOK : Hid _ := hok
  have HLO1 : Hid (lo ≤ w1.heap.size) := by show _ ≤ _; omega
  have HRV : Hid (isLf d = false → rlv d = rlvL d.kids) := fun e => rlv_no e
  have HRY : Hid (isLf d = true → (rlv d).length = 1) := fun e => by rw [rlv_yes e]; rfl
  have HPOS : Hid _ := hpos
  have HBRB : Hid (s.br ≤ 1000000) := by show _ ≤ _; omega
  have HLEAF : Hid (s.pos < ls.length → ∀ b, Calls Try.prog 38 #[.pointer (some ⟨WB, 0, none⟩), .int .i64 (i : Int), .bool b] w1 fun e w' => (∃ r, e = .returned r) ∧ ∃ tv', WrAt lo WB (rleaf ls s i b) wd lv tv' ls w' ∧ Turn WB tv tv' w1 w') := fun hps b => rleaf_any lo WB s wd lv tv ls i b w1 H1.out hok.out hok.col hps (by omega) (fun x hx => Nat.le_trans (htx x hx) (by omega)) (by omega) HLO1.out
  have HLVS : Hid _ := fun (_ : Unit) => refLeaves_any f (wt d) d sa sc w1 (Nat.le_refl _) (DAt.mono HLO1.out (HDT.out tv w1 HT1.out)) h700
  have HFITS : Hid (∀ W, Below w1.heap.size w1 W → Calls Try.prog 39 #[.pointer (some ⟨WB, 0, none⟩), .int .i64 ((rlv d).length : Int)] W fun e w' => e = .returned (.bool (rfits ls wd s (rlv d).length)) ∧ w' = W) := fun W hW => rfits_any lo WB s wd lv tv ls (rlv d).length W (H1.out.below hW) hok.col.1 (by have := hok.col; have := hok.out; omega) HPOS.out hls htx
  have HS1 : Hid _ := s1
  have HWB : Hid _ := hWB
  have HTVL : Hid _ := htvlt
  have hsc1 : s.col ≤ 1000000 := by have := hok.col; have := hok.out; omega
  clear hwt ih hk hN hB1 s1 h700 hp hpe hpl hWB htvlt h hok hpos hbr hls htx hi0 hi1
  cases hlf : isLf d with
  | true =>
    have hk3 : d.kind = 1 ∨ d.kind = 2 ∨ d.kind = 3 := by
      unfold isLf at hlf; simp at hlf; omega
    rw [if_pos hk3] at HRL
    have hps : s.pos < ls.length := by have := HPOS.out; have := HRY.out hlf; omega
    have HL : Hid _ := fun (_ : Unit) => HLEAF.out hps fl
    have HKD : Hid _ := hk3
    obtain ⟨kd, hkd⟩ : ∃ k, d.kind = k := ⟨_, rfl⟩
    rw [hkd] at HKD a0
    clear hkd hlf hk3
    rcases HKD.out with rfl | rfl | rfl
    all_goals
      clear HKD
      go_enter Try.func24, Try.ntmps24
      go_wp2_with (go_at_call 38; refine (HL.out ()).mono ?_)
      rintro e w3 ⟨⟨r, rfl⟩, tv', hP3, hT3⟩
      have HP3 : Hid _ := hP3
      have HT3 : Hid _ := hT3
      clear hP3 hT3
      go_wp2
      first | go_end0 | refine bodyPost_ret (results_none rfl _ _ _) rfl ?_
      rw [HRL.out]
      exact ⟨⟨_, rfl⟩, tv', HP3.out, HT1.out.trans HT3.out⟩
  | false =>
    have HRV2 : Hid _ := HRV.out hlf
    have hk3 : ¬ d.kind = 1 ∧ ¬ d.kind = 2 ∧ ¬ d.kind = 3 := by
      unfold isLf at hlf; simp at hlf; omega
    rw [if_neg (show ¬ (d.kind = 1 ∨ d.kind = 2 ∨ d.kind = 3) by omega)] at HRL
    have e1 : (d.kind == 1) = false := by simpa using hk3.1
    have e2 : (d.kind == 2) = false := by simpa using hk3.2.1
    have e3 : (d.kind == 3) = false := by simpa using hk3.2.2
    clear hlf HLEAF
    by_cases h4 : d.kind = 4
    · rw [if_pos h4] at HRL
      rw [h4] at a0
      clear e1 e2 e3 hk3 h4
      obtain ⟨nn, hnn⟩ := Int.eq_ofNat_of_zero_le hn0
      rw [hnn] at HRL a2 hn1
      have hj2 : i + nn ≤ 1000 * m := by omega
      have HS0 : Hid _ := H1.out
      have HTL : Hid _ := Turn.refl WB tv w1
      have HLOL : Hid _ := HLO1.out
      have HOK0 : Hid _ := HOK.out
      have HBR0 : Hid (s.br ≤ s.br + 1) := by show _ ≤ _; omega
      clear hnn hn0
      go_enter Try.func24, Try.ntmps24
      go_wp2
      go_loopw [9] (fun kv W => ∃ (k : Nat) (tvk : Value), k ≤ d.kids.length ∧ kv = .int .i64 k ∧ WrAt lo WB (rlayL ls wd (d.kids.take k) s ((i : Int) + (nn : Int)) fl) wd lv tvk ls W ∧ Turn WB tv tvk w1 W ∧ lo ≤ W.heap.size) (fun kv _ => d.kids.length - (intOf kv).toNat)
      case atStart => exact ⟨0, tv, Nat.zero_le _, rfl, by rw [List.take_zero, rlayL]; exact HS0.out, HTL.out, HLOL.out⟩
      case round =>
        obtain ⟨k, tvk, hk, rfl, hP, hT, hlo'⟩ := hrel
        have b3 := HLK.out tvk wr hT
        obtain ⟨c6, f6⟩ := blk_cell hP.blk (j := 6) rfl
        have hokk := HOKL.out s ((i : Int) + (nn : Int)) fl k HOK0.out rfl HBR0.out (by omega) (by omega)
        have HOKK : Hid _ := hokk
        have HPk : Hid _ := hP
        have HTk : Hid _ := hT
        have HTw : Hid (Turn WB tv tvk w wr) := HT1.out.trans hT
        have HST : Hid ((rlayL ls wd (d.kids.take k) s ((i : Int) + (nn : Int)) fl).long = true → rlayL ls wd d.kids s ((i : Int) + (nn : Int)) fl = rlayL ls wd (d.kids.take k) s ((i : Int) + (nn : Int)) fl) := fun e => rlayL_stop e
        clear hP hT hokk HS0 HTL HLOL
        by_cases hlt : k < d.kids.length
        · have hltI : (k : Int) < d.kids.length := by omega
          cases hlg : (rlayL ls wd (d.kids.take k) s ((i : Int) + (nn : Int)) fl).long with
          | true =>
            have HE : Hid _ := HST.out hlg
            rw [hlg] at c6
            clear hlg HST HOKK
            go_wp2
            first | go_end0 | refine bodyPost_ret (results_none rfl _ _ _) rfl ?_
            rw [HRL.out, HE.out]
            exact ⟨⟨_, rfl⟩, tvk, HPk.out, HTw.out⟩
          | false =>
            obtain ⟨x, hx⟩ : ∃ x, d.kids[k]? = some x := ⟨d.kids[k], by simp [hlt]⟩
            obtain ⟨bb, o, hsa, hb, xa, xc, c0, c1, c2, c3, hxc, hxk⟩ := (HDT.out tvk wr HTw.out).one hx
            have HCX : Hid _ := fun (_ : Unit) => HI.out x k xa xc _ tvk ((i : Int) + (nn : Int)) fl wr hx (by omega) (by omega) hxk HPk.out HOKK.out.1 HOKK.out.2.1 HOKK.out.2.2 HRV2.out hlo'
            have HTK : Hid (rlayL ls wd (d.kids.take (k + 1)) s ((i : Int) + (nn : Int)) fl = rlay ls wd x (rlayL ls wd (d.kids.take k) s ((i : Int) + (nn : Int)) fl) ((i : Int) + (nn : Int)) fl) := by
              show _ = _
              rw [rlayL_take hx, hlg]; rfl
            rw [hlg] at c6
            subst hsa
            clear hlg HST HOKK hx hxk
            go_wp2_with (go_at_call 24; refine (HCX.out ()).mono ?_)
            rintro e w4 ⟨⟨r, rfl⟩, tv4, hP4, hT4⟩
            have HP4 : Hid _ := hP4
            have HT4 : Hid (Turn WB tv tv4 w1 w4) := HTk.out.trans hT4
            have HLO4 : Hid (lo ≤ w4.heap.size) := Nat.le_trans hlo' hT4.size
            clear hP4 hT4 c6 f6 b3 c0 c1 c2 c3
            go_wp2
            go_roundw
            case rel => exact ⟨k + 1, tv4, by omega, by go_num, by rw [HTK.out]; exact HP4.out, HT4.out, HLO4.out⟩
            case measure => simp [intOf]; omega
        · obtain rfl : k = d.kids.length := by omega
          rw [List.take_length] at HPk
          clear HST HOKK
          go_wp2
          first | go_end0 | refine bodyPost_ret (results_none rfl _ _ _) rfl ?_
          rw [HRL.out]
          exact ⟨⟨_, rfl⟩, tvk, HPk.out, HTw.out⟩
    · rw [if_neg h4] at HRL
      have e4 : (d.kind == 4) = false := by simpa using h4
      have hj2 : i ≤ 1000 * m := by omega
      have HS0 : Hid _ := H1.out
      have HTL : Hid _ := Turn.refl WB tv w1
      have HLOL : Hid _ := HLO1.out
      by_cases h5 : d.kind = 5
      · rw [h5] at a0
        clear e1 e2 e3 e4 hk3 h4
        cases fl with
        | true =>
          rw [if_neg (show ¬ (d.kind = 5 ∧ true = false) by simp)] at HRL
          have HOK0 : Hid _ := HOK.out
          have HBR0 : Hid (s.br ≤ s.br + 1) := by show _ ≤ _; omega
          clear h5
          go_enter Try.func24, Try.ntmps24
          go_wp2
          go_loopw [9] (fun kv W => ∃ (k : Nat) (tvk : Value), k ≤ d.kids.length ∧ kv = .int .i64 k ∧ WrAt lo WB (rlayL ls wd (d.kids.take k) s (i : Int) true) wd lv tvk ls W ∧ Turn WB tv tvk w1 W ∧ lo ≤ W.heap.size) (fun kv _ => d.kids.length - (intOf kv).toNat)
          case atStart => exact ⟨0, tv, Nat.zero_le _, rfl, by rw [List.take_zero, rlayL]; exact HS0.out, HTL.out, HLOL.out⟩
          case round =>
            obtain ⟨k, tvk, hk, rfl, hP, hT, hlo'⟩ := hrel
            have b3 := HLK.out tvk wr hT
            obtain ⟨c6, f6⟩ := blk_cell hP.blk (j := 6) rfl
            have hokk := HOKL.out s (i : Int) true k HOK0.out rfl HBR0.out (by omega) (by omega)
            have HOKK : Hid _ := hokk
            have HPk : Hid _ := hP
            have HTk : Hid _ := hT
            have HTw : Hid (Turn WB tv tvk w wr) := HT1.out.trans hT
            have HST : Hid ((rlayL ls wd (d.kids.take k) s (i : Int) true).long = true → rlayL ls wd d.kids s (i : Int) true = rlayL ls wd (d.kids.take k) s (i : Int) true) := fun e => rlayL_stop e
            clear hP hT hokk HS0 HTL HLOL
            by_cases hlt : k < d.kids.length
            · have hltI : (k : Int) < d.kids.length := by omega
              cases hlg : (rlayL ls wd (d.kids.take k) s (i : Int) true).long with
              | true =>
                have HE : Hid _ := HST.out hlg
                rw [hlg] at c6
                clear hlg HST HOKK
                go_wp2
                first | go_end0 | refine bodyPost_ret (results_none rfl _ _ _) rfl ?_
                rw [HRL.out, HE.out]
                exact ⟨⟨_, rfl⟩, tvk, HPk.out, HTw.out⟩
              | false =>
                obtain ⟨x, hx⟩ : ∃ x, d.kids[k]? = some x := ⟨d.kids[k], by simp [hlt]⟩
                obtain ⟨bb, o, hsa, hb, xa, xc, c0, c1, c2, c3, hxc, hxk⟩ := (HDT.out tvk wr HTw.out).one hx
                have HCX : Hid _ := fun (_ : Unit) => HI.out x k xa xc _ tvk (i : Int) true wr hx (by omega) (by omega) hxk HPk.out HOKK.out.1 HOKK.out.2.1 HOKK.out.2.2 HRV2.out hlo'
                have HTK : Hid (rlayL ls wd (d.kids.take (k + 1)) s (i : Int) true = rlay ls wd x (rlayL ls wd (d.kids.take k) s (i : Int) true) (i : Int) true) := by
                  show _ = _
                  rw [rlayL_take hx, hlg]; rfl
                rw [hlg] at c6
                subst hsa
                clear hlg HST HOKK hx hxk
                go_wp2_with (go_at_call 24; refine (HCX.out ()).mono ?_)
                rintro e w4 ⟨⟨r, rfl⟩, tv4, hP4, hT4⟩
                have HP4 : Hid _ := hP4
                have HT4 : Hid (Turn WB tv tv4 w1 w4) := HTk.out.trans hT4
                have HLO4 : Hid (lo ≤ w4.heap.size) := Nat.le_trans hlo' hT4.size
                clear hP4 hT4 c6 f6 b3 c0 c1 c2 c3
                go_wp2
                go_roundw
                case rel => exact ⟨k + 1, tv4, by omega, by go_num, by rw [HTK.out]; exact HP4.out, HT4.out, HLO4.out⟩
                case measure => simp [intOf]; omega
            · obtain rfl : k = d.kids.length := by omega
              rw [List.take_length] at HPk
              clear HST HOKK
              go_wp2
              first | go_end0 | refine bodyPost_ret (results_none rfl _ _ _) rfl ?_
              rw [HRL.out]
              exact ⟨⟨_, rfl⟩, tvk, HPk.out, HTw.out⟩
        | false =>
          rw [if_pos ⟨h5, rfl⟩, ← HRV2.out] at HRL
          rw [h5] at HLVS
          clear h5
          go_enter Try.func24, Try.ntmps24
          go_wp2_with (go_at_call 23; refine (HLVS.out ()).mono ?_)
          rintro e w2 ⟨⟨v, rfl, hrow⟩, hb2⟩
          obtain ⟨va, vc, rfl⟩ := row_slice hrow
          have HF : Hid _ := fun (_ : Unit) => HFITS.out w2 hb2
          have HT2 : Hid (Turn WB tv tv w1 w2) := Turn.of_below hb2
          have H2 : Hid _ := H1.out.below hb2
          have HLO2 : Hid (lo ≤ w2.heap.size) := Nat.le_trans HLO1.out hb2.size
          clear hrow hb2
          cases hft : rfits ls wd s (rlv d).length with
          | true =>
            rw [hft] at HF
            rw [hft, if_pos rfl] at HRL
            have HOK0 : Hid _ := HOK.out
            have HBR0 : Hid (s.br ≤ s.br + 1) := by show _ ≤ _; omega
            clear hft HS0 HTL HLOL
            have HS0 : Hid _ := H2.out
            have HTL : Hid _ := HT2.out
            have HLOL : Hid _ := HLO2.out
            go_wp2_with (go_at_call 39; refine (HF.out ()).mono ?_; rintro e w3 ⟨rfl, hw3⟩; replace hw3 := hw3.symm; subst hw3)
            go_loopw [9] (fun kv W => ∃ (k : Nat) (tvk : Value), k ≤ d.kids.length ∧ kv = .int .i64 k ∧ WrAt lo WB (rlayL ls wd (d.kids.take k) s (i : Int) true) wd lv tvk ls W ∧ Turn WB tv tvk w1 W ∧ lo ≤ W.heap.size) (fun kv _ => d.kids.length - (intOf kv).toNat)
            case atStart => exact ⟨0, tv, Nat.zero_le _, rfl, by rw [List.take_zero, rlayL]; exact HS0.out, HTL.out, HLOL.out⟩
            case round =>
              obtain ⟨k, tvk, hk, rfl, hP, hT, hlo'⟩ := hrel
              have b3 := HLK.out tvk wr hT
              obtain ⟨c6, f6⟩ := blk_cell hP.blk (j := 6) rfl
              have hokk := HOKL.out s (i : Int) true k HOK0.out rfl HBR0.out (by omega) (by omega)
              have HOKK : Hid _ := hokk
              have HPk : Hid _ := hP
              have HTk : Hid _ := hT
              have HTw : Hid (Turn WB tv tvk w wr) := HT1.out.trans hT
              have HST : Hid ((rlayL ls wd (d.kids.take k) s (i : Int) true).long = true → rlayL ls wd d.kids s (i : Int) true = rlayL ls wd (d.kids.take k) s (i : Int) true) := fun e => rlayL_stop e
              clear hP hT hokk HS0 HTL HLOL
              by_cases hlt : k < d.kids.length
              · have hltI : (k : Int) < d.kids.length := by omega
                cases hlg : (rlayL ls wd (d.kids.take k) s (i : Int) true).long with
                | true =>
                  have HE : Hid _ := HST.out hlg
                  rw [hlg] at c6
                  clear hlg HST HOKK
                  go_wp2
                  first | go_end0 | refine bodyPost_ret (results_none rfl _ _ _) rfl ?_
                  rw [HRL.out, HE.out]
                  exact ⟨⟨_, rfl⟩, tvk, HPk.out, HTw.out⟩
                | false =>
                  obtain ⟨x, hx⟩ : ∃ x, d.kids[k]? = some x := ⟨d.kids[k], by simp [hlt]⟩
                  obtain ⟨bb, o, hsa, hb, xa, xc, c0, c1, c2, c3, hxc, hxk⟩ := (HDT.out tvk wr HTw.out).one hx
                  have HCX : Hid _ := fun (_ : Unit) => HI.out x k xa xc _ tvk (i : Int) true wr hx (by omega) (by omega) hxk HPk.out HOKK.out.1 HOKK.out.2.1 HOKK.out.2.2 HRV2.out hlo'
                  have HTK : Hid (rlayL ls wd (d.kids.take (k + 1)) s (i : Int) true = rlay ls wd x (rlayL ls wd (d.kids.take k) s (i : Int) true) (i : Int) true) := by
                    show _ = _
                    rw [rlayL_take hx, hlg]; rfl
                  rw [hlg] at c6
                  subst hsa
                  clear hlg HST HOKK hx hxk
                  go_wp2_with (go_at_call 24; refine (HCX.out ()).mono ?_)
                  rintro e w4 ⟨⟨r, rfl⟩, tv4, hP4, hT4⟩
                  have HP4 : Hid _ := hP4
                  have HT4 : Hid (Turn WB tv tv4 w1 w4) := HTk.out.trans hT4
                  have HLO4 : Hid (lo ≤ w4.heap.size) := Nat.le_trans hlo' hT4.size
                  clear hP4 hT4 c6 f6 b3 c0 c1 c2 c3
                  go_wp2
                  go_roundw
                  case rel => exact ⟨k + 1, tv4, by omega, by go_num, by rw [HTK.out]; exact HP4.out, HT4.out, HLO4.out⟩
                  case measure => simp [intOf]; omega
              · obtain rfl : k = d.kids.length := by omega
                rw [List.take_length] at HPk
                clear HST HOKK
                go_wp2
                first | go_end0 | refine bodyPost_ret (results_none rfl _ _ _) rfl ?_
                rw [HRL.out]
                exact ⟨⟨_, rfl⟩, tvk, HPk.out, HTw.out⟩
          | false =>
            rw [hft] at HF
            rw [hft, if_neg (show ¬ (false = true) by decide)] at HRL
            have hs5 := H2.out.set 5 (.int .i64 ((s.br : Int) + 1)) (w' := { s with br := s.br + 1 }) rfl rfl
            obtain ⟨c5, f5⟩ := blk_cell H2.out.blk (j := 5) rfl
            have hbrI := HBRB.out
            clear hft HS0 HTL HLOL
            have HS0 : Hid _ := hs5.1
            have HTL : Hid (Turn WB tv tv w1 (w2.setCell ⟨WB, 5, none⟩ (.int .i64 ((s.br : Int) + 1)))) := HT2.out.trans hs5.2
            have HLOL : Hid (lo ≤ (w2.setCell ⟨WB, 5, none⟩ (.int .i64 ((s.br : Int) + 1))).heap.size) := Nat.le_trans HLO2.out hs5.2.size
            have HOK0 : Hid (WOk { s with br := s.br + 1 }) := ⟨HOK.out.out, HOK.out.col⟩
            have HBR0 : Hid (({ s with br := s.br + 1 } : Wr).br ≤ s.br + 1) := Nat.le_refl _
            clear hs5
            go_wp2_with (go_at_call 39; refine (HF.out ()).mono ?_; rintro e w3 ⟨rfl, hw3⟩; replace hw3 := hw3.symm; subst hw3)
            go_loopw [9] (fun kv W => ∃ (k : Nat) (tvk : Value), k ≤ d.kids.length ∧ kv = .int .i64 k ∧ WrAt lo WB (rlayL ls wd (d.kids.take k) { s with br := s.br + 1 } (i : Int) false) wd lv tvk ls W ∧ Turn WB tv tvk w1 W ∧ lo ≤ W.heap.size) (fun kv _ => d.kids.length - (intOf kv).toNat)
            case atStart => exact ⟨0, tv, Nat.zero_le _, rfl, by rw [List.take_zero, rlayL]; exact HS0.out, HTL.out, HLOL.out⟩
            case round =>
              obtain ⟨k, tvk, hk, rfl, hP, hT, hlo'⟩ := hrel
              have b3 := HLK.out tvk wr hT
              obtain ⟨c6, f6⟩ := blk_cell hP.blk (j := 6) rfl
              have hokk := HOKL.out { s with br := s.br + 1 } (i : Int) false k HOK0.out rfl HBR0.out (by omega) (by omega)
              have HOKK : Hid _ := hokk
              have HPk : Hid _ := hP
              have HTk : Hid _ := hT
              have HTw : Hid (Turn WB tv tvk w wr) := HT1.out.trans hT
              have HST : Hid ((rlayL ls wd (d.kids.take k) { s with br := s.br + 1 } (i : Int) false).long = true → rlayL ls wd d.kids { s with br := s.br + 1 } (i : Int) false = rlayL ls wd (d.kids.take k) { s with br := s.br + 1 } (i : Int) false) := fun e => rlayL_stop e
              clear hP hT hokk HS0 HTL HLOL
              by_cases hlt : k < d.kids.length
              · have hltI : (k : Int) < d.kids.length := by omega
                cases hlg : (rlayL ls wd (d.kids.take k) { s with br := s.br + 1 } (i : Int) false).long with
                | true =>
                  have HE : Hid _ := HST.out hlg
                  rw [hlg] at c6
                  clear hlg HST HOKK
                  go_wp2
                  first | go_end0 | refine bodyPost_ret (results_none rfl _ _ _) rfl ?_
                  rw [HRL.out, HE.out]
                  exact ⟨⟨_, rfl⟩, tvk, HPk.out, HTw.out⟩
                | false =>
                  obtain ⟨x, hx⟩ : ∃ x, d.kids[k]? = some x := ⟨d.kids[k], by simp [hlt]⟩
                  obtain ⟨bb, o, hsa, hb, xa, xc, c0, c1, c2, c3, hxc, hxk⟩ := (HDT.out tvk wr HTw.out).one hx
                  have HCX : Hid _ := fun (_ : Unit) => HI.out x k xa xc _ tvk (i : Int) false wr hx (by omega) (by omega) hxk HPk.out HOKK.out.1 HOKK.out.2.1 HOKK.out.2.2 HRV2.out hlo'
                  have HTK : Hid (rlayL ls wd (d.kids.take (k + 1)) { s with br := s.br + 1 } (i : Int) false = rlay ls wd x (rlayL ls wd (d.kids.take k) { s with br := s.br + 1 } (i : Int) false) (i : Int) false) := by
                    show _ = _
                    rw [rlayL_take hx, hlg]; rfl
                  rw [hlg] at c6
                  subst hsa
                  clear hlg HST HOKK hx hxk
                  go_wp2_with (go_at_call 24; refine (HCX.out ()).mono ?_)
                  rintro e w4 ⟨⟨r, rfl⟩, tv4, hP4, hT4⟩
                  have HP4 : Hid _ := hP4
                  have HT4 : Hid (Turn WB tv tv4 w1 w4) := HTk.out.trans hT4
                  have HLO4 : Hid (lo ≤ w4.heap.size) := Nat.le_trans hlo' hT4.size
                  clear hP4 hT4 c6 f6 b3 c0 c1 c2 c3
                  go_wp2
                  go_roundw
                  case rel => exact ⟨k + 1, tv4, by omega, by go_num, by rw [HTK.out]; exact HP4.out, HT4.out, HLO4.out⟩
                  case measure => simp [intOf]; omega
              · obtain rfl : k = d.kids.length := by omega
                rw [List.take_length] at HPk
                clear HST HOKK
                go_wp2
                first | go_end0 | refine bodyPost_ret (results_none rfl _ _ _) rfl ?_
                rw [HRL.out]
                exact ⟨⟨_, rfl⟩, tvk, HPk.out, HTw.out⟩
      · rw [if_neg (show ¬ (d.kind = 5 ∧ fl = false) by simp [h5])] at HRL
        have e5 : (d.kind == 5) = false := by simpa using h5
        have HOK0 : Hid _ := HOK.out
        have HBR0 : Hid (s.br ≤ s.br + 1) := by show _ ≤ _; omega
        go_enter Try.func24, Try.ntmps24
        go_wp2
        go_loopw [9] (fun kv W => ∃ (k : Nat) (tvk : Value), k ≤ d.kids.length ∧ kv = .int .i64 k ∧ WrAt lo WB (rlayL ls wd (d.kids.take k) s (i : Int) fl) wd lv tvk ls W ∧ Turn WB tv tvk w1 W ∧ lo ≤ W.heap.size) (fun kv _ => d.kids.length - (intOf kv).toNat)
        case atStart => exact ⟨0, tv, Nat.zero_le _, rfl, by rw [List.take_zero, rlayL]; exact HS0.out, HTL.out, HLOL.out⟩
        case round =>
          obtain ⟨k, tvk, hk, rfl, hP, hT, hlo'⟩ := hrel
          have b3 := HLK.out tvk wr hT
          obtain ⟨c6, f6⟩ := blk_cell hP.blk (j := 6) rfl
          have hokk := HOKL.out s (i : Int) fl k HOK0.out rfl HBR0.out (by omega) (by omega)
          have HOKK : Hid _ := hokk
          have HPk : Hid _ := hP
          have HTk : Hid _ := hT
          have HTw : Hid (Turn WB tv tvk w wr) := HT1.out.trans hT
          have HST : Hid ((rlayL ls wd (d.kids.take k) s (i : Int) fl).long = true → rlayL ls wd d.kids s (i : Int) fl = rlayL ls wd (d.kids.take k) s (i : Int) fl) := fun e => rlayL_stop e
          clear hP hT hokk HS0 HTL HLOL
          by_cases hlt : k < d.kids.length
          · have hltI : (k : Int) < d.kids.length := by omega
            cases hlg : (rlayL ls wd (d.kids.take k) s (i : Int) fl).long with
            | true =>
              have HE : Hid _ := HST.out hlg
              rw [hlg] at c6
              clear hlg HST HOKK
              go_wp2
              first | go_end0 | refine bodyPost_ret (results_none rfl _ _ _) rfl ?_
              rw [HRL.out, HE.out]
              exact ⟨⟨_, rfl⟩, tvk, HPk.out, HTw.out⟩
            | false =>
              obtain ⟨x, hx⟩ : ∃ x, d.kids[k]? = some x := ⟨d.kids[k], by simp [hlt]⟩
              obtain ⟨bb, o, hsa, hb, xa, xc, c0, c1, c2, c3, hxc, hxk⟩ := (HDT.out tvk wr HTw.out).one hx
              have HCX : Hid _ := fun (_ : Unit) => HI.out x k xa xc _ tvk (i : Int) fl wr hx (by omega) (by omega) hxk HPk.out HOKK.out.1 HOKK.out.2.1 HOKK.out.2.2 HRV2.out hlo'
              have HTK : Hid (rlayL ls wd (d.kids.take (k + 1)) s (i : Int) fl = rlay ls wd x (rlayL ls wd (d.kids.take k) s (i : Int) fl) (i : Int) fl) := by
                show _ = _
                rw [rlayL_take hx, hlg]; rfl
              rw [hlg] at c6
              subst hsa
              clear hlg HST HOKK hx hxk
              go_wp2_with (go_at_call 24; refine (HCX.out ()).mono ?_)
              rintro e w4 ⟨⟨r, rfl⟩, tv4, hP4, hT4⟩
              have HP4 : Hid _ := hP4
              have HT4 : Hid (Turn WB tv tv4 w1 w4) := HTk.out.trans hT4
              have HLO4 : Hid (lo ≤ w4.heap.size) := Nat.le_trans hlo' hT4.size
              clear hP4 hT4 c6 f6 b3 c0 c1 c2 c3
              go_wp2
              go_roundw
              case rel => exact ⟨k + 1, tv4, by omega, by go_num, by rw [HTK.out]; exact HP4.out, HT4.out, HLO4.out⟩
              case measure => simp [intOf]; omega
          · obtain rfl : k = d.kids.length := by omega
            rw [List.take_length] at HPk
            clear HST HOKK
            go_wp2
            first | go_end0 | refine bodyPost_ret (results_none rfl _ _ _) rfl ?_
            rw [HRL.out]
            exact ⟨⟨_, rfl⟩, tvk, HPk.out, HTw.out⟩
end Go.Proofs.Ytbmejfcbladofaa
