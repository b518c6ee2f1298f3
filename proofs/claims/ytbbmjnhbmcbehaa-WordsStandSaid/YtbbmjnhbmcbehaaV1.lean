/- The law WordsStand, walked. -/
import Derived.Test.YtbbmjnhbmcbehaaN17
import Derived.Test.YtbbmjnhbmcbehaaT1
import Derived.Test.YtbbmjnhbmcbehaaU3
namespace Go.Proofs.Ytbbmjnhbmcbehaa
open Go.RowKit

theorem plc_at (x : ByteArray) (k : Nat) (h : k ≤ x.size) : plc x (k : Int) = (lnOf (x.data.toList.take k), coOf (x.data.toList.take k)) := by
  unfold plc; rw [if_neg (by omega), Int.toNat_natCast]
theorem ext_eq {x : ByteArray} {p : Nat} {t : List UInt8} (h : (x.data.toList.drop p).take t.length = t) : x.extract p (p + t.length) = ⟨t.toArray⟩ := by
  rw [ba_list (x.extract p (p + t.length)), extract_list, show p + t.length - p = t.length by omega, h]
theorem chain_drop {l : List UInt8} : ∀ {e : Nat} {ds : List Wd} {k : Nat}, chain l e ds → ∃ e', chain l e' (ds.drop k) ∧ (k = 0 → e' = e)
  | e, ds, 0, h => ⟨e, h, fun _ => rfl⟩
  | e, [], k + 1, h => ⟨e, by simp [chain], fun h => by omega⟩
  | e, d :: ds, k + 1, h => by
    obtain ⟨e', h1, _⟩ := chain_drop (k := k) h.2.2
    exact ⟨e', h1, fun h => by omega⟩
set_option maxRecDepth 100000 in
set_option maxHeartbeats 4000000 in
theorem stand_walk (x : ByteArray) (w : World) : Calls Try.prog 10 #[.string x] w fun e w' => e = .returned (.bool true) ∧ Below w.heap.size w w' := by
  have HL : Hid _ := fun w => alive_any w
  by_cases h1 : 20000 < x.size
  · have h1' : (20000 : Int) < x.size := by omega
    go_enter Try.func10, Try.ntmps10
    go_wp2_with (go_at_call 12; refine (HL.out _).mono ?_; rintro e w1 ⟨rfl, hb1⟩)
    go_ret
    exact ⟨rfl, hb1⟩
  have h1' : (x.size : Int) ≤ 20000 := by omega
  replace h1 : x.size ≤ 20000 := by omega
  have H1 : Hid _ := fun w => scan_any x w
  have HT : Hid _ := words_stand x.data.toList (by rw [list_len]; omega)
  have hfat := scan_fat x.data.toList
  have hcx := scan_count x.data.toList
  rw [list_len] at hfat hcx
  go_enter Try.func10, Try.ntmps10
  go_wp2_with (go_at_call 13; refine (H1.out _).mono ?_)
  rintro e w1 ⟨lv, L, rfl, hL, hW, hb1⟩
  generalize scan x.data.toList = Sx at *
  obtain ⟨ws, fa, fc⟩ := Sx
  simp only [fv] at hL hcx hfat ⊢
  have F4 := Blk.new w1 26 #[.int .i64 (fa : Int), .int .i64 (fc : Int)]
  have hB1 := hb1.alloc hb1.size (.cells #[.int .i64 (fa : Int), .int .i64 (fc : Int)] 26)
  have hW1 := hW.alloc (.cells #[.int .i64 (fa : Int), .int .i64 (fc : Int)] 26)
  clear hb1 hW H1
  obtain ⟨la, lc, rfl⟩ := row_slice hW1.row
  have hnl : L.length ≤ x.size + 1 := by rw [← List.length_map (f := fun x : Wd × Value => x.1), hL]; exact hcx
  have hnli : (L.length : Int) ≤ 20001 := by omega
  by_cases hfc : fc = 0
  · subst hfc
    obtain ⟨hne, hch⟩ := HT.out rfl
    simp only at hne hch
    rw [← hL] at hne hch
    have HNE : Hid _ := hne
    have HCH : Hid _ := hch
    have hL0 : 0 < L.length := List.length_pos_iff.2 (fun e => hne (by rw [e]; rfl))
    have hL0i : (0 : Int) < L.length := by omega
    clear hne hch HT hcx hL F4
    rw [show ((0 : Nat) : Int) = 0 from rfl]
    go_wp2
    go_loopw [5, 6] (fun en i wr => ∃ k e : Nat, k ≤ L.length ∧ i = .int .i64 k ∧ en = .int .i64 e ∧ e ≤ x.size ∧ chain x.data.toList e ((L.map (·.1)).drop k) ∧ Below (w1.heap.size + 1) (w1.alloc (.cells #[.int .i64 (fa : Int), .int .i64 0] 26)) wr) (fun _ i _ => L.length - (intOf i).toNat)
    case atStart => exact ⟨0, 0, Nat.zero_le _, rfl, rfl, Nat.zero_le _, HCH.out, Below.refl _ _⟩
    case round =>
      obtain ⟨k, e, hk, rfl, rfl, hex, hcd, hB⟩ := hrel
      have hWr := hW1.after' hB (by simp)
      by_cases hlt : k < L.length
      · have hlt' : (k : Int) < L.length := by omega
        obtain ⟨q, hq⟩ : ∃ q, L[k]? = some q := ⟨_, List.getElem?_eq_getElem hlt⟩
        obtain ⟨g, cap, ee, hg, hc⟩ := hWr.cell hq
        cases ee
        have hrow := hWr.bytes q (List.mem_of_getElem? hq)
        obtain ⟨va, vc, hv⟩ := row_slice hrow
        have hdrop : (L.map (·.1)).drop k = q.1 :: (L.map (·.1)).drop (k + 1) := by
          have hl' : k < (L.map (·.1)).length := by rw [List.length_map]; exact hlt
          rw [List.drop_eq_getElem_cons hl', List.getElem_map, (List.getElem?_eq_some_iff.1 hq).2]
        rw [hdrop] at hcd
        obtain ⟨⟨s1, s2, s3, s4, s5, s6⟩, s7, s8⟩ := hcd
        have hlast : (q.1.kind = 7) ↔ k + 1 = L.length := by
          rw [s7]
          constructor
          · intro h
            have := congrArg List.length h
            rw [List.length_drop, List.length_map, List.length_nil] at this; omega
          · intro h; exact List.drop_eq_nil_of_le (by rw [List.length_map]; omega)
        have hpl := plc_at x q.1.fro (by rw [list_len] at s2; omega)
        have hext := ext_eq s3
        rw [list_len] at s2
        have HP : Hid _ := fun w => place_any x (q.1.fro : Int) w (by omega)
        rw [hpl, ← s4, ← s5] at HP
        have c0 := hc 0 (by decide)
        have c1 := hc 1 (by decide)
        have c2 := hc 2 (by decide)
        have c3 := hc 3 (by decide)
        have c4 := hc 4 (by decide)
        have c5 := hc 5 (by decide)
        have c6 := hc 6 (by decide)
        have c7 := hc 7 (by decide)
        have c8 := hc 8 (by decide)
        have c9 := hc 9 (by decide)
        have c10 := hc 10 (by decide)
        simp only [wcell, List.getElem?_cons_zero, List.getElem?_cons_succ, Nat.add_zero, hv] at c0 c1 c2 c3 c4 c5 c6 c7 c8 c9 c10
        have HS8 : Hid _ := s8
        clear hc hrow hdrop s3 s4 s5 s7 s8 hpl hq hv
        obtain ⟨⟨kd, tx, bs, st, nn, fr, li, co⟩, v⟩ := q
        simp only at *
        have i1 : (e : Int) ≤ fr := by omega
        have i2 : (fr : Int) ≤ x.size := by omega
        have i3 : (fr : Int) + tx.length ≤ x.size := by omega
        have i4 : (tx.length : Int) ≤ (x.size : Int) - fr := by omega
        have hA := hB.alloc (by have := hB.size; simpa using this) (.cells #[.int .i64 (kd : Int), .string ⟨tx.toArray⟩, .slice va bs.length vc, .int .u64 (st.a : Int), .int .u64 (st.b : Int), .int .u64 (st.c : Int), .int .u64 (st.d : Int), .int .i64 (nn : Int), .int .i64 (fr : Int), .int .i64 (li : Int), .int .i64 (co : Int)] 35)
        have j1 : (0 : Int) ≤ fr := by omega
        have j2 : (fr : Int) ≤ (fr : Int) + tx.length := by omega
        clear hnl hWr
        go_wp2
        have g1 : decide (fr < e) = false := by simp; omega
        have g2 : decide (x.size < fr) = false := by simp; omega
        have g4 : (decide (fr < e) || decide (x.size < fr)) = false := by rw [g1, g2]; rfl
        have hw1 : IntKind.i64.wrap ((x.size : Int) - fr) = (x.size : Int) - fr := wrap_small _ (by omega) (by omega)
        have g3 : decide (IntKind.i64.wrap ((x.size : Int) - fr) < (tx.length : Int)) = false := by rw [hw1]; simp; omega
        have hw2 : IntKind.i64.wrap ((fr : Int) + tx.length) = ((fr + tx.length : Nat) : Int) := by rw [wrap_small _ (by omega) (by omega)]; omega
        have HW1 : Hid _ := hw1
        clear hw1
        go_quiet (fail)
        have h81 : (!(x.extract fr ((fr : Int) + tx.length).toNat).toList == tx) = false := by
          rw [show ((fr : Int) + tx.length).toNat = fr + tx.length by omega, hext, ByteArray.toList_mk]; simp
        have H81 : Hid _ := h81
        have hA' := belDrew hA nq
        clear hext g1 g2 g3 g4 hw2 HW1 hA
        by_cases hk7 : kd = 7
        · obtain rfl := s6.2 hk7
          have hkl := hlast.1 hk7
          subst hk7
          have hki : ((k : Int) == (L.length : Int) - 1) = true := by simp; omega
          clear s6 hlast
          go_wp2_with (go_at_call 24; refine (HP.out _).mono ?_; rintro e2 w' ⟨rfl, rfl⟩)
          all_goals (try (rename_i hbad; exact Bool.noConfusion (show true = false from hbad.symm.trans H81.out)))
          go_roundw
          case rel => exact ⟨k + 1, fr, by omega, by go_num, rfl, by omega, HS8.out, hA'⟩
          case measure => simp [intOf]; omega
        · have htx : ¬ tx = [] := fun h => hk7 (s6.1 h)
          have hkl : ¬ k + 1 = L.length := fun h => hk7 (hlast.2 h)
          have hki : ((k : Int) == (L.length : Int) - 1) = false := by simp; omega
          have hkd : ((kd : Int) == 7) = false := by simp; omega
          have htxe : tx.isEmpty = false := by cases tx with | nil => exact absurd rfl htx | cons a b => rfl
          have HTX : Hid _ := htxe
          clear s6 hlast
          go_wp2_with (go_at_call 24; refine (HP.out _).mono ?_; rintro e2 w' ⟨rfl, rfl⟩)
          all_goals (try (rename_i hbad; first | exact Bool.noConfusion (show true = false from hbad.symm.trans H81.out) | exact Bool.noConfusion (show true = false from hbad.symm.trans HTX.out)))
          go_roundw
          case rel => exact ⟨k + 1, fr + tx.length, by omega, by go_num, by go_num, by omega, HS8.out, hA'⟩
          case measure => simp [intOf]; omega
      · obtain rfl : k = L.length := by omega
        clear hlt hk hcd
        go_wp2_with (go_at_call 12; refine (HL.out _).mono ?_; rintro e2 w7 ⟨rfl, hb7⟩)
        go_ret
        exact ⟨rfl, (hB1.trans (hB.mono (by have := hB1.size; simpa using this))).trans (hb7.mono (by have h2 := hB.size; have h3 := hB1.size; simp at h2 h3; omega))⟩
  · have hfc' : ((fc : Int) != 0) = true := by simp; omega
    have hfi : (fa : Int) ≤ x.size := by omega
    have hf0 : (0 : Int) ≤ fa := by omega
    clear hW1 hL HT hcx hnl
    go_wp2_with (go_at_call 12; refine (HL.out _).mono ?_; rintro e w7 ⟨rfl, hb7⟩; obtain ⟨k0, k1⟩ := (F4.after hb7).pair; have l10 := (F4.after hb7).lt)
    go_ret
    exact ⟨rfl, below_of hB1 hb7⟩
end Go.Proofs.Ytbbmjnhbmcbehaa
