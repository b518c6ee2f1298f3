/- readWord, at every text of at most 65536 bytes. -/
import Derived.Test.YtbbmjnhbmcbehaaN10
namespace Go.Proofs.Ytbbmjnhbmcbehaa
open Go.RowKit

theorem list_cons (x : ByteArray) (h : 0 < x.size) : x.data.toList = x[0] :: x.data.toList.drop 1 := by
  have := drop_at x 0 h; simpa using this
theorem rdw_cons (c : UInt8) (l : List UInt8) : rdw (c :: l) = (if great c.toNat then rdLet (c :: l) 1 else if small c.toNat then rdLet (c :: l) 2 else if digB c.toNat then rdNum (c :: l) else if c.toNat = 34 then rdText (c :: l) else if c.toNat = 91 then rdSet (c :: l) else if signB c.toNat then .plain 6 1 else .fault 0 11) := rfl
theorem rdw_at (x : ByteArray) (h : 0 < x.size) : rdw x.data.toList = (if great (bt x 0) then rdLet x.data.toList 1 else if small (bt x 0) then rdLet x.data.toList 2 else if digB (bt x 0) then rdNum x.data.toList else if bt x 0 = 34 then rdText x.data.toList else if bt x 0 = 91 then rdSet x.data.toList else if signB (bt x 0) then .plain 6 1 else .fault 0 11) := by
  have h1 := rdw_cons x[0] (x.data.toList.drop 1)
  rw [← list_cons x h, bt_eq x 0 h] at h1
  exact h1
set_option maxRecDepth 100000 in
set_option maxHeartbeats 4000000 in
theorem readW_any (x : ByteArray) (w : World) (hx : x.size ≤ 65536) : Calls Try.prog 30 #[.string x] w (Reads w x (rdw x.data.toList)) := by
  obtain ⟨R, hR⟩ : ∃ R, rdw x.data.toList = R := ⟨_, rfl⟩
  rw [hR]
  by_cases h0 : x.size = 0
  · obtain rfl := str_empty x h0
    replace hR : RW.plain 7 0 = R := hR
    go_enter Try.func30, Try.ntmps30
    go_wp2
    refine gen (fun W => (Blk W _ 35 _ ∧ Blk W _ 26 _) ∧ Below _ _ W) ⟨⟨(Blk.new _ 35 _).alloc _, Blk.new _ 26 _⟩, ((Below.refl _ _).alloc (Nat.le_refl _) _).alloc (by simp) _⟩ ?_
    rintro W ⟨⟨hb, hf⟩, hB'⟩
    rw [World.size_alloc] at hf
    obtain ⟨e0, e1, e2, e3, e4, e5, e6, e7, e8, e9, e10⟩ := hb.word
    obtain ⟨f0, f1⟩ := hf.pair
    exact bodyPost_ret (v := rwV [] R (.slice none 0 0)) (by rw [← hR]; simp [results, Try.results30, go_sem, rwV, wv, fv, St.zero, RW.plain, e0, e1, e2, e3, e4, e5, e6, e7, e8, e9, e10, f0, f1]) rfl ⟨_, rfl, by rw [← hR]; exact World.ownsRow_nil _ _ _ _, hB'⟩
  · have hne := ne_empty x h0
    have hne' : ¬ x.toList = [] := by intro h; rw [h] at hne; cases hne
    have k0 : 0 < x.size := by omega
    have b0 := bt_eq x 0 k0
    have hl := bt_lt x 0
    rw [rdw_at x k0] at hR
    clear h0
    have HG : Hid _ := fun w => great_any (bt x 0) w
    have HS : Hid _ := fun w => small_any (bt x 0) w
    have HD : Hid _ := fun w => digB_any (bt x 0) w
    generalize bt x 0 = c at *
    by_cases hg : great c = true
    · rw [if_pos hg] at hR
      rw [hg] at HG
      subst hR
      have H : Hid _ := fun w => readL_any 1 x w
      generalize rdLet x.data.toList 1 = R at *
      go_enter Try.func30, Try.ntmps30
      go_wp2_with (first | (go_at_call 43; refine (HG.out _).mono ?_; rintro e w' ⟨rfl, rfl⟩) | (go_at_call 54; refine (H.out _).mono ?_))
      rintro e w1 ⟨v, rfl, hrow, hb1⟩
      have hW := (wb_word _).after hb1
      have hF := (wb_fault _).after hb1
      have hB := below_of (wb_below _) hb1
      have hrow0 := hrow
      rw [wb_size] at hrow0
      clear hrow hb1 H
      obtain ⟨va, vc, rfl⟩ := row_slice hrow0
      have l1 := hW.lt
      have l2 := hF.lt
      obtain ⟨e0, e1, e2, e3, e4, e5, e6, e7, e8, e9, e10⟩ := hW.word
      obtain ⟨f0, f1⟩ := hF.pair
      have z1 := hW.frozen
      have z2 := hF.frozen
      simp only [rwV, wv, fv]
      go_wp2
      have hb13 := both13 hW hF (by omega) (.int .i64 (R.kind : Int)) (.string ⟨(x.data.toList.take R.len).toArray⟩) (.slice va R.bytes.length vc) (.int .u64 (R.set.a : Int)) (.int .u64 (R.set.b : Int)) (.int .u64 (R.set.c : Int)) (.int .u64 (R.set.d : Int)) (.int .i64 (R.n : Int)) (.int .i64 0) (.int .i64 0) (.int .i64 0) (.int .i64 (R.fat : Int)) (.int .i64 (R.code : Int))
      have hbl := below2 (below11 hB (Nat.le_refl _) (.int .i64 (R.kind : Int)) (.string ⟨(x.data.toList.take R.len).toArray⟩) (.slice va R.bytes.length vc) (.int .u64 (R.set.a : Int)) (.int .u64 (R.set.b : Int)) (.int .u64 (R.set.c : Int)) (.int .u64 (R.set.d : Int)) (.int .i64 (R.n : Int)) (.int .i64 0) (.int .i64 0) (.int .i64 0)) (Nat.le_succ _) (.int .i64 (R.fat : Int)) (.int .i64 (R.code : Int))
      have hq1 := hb13.1
      have hq2 := hb13.2
      have hq4 := row2 (row11 hrow0 (show w.heap.size < w.heap.size + 2 by omega) (.int .i64 (R.kind : Int)) (.string ⟨(x.data.toList.take R.len).toArray⟩) (.slice va R.bytes.length vc) (.int .u64 (R.set.a : Int)) (.int .u64 (R.set.b : Int)) (.int .u64 (R.set.c : Int)) (.int .u64 (R.set.d : Int)) (.int .i64 (R.n : Int)) (.int .i64 0) (.int .i64 0) (.int .i64 0)) (show w.heap.size + 1 < w.heap.size + 2 by omega) (.int .i64 (R.fat : Int)) (.int .i64 (R.code : Int))
      refine gen (fun W => (Blk W w.heap.size 35 _ ∧ Blk W (w.heap.size + 1) 26 _) ∧ Below w.heap.size w W ∧ W.ownsRow (w.heap.size + 2) 5 1 _ _ _) ⟨⟨hq1, hq2⟩, hbl, hq4⟩ ?_
      rintro W ⟨⟨hb, hf⟩, hB', hrow⟩
      clear e0 e1 e2 e3 e4 e5 e6 e7 e8 e9 e10 f0 f1
      obtain ⟨e0, e1, e2, e3, e4, e5, e6, e7, e8, e9, e10⟩ := hb.word
      obtain ⟨f0, f1⟩ := hf.pair
      exact bodyPost_ret (v := rwV x.data.toList R (.slice va R.bytes.length vc)) (by simp [results, Try.results30, go_sem, rwV, wv, fv, e0, e1, e2, e3, e4, e5, e6, e7, e8, e9, e10, f0, f1]) rfl ⟨_, rfl, row_mono hrow (by omega), hB'⟩
    have hg' : great c = false := by simpa using hg
    rw [if_neg hg] at hR
    rw [hg'] at HG
    clear hg hg'
    by_cases hs : small c = true
    · rw [if_pos hs] at hR
      rw [hs] at HS
      subst hR
      have H : Hid _ := fun w => readL_any 2 x w
      generalize rdLet x.data.toList 2 = R at *
      go_enter Try.func30, Try.ntmps30
      go_wp2_with (first | (go_at_call 43; refine (HG.out _).mono ?_; rintro e w' ⟨rfl, rfl⟩) | (go_at_call 47; refine (HS.out _).mono ?_; rintro e w' ⟨rfl, rfl⟩) | (go_at_call 54; refine (H.out _).mono ?_))
      rintro e w1 ⟨v, rfl, hrow, hb1⟩
      have hW := (wb_word _).after hb1
      have hF := (wb_fault _).after hb1
      have hB := below_of (wb_below _) hb1
      have hrow0 := hrow
      rw [wb_size] at hrow0
      clear hrow hb1 H
      obtain ⟨va, vc, rfl⟩ := row_slice hrow0
      have l1 := hW.lt
      have l2 := hF.lt
      obtain ⟨e0, e1, e2, e3, e4, e5, e6, e7, e8, e9, e10⟩ := hW.word
      obtain ⟨f0, f1⟩ := hF.pair
      have z1 := hW.frozen
      have z2 := hF.frozen
      simp only [rwV, wv, fv]
      go_wp2
      have hb13 := both13 hW hF (by omega) (.int .i64 (R.kind : Int)) (.string ⟨(x.data.toList.take R.len).toArray⟩) (.slice va R.bytes.length vc) (.int .u64 (R.set.a : Int)) (.int .u64 (R.set.b : Int)) (.int .u64 (R.set.c : Int)) (.int .u64 (R.set.d : Int)) (.int .i64 (R.n : Int)) (.int .i64 0) (.int .i64 0) (.int .i64 0) (.int .i64 (R.fat : Int)) (.int .i64 (R.code : Int))
      have hbl := below2 (below11 hB (Nat.le_refl _) (.int .i64 (R.kind : Int)) (.string ⟨(x.data.toList.take R.len).toArray⟩) (.slice va R.bytes.length vc) (.int .u64 (R.set.a : Int)) (.int .u64 (R.set.b : Int)) (.int .u64 (R.set.c : Int)) (.int .u64 (R.set.d : Int)) (.int .i64 (R.n : Int)) (.int .i64 0) (.int .i64 0) (.int .i64 0)) (Nat.le_succ _) (.int .i64 (R.fat : Int)) (.int .i64 (R.code : Int))
      have hq1 := hb13.1
      have hq2 := hb13.2
      have hq4 := row2 (row11 hrow0 (show w.heap.size < w.heap.size + 2 by omega) (.int .i64 (R.kind : Int)) (.string ⟨(x.data.toList.take R.len).toArray⟩) (.slice va R.bytes.length vc) (.int .u64 (R.set.a : Int)) (.int .u64 (R.set.b : Int)) (.int .u64 (R.set.c : Int)) (.int .u64 (R.set.d : Int)) (.int .i64 (R.n : Int)) (.int .i64 0) (.int .i64 0) (.int .i64 0)) (show w.heap.size + 1 < w.heap.size + 2 by omega) (.int .i64 (R.fat : Int)) (.int .i64 (R.code : Int))
      refine gen (fun W => (Blk W w.heap.size 35 _ ∧ Blk W (w.heap.size + 1) 26 _) ∧ Below w.heap.size w W ∧ W.ownsRow (w.heap.size + 2) 5 1 _ _ _) ⟨⟨hq1, hq2⟩, hbl, hq4⟩ ?_
      rintro W ⟨⟨hb, hf⟩, hB', hrow⟩
      clear e0 e1 e2 e3 e4 e5 e6 e7 e8 e9 e10 f0 f1
      obtain ⟨e0, e1, e2, e3, e4, e5, e6, e7, e8, e9, e10⟩ := hb.word
      obtain ⟨f0, f1⟩ := hf.pair
      exact bodyPost_ret (v := rwV x.data.toList R (.slice va R.bytes.length vc)) (by simp [results, Try.results30, go_sem, rwV, wv, fv, e0, e1, e2, e3, e4, e5, e6, e7, e8, e9, e10, f0, f1]) rfl ⟨_, rfl, row_mono hrow (by omega), hB'⟩
    have hs' : small c = false := by simpa using hs
    rw [if_neg hs] at hR
    rw [hs'] at HS
    clear hs hs'
    by_cases hd : digB c = true
    · rw [if_pos hd] at hR
      rw [hd] at HD
      subst hR
      have H : Hid _ := fun w => readN_any x w k0
      generalize rdNum x.data.toList = R at *
      go_enter Try.func30, Try.ntmps30
      go_wp2_with (first | (go_at_call 43; refine (HG.out _).mono ?_; rintro e w' ⟨rfl, rfl⟩) | (go_at_call 47; refine (HS.out _).mono ?_; rintro e w' ⟨rfl, rfl⟩) | (go_at_call 55; refine (HD.out _).mono ?_; rintro e w' ⟨rfl, rfl⟩) | (go_at_call 56; refine (H.out _).mono ?_))
      rintro e w1 ⟨v, rfl, hrow, hb1⟩
      have hW := (wb_word _).after hb1
      have hF := (wb_fault _).after hb1
      have hB := below_of (wb_below _) hb1
      have hrow0 := hrow
      rw [wb_size] at hrow0
      clear hrow hb1 H
      obtain ⟨va, vc, rfl⟩ := row_slice hrow0
      have l1 := hW.lt
      have l2 := hF.lt
      obtain ⟨e0, e1, e2, e3, e4, e5, e6, e7, e8, e9, e10⟩ := hW.word
      obtain ⟨f0, f1⟩ := hF.pair
      have z1 := hW.frozen
      have z2 := hF.frozen
      simp only [rwV, wv, fv]
      go_wp2
      have hb13 := both13 hW hF (by omega) (.int .i64 (R.kind : Int)) (.string ⟨(x.data.toList.take R.len).toArray⟩) (.slice va R.bytes.length vc) (.int .u64 (R.set.a : Int)) (.int .u64 (R.set.b : Int)) (.int .u64 (R.set.c : Int)) (.int .u64 (R.set.d : Int)) (.int .i64 (R.n : Int)) (.int .i64 0) (.int .i64 0) (.int .i64 0) (.int .i64 (R.fat : Int)) (.int .i64 (R.code : Int))
      have hbl := below2 (below11 hB (Nat.le_refl _) (.int .i64 (R.kind : Int)) (.string ⟨(x.data.toList.take R.len).toArray⟩) (.slice va R.bytes.length vc) (.int .u64 (R.set.a : Int)) (.int .u64 (R.set.b : Int)) (.int .u64 (R.set.c : Int)) (.int .u64 (R.set.d : Int)) (.int .i64 (R.n : Int)) (.int .i64 0) (.int .i64 0) (.int .i64 0)) (Nat.le_succ _) (.int .i64 (R.fat : Int)) (.int .i64 (R.code : Int))
      have hq1 := hb13.1
      have hq2 := hb13.2
      have hq4 := row2 (row11 hrow0 (show w.heap.size < w.heap.size + 2 by omega) (.int .i64 (R.kind : Int)) (.string ⟨(x.data.toList.take R.len).toArray⟩) (.slice va R.bytes.length vc) (.int .u64 (R.set.a : Int)) (.int .u64 (R.set.b : Int)) (.int .u64 (R.set.c : Int)) (.int .u64 (R.set.d : Int)) (.int .i64 (R.n : Int)) (.int .i64 0) (.int .i64 0) (.int .i64 0)) (show w.heap.size + 1 < w.heap.size + 2 by omega) (.int .i64 (R.fat : Int)) (.int .i64 (R.code : Int))
      refine gen (fun W => (Blk W w.heap.size 35 _ ∧ Blk W (w.heap.size + 1) 26 _) ∧ Below w.heap.size w W ∧ W.ownsRow (w.heap.size + 2) 5 1 _ _ _) ⟨⟨hq1, hq2⟩, hbl, hq4⟩ ?_
      rintro W ⟨⟨hb, hf⟩, hB', hrow⟩
      clear e0 e1 e2 e3 e4 e5 e6 e7 e8 e9 e10 f0 f1
      obtain ⟨e0, e1, e2, e3, e4, e5, e6, e7, e8, e9, e10⟩ := hb.word
      obtain ⟨f0, f1⟩ := hf.pair
      exact bodyPost_ret (v := rwV x.data.toList R (.slice va R.bytes.length vc)) (by simp [results, Try.results30, go_sem, rwV, wv, fv, e0, e1, e2, e3, e4, e5, e6, e7, e8, e9, e10, f0, f1]) rfl ⟨_, rfl, row_mono hrow (by omega), hB'⟩
    have hd' : digB c = false := by simpa using hd
    rw [if_neg hd] at hR
    rw [hd'] at HD
    clear hd hd'
    by_cases h34 : c = 34
    · subst h34
      rw [if_pos rfl] at hR
      subst hR
      have H : Hid _ := fun w => readT_any x w hx k0
      generalize rdText x.data.toList = R at *
      go_enter Try.func30, Try.ntmps30
      go_wp2_with (first | (go_at_call 43; refine (HG.out _).mono ?_; rintro e w' ⟨rfl, rfl⟩) | (go_at_call 47; refine (HS.out _).mono ?_; rintro e w' ⟨rfl, rfl⟩) | (go_at_call 55; refine (HD.out _).mono ?_; rintro e w' ⟨rfl, rfl⟩) | (go_at_call 57; refine (H.out _).mono ?_))
      rintro e w1 ⟨v, rfl, hrow, hb1⟩
      have hW := (wb_word _).after hb1
      have hF := (wb_fault _).after hb1
      have hB := below_of (wb_below _) hb1
      have hrow0 := hrow
      rw [wb_size] at hrow0
      clear hrow hb1 H
      obtain ⟨va, vc, rfl⟩ := row_slice hrow0
      have l1 := hW.lt
      have l2 := hF.lt
      obtain ⟨e0, e1, e2, e3, e4, e5, e6, e7, e8, e9, e10⟩ := hW.word
      obtain ⟨f0, f1⟩ := hF.pair
      have z1 := hW.frozen
      have z2 := hF.frozen
      simp only [rwV, wv, fv]
      go_wp2
      have hb13 := both13 hW hF (by omega) (.int .i64 (R.kind : Int)) (.string ⟨(x.data.toList.take R.len).toArray⟩) (.slice va R.bytes.length vc) (.int .u64 (R.set.a : Int)) (.int .u64 (R.set.b : Int)) (.int .u64 (R.set.c : Int)) (.int .u64 (R.set.d : Int)) (.int .i64 (R.n : Int)) (.int .i64 0) (.int .i64 0) (.int .i64 0) (.int .i64 (R.fat : Int)) (.int .i64 (R.code : Int))
      have hbl := below2 (below11 hB (Nat.le_refl _) (.int .i64 (R.kind : Int)) (.string ⟨(x.data.toList.take R.len).toArray⟩) (.slice va R.bytes.length vc) (.int .u64 (R.set.a : Int)) (.int .u64 (R.set.b : Int)) (.int .u64 (R.set.c : Int)) (.int .u64 (R.set.d : Int)) (.int .i64 (R.n : Int)) (.int .i64 0) (.int .i64 0) (.int .i64 0)) (Nat.le_succ _) (.int .i64 (R.fat : Int)) (.int .i64 (R.code : Int))
      have hq1 := hb13.1
      have hq2 := hb13.2
      have hq4 := row2 (row11 hrow0 (show w.heap.size < w.heap.size + 2 by omega) (.int .i64 (R.kind : Int)) (.string ⟨(x.data.toList.take R.len).toArray⟩) (.slice va R.bytes.length vc) (.int .u64 (R.set.a : Int)) (.int .u64 (R.set.b : Int)) (.int .u64 (R.set.c : Int)) (.int .u64 (R.set.d : Int)) (.int .i64 (R.n : Int)) (.int .i64 0) (.int .i64 0) (.int .i64 0)) (show w.heap.size + 1 < w.heap.size + 2 by omega) (.int .i64 (R.fat : Int)) (.int .i64 (R.code : Int))
      refine gen (fun W => (Blk W w.heap.size 35 _ ∧ Blk W (w.heap.size + 1) 26 _) ∧ Below w.heap.size w W ∧ W.ownsRow (w.heap.size + 2) 5 1 _ _ _) ⟨⟨hq1, hq2⟩, hbl, hq4⟩ ?_
      rintro W ⟨⟨hb, hf⟩, hB', hrow⟩
      clear e0 e1 e2 e3 e4 e5 e6 e7 e8 e9 e10 f0 f1
      obtain ⟨e0, e1, e2, e3, e4, e5, e6, e7, e8, e9, e10⟩ := hb.word
      obtain ⟨f0, f1⟩ := hf.pair
      exact bodyPost_ret (v := rwV x.data.toList R (.slice va R.bytes.length vc)) (by simp [results, Try.results30, go_sem, rwV, wv, fv, e0, e1, e2, e3, e4, e5, e6, e7, e8, e9, e10, f0, f1]) rfl ⟨_, rfl, row_mono hrow (by omega), hB'⟩
    have h34b : ((c : Int) == 34) = false := by simp; omega
    rw [if_neg h34] at hR
    by_cases h91 : c = 91
    · subst h91
      rw [if_pos rfl] at hR
      subst hR
      have H : Hid _ := fun w => readS_any x w hx k0
      generalize rdSet x.data.toList = R at *
      go_enter Try.func30, Try.ntmps30
      go_wp2_with (first | (go_at_call 43; refine (HG.out _).mono ?_; rintro e w' ⟨rfl, rfl⟩) | (go_at_call 47; refine (HS.out _).mono ?_; rintro e w' ⟨rfl, rfl⟩) | (go_at_call 55; refine (HD.out _).mono ?_; rintro e w' ⟨rfl, rfl⟩) | (go_at_call 58; refine (H.out _).mono ?_))
      rintro e w1 ⟨v, rfl, hrow, hb1⟩
      have hW := (wb_word _).after hb1
      have hF := (wb_fault _).after hb1
      have hB := below_of (wb_below _) hb1
      have hrow0 := hrow
      rw [wb_size] at hrow0
      clear hrow hb1 H
      obtain ⟨va, vc, rfl⟩ := row_slice hrow0
      have l1 := hW.lt
      have l2 := hF.lt
      obtain ⟨e0, e1, e2, e3, e4, e5, e6, e7, e8, e9, e10⟩ := hW.word
      obtain ⟨f0, f1⟩ := hF.pair
      have z1 := hW.frozen
      have z2 := hF.frozen
      simp only [rwV, wv, fv]
      go_wp2
      have hb13 := both13 hW hF (by omega) (.int .i64 (R.kind : Int)) (.string ⟨(x.data.toList.take R.len).toArray⟩) (.slice va R.bytes.length vc) (.int .u64 (R.set.a : Int)) (.int .u64 (R.set.b : Int)) (.int .u64 (R.set.c : Int)) (.int .u64 (R.set.d : Int)) (.int .i64 (R.n : Int)) (.int .i64 0) (.int .i64 0) (.int .i64 0) (.int .i64 (R.fat : Int)) (.int .i64 (R.code : Int))
      have hbl := below2 (below11 hB (Nat.le_refl _) (.int .i64 (R.kind : Int)) (.string ⟨(x.data.toList.take R.len).toArray⟩) (.slice va R.bytes.length vc) (.int .u64 (R.set.a : Int)) (.int .u64 (R.set.b : Int)) (.int .u64 (R.set.c : Int)) (.int .u64 (R.set.d : Int)) (.int .i64 (R.n : Int)) (.int .i64 0) (.int .i64 0) (.int .i64 0)) (Nat.le_succ _) (.int .i64 (R.fat : Int)) (.int .i64 (R.code : Int))
      have hq1 := hb13.1
      have hq2 := hb13.2
      have hq4 := row2 (row11 hrow0 (show w.heap.size < w.heap.size + 2 by omega) (.int .i64 (R.kind : Int)) (.string ⟨(x.data.toList.take R.len).toArray⟩) (.slice va R.bytes.length vc) (.int .u64 (R.set.a : Int)) (.int .u64 (R.set.b : Int)) (.int .u64 (R.set.c : Int)) (.int .u64 (R.set.d : Int)) (.int .i64 (R.n : Int)) (.int .i64 0) (.int .i64 0) (.int .i64 0)) (show w.heap.size + 1 < w.heap.size + 2 by omega) (.int .i64 (R.fat : Int)) (.int .i64 (R.code : Int))
      refine gen (fun W => (Blk W w.heap.size 35 _ ∧ Blk W (w.heap.size + 1) 26 _) ∧ Below w.heap.size w W ∧ W.ownsRow (w.heap.size + 2) 5 1 _ _ _) ⟨⟨hq1, hq2⟩, hbl, hq4⟩ ?_
      rintro W ⟨⟨hb, hf⟩, hB', hrow⟩
      clear e0 e1 e2 e3 e4 e5 e6 e7 e8 e9 e10 f0 f1
      obtain ⟨e0, e1, e2, e3, e4, e5, e6, e7, e8, e9, e10⟩ := hb.word
      obtain ⟨f0, f1⟩ := hf.pair
      exact bodyPost_ret (v := rwV x.data.toList R (.slice va R.bytes.length vc)) (by simp [results, Try.results30, go_sem, rwV, wv, fv, e0, e1, e2, e3, e4, e5, e6, e7, e8, e9, e10, f0, f1]) rfl ⟨_, rfl, row_mono hrow (by omega), hB'⟩
    have h91b : ((c : Int) == 91) = false := by simp; omega
    rw [if_neg h91] at hR
    clear h34 h91
    have HI : Hid (∀ w, Calls Try.prog 59 #[.string ⟨#[61, 124, 46, 59, 62, 63, 42, 43, 123, 125, 40, 41, 95, 47, 44, 45]⟩, .int .u8 c] w fun e w' => e = .returned (.int .i64 (Lib.indexByte [61, 124, 46, 59, 62, 63, 42, 43, 123, 125, 40, 41, 95, 47, 44, 45] c.toUInt8)) ∧ w' = w) := fun w => idx_any _ c w
    unfold signB at hR
    generalize Lib.indexByte [61, 124, 46, 59, 62, 63, 42, 43, 123, 125, 40, 41, 95, 47, 44, 45] c.toUInt8 = i at *
    by_cases hi : 0 ≤ i
    · rw [if_pos (by simpa using hi)] at hR
      have HN : Hid _ := fun w => newWord_any 6 (x.extract 0 1) w (by simp; omega)
      have HX : Hid _ := extract_pre x 1
      have k1 : (1 : Int) ≤ x.size := by omega
      go_enter Try.func30, Try.ntmps30
      go_wp2_with (first | (go_at_call 43; refine (HG.out _).mono ?_; rintro e w' ⟨rfl, rfl⟩) | (go_at_call 47; refine (HS.out _).mono ?_; rintro e w' ⟨rfl, rfl⟩) | (go_at_call 55; refine (HD.out _).mono ?_; rintro e w' ⟨rfl, rfl⟩) | (go_at_call 59; refine (HI.out _).mono ?_; rintro e w' ⟨rfl, rfl⟩) | (go_at_call 60; refine (HN.out _).mono ?_))
      rintro e w1 ⟨rfl, hb1⟩
      have hW := (wb_word _).after hb1
      have hF := (wb_fault _).after hb1
      have hB := below_of (wb_below _) hb1
      clear hb1 HN
      have l1 := hW.lt
      have l2 := hF.lt
      obtain ⟨e0, e1, e2, e3, e4, e5, e6, e7, e8, e9, e10⟩ := hW.word
      obtain ⟨f0, f1⟩ := hF.pair
      have z1 := hW.frozen
      have z2 := hF.frozen
      simp only [wv, St.zero]
      go_wp2
      have hb13 := both13 hW hF (by omega) (.int .i64 6) (.string (x.extract 0 1)) (.slice none 0 0) (.int .u64 0) (.int .u64 0) (.int .u64 0) (.int .u64 0) (.int .i64 0) (.int .i64 0) (.int .i64 0) (.int .i64 0) (.int .i64 0) (.int .i64 0)
      have hbl := below2 (below11 hB (Nat.le_refl _) (.int .i64 6) (.string (x.extract 0 1)) (.slice none 0 0) (.int .u64 0) (.int .u64 0) (.int .u64 0) (.int .u64 0) (.int .i64 0) (.int .i64 0) (.int .i64 0) (.int .i64 0)) (Nat.le_succ _) (.int .i64 0) (.int .i64 0)
      have hq1 := hb13.1
      have hq2 := hb13.2
      refine gen (fun W => (Blk W w.heap.size 35 _ ∧ Blk W (w.heap.size + 1) 26 _) ∧ Below w.heap.size w W) ⟨⟨hq1, hq2⟩, hbl⟩ ?_
      rintro W ⟨⟨hb, hf⟩, hB'⟩
      clear e0 e1 e2 e3 e4 e5 e6 e7 e8 e9 e10 f0 f1
      obtain ⟨e0, e1, e2, e3, e4, e5, e6, e7, e8, e9, e10⟩ := hb.word
      obtain ⟨f0, f1⟩ := hf.pair
      exact bodyPost_ret (v := rwV x.data.toList R (.slice none 0 0)) (by rw [← hR]; simp [results, Try.results30, go_sem, rwV, wv, fv, St.zero, e0, e1, e2, e3, e4, e5, e6, e7, e8, e9, e10, f0, f1, HX.out, RW.plain]) rfl ⟨_, rfl, by rw [← hR]; exact World.ownsRow_nil _ _ _ _, hB'⟩
    · rw [if_neg (by simpa using hi)] at hR
      have hi' : i < 0 := by omega
      clear hi
      go_enter Try.func30, Try.ntmps30
      go_wp2_with (first | (go_at_call 43; refine (HG.out _).mono ?_; rintro e w' ⟨rfl, rfl⟩) | (go_at_call 47; refine (HS.out _).mono ?_; rintro e w' ⟨rfl, rfl⟩) | (go_at_call 55; refine (HD.out _).mono ?_; rintro e w' ⟨rfl, rfl⟩) | (go_at_call 59; refine (HI.out _).mono ?_; rintro e w' ⟨rfl, rfl⟩))
      refine gen (fun W => (Blk W _ 35 _ ∧ Blk W _ 26 _) ∧ Below _ _ W) ⟨⟨(Blk.new _ 35 _).alloc _, Blk.new _ 26 _⟩, ((Below.refl _ _).alloc (Nat.le_refl _) _).alloc (by simp) _⟩ ?_
      rintro W ⟨⟨hb, hf⟩, hB'⟩
      rw [World.size_alloc] at hf
      obtain ⟨e0, e1, e2, e3, e4, e5, e6, e7, e8, e9, e10⟩ := hb.word
      obtain ⟨f0, f1⟩ := hf.pair
      exact bodyPost_ret (v := rwV x.data.toList R (.slice none 0 0)) (by rw [← hR]; simp [results, Try.results30, go_sem, rwV, wv, fv, St.zero, RW.fault, e0, e1, e2, e3, e4, e5, e6, e7, e8, e9, e10, f0, f1]) rfl ⟨_, rfl, by rw [← hR]; exact World.ownsRow_nil _ _ _ _, hB'⟩
end Go.Proofs.Ytbbmjnhbmcbehaa
