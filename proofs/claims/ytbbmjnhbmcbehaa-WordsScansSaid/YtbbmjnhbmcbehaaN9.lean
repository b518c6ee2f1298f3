/- Reading a word: texts and sets. -/
import Derived.Test.YtbbmjnhbmcbehaaN8
namespace Go.Proofs.Ytbbmjnhbmcbehaa
open Go.RowKit

theorem Blk.drew {W : World} {b : Nat} {t : TypeId} {cs : Array Value} (h : Blk W b t cs) : Blk W.drew b t cs := h
theorem quo_fin : ∀ (f : Nat) (l : List UInt8) (k : Nat) (acc : List Nat), (quo f l k acc).code = 0 → (quo f l k acc).fin ≤ k + l.length
  | 0, l, k, acc, h => by simp [quo] at h
  | f + 1, [], k, acc, h => by simp [quo] at h
  | f + 1, c :: l, k, acc, h => by
    unfold quo at h ⊢
    split at h
    · rename_i h1; rw [if_pos h1]; simp only [List.length_cons]; omega
    · rename_i h1
      rw [if_neg h1]
      split at h
      · rename_i h2
        rw [if_pos h2]
        split at h
        · simp at h
        · rename_i h3
          rw [if_neg h3]
          have h4 := quo_fin f _ _ _ h
          have h5 := rdq_le ⟨(c :: l).toArray⟩
          have h6 : (⟨(c :: l).toArray⟩ : ByteArray).size = (c :: l).length := rfl
          rw [h6] at h5
          have h7 : (rdql (c :: l)).2 ≤ (c :: l).length := h5
          rw [List.length_drop] at h4
          omega
      · rename_i h2
        rw [if_neg h2]
        split at h
        · rename_i h3
          rw [if_pos h3]
          have h4 := quo_fin f _ _ _ h
          simp only [List.length_cons]; omega
        · simp at h
theorem quoted_fin (x : ByteArray) (h : (quoted x.data.toList).code = 0) (h0 : 0 < x.size) : (quoted x.data.toList).fin ≤ x.size := by
  have := quo_fin _ _ _ _ h
  unfold quoted; rw [List.length_drop] at this; rw [list_len] at *; omega
theorem row_slice {W : World} {base : Nat} {e : TypeId} {size : Nat} {v : Value} {n : Nat} {xs : List Value} (h : W.ownsRow base e size v n xs) : ∃ a c, v = .slice a n c := by
  rcases h.2 with ⟨rfl, rfl⟩ | ⟨g, cap, cur, rfl, _⟩
  · exact ⟨none, 0, rfl⟩
  · exact ⟨_, _, rfl⟩
set_option maxRecDepth 100000 in
set_option maxHeartbeats 4000000 in
theorem readT_any (x : ByteArray) (w : World) (hx : x.size ≤ 65536) (h0 : 0 < x.size) : Calls Try.prog 57 #[.string x] w (Reads w x (rdText x.data.toList)) := by
  have HQ : Hid _ := fun w => readQ_any x w hx
  have hfin := fun h => quoted_fin x h h0
  obtain ⟨R, hR⟩ : ∃ R, rdText x.data.toList = R := ⟨_, rfl⟩
  rw [hR]
  unfold rdText at hR
  generalize quoted x.data.toList = q at *
  obtain ⟨bs, fin, fat, code⟩ := q
  simp only [quoV, fv] at HQ hR hfin
  by_cases h3 : code = 0
  · subst h3
    rw [if_pos rfl] at hR
    replace hfin := hfin rfl
    have hfin' : (fin : Int) ≤ x.size := by omega
    have HN : Hid _ := fun w => newWord_any 4 (x.extract 0 fin) w (by simp; omega)
    have HX : Hid _ := extract_pre x fin
    go_enter Try.func57, Try.ntmps57
    go_wp2_with (go_at_call 35; refine (HQ.out _).mono ?_)
    rintro e w1 ⟨v, rfl, hrow, hb1⟩
    obtain ⟨va, vc, rfl⟩ := row_slice hrow
    go_wp2_with (go_at_call 60; refine (HN.out _).mono ?_)
    rintro e w2 ⟨rfl, hb2⟩
    have hW := (((wb_word w).after hb1).alloc (.cells #[.int .i64 (fat : Int), .int .i64 ((0 : Nat) : Int)] 26)).after hb2
    have hF := (((wb_fault w).after hb1).alloc (.cells #[.int .i64 (fat : Int), .int .i64 ((0 : Nat) : Int)] 26)).after hb2
    have hB := below_of (w := w) (((below_of (wb_below w) hb1)).alloc (below_of (wb_below w) hb1).size (.cells #[.int .i64 (fat : Int), .int .i64 ((0 : Nat) : Int)] 26)) hb2
    have hr2 := row_below (hrow.alloc (.cells #[.int .i64 (fat : Int), .int .i64 ((0 : Nat) : Int)] 26)) hb2
    rw [wb_size] at hr2
    clear hb1 hb2 HQ HN hrow
    have l1 := hW.lt
    have l2 := hF.lt
    obtain ⟨e0, e1, e2, e3, e4, e5, e6, e7, e8, e9, e10⟩ := hW.word
    obtain ⟨f0, f1⟩ := hF.pair
    have z1 := hW.frozen
    have z2 := hF.frozen
    simp only [wv, St.zero]
    go_wp2
    have hb13 := both13 hW hF (by omega) (.int .i64 4) (.string (x.extract 0 fin)) (.slice va bs.length vc) (.int .u64 0) (.int .u64 0) (.int .u64 0) (.int .u64 0) (.int .i64 0) (.int .i64 0) (.int .i64 0) (.int .i64 0) (.int .i64 0) (.int .i64 0)
    have hbl := below2 (below11 hB (Nat.le_refl _) (.int .i64 4) (.string (x.extract 0 fin)) (.slice va bs.length vc) (.int .u64 0) (.int .u64 0) (.int .u64 0) (.int .u64 0) (.int .i64 0) (.int .i64 0) (.int .i64 0) (.int .i64 0)) (Nat.le_succ _) (.int .i64 0) (.int .i64 0)
    have hq1 := (hb13.1.alloc (.cells #[.int .i64 4, .string (x.extract 0 fin), .slice va bs.length vc, .int .u64 0, .int .u64 0, .int .u64 0, .int .u64 0, .int .i64 0, .int .i64 0, .int .i64 0, .int .i64 0] 35))
    have hq2 := (hb13.2.alloc (.cells #[.int .i64 4, .string (x.extract 0 fin), .slice va bs.length vc, .int .u64 0, .int .u64 0, .int .u64 0, .int .u64 0, .int .i64 0, .int .i64 0, .int .i64 0, .int .i64 0] 35))
    replace hbl := hbl.alloc hbl.size (.cells #[.int .i64 4, .string (x.extract 0 fin), .slice va bs.length vc, .int .u64 0, .int .u64 0, .int .u64 0, .int .u64 0, .int .i64 0, .int .i64 0, .int .i64 0, .int .i64 0] 35)
    have hq4 := row2 (row11 hr2 (show w.heap.size < w.heap.size + 2 by omega) (.int .i64 4) (.string (x.extract 0 fin)) (.slice va bs.length vc) (.int .u64 0) (.int .u64 0) (.int .u64 0) (.int .u64 0) (.int .i64 0) (.int .i64 0) (.int .i64 0) (.int .i64 0)) (show w.heap.size + 1 < w.heap.size + 2 by omega) (.int .i64 0) (.int .i64 0)
    replace hq4 := (hq4.alloc (.cells #[.int .i64 4, .string (x.extract 0 fin), .slice va bs.length vc, .int .u64 0, .int .u64 0, .int .u64 0, .int .u64 0, .int .i64 0, .int .i64 0, .int .i64 0, .int .i64 0] 35))
    refine gen (fun W => (Blk W w.heap.size 35 _ ∧ Blk W (w.heap.size + 1) 26 _) ∧ Below w.heap.size w W ∧ W.ownsRow (w.heap.size + 2) 5 1 _ _ _) ⟨⟨hq1, hq2⟩, hbl, hq4⟩ ?_
    rintro W ⟨⟨hb, hf⟩, hB', hrow⟩
    clear e0 e1 e2 e3 e4 e5 e6 e7 e8 e9 e10 f0 f1
    obtain ⟨e0, e1, e2, e3, e4, e5, e6, e7, e8, e9, e10⟩ := hb.word
    obtain ⟨f0, f1⟩ := hf.pair
    exact bodyPost_ret (v := rwV x.data.toList R (.slice va bs.length vc)) (by rw [← hR]; simp [results, Try.results57, go_sem, rwV, wv, fv, St.zero, e0, e1, e2, e3, e4, e5, e6, e7, e8, e9, e10, f0, f1, HX.out]) rfl ⟨_, rfl, by rw [← hR]; exact row_mono hrow (by omega), hB'⟩
  · rw [if_neg h3] at hR
    have h3' : ((code : Int) != 0) = true := by simp; omega
    go_enter Try.func57, Try.ntmps57
    go_wp2_with (go_at_call 35; refine (HQ.out _).mono ?_)
    rintro e w1 ⟨v, rfl, hrow, hb1⟩
    obtain ⟨va, vc, rfl⟩ := row_slice hrow
    have hW := (wb_word w).after hb1
    have hF := (wb_fault w).after hb1
    have hB := below_of (wb_below w) hb1
    clear hb1 HQ hrow
    have l1 := hW.lt
    have l2 := hF.lt
    obtain ⟨e0, e1, e2, e3, e4, e5, e6, e7, e8, e9, e10⟩ := hW.word
    obtain ⟨f0, f1⟩ := hF.pair
    have z1 := hW.frozen
    have z2 := hF.frozen
    go_wp2
    go_region
    all_goals go_wp2
    have hb13 := both13 hW hF (by omega) (.int .i64 0) (.string ⟨#[]⟩) (.slice none 0 0) (.int .u64 0) (.int .u64 0) (.int .u64 0) (.int .u64 0) (.int .i64 0) (.int .i64 0) (.int .i64 0) (.int .i64 0) (.int .i64 (fat : Int)) (.int .i64 (code : Int))
    have hbl := below2 (below11 hB (Nat.le_refl _) (.int .i64 0) (.string ⟨#[]⟩) (.slice none 0 0) (.int .u64 0) (.int .u64 0) (.int .u64 0) (.int .u64 0) (.int .i64 0) (.int .i64 0) (.int .i64 0) (.int .i64 0)) (Nat.le_succ _) (.int .i64 (fat : Int)) (.int .i64 (code : Int))
    have hq1 := (hb13.1.alloc (.cells #[.int .i64 (fat : Int), .int .i64 (code : Int)] 26)).drew
    have hq2 := (hb13.2.alloc (.cells #[.int .i64 (fat : Int), .int .i64 (code : Int)] 26)).drew
    replace hbl := hbl.alloc hbl.size (.cells #[.int .i64 (fat : Int), .int .i64 (code : Int)] 26)
    replace hbl := hbl.drew
    refine gen (fun W => (Blk W w.heap.size 35 _ ∧ Blk W (w.heap.size + 1) 26 _) ∧ Below w.heap.size w W) ⟨⟨hq1, hq2⟩, hbl⟩ ?_
    rintro W ⟨⟨hb, hf⟩, hB'⟩
    clear e0 e1 e2 e3 e4 e5 e6 e7 e8 e9 e10 f0 f1
    obtain ⟨e0, e1, e2, e3, e4, e5, e6, e7, e8, e9, e10⟩ := hb.word
    obtain ⟨f0, f1⟩ := hf.pair
    exact bodyPost_ret (v := rwV x.data.toList R (.slice none 0 0)) (by rw [← hR]; simp [results, Try.results57, go_sem, rwV, wv, fv, St.zero, RW.fault, e0, e1, e2, e3, e4, e5, e6, e7, e8, e9, e10, f0, f1]) rfl ⟨_, rfl, by rw [← hR]; exact World.ownsRow_nil _ _ _ _, hB'⟩
end Go.Proofs.Ytbbmjnhbmcbehaa
