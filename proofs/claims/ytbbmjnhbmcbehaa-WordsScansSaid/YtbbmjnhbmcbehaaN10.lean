/- Reading a word: sets, and every word. -/
import Derived.Test.YtbbmjnhbmcbehaaN9
namespace Go.Proofs.Ytbbmjnhbmcbehaa
open Go.RowKit

theorem clo_le : ∀ (l : List UInt8) (k : Nat), clo l k ≤ k + l.length
  | [], k => by simp [clo]
  | [c], k => by unfold clo; split <;> simp
  | c :: d :: l, k => by
    have h1 := clo_le l (k + 2)
    have h2 := clo_le (d :: l) (k + 1)
    unfold clo
    simp only [List.length_cons] at *
    split
    · omega
    · split <;> omega
set_option maxRecDepth 100000 in
set_option maxHeartbeats 4000000 in
theorem readS_any (x : ByteArray) (w : World) (hx : x.size ≤ 65536) (h0 : 0 < x.size) : Calls Try.prog 58 #[.string x] w (Reads w x (rdSet x.data.toList)) := by
  have HS : Hid _ := fun w => spanS_any x w hx
  have hle := clo_le (x.data.toList.drop 1) 1
  rw [List.length_drop, list_len] at hle
  obtain ⟨R, hR⟩ : ∃ R, rdSet x.data.toList = R := ⟨_, rfl⟩
  rw [hR]
  unfold rdSet at hR
  generalize clo (x.data.toList.drop 1) 1 = n at *
  by_cases hn : n = 0
  · subst hn
    rw [if_pos rfl] at hR
    go_enter Try.func58, Try.ntmps58
    go_wp2_with (go_at_call 76; refine (HS.out _).mono ?_; rintro e w1 ⟨rfl, rfl⟩)
    refine gen (fun W => (Blk W _ 35 _ ∧ Blk W _ 26 _) ∧ Below _ _ W) ⟨⟨(Blk.new _ 35 _).alloc _, Blk.new _ 26 _⟩, ((Below.refl _ _).alloc (Nat.le_refl _) _).alloc (by simp) _⟩ ?_
    rintro W ⟨⟨hb, hf⟩, hB'⟩
    rw [World.size_alloc] at hf
    obtain ⟨e0, e1, e2, e3, e4, e5, e6, e7, e8, e9, e10⟩ := hb.word
    obtain ⟨f0, f1⟩ := hf.pair
    exact bodyPost_ret (v := rwV x.data.toList R (.slice none 0 0)) (by rw [← hR]; simp [results, Try.results58, go_sem, rwV, wv, fv, St.zero, RW.fault, e0, e1, e2, e3, e4, e5, e6, e7, e8, e9, e10, f0, f1]) rfl ⟨_, rfl, by rw [← hR]; exact World.ownsRow_nil _ _ _ _, hB'⟩
  · rw [if_neg hn] at hR
    have hnb : ((n : Int) == 0) = false := by simp; omega
    have hle' : (n : Int) ≤ x.size := by omega
    have HX : Hid _ := extract_pre x n
    rw [← HX.out] at hR
    have HP : Hid _ := fun w => parse_any (x.extract 0 n) w
    have HN : Hid _ := fun w => newWord_any 5 (x.extract 0 n) w (by simp; omega)
    generalize prs (x.extract 0 n) = q at *
    obtain ⟨s, fat, code⟩ := q
    simp only [prsV] at HP hR
    by_cases h3 : code = 0
    · subst h3
      rw [if_pos rfl] at hR
      go_enter Try.func58, Try.ntmps58
      go_wp2_with (first | (go_at_call 76; refine (HS.out _).mono ?_; rintro e w' ⟨rfl, rfl⟩) | (go_at_call 77; refine (HP.out _).mono ?_))
      rintro e w1 ⟨rfl, hb1⟩
      go_wp2_with (go_at_call 60; refine (HN.out _).mono ?_)
      rintro e w2 ⟨rfl, hb2⟩
      have hW := ((((wb_word _).after hb1).alloc (.cells #[.int .u64 (s.a : Int), .int .u64 (s.b : Int), .int .u64 (s.c : Int), .int .u64 (s.d : Int)] 33)).alloc (.cells #[.int .i64 (fat : Int), .int .i64 ((0 : Nat) : Int)] 26)).after hb2
      have hF := ((((wb_fault _).after hb1).alloc (.cells #[.int .u64 (s.a : Int), .int .u64 (s.b : Int), .int .u64 (s.c : Int), .int .u64 (s.d : Int)] 33)).alloc (.cells #[.int .i64 (fat : Int), .int .i64 ((0 : Nat) : Int)] 26)).after hb2
      have hB1 := below_of (wb_below _) hb1
      have hB := below_of ((hB1.alloc hB1.size (.cells #[.int .u64 (s.a : Int), .int .u64 (s.b : Int), .int .u64 (s.c : Int), .int .u64 (s.d : Int)] 33)).alloc (by have := hB1.size; simp; omega) (.cells #[.int .i64 (fat : Int), .int .i64 ((0 : Nat) : Int)] 26)) hb2
      have hS := ((Blk.new w1 33 #[.int .u64 (s.a : Int), .int .u64 (s.b : Int), .int .u64 (s.c : Int), .int .u64 (s.d : Int)]).alloc (.cells #[.int .i64 (fat : Int), .int .i64 ((0 : Nat) : Int)] 26)).after hb2
      have s0 := hS.cell 0 (v := .int .u64 (s.a : Int)) rfl
      have s1 := hS.cell 1 (v := .int .u64 (s.b : Int)) rfl
      have s2 := hS.cell 2 (v := .int .u64 (s.c : Int)) rfl
      have s3 := hS.cell 3 (v := .int .u64 (s.d : Int)) rfl
      have l3 := hS.lt
      clear hb1 hb2 HS HP HN hB1
      have l1 := hW.lt
      have l2 := hF.lt
      obtain ⟨e0, e1, e2, e3, e4, e5, e6, e7, e8, e9, e10⟩ := hW.word
      obtain ⟨f0, f1⟩ := hF.pair
      have z1 := hW.frozen
      have z2 := hF.frozen
      simp only [wv, St.zero]
      go_wp2
      have hb13 := both13 hW hF (by omega) (.int .i64 5) (.string (x.extract 0 n)) (.slice none 0 0) (.int .u64 (s.a : Int)) (.int .u64 (s.b : Int)) (.int .u64 (s.c : Int)) (.int .u64 (s.d : Int)) (.int .i64 0) (.int .i64 0) (.int .i64 0) (.int .i64 0) (.int .i64 0) (.int .i64 0)
      have hbl := below2 (below11 hB (Nat.le_refl _) (.int .i64 5) (.string (x.extract 0 n)) (.slice none 0 0) (.int .u64 (s.a : Int)) (.int .u64 (s.b : Int)) (.int .u64 (s.c : Int)) (.int .u64 (s.d : Int)) (.int .i64 0) (.int .i64 0) (.int .i64 0) (.int .i64 0)) (Nat.le_succ _) (.int .i64 0) (.int .i64 0)
      have hq1 := (hb13.1.alloc (.cells #[.int .i64 5, .string (x.extract 0 n), .slice none 0 0, .int .u64 (s.a : Int), .int .u64 (s.b : Int), .int .u64 (s.c : Int), .int .u64 (s.d : Int), .int .i64 0, .int .i64 0, .int .i64 0, .int .i64 0] 35))
      have hq2 := (hb13.2.alloc (.cells #[.int .i64 5, .string (x.extract 0 n), .slice none 0 0, .int .u64 (s.a : Int), .int .u64 (s.b : Int), .int .u64 (s.c : Int), .int .u64 (s.d : Int), .int .i64 0, .int .i64 0, .int .i64 0, .int .i64 0] 35))
      replace hbl := hbl.alloc hbl.size (.cells #[.int .i64 5, .string (x.extract 0 n), .slice none 0 0, .int .u64 (s.a : Int), .int .u64 (s.b : Int), .int .u64 (s.c : Int), .int .u64 (s.d : Int), .int .i64 0, .int .i64 0, .int .i64 0, .int .i64 0] 35)
      refine gen (fun W => (Blk W w.heap.size 35 _ ∧ Blk W (w.heap.size + 1) 26 _) ∧ Below w.heap.size w W) ⟨⟨hq1, hq2⟩, hbl⟩ ?_
      rintro W ⟨⟨hb, hf⟩, hB'⟩
      clear e0 e1 e2 e3 e4 e5 e6 e7 e8 e9 e10 f0 f1
      obtain ⟨e0, e1, e2, e3, e4, e5, e6, e7, e8, e9, e10⟩ := hb.word
      obtain ⟨f0, f1⟩ := hf.pair
      exact bodyPost_ret (v := rwV x.data.toList R (.slice none 0 0)) (by rw [← hR]; simp [results, Try.results58, go_sem, rwV, wv, fv, e0, e1, e2, e3, e4, e5, e6, e7, e8, e9, e10, f0, f1, HX.out]) rfl ⟨_, rfl, by rw [← hR]; exact World.ownsRow_nil _ _ _ _, hB'⟩
    · rw [if_neg h3] at hR
      have h3' : ((code : Int) != 0) = true := by simp; omega
      clear HN
      go_enter Try.func58, Try.ntmps58
      go_wp2_with (first | (go_at_call 76; refine (HS.out _).mono ?_; rintro e w' ⟨rfl, rfl⟩) | (go_at_call 77; refine (HP.out _).mono ?_))
      rintro e w1 ⟨rfl, hb1⟩
      have hW := (wb_word _).after hb1
      have hF := (wb_fault _).after hb1
      have hB := below_of (wb_below _) hb1
      clear hb1 HS HP
      have l1 := hW.lt
      have l2 := hF.lt
      obtain ⟨e0, e1, e2, e3, e4, e5, e6, e7, e8, e9, e10⟩ := hW.word
      obtain ⟨f0, f1⟩ := hF.pair
      have z1 := hW.frozen
      have z2 := hF.frozen
      go_wp2
      go_region
      all_goals go_wp2
      have hb13 := both13 hW hF (by omega) (.int .i64 0) (.string ⟨#[]⟩) (.slice none 0 0) (.int .u64 0) (.int .u64 0) (.int .u64 0) (.int .u64 0) (.int .i64 0) (.int .i64 0) (.int .i64 0) (.int .i64 0) (.int .i64 (fat : Int)) (.int .i64 (code : Int))
      have hbl := below2 (below11 hB (Nat.le_refl _) (.int .i64 0) (.string ⟨#[]⟩) (.slice none 0 0) (.int .u64 0) (.int .u64 0) (.int .u64 0) (.int .u64 0) (.int .i64 0) (.int .i64 0) (.int .i64 0) (.int .i64 0)) (Nat.le_succ _) (.int .i64 (fat : Int)) (.int .i64 (code : Int))
      have hq1 := ((hb13.1.alloc (.cells #[.int .u64 (s.a : Int), .int .u64 (s.b : Int), .int .u64 (s.c : Int), .int .u64 (s.d : Int)] 33)).alloc (.cells #[.int .i64 (fat : Int), .int .i64 (code : Int)] 26)).drew
      have hq2 := ((hb13.2.alloc (.cells #[.int .u64 (s.a : Int), .int .u64 (s.b : Int), .int .u64 (s.c : Int), .int .u64 (s.d : Int)] 33)).alloc (.cells #[.int .i64 (fat : Int), .int .i64 (code : Int)] 26)).drew
      replace hbl := hbl.alloc hbl.size (.cells #[.int .u64 (s.a : Int), .int .u64 (s.b : Int), .int .u64 (s.c : Int), .int .u64 (s.d : Int)] 33)
      replace hbl := hbl.alloc hbl.size (.cells #[.int .i64 (fat : Int), .int .i64 (code : Int)] 26)
      replace hbl := hbl.drew
      refine gen (fun W => (Blk W w.heap.size 35 _ ∧ Blk W (w.heap.size + 1) 26 _) ∧ Below w.heap.size w W) ⟨⟨hq1, hq2⟩, hbl⟩ ?_
      rintro W ⟨⟨hb, hf⟩, hB'⟩
      clear e0 e1 e2 e3 e4 e5 e6 e7 e8 e9 e10 f0 f1
      obtain ⟨e0, e1, e2, e3, e4, e5, e6, e7, e8, e9, e10⟩ := hb.word
      obtain ⟨f0, f1⟩ := hf.pair
      exact bodyPost_ret (v := rwV x.data.toList R (.slice none 0 0)) (by rw [← hR]; simp [results, Try.results58, go_sem, rwV, wv, fv, St.zero, RW.fault, e0, e1, e2, e3, e4, e5, e6, e7, e8, e9, e10, f0, f1]) rfl ⟨_, rfl, by rw [← hR]; exact World.ownsRow_nil _ _ _ _, hB'⟩
end Go.Proofs.Ytbbmjnhbmcbehaa
