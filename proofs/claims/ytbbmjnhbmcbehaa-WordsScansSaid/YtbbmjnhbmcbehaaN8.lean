/- Reading a word: names and keys, numbers, texts, sets. -/
import Derived.Test.YtbbmjnhbmcbehaaN7
namespace Go.Proofs.Ytbbmjnhbmcbehaa
open Go.RowKit

def rwV (l : List UInt8) (q : RW) (v : Value) : Value := .tuple #[wv q.kind ⟨(l.take q.len).toArray⟩ v q.set q.n 0 0 0, fv q.fat q.code]
/-- What a call that reads a word owes. -/
def Reads (w : World) (x : ByteArray) (q : RW) (e : Ending) (w' : World) : Prop :=
  ∃ v, e = .returned (rwV x.data.toList q v) ∧ w'.ownsRow w.heap.size 5 1 v q.bytes.length (bytesV q.bytes) ∧ Below w.heap.size w w'
abbrev wb (w : World) : World := (w.alloc (.cells wz 35)).alloc (.cells #[.int .i64 0, .int .i64 0] 26)
theorem wb_word (w : World) : Blk (wb w) w.heap.size 35 wz := (Blk.new w 35 wz).alloc _
theorem wb_fault (w : World) : Blk (wb w) (w.heap.size + 1) 26 #[.int .i64 0, .int .i64 0] := by
  have := Blk.new (w.alloc (.cells wz 35)) 26 #[.int .i64 0, .int .i64 0]
  rw [World.size_alloc] at this; exact this
theorem wb_below (w : World) : Below w.heap.size w (wb w) := ((Below.refl _ _).alloc (Nat.le_refl _) _).alloc (by simp) _
theorem wb_size (w : World) : (wb w).heap.size = w.heap.size + 2 := by simp
theorem take_none (l : List UInt8) : (⟨(l.take 0).toArray⟩ : ByteArray) = ⟨#[]⟩ := by simp
theorem reads_eq {x : ByteArray} {q q' : RW} {v : Value} (h : q = q') : Ending.returned (rwV x.data.toList q v) = .returned (rwV x.data.toList q' v) := by rw [h]

set_option maxRecDepth 100000 in
set_option maxHeartbeats 2000000 in
theorem readL_any (k : Nat) (x : ByteArray) (w : World) : Calls Try.prog 54 #[.string x, .int .i64 k] w (Reads w x (rdLet x.data.toList k)) := by
  have HS : Hid _ := fun w => spanL_any x w
  have hle := lspan_le alnum x.data.toList
  rw [list_len] at hle
  obtain ⟨R, hR⟩ : ∃ R, rdLet x.data.toList k = R := ⟨_, rfl⟩
  rw [hR]
  unfold rdLet at hR
  generalize lspan alnum x.data.toList = n at *
  by_cases h : 32 < n
  · rw [if_pos h] at hR
    have h' : (32 : Int) < n := by omega
    go_enter Try.func54, Try.ntmps54
    go_wp2_with (go_at_call 68; refine (HS.out _).mono ?_)
    rintro e w1 ⟨rfl, hb1⟩
    have hW := (wb_word w).after hb1
    have hF := (wb_fault w).after hb1
    have hB := below_of (wb_below w) hb1
    have l1 := hW.lt
    have l2 := hF.lt
    obtain ⟨e0, e1, e2, e3, e4, e5, e6, e7, e8, e9, e10⟩ := hW.word
    obtain ⟨f0, f1⟩ := hF.pair
    have z1 := hW.frozen
    have z2 := hF.frozen
    go_wp2
    refine gen (fun W => (Blk W w.heap.size 35 _ ∧ Blk W (w.heap.size + 1) 26 _) ∧ Below w.heap.size w W) ⟨both13 hW hF (by omega) _ _ _ _ _ _ _ _ _ _ _ _ _, below2 (below11 hB (Nat.le_refl _) _ _ _ _ _ _ _ _ _ _ _) (by omega) _ _⟩ ?_
    rintro W ⟨⟨hb, hf⟩, hB'⟩
    clear e0 e1 e2 e3 e4 e5 e6 e7 e8 e9 e10 f0 f1
    obtain ⟨e0, e1, e2, e3, e4, e5, e6, e7, e8, e9, e10⟩ := hb.word
    obtain ⟨f0, f1⟩ := hf.pair
    exact bodyPost_ret (v := rwV x.data.toList R (.slice none 0 0)) (by rw [← hR]; simp [results, Try.results54, go_sem, rwV, wv, fv, St.zero, RW.fault, e0, e1, e2, e3, e4, e5, e6, e7, e8, e9, e10, f0, f1]) rfl ⟨_, rfl, by rw [← hR]; exact World.ownsRow_nil _ _ _ _, hB'⟩
  · rw [if_neg h] at hR
    have h' : (n : Int) ≤ 32 := by omega
    replace h : n ≤ 32 := by omega
    have hle' : (n : Int) ≤ x.size := by omega
    have HN : Hid _ := fun w => newWord_any k (x.extract 0 n) w (by simp; omega)
    have HX : Hid _ := extract_pre x n
    go_enter Try.func54, Try.ntmps54
    go_wp2_with (go_at_call 68; refine (HS.out _).mono ?_)
    rintro e w1 ⟨rfl, hb1⟩
    go_wp2_with (go_at_call 60; refine (HN.out _).mono ?_)
    rintro e w2 ⟨rfl, hb2⟩
    have hW := ((wb_word w).after hb1).after hb2
    have hF := ((wb_fault w).after hb1).after hb2
    have hB := below_of (below_of (wb_below w) hb1) hb2
    clear hb1 hb2 HS HN
    have l1 := hW.lt
    have l2 := hF.lt
    obtain ⟨e0, e1, e2, e3, e4, e5, e6, e7, e8, e9, e10⟩ := hW.word
    obtain ⟨f0, f1⟩ := hF.pair
    have z1 := hW.frozen
    have z2 := hF.frozen
    unfold wv
    go_wp2
    refine gen (fun W => (Blk W w.heap.size 35 _ ∧ Blk W (w.heap.size + 1) 26 _) ∧ Below w.heap.size w W) ⟨both13 hW hF (by omega) _ _ _ _ _ _ _ _ _ _ _ _ _, below2 (below11 hB (Nat.le_refl _) _ _ _ _ _ _ _ _ _ _ _) (by omega) _ _⟩ ?_
    rintro W ⟨⟨hb, hf⟩, hB'⟩
    clear e0 e1 e2 e3 e4 e5 e6 e7 e8 e9 e10 f0 f1
    obtain ⟨e0, e1, e2, e3, e4, e5, e6, e7, e8, e9, e10⟩ := hb.word
    obtain ⟨f0, f1⟩ := hf.pair
    exact bodyPost_ret (v := rwV x.data.toList R (.slice none 0 0)) (by rw [← hR]; simp [results, Try.results54, go_sem, rwV, wv, fv, St.zero, RW.plain, e0, e1, e2, e3, e4, e5, e6, e7, e8, e9, e10, f0, f1, HX.out]) rfl ⟨_, rfl, by rw [← hR]; exact World.ownsRow_nil _ _ _ _, hB'⟩
theorem lspan_at (p : Nat → Bool) : ∀ (l : List UInt8) (i : Nat), i < lspan p l → p (l.getD i 0).toNat = true
  | [], i, h => by simp [lspan] at h
  | c :: l, i, h => by
    simp only [lspan] at h
    split at h
    · rename_i hc
      cases i with
      | zero => simpa using hc
      | succ i => simpa using lspan_at p l i (by omega)
    · omega
theorem numv_snoc (l : List UInt8) (c : UInt8) : numv (l ++ [c]) = numv l * 10 + (c.toNat - 48) := by unfold numv; simp
theorem fold_le : ∀ (l : List UInt8) (a : Nat), (∀ c ∈ l, c.toNat ≤ 57) → l.foldl (fun n c => n * 10 + (c.toNat - 48)) a + 1 ≤ (a + 1) * 10 ^ l.length
  | [], a, _ => by simp
  | c :: l, a, h => by
    have h1 := fold_le l (a * 10 + (c.toNat - 48)) (fun d hd => h d (by simp [hd]))
    have h2 := h c (by simp)
    simp only [List.foldl_cons, List.length_cons, Nat.pow_succ]
    refine Nat.le_trans h1 ?_
    rw [Nat.mul_comm (10 ^ l.length) 10, ← Nat.mul_assoc]
    exact Nat.mul_le_mul_right _ (by omega)
theorem numv_le (l : List UInt8) (h : ∀ c ∈ l, c.toNat ≤ 57) (hl : l.length ≤ 6) : numv l ≤ 999999 := by
  have h1 := fold_le l 0 h
  have h2 : 10 ^ l.length ≤ 10 ^ 6 := Nat.pow_le_pow_right (by omega) hl
  unfold numv; omega
/-- The digits at the beginning of a text. -/
theorem digs_at (l : List UInt8) (t : ByteArray) (ht : t.data.toList = l.take (lspan digB l)) (i : Nat) (hi : i < t.size) : 48 ≤ t[i].toNat ∧ t[i].toNat ≤ 57 := by
  have h1 : i < lspan digB l := by
    have := list_len t; rw [ht, List.length_take] at this; omega
  have h2 := lspan_at digB l i h1
  have h3 : t[i] = l.getD i 0 := by
    have e : t[i] = t.data.toList.getD i 0 := by
      have : i < t.data.toList.length := by rw [list_len]; exact hi
      rw [List.getD_eq_getElem?_getD, List.getElem?_eq_getElem this]; rfl
    rw [e, ht, List.getD_eq_getElem?_getD, List.getElem?_take, if_pos h1, List.getD_eq_getElem?_getD]
  rw [h3]
  unfold digB at h2; simpa using h2
theorem numv_mem {t : ByteArray} (h : ∀ i (hi : i < t.size), 48 ≤ t[i].toNat ∧ t[i].toNat ≤ 57) {k : Nat} {d : UInt8} (hd : d ∈ t.data.toList.take k) : d.toNat ≤ 57 := by
  obtain ⟨i, hi, rfl⟩ := List.getElem_of_mem (List.mem_of_mem_take hd)
  have hi' : i < t.size := by rw [list_len] at hi; exact hi
  exact (h i hi').2
theorem numv_next (t : ByteArray) (k : Nat) (h : k < t.size) : numv (t.data.toList.take (k + 1)) = numv (t.data.toList.take k) * 10 + (t[k].toNat - 48) := by
  rw [List.take_succ_eq_append_getElem (by simpa using h), numv_snoc]; rfl
abbrev nb (t : ByteArray) (n : Int) : Array Value := #[.int .i64 3, .string t, .slice none 0 0, .int .u64 0, .int .u64 0, .int .u64 0, .int .u64 0, .int .i64 n, .int .i64 0, .int .i64 0, .int .i64 0]
theorem iter_cell7 (w : World) (t : ByteArray) (n : Int) (p : Nat) : ((w.alloc (.cells (nb t n) 35)).iter t p).cell? ⟨w.heap.size, 7, none⟩ = some (.int .i64 n) := by
  unfold World.iter; simp
theorem iter_froz7 (w : World) (t : ByteArray) (n : Int) (p : Nat) : ((w.alloc (.cells (nb t n) 35)).iter t p).frozen? ⟨w.heap.size, 7, none⟩ = false := by
  unfold World.iter; simp
theorem iter_set7 (w : World) (t : ByteArray) (n m : Int) (p : Nat) : ((w.alloc (.cells (nb t n) 35)).iter t p).setCell ⟨w.heap.size, 7, none⟩ (.int .i64 m) = (w.alloc (.cells (nb t m) 35)).iter t p := by
  unfold World.iter; go_simp
theorem iterPos7 (w : World) (t : ByteArray) (a : Array Value) (p : Nat) : ((w.alloc (.cells a 35)).iter t p).iterPos (w.heap.size + 1) = p := by
  have := World.iterPos_iter (w.alloc (.cells a 35)) t p
  rw [World.size_alloc] at this; exact this
set_option maxRecDepth 100000 in
set_option maxHeartbeats 4000000 in
theorem readN_any (x : ByteArray) (w : World) (h0 : 0 < x.size) : Calls Try.prog 56 #[.string x] w (Reads w x (rdNum x.data.toList)) := by
  have HS : Hid _ := fun w => spanD_any x w
  have hle := lspan_le digB x.data.toList
  rw [list_len] at hle
  obtain ⟨R, hR⟩ : ∃ R, rdNum x.data.toList = R := ⟨_, rfl⟩
  rw [hR]
  unfold rdNum at hR
  have HDG : Hid _ := digs_at x.data.toList
  rw [← bt_list] at hR
  have b0 := bt_eq x 0 h0
  generalize lspan digB x.data.toList = n at *
  generalize bt x 0 = c at *
  by_cases h : 6 < n ∨ (1 < n ∧ c = 48)
  · rw [if_pos h] at hR
    rcases Nat.lt_or_ge 6 n with h6 | h6
    · have h6' : (6 : Int) < n := by omega
      go_enter Try.func56, Try.ntmps56
      go_wp2_with (go_at_call 75; refine (HS.out _).mono ?_)
      rintro e w1 ⟨rfl, hb1⟩
      have hW := (wb_word w).after hb1
      have hF := (wb_fault w).after hb1
      have hB := below_of (wb_below w) hb1
      clear hb1 HS
      have l1 := hW.lt
      have l2 := hF.lt
      obtain ⟨e0, e1, e2, e3, e4, e5, e6, e7, e8, e9, e10⟩ := hW.word
      obtain ⟨f0, f1⟩ := hF.pair
      have z1 := hW.frozen
      have z2 := hF.frozen
      go_wp2
      refine gen (fun W => (Blk W w.heap.size 35 _ ∧ Blk W (w.heap.size + 1) 26 _) ∧ Below w.heap.size w W) ⟨both13 hW hF (by omega) _ _ _ _ _ _ _ _ _ _ _ _ _, below2 (below11 hB (Nat.le_refl _) _ _ _ _ _ _ _ _ _ _ _) (by omega) _ _⟩ ?_
      rintro W ⟨⟨hb, hf⟩, hB'⟩
      clear e0 e1 e2 e3 e4 e5 e6 e7 e8 e9 e10 f0 f1
      obtain ⟨e0, e1, e2, e3, e4, e5, e6, e7, e8, e9, e10⟩ := hb.word
      obtain ⟨f0, f1⟩ := hf.pair
      exact bodyPost_ret (v := rwV x.data.toList R (.slice none 0 0)) (by rw [← hR]; simp [results, Try.results56, go_sem, rwV, wv, fv, St.zero, RW.fault, e0, e1, e2, e3, e4, e5, e6, e7, e8, e9, e10, f0, f1]) rfl ⟨_, rfl, by rw [← hR]; exact World.ownsRow_nil _ _ _ _, hB'⟩
    · have h6' : (n : Int) ≤ 6 := by omega
      have h1 : 1 < n := by omega
      have h1' : (1 : Int) < n := by omega
      obtain rfl : c = 48 := by omega
      clear h
      go_enter Try.func56, Try.ntmps56
      go_wp2_with (go_at_call 75; refine (HS.out _).mono ?_)
      rintro e w1 ⟨rfl, hb1⟩
      have hW := (wb_word w).after hb1
      have hF := (wb_fault w).after hb1
      have hB := below_of (wb_below w) hb1
      clear hb1 HS
      have l1 := hW.lt
      have l2 := hF.lt
      obtain ⟨e0, e1, e2, e3, e4, e5, e6, e7, e8, e9, e10⟩ := hW.word
      obtain ⟨f0, f1⟩ := hF.pair
      have z1 := hW.frozen
      have z2 := hF.frozen
      go_wp2
      refine gen (fun W => (Blk W w.heap.size 35 _ ∧ Blk W (w.heap.size + 1) 26 _) ∧ Below w.heap.size w W) ⟨both13 hW hF (by omega) _ _ _ _ _ _ _ _ _ _ _ _ _, below2 (below11 hB (Nat.le_refl _) _ _ _ _ _ _ _ _ _ _ _) (by omega) _ _⟩ ?_
      rintro W ⟨⟨hb, hf⟩, hB'⟩
      clear e0 e1 e2 e3 e4 e5 e6 e7 e8 e9 e10 f0 f1
      obtain ⟨e0, e1, e2, e3, e4, e5, e6, e7, e8, e9, e10⟩ := hb.word
      obtain ⟨f0, f1⟩ := hf.pair
      exact bodyPost_ret (v := rwV x.data.toList R (.slice none 0 0)) (by rw [← hR]; simp [results, Try.results56, go_sem, rwV, wv, fv, St.zero, RW.fault, e0, e1, e2, e3, e4, e5, e6, e7, e8, e9, e10, f0, f1]) rfl ⟨_, rfl, by rw [← hR]; exact World.ownsRow_nil _ _ _ _, hB'⟩
  · rw [if_neg h] at hR
    have h6 : n ≤ 6 := by omega
    have h6' : decide ((6 : Int) < n) = false := by simp; omega
    have hle' : (n : Int) ≤ x.size := by omega
    have HN : Hid _ := fun w => newWord_any 3 (x.extract 0 n) w (by simp; omega)
    have HT : (x.extract 0 n).data.toList = x.data.toList.take n := by rw [extract_list]; simp
    have HX : Hid _ := extract_pre x n
    replace HDG : Hid _ := HDG.out (x.extract 0 n) HT
    have hsz : Hid ((x.extract 0 n).size ≤ 6) := by show _ ≤ _; simp; omega
    have hnv : Hid (numv (x.data.toList.take n) = numv (x.extract 0 n).data.toList) := by rw [HT]; rfl
    rw [hnv.out] at hR
    clear HT hnv
    have h48 : n ≤ 1 ∨ (1 < n ∧ c ≠ 48) := by omega
    clear h
    rcases h48 with h1 | ⟨h1, hc⟩
    · have h1' : decide ((1 : Int) < n) = false := by simp; omega
      clear h1
      go_enter Try.func56, Try.ntmps56
      go_wp2_with (go_at_call 75; refine (HS.out _).mono ?_)
      rintro e w1 ⟨rfl, hb1⟩
      go_wp2_with (go_at_call 60; refine (HN.out _).mono ?_)
      rintro e w2 ⟨rfl, hb2⟩
      have hW := ((wb_word w).after hb1).after hb2
      have hF := ((wb_fault w).after hb1).after hb2
      have hB := below_of (below_of (wb_below w) hb1) hb2
      have hwl := hF.lt
      clear hb1 hb2 HS HN
      simp only [wv, St.zero]
      generalize x.extract 0 n = t at *
      replace hsz : t.size ≤ 6 := hsz.out
      go_wp2
      go_loopw [7] (fun _ wr => ∃ pos : Nat, pos ≤ t.size ∧ wr = (w2.alloc (.cells (nb t (numv (t.data.toList.take pos))) 35)).iter t pos) (fun _ wr => t.size - wr.iterPos (w2.heap.size + 1))
      case atStart => exact ⟨0, Nat.zero_le _, rfl⟩
      case round =>
        obtain ⟨pos, hp, rfl⟩ := hrel
        by_cases hlt : pos < t.size
        · obtain ⟨d1, d2⟩ := HDG.out pos hlt
          have hnx : ∀ ty, (Instr.next (.pointer (some ⟨w2.heap.size + 1, 0, none⟩)) true ty).run Try.prog ((w2.alloc (.cells (nb t (numv (t.data.toList.take pos))) 35)).iter t pos) = .ok (.tuple #[.bool true, .int .i64 pos, .int .i32 (t[pos]'hlt).toNat]) ((w2.alloc (.cells (nb t (numv (t.data.toList.take pos))) 35)).iter t (pos + 1)) := fun ty => by
            have := run_next_ascii (P := Try.prog) (w2.alloc (.cells (nb t (numv (t.data.toList.take pos))) 35)) t pos ty hlt (by omega)
            rw [World.size_alloc] at this; exact this
          have hnl := numv_le (t.data.toList.take pos) (fun d hd => numv_mem HDG.out hd) (by rw [List.length_take, list_len]; omega)
          have HV : Hid _ := numv_next t pos hlt
          generalize numv (t.data.toList.take pos) = N at *
          generalize (t[pos]'hlt).toNat = d at *
          have hcl := iter_cell7 w2 t N (pos + 1)
          have hfz := iter_froz7 w2 t N (pos + 1)
          have hst := fun m => iter_set7 w2 t N m (pos + 1)
          go_wp2
          go_roundw
          case rel => exact ⟨pos + 1, by omega, by rw [HV.out]; congr 5; go_num⟩
          case measure => rw [iterPos7, iterPos7]; omega
        · obtain rfl : pos = t.size := by omega
          rw [← list_len, List.take_length]
          refine gen (fun W => (∀ ty, (Instr.next (.pointer (some ⟨w2.heap.size + 1, 0, none⟩)) true ty).run Try.prog W = .ok (.tuple #[.bool false]) W) ∧ Blk W w.heap.size 35 wz ∧ Blk W (w.heap.size + 1) 26 #[.int .i64 0, .int .i64 0] ∧ Blk W w2.heap.size 35 (nb t (numv t.data.toList)) ∧ Below w.heap.size w W) ⟨fun ty => by
            have := run_next_end (P := Try.prog) (w2.alloc (.cells (nb t (numv t.data.toList)) 35)) t t.data.toList.length ty (by rw [list_len]; omega)
            rw [World.size_alloc] at this; exact this, (hW.alloc _).alloc _, (hF.alloc _).alloc _, (Blk.new w2 35 _).alloc _, (hB.alloc hB.size _).alloc (by have := hB.size; simp; omega) _⟩ ?_
          clear hW hF hB
          rintro W ⟨hnx, hW, hF, hN, hB⟩
          generalize numv t.data.toList = N at *
          have l1 := hW.lt
          have l2 := hF.lt
          have l3 := hN.lt
          obtain ⟨e0, e1, e2, e3, e4, e5, e6, e7, e8, e9, e10⟩ := hW.word
          obtain ⟨f0, f1⟩ := hF.pair
          obtain ⟨n0, n1, n2, n3, n4, n5, n6, n7, n8, n9, n10⟩ := hN.word
          have z1 := hW.frozen
          have z2 := hF.frozen
          go_wp2
          refine gen (fun W => (Blk W w.heap.size 35 _ ∧ Blk W (w.heap.size + 1) 26 _) ∧ Below w.heap.size w W) ⟨both13 hW hF (by omega) _ _ _ _ _ _ _ _ _ _ _ _ _, below2 (below11 hB (Nat.le_refl _) _ _ _ _ _ _ _ _ _ _ _) (by omega) _ _⟩ ?_
          rintro W ⟨⟨hb, hf⟩, hB'⟩
          clear e0 e1 e2 e3 e4 e5 e6 e7 e8 e9 e10 f0 f1
          obtain ⟨e0, e1, e2, e3, e4, e5, e6, e7, e8, e9, e10⟩ := hb.word
          obtain ⟨f0, f1⟩ := hf.pair
          exact bodyPost_ret (v := rwV x.data.toList R (.slice none 0 0)) (by rw [← hR]; simp [results, Try.results56, go_sem, rwV, wv, fv, St.zero, e0, e1, e2, e3, e4, e5, e6, e7, e8, e9, e10, f0, f1, HX.out]) rfl ⟨_, rfl, by rw [← hR]; exact World.ownsRow_nil _ _ _ _, hB'⟩
    · have h1' : decide ((1 : Int) < n) = true := by simp; omega
      clear h1
      have hcb : ((c : Int) == 48) = false := by simp; omega
      go_enter Try.func56, Try.ntmps56
      go_wp2_with (go_at_call 75; refine (HS.out _).mono ?_)
      rintro e w1 ⟨rfl, hb1⟩
      go_wp2_with (go_at_call 60; refine (HN.out _).mono ?_)
      rintro e w2 ⟨rfl, hb2⟩
      have hW := ((wb_word w).after hb1).after hb2
      have hF := ((wb_fault w).after hb1).after hb2
      have hB := below_of (below_of (wb_below w) hb1) hb2
      have hwl := hF.lt
      clear hb1 hb2 HS HN
      simp only [wv, St.zero]
      generalize x.extract 0 n = t at *
      replace hsz : t.size ≤ 6 := hsz.out
      go_wp2
      go_loopw [7] (fun _ wr => ∃ pos : Nat, pos ≤ t.size ∧ wr = (w2.alloc (.cells (nb t (numv (t.data.toList.take pos))) 35)).iter t pos) (fun _ wr => t.size - wr.iterPos (w2.heap.size + 1))
      case atStart => exact ⟨0, Nat.zero_le _, rfl⟩
      case round =>
        obtain ⟨pos, hp, rfl⟩ := hrel
        by_cases hlt : pos < t.size
        · obtain ⟨d1, d2⟩ := HDG.out pos hlt
          have hnx : ∀ ty, (Instr.next (.pointer (some ⟨w2.heap.size + 1, 0, none⟩)) true ty).run Try.prog ((w2.alloc (.cells (nb t (numv (t.data.toList.take pos))) 35)).iter t pos) = .ok (.tuple #[.bool true, .int .i64 pos, .int .i32 (t[pos]'hlt).toNat]) ((w2.alloc (.cells (nb t (numv (t.data.toList.take pos))) 35)).iter t (pos + 1)) := fun ty => by
            have := run_next_ascii (P := Try.prog) (w2.alloc (.cells (nb t (numv (t.data.toList.take pos))) 35)) t pos ty hlt (by omega)
            rw [World.size_alloc] at this; exact this
          have hnl := numv_le (t.data.toList.take pos) (fun d hd => numv_mem HDG.out hd) (by rw [List.length_take, list_len]; omega)
          have HV : Hid _ := numv_next t pos hlt
          generalize numv (t.data.toList.take pos) = N at *
          generalize (t[pos]'hlt).toNat = d at *
          have hcl := iter_cell7 w2 t N (pos + 1)
          have hfz := iter_froz7 w2 t N (pos + 1)
          have hst := fun m => iter_set7 w2 t N m (pos + 1)
          go_wp2
          go_roundw
          case rel => exact ⟨pos + 1, by omega, by rw [HV.out]; congr 5; go_num⟩
          case measure => rw [iterPos7, iterPos7]; omega
        · obtain rfl : pos = t.size := by omega
          rw [← list_len, List.take_length]
          refine gen (fun W => (∀ ty, (Instr.next (.pointer (some ⟨w2.heap.size + 1, 0, none⟩)) true ty).run Try.prog W = .ok (.tuple #[.bool false]) W) ∧ Blk W w.heap.size 35 wz ∧ Blk W (w.heap.size + 1) 26 #[.int .i64 0, .int .i64 0] ∧ Blk W w2.heap.size 35 (nb t (numv t.data.toList)) ∧ Below w.heap.size w W) ⟨fun ty => by
            have := run_next_end (P := Try.prog) (w2.alloc (.cells (nb t (numv t.data.toList)) 35)) t t.data.toList.length ty (by rw [list_len]; omega)
            rw [World.size_alloc] at this; exact this, (hW.alloc _).alloc _, (hF.alloc _).alloc _, (Blk.new w2 35 _).alloc _, (hB.alloc hB.size _).alloc (by have := hB.size; simp; omega) _⟩ ?_
          clear hW hF hB
          rintro W ⟨hnx, hW, hF, hN, hB⟩
          generalize numv t.data.toList = N at *
          have l1 := hW.lt
          have l2 := hF.lt
          have l3 := hN.lt
          obtain ⟨e0, e1, e2, e3, e4, e5, e6, e7, e8, e9, e10⟩ := hW.word
          obtain ⟨f0, f1⟩ := hF.pair
          obtain ⟨n0, n1, n2, n3, n4, n5, n6, n7, n8, n9, n10⟩ := hN.word
          have z1 := hW.frozen
          have z2 := hF.frozen
          go_wp2
          refine gen (fun W => (Blk W w.heap.size 35 _ ∧ Blk W (w.heap.size + 1) 26 _) ∧ Below w.heap.size w W) ⟨both13 hW hF (by omega) _ _ _ _ _ _ _ _ _ _ _ _ _, below2 (below11 hB (Nat.le_refl _) _ _ _ _ _ _ _ _ _ _ _) (by omega) _ _⟩ ?_
          rintro W ⟨⟨hb, hf⟩, hB'⟩
          clear e0 e1 e2 e3 e4 e5 e6 e7 e8 e9 e10 f0 f1
          obtain ⟨e0, e1, e2, e3, e4, e5, e6, e7, e8, e9, e10⟩ := hb.word
          obtain ⟨f0, f1⟩ := hf.pair
          exact bodyPost_ret (v := rwV x.data.toList R (.slice none 0 0)) (by rw [← hR]; simp [results, Try.results56, go_sem, rwV, wv, fv, St.zero, e0, e1, e2, e3, e4, e5, e6, e7, e8, e9, e10, f0, f1, HX.out]) rfl ⟨_, rfl, by rw [← hR]; exact World.ownsRow_nil _ _ _ _, hB'⟩
end Go.Proofs.Ytbbmjnhbmcbehaa
