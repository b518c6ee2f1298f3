/- Names: what a letter or a digit is, how far they go, IsName, at every text. -/
import Derived.Test.YtlkcadibjmfmcaaDoorTf
import Derived.Laws.RangeAny
import Derived.LoopTactic
namespace Go.Proofs.YtlkcadibjmfmcaaDoor
open Go.RowKit

theorem ret_int {k : IntKind} {a b : Int} (h : a = b) : Ending.returned (.int k a) = .returned (.int k b) := by rw [h]
def bt (x : ByteArray) (i : Nat) : Nat := (x.data.getD i 0).toNat
theorem bt_eq (x : ByteArray) (i : Nat) (h : i < x.size) : x[i].toNat = bt x i := by
  unfold bt; rw [Array.getD_eq_getD_getElem?, Array.getElem?_eq_getElem h]; rfl
theorem bt_lt (x : ByteArray) (i : Nat) : bt x i < 256 := UInt8.toNat_lt _
def great (n : Nat) : Bool := decide (65 ≤ n) && decide (n ≤ 90)
def small (n : Nat) : Bool := decide (97 ≤ n) && decide (n ≤ 122)
def digB (n : Nat) : Bool := decide (48 ≤ n) && decide (n ≤ 57)
def alnum (n : Nat) : Bool := great n || small n || digB n
/-- How many bytes at the beginning of a list are so. -/
def lspan (p : Nat → Bool) : List UInt8 → Nat
  | [] => 0
  | c :: l => if p c.toNat then lspan p l + 1 else 0
theorem lspan_le (p : Nat → Bool) : ∀ l, lspan p l ≤ l.length
  | [] => Nat.le_refl _
  | c :: l => by
    have := lspan_le p l
    simp only [lspan, List.length_cons]; split <;> omega
theorem bt_list (x : ByteArray) (i : Nat) : bt x i = (x.data.toList.getD i 0).toNat := by
  unfold bt; simp
theorem list_len (x : ByteArray) : x.data.toList.length = x.size := by simp
theorem drop_at (x : ByteArray) (i : Nat) (h : i < x.size) : x.data.toList.drop i = x[i] :: x.data.toList.drop (i + 1) := by
  have : i < x.data.toList.length := by rw [list_len]; exact h
  rw [List.drop_eq_getElem_cons this]; rfl
theorem drop_end (x : ByteArray) (i : Nat) (h : x.size ≤ i) : x.data.toList.drop i = [] := List.drop_eq_nil_of_le (by rw [list_len]; exact h)
theorem ba_list (x : ByteArray) : x = ⟨x.data.toList.toArray⟩ := by simp
theorem extract_list (x : ByteArray) (a b : Nat) : (x.extract a b).data.toList = (x.data.toList.drop a).take (b - a) := by
  rw [ByteArray.data_extract]; simp
theorem extract_pre (x : ByteArray) (n : Nat) : x.extract 0 n = ⟨(x.data.toList.take n).toArray⟩ := by
  rw [ba_list (x.extract 0 n), extract_list]; simp
theorem extract_post (x : ByteArray) (n : Nat) : (x.extract n x.size).data.toList = x.data.toList.drop n := by
  rw [extract_list, List.take_of_length_le]; simp

set_option maxRecDepth 100000 in
set_option maxHeartbeats 1000000 in
theorem great_any (n : Nat) (w : World) : Calls Tryd.prog 74 #[.int .i32 n] w fun e w' => e = .returned (.bool (great n)) ∧ w' = w := by
  have H : Hid (great n = (decide (65 ≤ n) && decide (n ≤ 90))) := rfl
  go_enter Tryd.func74, Tryd.ntmps74
  go_wp2
  all_goals go_ret
  all_goals (refine ⟨ret_bool ?_, rfl⟩; rw [H.out])
  all_goals (rw [Bool.eq_iff_iff]; simp; try omega)
set_option maxRecDepth 100000 in
set_option maxHeartbeats 1000000 in
theorem small_any (n : Nat) (w : World) : Calls Tryd.prog 102 #[.int .i32 n] w fun e w' => e = .returned (.bool (small n)) ∧ w' = w := by
  have H : Hid (small n = (decide (97 ≤ n) && decide (n ≤ 122))) := rfl
  go_enter Tryd.func102, Tryd.ntmps102
  go_wp2
  all_goals go_ret
  all_goals (refine ⟨ret_bool ?_, rfl⟩; rw [H.out])
  all_goals (rw [Bool.eq_iff_iff]; simp; try omega)
set_option maxRecDepth 100000 in
set_option maxHeartbeats 1000000 in
theorem digB_any (n : Nat) (w : World) : Calls Tryd.prog 103 #[.int .i32 n] w fun e w' => e = .returned (.bool (digB n)) ∧ w' = w := by
  have H : Hid (digB n = (decide (48 ≤ n) && decide (n ≤ 57))) := rfl
  go_enter Tryd.func103, Tryd.ntmps103
  go_wp2
  all_goals go_ret
  all_goals (refine ⟨ret_bool ?_, rfl⟩; rw [H.out])
  all_goals (rw [Bool.eq_iff_iff]; simp; try omega)

theorem iter_below (w : World) (x : ByteArray) (p : Nat) : Below w.heap.size w (w.iter x p) := (Below.refl _ _).alloc (Nat.le_refl _) _
theorem alnum_low {n : Nat} (h : alnum n = true) : n < 128 := by
  unfold alnum great small digB at h; simp at h; omega
theorem digB_low {n : Nat} (h : digB n = true) : n < 128 := by
  unfold digB at h; simp at h; omega
theorem decode_no (p : Nat → Bool) (hp : ∀ n, p n = true → n < 128) (x : ByteArray) (i : Nat) (h : i < x.size) (hn : p x[i].toNat = false) : p (Utf8.decode x i).1 = false := by
  by_cases ha : x[i].toNat < 128
  · rw [decode_ascii x i h ha]; exact hn
  · have := (decode_high x i h (by omega)).1
    cases e : p (Utf8.decode x i).1 with
    | false => rfl
    | true => have := hp _ e; omega
theorem alnum_or {n : Nat} (h : alnum n = true) : great n = true ∨ (great n = false ∧ small n = true) ∨ (great n = false ∧ small n = false ∧ digB n = true) := by
  unfold alnum at h
  generalize great n = a at *
  generalize small n = b at *
  generalize digB n = c at *
  revert a b c
  decide
theorem alnum_parts {n : Nat} (h : alnum n = false) : great n = false ∧ small n = false ∧ digB n = false := by
  unfold alnum at h; simpa [and_assoc] using h

set_option maxRecDepth 100000 in
set_option maxHeartbeats 2000000 in
theorem spanL_any (x : ByteArray) (w : World) : Calls Tryd.prog 93 #[.string x] w fun e w' => e = .returned (.int .i64 (lspan alnum x.data.toList)) ∧ Below w.heap.size w w' := by
  go_enter Tryd.func93, Tryd.ntmps93
  go_wp2
  go_loopw [2] (fun r w' => ∃ pos : Nat, w' = w.iter x pos ∧ pos ≤ x.size ∧ pos + lspan alnum (x.data.toList.drop pos) = lspan alnum x.data.toList ∧ r = r) (fun _ w' => x.size - w'.iterPos w.heap.size)
  case atStart => exact ⟨0, rfl, Nat.zero_le _, by simp, rfl⟩
  case round =>
    obtain ⟨pos, rfl, hp, hsp, -⟩ := hrel
    by_cases hlt : pos < x.size
    · have hnx : ∀ ty, (Instr.next (.pointer (some ⟨w.heap.size, 0, none⟩)) true ty).run Tryd.prog (w.iter x pos) = _ := fun ty => run_next_any w x pos ty hlt
      have HG : Hid _ := fun w => great_any (Utf8.decode x pos).1 w
      have HS : Hid _ := fun w => small_any (Utf8.decode x pos).1 w
      have HD : Hid _ := fun w => digB_any (Utf8.decode x pos).1 w
      rw [drop_at x pos hlt] at hsp
      simp only [lspan] at hsp
      by_cases hd : alnum x[pos].toNat = true
      · have ha := alnum_low hd
        have hdec := decode_ascii x pos hlt ha
        rw [hdec] at hnx HG HS HD
        simp only [hd, if_true] at hsp
        clear hdec
        have hor := alnum_or hd
        clear hd
        rcases hor with h1 | ⟨h1, h2⟩ | ⟨h1, h2, h3⟩
        all_goals (try rw [h1] at HG)
        all_goals (try rw [h2] at HS)
        all_goals (try rw [h3] at HD)
        all_goals (try clear h1)
        all_goals (try clear h2)
        all_goals (try clear h3)
        all_goals
          go_wp2_with (first | (go_at_call 74; refine (HG.out _).mono ?_; rintro e w' ⟨rfl, rfl⟩) | (go_at_call 102; refine (HS.out _).mono ?_; rintro e w' ⟨rfl, rfl⟩) | (go_at_call 103; refine (HD.out _).mono ?_; rintro e w' ⟨rfl, rfl⟩))
          go_roundw
          case rel => exact ⟨pos + 1, rfl, by omega, by omega, trivial⟩
          case measure => simp; omega
      · have hd' : alnum x[pos].toNat = false := by simpa using hd
        have hz := decode_no alnum (fun _ => alnum_low) x pos hlt hd'
        obtain ⟨z1, z2, z3⟩ := alnum_parts hz
        rw [z1] at HG
        rw [z2] at HS
        rw [z3] at HD
        simp only [hd', Bool.false_eq_true, if_false] at hsp
        have HE : Hid (lspan alnum x.data.toList = pos) := by show _ = _; omega
        clear hsp hz hd hd' z1 z2 z3
        generalize (Utf8.decode x pos).1 = rn at *
        generalize (Utf8.decode x pos).2 = wd at *
        go_wp2_with (first | (go_at_call 74; refine (HG.out _).mono ?_; rintro e w' ⟨rfl, rfl⟩) | (go_at_call 102; refine (HS.out _).mono ?_; rintro e w' ⟨rfl, rfl⟩) | (go_at_call 103; refine (HD.out _).mono ?_; rintro e w' ⟨rfl, rfl⟩))
        go_ret
        exact ⟨ret_int (by rw [HE.out]), iter_below _ _ _⟩
    · have hnx : ∀ ty, (Instr.next (.pointer (some ⟨w.heap.size, 0, none⟩)) true ty).run Tryd.prog (w.iter x pos) = _ := fun ty => run_next_end w x pos ty hlt
      rw [drop_end x pos (by omega)] at hsp
      have HE : Hid (lspan alnum x.data.toList = x.size) := by simp only [lspan] at hsp; show _ = _; omega
      clear hsp
      go_wp2
      go_ret
      exact ⟨ret_int (by rw [HE.out]), iter_below _ _ _⟩

def whole (l : List UInt8) : Bool := decide (l.length ≤ 32) && decide (lspan alnum l = l.length)
set_option maxRecDepth 100000 in
set_option maxHeartbeats 2000000 in
theorem whole_any (x : ByteArray) (w : World) : Calls Tryd.prog 75 #[.string x] w fun e w' => e = .returned (.bool (whole x.data.toList)) ∧ Below w.heap.size w w' := by
  have HS : Hid _ := fun w => spanL_any x w
  have H : Hid (whole x.data.toList = (decide (x.size ≤ 32) && decide (lspan alnum x.data.toList = x.size))) := by show _ = _; unfold whole; rw [list_len]
  generalize lspan alnum x.data.toList = k at *
  by_cases h1 : x.size ≤ 32
  · have h1' : (x.size : Int) ≤ 32 := by omega
    go_enter Tryd.func75, Tryd.ntmps75
    go_wp2_with (go_at_call 93; refine (HS.out _).mono ?_; rintro e w' ⟨rfl, hb⟩)
    go_ret
    refine ⟨ret_bool ?_, hb⟩
    rw [H.out, Bool.eq_iff_iff]; simp [h1]; try omega
  · have h1' : ¬ (x.size : Int) ≤ 32 := by omega
    go_enter Tryd.func75, Tryd.ntmps75
    go_wp2
    go_ret
    refine ⟨ret_bool ?_, Below.refl _ _⟩
    rw [H.out]; simp [h1]
def nameB (p : Nat → Bool) (l : List UInt8) : Bool := decide (l ≠ []) && p (l.getD 0 0).toNat && whole l
theorem str_empty (x : ByteArray) (h : x.size = 0) : x = ⟨#[]⟩ := by
  rw [ba_list x, List.eq_nil_of_length_eq_zero ((list_len x).trans h)]
theorem ne_empty (x : ByteArray) (h : ¬ x.size = 0) : x.toList.isEmpty = false := by
  rw [ByteArray.toList_eq]
  cases e : x.data.toList with
  | nil => have := list_len x; rw [e] at this; exact absurd this.symm h
  | cons c l => rfl
set_option maxRecDepth 100000 in
set_option maxHeartbeats 2000000 in
theorem isName_any (x : ByteArray) (w : World) : Calls Tryd.prog 57 #[.string x] w fun e w' => e = .returned (.bool (nameB great x.data.toList)) ∧ Below w.heap.size w w' := by
  by_cases h0 : x.size = 0
  · obtain rfl := str_empty x h0
    go_enter Tryd.func57, Tryd.ntmps57
    go_wp2
    go_ret
    exact ⟨ret_bool (by decide), Below.refl _ _⟩
  · have hne := ne_empty x h0
    have hne' : ¬ x.toList = [] := by intro h; rw [h] at hne; cases hne
    have hnl : x.data.toList ≠ [] := by intro h; have := list_len x; rw [h] at this; exact h0 this.symm
    have k0 : 0 < x.size := by omega
    have b0 := bt_eq x 0 k0
    have HG : Hid _ := fun w => great_any (bt x 0) w
    have HW : Hid _ := fun w => whole_any x w
    have H : Hid (nameB great x.data.toList = (great (bt x 0) && whole x.data.toList)) := by show _ = _; unfold nameB; rw [bt_list]; simp [hnl]
    have hl := bt_lt x 0
    generalize whole x.data.toList = k at *
    generalize hg : great (bt x 0) = g at *
    clear hg
    generalize bt x 0 = c at *
    cases g
    · go_enter Tryd.func57, Tryd.ntmps57
      go_wp2_with (go_at_call 74; refine (HG.out _).mono ?_; rintro e w' ⟨rfl, rfl⟩)
      go_ret
      exact ⟨ret_bool (by rw [H.out]; rfl), Below.refl _ _⟩
    · go_enter Tryd.func57, Tryd.ntmps57
      go_wp2_with (first | (go_at_call 74; refine (HG.out _).mono ?_; rintro e w' ⟨rfl, rfl⟩) | (go_at_call 75; refine (HW.out _).mono ?_; rintro e w' ⟨rfl, hb⟩))
      go_ret
      exact ⟨ret_bool (by rw [H.out]; rfl), hb⟩
end Go.Proofs.YtlkcadibjmfmcaaDoor
