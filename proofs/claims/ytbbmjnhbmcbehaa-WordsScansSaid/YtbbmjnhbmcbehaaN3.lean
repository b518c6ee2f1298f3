/- readQuoted and Unquote, at every text of at most 65536 bytes, and Unquote at every text. -/
import Derived.Test.YtbbmjnhbmcbehaaN2
import Derived.Test.YtbbmjnhbmcbehaaBlk
namespace Go.Proofs.Ytbbmjnhbmcbehaa
open Go.RowKit

theorem rdq_le (x : ByteArray) : (rdq x).2 ≤ x.size := by
  unfold rdq
  split
  · exact Nat.zero_le _
  · rename_i h; split
    · simp only; omega
    · split
      · exact Nat.zero_le _
      · rename_i h2; split
        · exact Nat.zero_le _
        · simp only; omega
theorem rdql_at (x : ByteArray) (k : Nat) : rdql (x.data.toList.drop k) = rdq (x.extract k x.size) := by
  unfold rdql; rw [← extract_post, ← ba_list]
theorem quo_end (f : Nat) (l : List UInt8) (k : Nat) (acc : List Nat) (h : l = []) : quo f l k acc = ⟨[], 0, 0, 13⟩ := by
  subst h; cases f <;> rfl
theorem extract_size (x : ByteArray) (k : Nat) : (x.extract k x.size).size = x.size - k := by simp
def fv (p c : Nat) : Value := .agg #[.int .i64 (p : Int), .int .i64 (c : Int)]
def quoV (v : Value) (q : Quo) : Value := .tuple #[v, .int .i64 (q.fin : Int), fv q.fat q.code]
theorem quoV_eq {q : Quo} {a b c : Nat} {bs : List Nat} (h : q = ⟨bs, a, b, c⟩) (v : Value) : Ending.returned (.tuple #[v, .int .i64 (a : Int), .agg #[.int .i64 (b : Int), .int .i64 (c : Int)]]) = .returned (quoV v q) := by rw [h]; rfl

theorem belDrew {B : Nat} {w wr : World} (h : Below B w wr) (n : Nat) : Below B w (wr.drewN n) := ⟨h.os, h.tape, h.output, h.size, h.block⟩
attribute [local go_sem] setCell_drewN
theorem put2 {w wr : World} (h : Below w.heap.size w wr) {u v : Value} : Below w.heap.size w ((wr.setCell ⟨w.heap.size, 0, none⟩ u).setCell ⟨w.heap.size, 1, none⟩ v) :=
  (h.setCell (p := ⟨w.heap.size, 0, none⟩) (Nat.le_refl _) _).setCell (p := ⟨w.heap.size, 1, none⟩) (Nat.le_refl _) _
set_option maxRecDepth 100000 in
set_option maxHeartbeats 4000000 in
theorem readQ_any (x : ByteArray) (w : World) (hx : x.size ≤ 65536) :
    Calls Try.prog 35 #[.string x] w fun e w' => ∃ v, e = .returned (quoV v (quoted x.data.toList)) ∧ w'.ownsRow w.heap.size 5 1 v (quoted x.data.toList).bytes.length (bytesV (quoted x.data.toList).bytes) ∧ Below w.heap.size w w' := by
  obtain ⟨i0, hi, hz0, hz1, hz2⟩ := info_parts info5
  have B0 := Blk.new w 26 #[.int .i64 0, .int .i64 0]
  have hB0 : Below w.heap.size w (w.alloc (.cells #[.int .i64 0, .int .i64 0] 26)) := (Below.refl _ _).alloc (Nat.le_refl _) _
  have hq0 : quo x.size (x.data.toList.drop 1) 1 [] = quoted x.data.toList := by unfold quoted; rw [list_len]
  obtain ⟨q, hq⟩ : ∃ q, quoted x.data.toList = q := ⟨_, rfl⟩
  rw [hq] at hq0
  rw [hq]
  clear hq
  go_enter Try.func35, Try.ntmps35
  go_wp2
  go_loopw [5, 6] (fun v i wr => ∃ (k f : Nat) (acc : List Nat), k ≤ x.size + 1 ∧ 1 ≤ k ∧ acc.length ≤ k ∧ x.size ≤ k + f ∧ i = .int .i64 k ∧ quo f (x.data.toList.drop k) k acc = q ∧ wr.ownsRow (w.heap.size + 1) 5 1 v acc.length (bytesV acc) ∧ Blk wr w.heap.size 26 #[.int .i64 0, .int .i64 0] ∧ Below w.heap.size w wr) (fun _ i _ => x.size + 1 - (intOf i).toNat)
  case atStart => exact ⟨1, x.size, [], by omega, by omega, by simp, by omega, rfl, hq0, World.ownsRow_nil _ _ _ _, B0, hB0⟩
  case round =>
    obtain ⟨k, f, acc, hk, hk1, hac, hf, rfl, hqq, hrow, hbx, hB⟩ := hrel
    clear B0 hB0 hq0
    rename_i wr _
    have HQ : Hid _ := hqq
    clear hqq
    have e0 := hbx.cell 0 (v := .int .i64 0) rfl
    have e1 := hbx.cell 1 (v := .int .i64 0) rfl
    have g0 := hbx.frozen 0
    have g1 := hbx.frozen 1
    have hl := hbx.lt
    have hbase : w.heap.size + 1 ≤ wr.heap.size := hl
    by_cases hlt : k < x.size
    · have hlt' : (k : Int) < x.size := by omega
      have b0 := bt_eq x k hlt
      have hc := bt_lt x k
      have HD : Hid _ := drop_at x k hlt
      obtain ⟨f, rfl⟩ : ∃ f', f = f' + 1 := ⟨f - 1, by omega⟩
      rw [HD.out] at HQ
      simp only [quo, b0] at HQ
      by_cases h34 : bt x k = 34
      · rw [if_pos h34] at HQ
        rw [h34] at b0
        go_wp2
        refine bodyPost_ret (v := .tuple #[u5, .int .i64 ((k + 1 : Nat) : Int), .agg #[.int .i64 ((0 : Nat) : Int), .int .i64 ((0 : Nat) : Int)]]) (by simp [results, Try.results35, go_sem, e0, e1]) rfl ⟨_, quoV_eq HQ.out.symm _, ?_, put2 hB⟩
        rw [← HQ.out]; exact row_mono (row_put (row_put hrow (by omega) _) (by omega) _) (by omega)
      rw [if_neg h34] at HQ
      have h34b : ((bt x k : Int) == 34) = false := by simp; omega
      by_cases h92 : bt x k = 92
      · rw [if_pos h92] at HQ
        rw [h92] at b0
        rw [← HD.out, rdql_at] at HQ
        have HR : Hid _ := fun w => rdq_any (x.extract k x.size) w
        have hle := rdq_le (x.extract k x.size)
        rw [extract_size] at hle
        generalize rdq (x.extract k x.size) = r at *
        obtain ⟨e, n⟩ := r
        simp only at HQ HR hle
        by_cases hn : n = 0
        · subst hn
          rw [if_pos rfl] at HQ
          go_wp2_with (go_at_call 65; refine (HR.out _).mono ?_; rintro e w1 ⟨rfl, nq, rfl⟩)
          exact bodyPost_ret (v := .tuple #[.slice none 0 0, .int .i64 ((0 : Nat) : Int), .agg #[.int .i64 (k : Int), .int .i64 ((12 : Nat) : Int)]]) (by simp [results, Try.results35, go_sem, e0, e1]) rfl ⟨_, quoV_eq HQ.out.symm _, by rw [← HQ.out]; exact World.ownsRow_nil _ _ _ _, belDrew (put2 hB) nq⟩
        · rw [if_neg hn, List.drop_drop] at HQ
          have hnb : ((n : Int) == 0) = false := by simp; omega
          go_wp2_with (go_at_call 65; refine (HR.out _).mono ?_)
          rintro e1 w1 ⟨rfl, nq, rfl⟩
          replace hrow : (wr.drewN nq).ownsRow _ _ _ _ _ _ := hrow
          replace hbx : Blk (wr.drewN nq) _ _ _ := hbx
          replace hB := belDrew hB nq
          go_wp2_with (at_builtin; refine wpList_append_own _ rfl _ _ 30 rfl (w.heap.size + 1) 5 i0 (.int .u8 0) 1 1 Try.underlying30 hi hz0 hz1 hz2 rfl (by decide) _ _ _ rfl (hrow.alloc _) ⟨wr.heap.size, 0, none⟩ 1 1 [.int .u8 e] rfl rfl ?c1 ?c2 ?c3 ?c4 ?c5 ?_)
          case c1 => exact cell_one_new _ _ _
          case c2 => intro u hu; simp at hu; subst hu; rfl
          case c3 => unfold maxLen; omega
          case c4 => omega
          case c5 => simp; omega
          intro v' w2 hown' hgrow _
          have hbx2 := (hbx.alloc (.cells #[.int .u8 (e : Int)] 5)).kept hgrow (hbx.not_row (by decide) hrow)
          have hB2 := (hB.alloc hB.size (.cells #[.int .u8 (e : Int)] 5)).grown hgrow (by have := hB.size; simp; omega) (fun j hj => by have := (hrow.lt j hj).1; omega)
          obtain ⟨g', cap', rfl⟩ := ownsRow_succ hown'
          go_wp2
          exact ⟨⟨k + n, f, acc ++ [e], by omega, by omega, by simp; omega, by omega, by go_num, HQ.out, by rw [bytesV_snoc, List.length_append]; exact hown', hbx2, hB2⟩, by simp [intOf]; omega⟩
      · rw [if_neg h92] at HQ
        have h92b : ((bt x k : Int) == 92) = false := by simp; omega
        have HP : Hid _ := fun w => plainq_any (bt x k) w hc
        generalize bt x k = c at *
        cases hp : plainq c with
        | false =>
          rw [hp] at HP HQ
          rw [if_neg (by simp)] at HQ
          go_wp2_with (go_at_call 38; refine (HP.out _).mono ?_; rintro e w1 ⟨rfl, rfl⟩)
          exact bodyPost_ret (v := .tuple #[.slice none 0 0, .int .i64 ((0 : Nat) : Int), .agg #[.int .i64 (k : Int), .int .i64 ((11 : Nat) : Int)]]) (by simp [results, Try.results35, go_sem, e0, e1]) rfl ⟨_, quoV_eq HQ.out.symm _, by rw [← HQ.out]; exact World.ownsRow_nil _ _ _ _, put2 hB⟩
        | true =>
          rw [hp] at HP HQ
          rw [if_pos rfl] at HQ
          clear hp
          go_wp2_with (go_at_call 38; refine (HP.out _).mono ?_)
          rintro e1 w1 ⟨rfl, hw1⟩
          replace hw1 := hw1.symm
          subst hw1
          go_wp2_with (at_builtin; refine wpList_append_own _ rfl _ _ 30 rfl (w.heap.size + 1) 5 i0 (.int .u8 0) 1 1 Try.underlying30 hi hz0 hz1 hz2 rfl (by decide) _ _ _ rfl (hrow.alloc _) ⟨wr.heap.size, 0, none⟩ 1 1 [.int .u8 c] rfl rfl ?c1 ?c2 ?c3 ?c4 ?c5 ?_)
          case c1 => exact cell_one_new _ _ _
          case c2 => intro u hu; simp at hu; subst hu; rfl
          case c3 => unfold maxLen; omega
          case c4 => omega
          case c5 => simp; omega
          intro v' w2 hown' hgrow _
          have hbx2 := (hbx.alloc (.cells #[.int .u8 (c : Int)] 5)).kept hgrow (hbx.not_row (by decide) hrow)
          have hB2 := (hB.alloc hB.size (.cells #[.int .u8 (c : Int)] 5)).grown hgrow (by have := hB.size; simp; omega) (fun j hj => by have := (hrow.lt j hj).1; omega)
          obtain ⟨g', cap', rfl⟩ := ownsRow_succ hown'
          go_wp2
          exact ⟨⟨k + 1, f, acc ++ [c], by omega, by omega, by simp; omega, by omega, by go_num, HQ.out, by rw [bytesV_snoc, List.length_append]; exact hown', hbx2, hB2⟩, by simp [intOf]; omega⟩
    · rw [quo_end _ _ _ _ (drop_end x k (by omega))] at HQ
      have hlt' : ¬ (k : Int) < x.size := by omega
      go_wp2
      exact bodyPost_ret (v := .tuple #[.slice none 0 0, .int .i64 ((0 : Nat) : Int), .agg #[.int .i64 ((0 : Nat) : Int), .int .i64 ((13 : Nat) : Int)]]) (by simp [results, Try.results35, go_sem, e0, e1]) rfl ⟨_, quoV_eq HQ.out.symm _, by rw [← HQ.out]; exact World.ownsRow_nil _ _ _ _, put2 hB⟩

end Go.Proofs.Ytbbmjnhbmcbehaa
