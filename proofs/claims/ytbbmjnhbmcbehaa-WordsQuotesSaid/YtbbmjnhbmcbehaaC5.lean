/- The document's own reading of a text in quotes. -/
import Derived.Test.YtbbmjnhbmcbehaaC1
import Derived.Test.YtbbmjnhbmcbehaaN3
import Derived.Test.YtbbmjnhbmcbehaaY1
import Derived.Test.YtbbmjnhbmcbehaaK1
namespace Go.Proofs.Ytbbmjnhbmcbehaa
open Go.RowKit

/-- The last byte below k whose letter is c. -/
def lf (c : Nat) : Nat → Nat × Nat
  | 0 => (0, 0)
  | k + 1 => if letq k = c ∧ letq k ≠ 0 then (2, k) else lf c k
theorem lf_all : ∀ c : Fin 256, lf c.val 256 = if 0 ≤ shortq c.val then (2, saidq (shortq c.val).toNat) else (0, 0) := by decide +kernel
theorem short_x' : ∀ c : Fin 256, 0 ≤ shortq c.val → c.val ≠ 120 := by decide +kernel
theorem said_lt : ∀ c : Fin 256, 0 ≤ shortq c.val → saidq (shortq c.val).toNat < 256 := by decide +kernel
theorem lf_lt (c : Nat) : ∀ k, k ≤ 256 → (lf c k).2 < 256 ∧ (lf c k).1 ≤ 2
  | 0, _ => by simp [lf]
  | k + 1, h => by
    have := lf_lt c k (by omega)
    simp only [lf]; split
    · simp only; omega
    · exact this
theorem letq_lt (n : Nat) (h : n < 256) : letq n < 256 := by unfold letq; repeat' split
                                                             all_goals omega
/-- The escape at a place. -/
theorem rdq_here (x : ByteArray) (k : Nat) (hk : k < x.size) (h92 : bt x k = 92) : rdq (x.extract k x.size) =
    if x.size ≤ k + 1 then (0, 0) else if 0 ≤ shortq (bt x (k + 1)) then (saidq (shortq (bt x (k + 1))).toNat, 2)
    else if x.size ≤ k + 3 ∨ bt x (k + 1) ≠ 120 then (0, 0)
    else if 16 ≤ rdig (bt x (k + 2)) ∨ 16 ≤ rdig (bt x (k + 3)) then (0, 0) else (rdig (bt x (k + 2)) * 16 + rdig (bt x (k + 3)), 4) := by
  unfold rdq
  rw [extract_size]
  by_cases h1 : x.size ≤ k + 1
  · rw [if_pos (Or.inl (by omega)), if_pos h1]
  · rw [if_neg h1, bt_ext x k 0 (by omega), bt_ext x k 1 (by omega), Nat.add_zero, h92, if_neg (by omega)]
    by_cases h2 : 0 ≤ shortq (bt x (k + 1))
    · rw [if_pos h2, if_pos h2]
    · rw [if_neg h2, if_neg h2]
      by_cases h3 : x.size ≤ k + 3
      · rw [if_pos (Or.inl (by omega)), if_pos (Or.inl h3)]
      · rw [bt_ext x k 2 (by omega), bt_ext x k 3 (by omega)]
        by_cases h4 : bt x (k + 1) = 120
        · rw [if_neg (show ¬(x.size - k < 4 ∨ bt x (k + 1) ≠ 120) by omega), if_neg (show ¬(x.size ≤ k + 3 ∨ bt x (k + 1) ≠ 120) by omega)]
          obtain ⟨p1, p2, p3⟩ := rdig_dig (bt x (k + 2))
          obtain ⟨q1, q2, q3⟩ := rdig_dig (bt x (k + 3))
          by_cases h5 : dig (bt x (k + 2)) < 0 ∨ dig (bt x (k + 3)) < 0
          · rw [if_pos h5, if_pos (by omega)]
          · rw [if_neg h5, if_neg (by omega), p2 (by omega), q2 (by omega)]
        · rw [if_pos (Or.inr h4), if_pos (Or.inr h4)]
/-- What is told of a text in quotes that begins at place i. -/
def sd (i : Nat) (q : Quo) : Quo := if q.code = 0 then ⟨q.bytes, i + q.fin, 0, 0⟩ else ⟨[], 0, i + q.fat, q.code⟩
theorem belDrew' {B : Nat} {w wr : World} (h : Below B w wr) (n : Nat) : Below B w (wr.drewN n) := ⟨h.os, h.tape, h.output, h.size, h.block⟩
set_option maxRecDepth 100000 in
set_option maxHeartbeats 8000000 in
theorem said_any (x : ByteArray) (i : Nat) (w : World) (hx : x.size ≤ 65538) (hi : i < x.size) :
    Calls Try.prog 36 #[.string x, .int .i64 i] w fun e w' => ∃ v, e = .returned (quoV v (sd i (quoted (x.data.toList.drop i)))) ∧ w'.ownsRow w.heap.size 5 1 v (sd i (quoted (x.data.toList.drop i))).bytes.length (bytesV (sd i (quoted (x.data.toList.drop i))).bytes) ∧ Below w.heap.size w w' := by
  obtain ⟨i0, hinf, hz0, hz1, hz2⟩ := info_parts info5
  have B0 := Blk.new w 26 #[.int .i64 0, .int .i64 0]
  have hB0 : Below w.heap.size w (w.alloc (.cells #[.int .i64 0, .int .i64 0] 26)) := (Below.refl _ _).alloc (Nat.le_refl _) _
  have hq0 : sd i (quo (x.size - i) (x.data.toList.drop (i + 1)) (i + 1 - i) []) = sd i (quoted (x.data.toList.drop i)) := by
    unfold quoted; rw [List.drop_drop, List.length_drop, list_len, show i + 1 - i = 1 by omega]
  obtain ⟨Q, hQ⟩ : ∃ Q, sd i (quoted (x.data.toList.drop i)) = Q := ⟨_, rfl⟩
  rw [hQ] at hq0 ⊢
  clear hQ
  have HQ0 : Hid _ := hq0
  clear hq0
  have hxi : (x.size : Int) ≤ 65538 := by omega
  go_enter Try.func36, Try.ntmps36
  go_wp2
  go_loopw [7, 8] (fun v iv wr => ∃ (p f : Nat) (acc : List Nat), p ≤ x.size ∧ i < p ∧ acc.length ≤ p ∧ x.size ≤ p + f ∧ iv = .int .i64 p ∧ sd i (quo f (x.data.toList.drop p) (p - i) acc) = Q ∧ wr.ownsRow (w.heap.size + 1) 5 1 v acc.length (bytesV acc) ∧ Blk wr w.heap.size 26 #[.int .i64 0, .int .i64 0] ∧ Below w.heap.size w wr) (fun _ iv _ => x.size + 1 - (intOf iv).toNat)
  case atStart => exact ⟨i + 1, x.size - i, [], by omega, by omega, by simp, by omega, by go_num, HQ0.out, World.ownsRow_nil _ _ _ _, B0, hB0⟩
  case round =>
    obtain ⟨p, f, acc, hp, hip, hac, hf, rfl, hqq, hrow, hbx, hB⟩ := hrel
    clear B0 hB0 HQ0
    have HQ : Hid _ := hqq
    clear hqq
    have e0 := hbx.cell 0 (v := .int .i64 0) rfl
    have e1 := hbx.cell 1 (v := .int .i64 0) rfl
    have g0 := hbx.frozen 0
    have g1 := hbx.frozen 1
    have hl := hbx.lt
    have hbase : w.heap.size + 1 ≤ wr.heap.size := hl
    by_cases hlt : p < x.size
    · have hlt' : (p : Int) < x.size := by omega
      have b0 := bt_eq x p hlt
      have hc := bt_lt x p
      have HD : Hid _ := drop_at x p hlt
      obtain ⟨f, rfl⟩ : ∃ f', f = f' + 1 := ⟨f - 1, by omega⟩
      rw [HD.out] at HQ
      simp only [quo, b0] at HQ
      by_cases h34 : bt x p = 34
      · rw [if_pos h34] at HQ
        rw [h34] at b0
        have HE : Hid (Q = ⟨acc, p + 1, 0, 0⟩) := by
          show _ = _
          rw [← HQ.out]; simp [sd]; omega
        clear HQ
        go_wp2
        refine bodyPost_ret (v := .tuple #[u7, .int .i64 ((p + 1 : Nat) : Int), .agg #[.int .i64 ((0 : Nat) : Int), .int .i64 ((0 : Nat) : Int)]]) (by simp [results, Try.results36, go_sem, e0, e1]) rfl ⟨_, quoV_eq HE.out _, ?_, put2 hB⟩
        rw [HE.out]; exact row_mono (row_put (row_put hrow (by omega) _) (by omega) _) (by omega)
      rw [if_neg h34] at HQ
      have h34b : ((bt x p : Int) == 34) = false := by simp; omega
      by_cases h92 : bt x p = 92
      · rw [if_pos h92] at HQ
        rw [h92] at b0
        rw [← HD.out, rdql_at, rdq_here x p hlt h92] at HQ
        clear HD
        by_cases hk1 : x.size ≤ p + 1
        · rw [if_pos hk1, if_pos rfl] at HQ
          have hk1' : ¬ ((p : Int) + 1 < x.size) := by omega
          have hk3' : ¬ ((p : Int) + 3 < x.size) := by omega
          have HE : Hid (Q = ⟨[], 0, p, 12⟩) := by
            show _ = _
            rw [← HQ.out]; simp [sd]; omega
          clear HQ
          go_wp2
          go_loop [10, 11, 12] (fun n b k => n = .int .i64 0 ∧ b = .int .u8 0 ∧ k = .int .i64 0) (fun _ _ _ => 0)
          case atStart => exact ⟨rfl, rfl, rfl⟩
          case round =>
            obtain ⟨rfl, rfl, rfl⟩ := hrel
            go_wp2
            exact bodyPost_ret (v := .tuple #[.slice none 0 0, .int .i64 ((0 : Nat) : Int), .agg #[.int .i64 (p : Int), .int .i64 ((12 : Nat) : Int)]]) (by simp [results, Try.results36, go_sem, e0, e1]) rfl ⟨_, quoV_eq HE.out _, by rw [HE.out]; exact World.ownsRow_nil _ _ _ _, put2 hB⟩
        rw [if_neg hk1] at HQ
        have hk1' : (p : Int) + 1 < x.size := by omega
        have hkn : p + 1 < x.size := by omega
        have b1 := bt_eq x (p + 1) hkn
        have hc1 := bt_lt x (p + 1)
        have HA : Hid _ := lf_all ⟨bt x (p + 1), hc1⟩
        have HX : Hid _ := short_x' ⟨bt x (p + 1), hc1⟩
        have HS : Hid _ := said_lt ⟨bt x (p + 1), hc1⟩
        simp only at HA HX HS
        have HD3 : Hid _ := fun (h : p + 3 < x.size) => And.intro (bt_eq x (p + 2) (by omega)) (bt_eq x (p + 3) h)
        have HD2 : Hid _ := fun (_ : Unit) => And.intro (bt_lt x (p + 2)) (bt_lt x (p + 3))
        generalize bt x (p + 1) = c at *
        clear hk1 h34 h34b hc h92
        go_wp2
        clear e0 e1 g0 g1 hl hbase
        go_loopw [10, 11, 12] (fun n b k wi => ∃ j : Nat, j ≤ 256 ∧ n = .int .i64 ((lf c j).1 : Nat) ∧ b = .int .u8 ((lf c j).2 : Nat) ∧ k = .int .i64 j ∧ wi.ownsRow (w.heap.size + 1) 5 1 u7 acc.length (bytesV acc) ∧ Blk wi w.heap.size 26 #[.int .i64 0, .int .i64 0] ∧ Below w.heap.size w wi) (fun _ _ k _ => 256 - (intOf k).toNat)
        case atStart => exact ⟨0, by omega, rfl, rfl, rfl, hrow, hbx, hB⟩
        case round =>
          clear hrow hbx hB
          obtain ⟨j, hj, rfl, rfl, rfl, hrow, hbx, hB⟩ := hrel
          by_cases hj2 : j < 256
          · have hj2' : (j : Int) < 256 := by omega
            have HL : Hid _ := fun w => letter_any j hj2 w
            have HF : Hid (lf c (j + 1) = if letq j = c ∧ letq j ≠ 0 then (2, j) else lf c j) := rfl
            have hl256 := letq_lt j hj2
            clear HA HX HS HD3 HD2 HQ
            generalize letq j = l at *
            generalize lf c j = o at *
            obtain ⟨n1, m1⟩ := o
            simp only at HF ⊢
            have z1 : (0 : Int) ≤ (p : Int) + 1 := by omega
            by_cases hlc : l = c
            · by_cases h0 : l = 0
              · have q1 : ((l : Int) == ((c : Nat) : Int)) = true := by rw [hlc]; simp
                have q2 : ((l : Int) != 0) = false := by simp; omega
                go_wp2
                go_quiet (first | (go_at_call 42; exact Calls.quiet_of_same (HL.out _)))
                go_wp2
                exact ⟨⟨j + 1, by omega, by rw [HF.out, if_neg (fun h => h.2 h0)], by rw [HF.out, if_neg (fun h => h.2 h0)], by go_num, hrow, hbx, belDrew' hB _⟩, by simp [intOf]; omega⟩
              · have q1 : ((l : Int) == ((c : Nat) : Int)) = true := by rw [hlc]; simp
                have q2 : ((l : Int) != 0) = true := by simp; omega
                go_wp2
                go_quiet (first | (go_at_call 42; exact Calls.quiet_of_same (HL.out _)))
                go_wp2
                exact ⟨⟨j + 1, by omega, by rw [HF.out, if_pos ⟨hlc, h0⟩]; rfl, by rw [HF.out, if_pos ⟨hlc, h0⟩], by go_num, hrow, hbx, belDrew' hB _⟩, by simp [intOf]; omega⟩
            · have q1 : ((l : Int) == ((c : Nat) : Int)) = false := by simp; omega
              go_wp2
              go_quiet (first | (go_at_call 42; exact Calls.quiet_of_same (HL.out _)))
              go_wp2
              exact ⟨⟨j + 1, by omega, by rw [HF.out, if_neg (fun h => hlc h.1)], by rw [HF.out, if_neg (fun h => hlc h.1)], by go_num, hrow, hbx, belDrew' hB _⟩, by simp [intOf]; omega⟩
          · obtain rfl : j = 256 := by omega
            clear hj hj2
            rw [HA.out]
            clear HA
            by_cases hs : 0 ≤ shortq c
            · have hs120 := HX.out hs
              have hs256 := HS.out hs
              rw [if_pos hs, if_neg (by simp)] at HQ
              rw [if_pos hs]
              clear HX HS HD3 HD2
              generalize saidq (shortq c).toNat = b at *
              simp only at HQ ⊢
              clear hs
              have HE : Hid (sd i (quo f (x.data.toList.drop (p + 2)) (p + 2 - i) (acc ++ [b])) = Q) := by
                show _ = _
                rw [← HQ.out, List.drop_drop, show p + 2 - i = p - i + 2 by omega]
              clear HQ
              have hs120' : ((c : Int) == 120) = false := by simp; omega
              by_cases hp3 : p + 3 < x.size
              · have hp3' : (p : Int) + 3 < x.size := by omega
                have hbase : w.heap.size + 1 ≤ wr.heap.size := hbx.lt
                go_wp2_with (at_builtin; refine wpList_append_own _ rfl _ _ 30 rfl (w.heap.size + 1) 5 i0 (.int .u8 0) 1 1 Try.underlying30 hinf hz0 hz1 hz2 rfl (by decide) _ _ _ rfl (hrow.alloc _) ⟨wr.heap.size, 0, none⟩ 1 1 [.int .u8 ((b : Nat) : Int)] rfl rfl ?ca1 ?ca2 ?ca3 ?ca4 ?ca5 ?_)
                try case ca1 => exact cell_one_new _ _ _
                case ca2 => first | rfl | (intro u hu; simp at hu; subst hu; rfl)
                case ca3 => unfold maxLen; omega
                case ca4 => omega
                case ca5 => first | omega | (simp; omega)
                intro v' w2 hown' hgrow _
                have hbx2 := (hbx.alloc (.cells #[.int .u8 ((b : Nat) : Int)] 5)).kept hgrow (hbx.not_row (by decide) hrow)
                have hB2 := (hB.alloc hB.size (.cells #[.int .u8 ((b : Nat) : Int)] 5)).grown hgrow (by have := hB.size; simp; omega) (fun j hj => by have := (hrow.lt j hj).1; omega)
                obtain ⟨g', cap', rfl⟩ := ownsRow_succ hown'
                go_wp2
                exact ⟨⟨p + 2, f, acc ++ [b], by omega, by omega, by simp; omega, by omega, by go_num, HE.out, by rw [bytesV_snoc, List.length_append]; exact hown', hbx2, hB2⟩, by simp [intOf]; omega⟩
              · have hp3' : ¬ (p : Int) + 3 < x.size := by omega
                have hbase : w.heap.size + 1 ≤ wr.heap.size := hbx.lt
                go_wp2_with (at_builtin; refine wpList_append_own _ rfl _ _ 30 rfl (w.heap.size + 1) 5 i0 (.int .u8 0) 1 1 Try.underlying30 hinf hz0 hz1 hz2 rfl (by decide) _ _ _ rfl (hrow.alloc _) ⟨wr.heap.size, 0, none⟩ 1 1 [.int .u8 ((b : Nat) : Int)] rfl rfl ?cb1 ?cb2 ?cb3 ?cb4 ?cb5 ?_)
                try case cb1 => exact cell_one_new _ _ _
                case cb2 => first | rfl | (intro u hu; simp at hu; subst hu; rfl)
                case cb3 => unfold maxLen; omega
                case cb4 => omega
                case cb5 => first | omega | (simp; omega)
                intro v' w2 hown' hgrow _
                have hbx2 := (hbx.alloc (.cells #[.int .u8 ((b : Nat) : Int)] 5)).kept hgrow (hbx.not_row (by decide) hrow)
                have hB2 := (hB.alloc hB.size (.cells #[.int .u8 ((b : Nat) : Int)] 5)).grown hgrow (by have := hB.size; simp; omega) (fun j hj => by have := (hrow.lt j hj).1; omega)
                obtain ⟨g', cap', rfl⟩ := ownsRow_succ hown'
                go_wp2
                exact ⟨⟨p + 2, f, acc ++ [b], by omega, by omega, by simp; omega, by omega, by go_num, HE.out, by rw [bytesV_snoc, List.length_append]; exact hown', hbx2, hB2⟩, by simp [intOf]; omega⟩
            · rw [if_neg hs] at HQ
              rw [if_neg hs]
              clear HX HS hs
              simp only
              by_cases hp3 : p + 3 < x.size
              · have hp3' : (p : Int) + 3 < x.size := by omega
                by_cases hx120 : c = 120
                · obtain ⟨b2, b3⟩ := HD3.out hp3
                  obtain ⟨l2, l3⟩ := HD2.out ()
                  have z1 : (0 : Int) ≤ (p : Int) + 2 := by omega
                  have z2 : (p : Int) + 2 < x.size := by omega
                  have z3 : (0 : Int) ≤ (p : Int) + 3 := by omega
                  rw [if_neg (show ¬ (x.size ≤ p + 3 ∨ c ≠ 120) by omega)] at HQ
                  subst hx120
                  generalize bt x (p + 2) = c2 at *
                  generalize bt x (p + 3) = c3 at *
                  have HG2 : Hid _ := fun w => rdigit_any c2 w l2
                  have HG3 : Hid _ := fun w => rdigit_any c3 w l3
                  have d2 := (rdig_dig c2).2.2
                  have d3 := (rdig_dig c3).2.2
                  generalize rdig c2 = r2 at *
                  generalize rdig c3 = r3 at *
                  clear HD3 HD2
                  by_cases hr : 16 ≤ r2 ∨ 16 ≤ r3
                  · rw [if_pos hr, if_pos rfl] at HQ
                    have HE : Hid (Q = ⟨[], 0, p, 12⟩) := by
                      show _ = _
                      rw [← HQ.out]; simp [sd]; omega
                    clear HQ
                    by_cases h7 : r2 < 16
                    · have h8 : decide ((r3 : Int) < 16) = false := by simp; omega
                      have h9 : decide (r3 < 16) = false := by simp; omega
                      have h7' : (r2 : Int) < 16 := by omega
                      go_wp2
                      go_quiet (first | (go_at_call_of 66 c2; exact Calls.quiet_of_same (HG2.out _)) | (go_at_call_of 66 c3; exact Calls.quiet_of_same (HG3.out _)))
                      replace hrow : (wr.drewN nq).ownsRow _ _ _ _ _ _ := hrow
                      replace hbx : Blk (wr.drewN nq) _ _ _ := hbx
                      replace hB := belDrew' hB nq
                      have e0 := hbx.cell 0 (v := .int .i64 0) rfl
                      have e1 := hbx.cell 1 (v := .int .i64 0) rfl
                      have g0 := hbx.frozen 0
                      have g1 := hbx.frozen 1
                      have hl := hbx.lt
                      have hbase : w.heap.size + 1 ≤ (wr.drewN nq).heap.size := hl
                      go_wp2
                      exact bodyPost_ret (v := .tuple #[.slice none 0 0, .int .i64 ((0 : Nat) : Int), .agg #[.int .i64 (p : Int), .int .i64 ((12 : Nat) : Int)]]) (by simp [results, Try.results36, go_sem, e0, e1]) rfl ⟨_, quoV_eq HE.out _, by rw [HE.out]; exact World.ownsRow_nil _ _ _ _, put2 hB⟩
                    · have h8 : decide ((r2 : Int) < 16) = false := by simp; omega
                      have h9 : decide (r2 < 16) = false := by simp; omega
                      go_wp2
                      go_quiet (first | (go_at_call_of 66 c2; exact Calls.quiet_of_same (HG2.out _)) | (go_at_call_of 66 c3; exact Calls.quiet_of_same (HG3.out _)))
                      replace hrow : (wr.drewN nq).ownsRow _ _ _ _ _ _ := hrow
                      replace hbx : Blk (wr.drewN nq) _ _ _ := hbx
                      replace hB := belDrew' hB nq
                      have e0 := hbx.cell 0 (v := .int .i64 0) rfl
                      have e1 := hbx.cell 1 (v := .int .i64 0) rfl
                      have g0 := hbx.frozen 0
                      have g1 := hbx.frozen 1
                      have hl := hbx.lt
                      have hbase : w.heap.size + 1 ≤ (wr.drewN nq).heap.size := hl
                      go_wp2
                      exact bodyPost_ret (v := .tuple #[.slice none 0 0, .int .i64 ((0 : Nat) : Int), .agg #[.int .i64 (p : Int), .int .i64 ((12 : Nat) : Int)]]) (by simp [results, Try.results36, go_sem, e0, e1]) rfl ⟨_, quoV_eq HE.out _, by rw [HE.out]; exact World.ownsRow_nil _ _ _ _, put2 hB⟩
                  · rw [if_neg hr, if_neg (by simp)] at HQ
                    simp only at HQ
                    have h7 : (r2 : Int) < 16 := by omega
                    have h8 : (r3 : Int) < 16 := by omega
                    obtain ⟨b, hb⟩ : ∃ b, r2 * 16 + r3 = b := ⟨_, rfl⟩
                    have hbI : 16 * (r2 : Int) + r3 = b := by omega
                    have hb256 : b < 256 := by omega
                    rw [hb] at HQ
                    clear hb
                    have HE : Hid (sd i (quo f (x.data.toList.drop (p + 4)) (p + 4 - i) (acc ++ [b])) = Q) := by
                      show _ = _
                      rw [← HQ.out, List.drop_drop, show p + 4 - i = p - i + 4 by omega]
                    clear HQ hr
                    go_wp2
                    go_quiet (first | (go_at_call_of 66 c2; exact Calls.quiet_of_same (HG2.out _)) | (go_at_call_of 66 c3; exact Calls.quiet_of_same (HG3.out _)))
                    replace hrow : (wr.drewN nq).ownsRow _ _ _ _ _ _ := hrow
                    replace hbx : Blk (wr.drewN nq) _ _ _ := hbx
                    replace hB := belDrew' hB nq
                    have hbase : w.heap.size + 1 ≤ (wr.drewN nq).heap.size := hbx.lt
                    have hbase2 : w.heap.size + 1 ≤ wr.heap.size := hbase
                    go_wp2_with (at_builtin; refine wpList_append_own _ rfl _ _ 30 rfl (w.heap.size + 1) 5 i0 (.int .u8 0) 1 1 Try.underlying30 hinf hz0 hz1 hz2 rfl (by decide) _ _ _ rfl (hrow.alloc _) ⟨(wr.drewN nq).heap.size, 0, none⟩ 1 1 [.int .u8 ((b : Nat) : Int)] rfl rfl ?cc1 ?cc2 ?cc3 ?cc4 ?cc5 ?_)
                    try case cc1 => exact cell_one_new _ _ _
                    case cc2 => first | rfl | (intro u hu; simp at hu; subst hu; rfl)
                    case cc3 => unfold maxLen; omega
                    case cc4 => omega
                    case cc5 => first | omega | (simp; omega)
                    intro v' w2 hown' hgrow _
                    have hbx2 := (hbx.alloc (.cells #[.int .u8 ((b : Nat) : Int)] 5)).kept hgrow (hbx.not_row (by decide) hrow)
                    have hB2 := (hB.alloc hB.size (.cells #[.int .u8 ((b : Nat) : Int)] 5)).grown hgrow (by have := hB.size; simp; omega) (fun j hj => by have := (hrow.lt j hj).1; omega)
                    obtain ⟨g', cap', rfl⟩ := ownsRow_succ hown'
                    go_wp2
                    exact ⟨⟨p + 4, f, acc ++ [b], by omega, by omega, by simp; omega, by omega, by go_num, HE.out, by rw [bytesV_snoc, List.length_append]; exact hown', hbx2, hB2⟩, by simp [intOf]; omega⟩
                · have hx120' : ((c : Int) == 120) = false := by simp; omega
                  rw [if_pos (Or.inr hx120), if_pos rfl] at HQ
                  have HE : Hid (Q = ⟨[], 0, p, 12⟩) := by
                    show _ = _
                    rw [← HQ.out]; simp [sd]; omega
                  clear HQ HD3 HD2
                  have e0 := hbx.cell 0 (v := .int .i64 0) rfl
                  have e1 := hbx.cell 1 (v := .int .i64 0) rfl
                  have g0 := hbx.frozen 0
                  have g1 := hbx.frozen 1
                  have hl := hbx.lt
                  have hbase : w.heap.size + 1 ≤ wr.heap.size := hl
                  go_wp2
                  exact bodyPost_ret (v := .tuple #[.slice none 0 0, .int .i64 ((0 : Nat) : Int), .agg #[.int .i64 (p : Int), .int .i64 ((12 : Nat) : Int)]]) (by simp [results, Try.results36, go_sem, e0, e1]) rfl ⟨_, quoV_eq HE.out _, by rw [HE.out]; exact World.ownsRow_nil _ _ _ _, put2 hB⟩
              · have hp3' : ¬ (p : Int) + 3 < x.size := by omega
                rw [if_pos (Or.inl (by omega)), if_pos rfl] at HQ
                have HE : Hid (Q = ⟨[], 0, p, 12⟩) := by
                  show _ = _
                  rw [← HQ.out]; simp [sd]; omega
                clear HQ HD3 HD2
                have e0 := hbx.cell 0 (v := .int .i64 0) rfl
                have e1 := hbx.cell 1 (v := .int .i64 0) rfl
                have g0 := hbx.frozen 0
                have g1 := hbx.frozen 1
                have hl := hbx.lt
                have hbase : w.heap.size + 1 ≤ wr.heap.size := hl
                go_wp2
                exact bodyPost_ret (v := .tuple #[.slice none 0 0, .int .i64 ((0 : Nat) : Int), .agg #[.int .i64 (p : Int), .int .i64 ((12 : Nat) : Int)]]) (by simp [results, Try.results36, go_sem, e0, e1]) rfl ⟨_, quoV_eq HE.out _, by rw [HE.out]; exact World.ownsRow_nil _ _ _ _, put2 hB⟩
      · rw [if_neg h92] at HQ
        have h92b : ((bt x p : Int) == 92) = false := by simp; omega
        clear HD
        generalize bt x p = c at *
        cases hpq : plainq c with
        | false =>
          rw [hpq, if_neg (by simp)] at HQ
          have HE : Hid (Q = ⟨[], 0, p, 11⟩) := by
            show _ = _
            rw [← HQ.out]; simp [sd]; omega
          clear HQ
          have hr : c < 32 ∨ 126 < c := by
            unfold plainq at hpq; simp at hpq; omega
          clear hpq
          by_cases hr1 : c < 32
          · have hr1' : (c : Int) < 32 := by omega
            go_wp2
            exact bodyPost_ret (v := .tuple #[.slice none 0 0, .int .i64 ((0 : Nat) : Int), .agg #[.int .i64 (p : Int), .int .i64 ((11 : Nat) : Int)]]) (by simp [results, Try.results36, go_sem, e0, e1]) rfl ⟨_, quoV_eq HE.out _, by rw [HE.out]; exact World.ownsRow_nil _ _ _ _, put2 hB⟩
          · have hr1' : ¬ (c : Int) < 32 := by omega
            have hr2' : (126 : Int) < c := by omega
            go_wp2
            exact bodyPost_ret (v := .tuple #[.slice none 0 0, .int .i64 ((0 : Nat) : Int), .agg #[.int .i64 (p : Int), .int .i64 ((11 : Nat) : Int)]]) (by simp [results, Try.results36, go_sem, e0, e1]) rfl ⟨_, quoV_eq HE.out _, by rw [HE.out]; exact World.ownsRow_nil _ _ _ _, put2 hB⟩
        | true =>
          rw [hpq, if_pos rfl] at HQ
          have HE : Hid (sd i (quo f (x.data.toList.drop (p + 1)) (p + 1 - i) (acc ++ [c])) = Q) := by
            show _ = _
            rw [← HQ.out, show p + 1 - i = p - i + 1 by omega]
          clear HQ
          have hr1' : ¬ (c : Int) < 32 := by unfold plainq at hpq; simp at hpq; omega
          have hr2' : ¬ (126 : Int) < c := by unfold plainq at hpq; simp at hpq; omega
          clear hpq
          go_wp2_with (at_builtin; refine wpList_append_own _ rfl _ _ 30 rfl (w.heap.size + 1) 5 i0 (.int .u8 0) 1 1 Try.underlying30 hinf hz0 hz1 hz2 rfl (by decide) _ _ _ rfl (hrow.alloc _) ⟨wr.heap.size, 0, none⟩ 1 1 [.int .u8 ((c : Nat) : Int)] rfl rfl ?cd1 ?cd2 ?cd3 ?cd4 ?cd5 ?_)
          try case cd1 => exact cell_one_new _ _ _
          case cd2 => first | rfl | (intro u hu; simp at hu; subst hu; rfl)
          case cd3 => unfold maxLen; omega
          case cd4 => omega
          case cd5 => first | omega | (simp; omega)
          intro v' w2 hown' hgrow _
          have hbx2 := (hbx.alloc (.cells #[.int .u8 ((c : Nat) : Int)] 5)).kept hgrow (hbx.not_row (by decide) hrow)
          have hB2 := (hB.alloc hB.size (.cells #[.int .u8 ((c : Nat) : Int)] 5)).grown hgrow (by have := hB.size; simp; omega) (fun j hj => by have := (hrow.lt j hj).1; omega)
          obtain ⟨g', cap', rfl⟩ := ownsRow_succ hown'
          go_wp2
          exact ⟨⟨p + 1, f, acc ++ [c], by omega, by omega, by simp; omega, by omega, by go_num, HE.out, by rw [bytesV_snoc, List.length_append]; exact hown', hbx2, hB2⟩, by simp [intOf]; omega⟩
    · rw [quo_end _ _ _ _ (drop_end x p (by omega))] at HQ
      have hlt' : ¬ (p : Int) < x.size := by omega
      have HE : Hid (Q = ⟨[], 0, i, 13⟩) := by
        show _ = _
        rw [← HQ.out]; rfl
      go_wp2
      exact bodyPost_ret (v := .tuple #[.slice none 0 0, .int .i64 ((0 : Nat) : Int), .agg #[.int .i64 (i : Int), .int .i64 ((13 : Nat) : Int)]]) (by simp [results, Try.results36, go_sem, e0, e1]) rfl ⟨_, quoV_eq HE.out _, by rw [HE.out]; exact World.ownsRow_nil _ _ _ _, put2 hB⟩
end Go.Proofs.Ytbbmjnhbmcbehaa
