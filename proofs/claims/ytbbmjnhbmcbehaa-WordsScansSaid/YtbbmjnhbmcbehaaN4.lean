/- Unquote, at every text. -/
import Derived.Test.YtbbmjnhbmcbehaaN3
namespace Go.Proofs.Ytbbmjnhbmcbehaa
open Go.RowKit

/-- What Unquote answers: the bytes, the fault's place and code. -/
def unq (l : List UInt8) : List Nat × Nat × Nat :=
  if 65536 < l.length then ([], 0, 2)
  else if ¬ (0 < l.length ∧ (l.getD 0 0).toNat = 34) then ([], 0, 13)
  else if (quoted l).code ≠ 0 then ([], (quoted l).fat, (quoted l).code)
  else if (quoted l).fin < l.length then ([], (quoted l).fin, 15)
  else ((quoted l).bytes, 0, 0)
theorem pre_q (x : ByteArray) : Lib.hasPrefix x.data.toList [34] = decide (0 < x.data.toList.length ∧ (x.data.toList.getD 0 0).toNat = 34) := by
  cases x.data.toList with
  | nil => simp [Lib.hasPrefix]
  | cons c l =>
    rw [Bool.eq_iff_iff]; simp [Lib.hasPrefix, ← UInt8.toNat_inj]
    exact eq_comm
theorem unqV_eq {q : List Nat × Nat × Nat} {b c : Nat} {bs : List Nat} (h : q = (bs, b, c)) (v : Value) : Ending.returned (.tuple #[v, .agg #[.int .i64 (b : Int), .int .i64 (c : Int)]]) = .returned (.tuple #[v, fv q.2.1 q.2.2]) := by rw [h]; rfl

set_option maxRecDepth 100000 in
set_option maxHeartbeats 4000000 in
theorem unquote_any (x : ByteArray) (w : World) :
    Calls Try.prog 16 #[.string x] w fun e w' => ∃ v, e = .returned (.tuple #[v, fv (unq x.data.toList).2.1 (unq x.data.toList).2.2]) ∧ w'.ownsRow w.heap.size 5 1 v (unq x.data.toList).1.length (bytesV (unq x.data.toList).1) ∧ Below w.heap.size w w' := by
  have B0 := Blk.new w 26 #[.int .i64 0, .int .i64 0]
  have hB0 : Below w.heap.size w (w.alloc (.cells #[.int .i64 0, .int .i64 0] 26)) := (Below.refl _ _).alloc (Nat.le_refl _) _
  obtain ⟨R, hR⟩ : ∃ R, unq x.data.toList = R := ⟨_, rfl⟩
  rw [hR]
  unfold unq at hR
  have HP : Hid (∀ w, Calls Try.prog 34 #[.string x, .string ⟨#[34]⟩] w fun e w' => e = .returned (.bool (decide (0 < x.data.toList.length ∧ (x.data.toList.getD 0 0).toNat = 34))) ∧ w' = w) := fun w => by
    have := prefix_any x ⟨#[34]⟩ w
    rw [show (⟨#[34]⟩ : ByteArray).data.toList = [34] from rfl, pre_q] at this
    exact this
  by_cases h1 : 65536 < x.size
  · rw [if_pos (by rw [list_len]; exact h1)] at hR
    clear HP
    go_enter Try.func16, Try.ntmps16
    go_wp2
    exact bodyPost_ret (v := .tuple #[.slice none 0 0, .agg #[.int .i64 ((0 : Nat) : Int), .int .i64 ((2 : Nat) : Int)]]) (by simp [results, Try.results16, go_sem]) rfl ⟨_, unqV_eq hR.symm _, by rw [← hR]; exact World.ownsRow_nil _ _ _ _, (Below.refl _ _).alloc (Nat.le_refl _) _⟩
  rw [if_neg (by rw [list_len]; exact h1)] at hR
  by_cases h2 : 0 < x.data.toList.length ∧ (x.data.toList.getD 0 0).toNat = 34
  · rw [if_neg (by simpa using h2)] at hR
    rw [decide_eq_true h2] at HP
    have HQ : Hid _ := fun w => readQ_any x w (by omega)
    have h1' : (x.size : Int) ≤ 65536 := by omega
    rw [list_len] at hR
    generalize quoted x.data.toList = q at *
    obtain ⟨bs, fin, fat, code⟩ := q
    simp only [quoV, fv] at HQ hR
    clear h2
    go_enter Try.func16, Try.ntmps16
    go_wp2_with (first | (go_at_call 34; refine (HP.out _).mono ?_; rintro e w1 ⟨rfl, rfl⟩) | (go_at_call 35; refine (HQ.out _).mono ?_))
    rintro e w1 ⟨v, rfl, hrow, hb1⟩
    have B1 := B0.after hb1
    have hB1 := below_of hB0 hb1
    simp only [World.size_alloc] at hrow
    have hl := B1.lt
    have e0 := B1.cell 0 (v := .int .i64 0) rfl
    have e1 := B1.cell 1 (v := .int .i64 0) rfl
    have g0 := B1.frozen 0
    have g1 := B1.frozen 1
    clear HQ B0 hB0 hb1
    by_cases h3 : code = 0
    · subst h3
      rw [if_neg (by simp)] at hR
      by_cases h4 : fin < x.size
      · rw [if_pos h4] at hR
        have h4' : (fin : Int) < x.size := by omega
        go_wp2
        exact bodyPost_ret (v := .tuple #[.slice none 0 0, .agg #[.int .i64 (fin : Int), .int .i64 ((15 : Nat) : Int)]]) (by simp [results, Try.results16, go_sem, e0, e1, hl]) rfl ⟨_, unqV_eq hR.symm _, by rw [← hR]; exact World.ownsRow_nil _ _ _ _, (put2 hB1).alloc (by simp; omega) _⟩
      · rw [if_neg h4] at hR
        have h4' : ¬ (fin : Int) < x.size := by omega
        go_wp2
        exact bodyPost_ret (v := .tuple #[v, .agg #[.int .i64 ((0 : Nat) : Int), .int .i64 ((0 : Nat) : Int)]]) (by simp [results, Try.results16, go_sem, e0, e1, hl]) rfl ⟨_, unqV_eq hR.symm _, by rw [← hR]; exact row_mono ((row_put (row_put hrow (by omega) _) (by omega) _).alloc _) (by omega), (put2 hB1).alloc (by simp; omega) _⟩
    · rw [if_pos h3] at hR
      have h3' : ((code : Int) != 0) = true := by simp; omega
      go_wp2
      go_region
      all_goals go_wp2
      exact bodyPost_ret (v := .tuple #[.slice none 0 0, .agg #[.int .i64 (fat : Int), .int .i64 (code : Int)]]) (by simp [results, Try.results16, go_sem, e0, e1, hl]) rfl ⟨_, unqV_eq hR.symm _, by rw [← hR]; exact World.ownsRow_nil _ _ _ _, ((put2 hB1).alloc (by simp; omega) _).drew⟩
  · rw [if_pos (by simpa using h2)] at hR
    rw [decide_eq_false h2] at HP
    have h1' : (x.size : Int) ≤ 65536 := by omega
    go_enter Try.func16, Try.ntmps16
    go_wp2_with (go_at_call 34; refine (HP.out _).mono ?_; rintro e w1 ⟨rfl, rfl⟩)
    exact bodyPost_ret (v := .tuple #[.slice none 0 0, .agg #[.int .i64 ((0 : Nat) : Int), .int .i64 ((13 : Nat) : Int)]]) (by simp [results, Try.results16, go_sem]) rfl ⟨_, unqV_eq hR.symm _, by rw [← hR]; exact World.ownsRow_nil _ _ _ _, (Below.refl _ _).alloc (Nat.le_refl _) _⟩
end Go.Proofs.Ytbbmjnhbmcbehaa
