/- The document's own Unquote. -/
import Derived.Test.YtbbmjnhbmcbehaaC5
import Derived.Test.YtbbmjnhbmcbehaaN4
namespace Go.Proofs.Ytbbmjnhbmcbehaa
open Go.RowKit

theorem unq_sd (x : ByteArray) : unq x.data.toList = if 65536 < x.size then ([], 0, 2) else if ¬ (0 < x.size ∧ bt x 0 = 34) then ([], 0, 13) else if (sd 0 (quoted (x.data.toList.drop 0))).code ≠ 0 then ([], (sd 0 (quoted (x.data.toList.drop 0))).fat, (sd 0 (quoted (x.data.toList.drop 0))).code) else if (sd 0 (quoted (x.data.toList.drop 0))).fin < x.size then ([], (sd 0 (quoted (x.data.toList.drop 0))).fin, 15) else ((sd 0 (quoted (x.data.toList.drop 0))).bytes, (sd 0 (quoted (x.data.toList.drop 0))).fat, 0) := by
  unfold unq sd
  rw [list_len, ← bt_list, List.drop_zero]
  by_cases h : (quoted x.data.toList).code = 0
  · simp [h]
  · simp [h]
set_option maxRecDepth 100000 in
set_option maxHeartbeats 4000000 in
theorem runquote_any (x : ByteArray) (w : World) (hx : x.size ≤ 65538) :
    Calls Try.prog 17 #[.string x] w fun e w' => ∃ v, e = .returned (.tuple #[v, fv (unq x.data.toList).2.1 (unq x.data.toList).2.2]) ∧ w'.ownsRow w.heap.size 5 1 v (unq x.data.toList).1.length (bytesV (unq x.data.toList).1) ∧ Below w.heap.size w w' := by
  have B0 := Blk.new w 26 #[.int .i64 0, .int .i64 0]
  have hB0 : Below w.heap.size w (w.alloc (.cells #[.int .i64 0, .int .i64 0] 26)) := (Below.refl _ _).alloc (Nat.le_refl _) _
  have hR := unq_sd x
  generalize unq x.data.toList = R at *
  have HR : Hid _ := hR
  clear hR
  by_cases h1 : 65536 < x.size
  · rw [if_pos h1] at HR
    have h1' : (65536 : Int) < x.size := by omega
    go_enter Try.func17, Try.ntmps17
    go_wp2
    exact bodyPost_ret (v := .tuple #[.slice none 0 0, .agg #[.int .i64 ((0 : Nat) : Int), .int .i64 ((2 : Nat) : Int)]]) (by simp [results, Try.results17, go_sem]) rfl ⟨_, unqV_eq HR.out _, by rw [HR.out]; exact World.ownsRow_nil _ _ _ _, (Below.refl _ _).alloc (Nat.le_refl _) _⟩
  rw [if_neg h1] at HR
  have h1' : ¬ (65536 : Int) < x.size := by omega
  by_cases h0 : x.size = 0
  · rw [if_pos (by omega)] at HR
    have h0' : (x.size : Int) = 0 := by omega
    go_enter Try.func17, Try.ntmps17
    go_wp2
    exact bodyPost_ret (v := .tuple #[.slice none 0 0, .agg #[.int .i64 ((0 : Nat) : Int), .int .i64 ((13 : Nat) : Int)]]) (by simp [results, Try.results17, go_sem]) rfl ⟨_, unqV_eq HR.out _, by rw [HR.out]; exact World.ownsRow_nil _ _ _ _, (Below.refl _ _).alloc (Nat.le_refl _) _⟩
  have hpos : 0 < x.size := by omega
  have hpos' : (0 : Int) < x.size := by omega
  have h0e : ¬ x = ByteArray.empty := fun h => h0 (by rw [h]; rfl)
  have b0 := bt_eq x 0 hpos
  by_cases h2 : bt x 0 = 34
  · rw [if_neg (by omega)] at HR
    rw [h2] at b0
    have HQ : Hid _ := fun w => said_any x 0 w hx hpos
    generalize sd 0 (quoted (x.data.toList.drop 0)) = q at *
    obtain ⟨bs, fin, fat, code⟩ := q
    simp only [quoV, fv] at HQ HR
    by_cases h3 : code = 0
    · subst h3
      rw [if_neg (by simp)] at HR
      by_cases h4 : fin < x.size
      · rw [if_pos h4] at HR
        have h4' : (fin : Int) < x.size := by omega
        go_enter Try.func17, Try.ntmps17
        go_wp2_with (go_at_call 36; refine (HQ.out _).mono ?_; rintro e w1 ⟨v, rfl, hrow, hb1⟩; have B1 := B0.after hb1; have hB1 := below_of hB0 hb1; simp only [World.size_alloc] at hrow; have hl := B1.lt; have e0 := B1.cell 0 (v := .int .i64 0) rfl; have e1 := B1.cell 1 (v := .int .i64 0) rfl; have g0 := B1.frozen 0; have g1 := B1.frozen 1; clear hb1)
        exact bodyPost_ret (v := .tuple #[.slice none 0 0, .agg #[.int .i64 (fin : Int), .int .i64 ((15 : Nat) : Int)]]) (by simp [results, Try.results17, go_sem, e0, e1, hl]) rfl ⟨_, unqV_eq HR.out _, by rw [HR.out]; exact World.ownsRow_nil _ _ _ _, (put2 hB1).alloc (by simp; omega) _⟩
      · rw [if_neg h4] at HR
        have h4' : ¬ (fin : Int) < x.size := by omega
        go_enter Try.func17, Try.ntmps17
        go_wp2_with (go_at_call 36; refine (HQ.out _).mono ?_; rintro e w1 ⟨v, rfl, hrow, hb1⟩; have B1 := B0.after hb1; have hB1 := below_of hB0 hb1; simp only [World.size_alloc] at hrow; have hl := B1.lt; have e0 := B1.cell 0 (v := .int .i64 0) rfl; have e1 := B1.cell 1 (v := .int .i64 0) rfl; have g0 := B1.frozen 0; have g1 := B1.frozen 1; clear hb1)
        go_region
        all_goals go_wp2
        exact bodyPost_ret (v := .tuple #[v, .agg #[.int .i64 (fat : Int), .int .i64 ((0 : Nat) : Int)]]) (by simp [results, Try.results17, go_sem, e0, e1, hl]) rfl ⟨_, unqV_eq HR.out _, by rw [HR.out]; exact row_mono ((row_put (row_put hrow (by omega) _) (by omega) _).alloc _) (by omega), ((put2 hB1).alloc (by simp; omega) _).drew⟩
    · rw [if_pos h3] at HR
      have h3' : ¬ (code : Int) = 0 := by omega
      go_enter Try.func17, Try.ntmps17
      go_wp2_with (go_at_call 36; refine (HQ.out _).mono ?_; rintro e w1 ⟨v, rfl, hrow, hb1⟩; have B1 := B0.after hb1; have hB1 := below_of hB0 hb1; simp only [World.size_alloc] at hrow; have hl := B1.lt; have e0 := B1.cell 0 (v := .int .i64 0) rfl; have e1 := B1.cell 1 (v := .int .i64 0) rfl; have g0 := B1.frozen 0; have g1 := B1.frozen 1; clear hb1)
      go_region
      all_goals go_wp2
      exact bodyPost_ret (v := .tuple #[.slice none 0 0, .agg #[.int .i64 (fat : Int), .int .i64 (code : Int)]]) (by simp [results, Try.results17, go_sem, e0, e1, hl]) rfl ⟨_, unqV_eq HR.out _, by rw [HR.out]; exact World.ownsRow_nil _ _ _ _, ((put2 hB1).alloc (by simp; omega) _).drew⟩
  · rw [if_pos (by omega)] at HR
    have h2b : ((bt x 0 : Int) != 34) = true := by simp; omega
    have h0' : ((x.size : Int) == 0) = false := beq_false_of_ne (by omega)
    go_enter Try.func17, Try.ntmps17
    go_wp2
    exact bodyPost_ret (v := .tuple #[.slice none 0 0, .agg #[.int .i64 ((0 : Nat) : Int), .int .i64 ((13 : Nat) : Int)]]) (by simp [results, Try.results17, go_sem]) rfl ⟨_, unqV_eq HR.out _, by rw [HR.out]; exact World.ownsRow_nil _ _ _ _, (Below.refl _ _).alloc (Nat.le_refl _) _⟩
end Go.Proofs.Ytbbmjnhbmcbehaa
