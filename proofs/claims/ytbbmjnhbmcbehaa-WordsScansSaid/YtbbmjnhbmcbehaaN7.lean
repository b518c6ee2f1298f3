/- A word's parts: remarks, the ends of sets, new words, names and keys. -/
import Derived.Test.YtbbmjnhbmcbehaaN3
import Derived.Test.YtbbmjnhbmcbehaaBlk2
namespace Go.Proofs.Ytbbmjnhbmcbehaa
open Go.RowKit

set_option maxRecDepth 100000 in
set_option maxHeartbeats 1000000 in
theorem clone_any (x : ByteArray) (w : World) (hx : x.size ≤ 65536) : Calls Try.prog 79 #[.string x] w fun e w' => e = .returned (.string x) ∧ Below w.heap.size w w' := by
  have H : Hid _ := fun w => sclone_any x w (by omega)
  go_enter Try.func79, Try.ntmps79
  go_wp2_with (go_at_call 91; refine (H.out _).mono ?_; rintro e w' ⟨rfl, hb⟩)
  go_ret
  exact ⟨rfl, hb⟩
/-- The value of a word. -/
def wv (kind : Nat) (t : ByteArray) (v : Value) (s : St) (n p ln co : Nat) : Value :=
  .agg #[.int .i64 (kind : Int), .string t, v, .int .u64 (s.a : Int), .int .u64 (s.b : Int), .int .u64 (s.c : Int), .int .u64 (s.d : Int), .int .i64 (n : Int), .int .i64 (p : Int), .int .i64 (ln : Int), .int .i64 (co : Int)]
abbrev wz : Array Value := #[.int .i64 0, .string ⟨#[]⟩, .slice none 0 0, .int .u64 0, .int .u64 0, .int .u64 0, .int .u64 0, .int .i64 0, .int .i64 0, .int .i64 0, .int .i64 0]
theorem Blk.word {W : World} {b : Nat} {t : TypeId} {x0 x1 x2 x3 x4 x5 x6 x7 x8 x9 x10 : Value} (h : Blk W b t #[x0, x1, x2, x3, x4, x5, x6, x7, x8, x9, x10]) :
    W.cell? ⟨b, 0, none⟩ = some x0 ∧ W.cell? ⟨b, 1, none⟩ = some x1 ∧ W.cell? ⟨b, 2, none⟩ = some x2 ∧ W.cell? ⟨b, 3, none⟩ = some x3 ∧ W.cell? ⟨b, 4, none⟩ = some x4 ∧ W.cell? ⟨b, 5, none⟩ = some x5 ∧ W.cell? ⟨b, 6, none⟩ = some x6 ∧ W.cell? ⟨b, 7, none⟩ = some x7 ∧ W.cell? ⟨b, 8, none⟩ = some x8 ∧ W.cell? ⟨b, 9, none⟩ = some x9 ∧ W.cell? ⟨b, 10, none⟩ = some x10 :=
  ⟨h.cell 0 rfl, h.cell 1 rfl, h.cell 2 rfl, h.cell 3 rfl, h.cell 4 rfl, h.cell 5 rfl, h.cell 6 rfl, h.cell 7 rfl, h.cell 8 rfl, h.cell 9 rfl, h.cell 10 rfl⟩
theorem Blk.pair {W : World} {b : Nat} {t : TypeId} {x0 x1 : Value} (h : Blk W b t #[x0, x1]) : W.cell? ⟨b, 0, none⟩ = some x0 ∧ W.cell? ⟨b, 1, none⟩ = some x1 := ⟨h.cell 0 rfl, h.cell 1 rfl⟩
set_option maxRecDepth 100000 in
set_option maxHeartbeats 1000000 in
theorem newWord_any (k : Nat) (x : ByteArray) (w : World) (hx : x.size ≤ 65536) : Calls Try.prog 60 #[.int .i64 k, .string x] w fun e w' => e = .returned (wv k x (.slice none 0 0) St.zero 0 0 0 0) ∧ Below w.heap.size w w' := by
  have H : Hid _ := fun w => clone_any x w hx
  have B0 : Blk (w.alloc (.cells wz 35)) w.heap.size 35 wz := Blk.new w 35 wz
  have hB0 : Below w.heap.size w (w.alloc (.cells wz 35)) := (Below.refl _ _).alloc (Nat.le_refl _) _
  go_enter Try.func60, Try.ntmps60
  go_wp2_with (go_at_call 79; refine (H.out _).mono ?_)
  rintro e w1 ⟨rfl, hb1⟩
  have B1 := B0.after hb1
  have hB1 := below_of hB0 hb1
  obtain ⟨e0, e1, e2, e3, e4, e5, e6, e7, e8, e9, e10⟩ := B1.word
  have hf := B1.frozen
  have hl := B1.lt
  go_wp2
  refine gen (fun W => Blk W w.heap.size 35 _ ∧ Below w.heap.size w W) ⟨B1.set11 _ _ _ _ _ _ _ _ _ _ _, below11 hB1 (Nat.le_refl _) _ _ _ _ _ _ _ _ _ _ _⟩ ?_
  rintro W ⟨hb, hB⟩
  obtain ⟨e0, e1, e2, e3, e4, e5, e6, e7, e8, e9, e10⟩ := hb.word
  exact bodyPost_ret (v := wv k x (.slice none 0 0) St.zero 0 0 0 0) (by simp [results, Try.results60, go_sem, wv, St.zero, e0, e1, e2, e3, e4, e5, e6, e7, e8, e9, e10]) rfl ⟨rfl, hB⟩
def not10 (n : Nat) : Bool := decide (n ≠ 10)
theorem idx_span : ∀ l : List UInt8, (Lib.indexByte l 10 = -1 ∧ lspan not10 l = l.length) ∨ Lib.indexByte l 10 = (lspan not10 l : Int)
  | [] => .inl ⟨rfl, rfl⟩
  | c :: l => by
    have ih := idx_span l
    unfold Lib.indexByte
    by_cases h : c = 10
    · right; subst h; simp [lspan, not10]
    · have h' : c.toNat ≠ 10 := fun e => h (UInt8.toNat_inj.1 e)
      have hb : (c == 10) = false := by simpa using h
      have hs : lspan not10 (c :: l) = lspan not10 l + 1 := by simp [lspan, not10, h']
      rw [hb, hs]
      simp only [Bool.false_eq_true, if_false, List.length_cons]
      rcases ih with ⟨h1, h2⟩ | h1
      · left; simp [h1, h2]
      · right; rw [h1]; rw [if_neg (by simp)]; omega
set_option maxRecDepth 100000 in
set_option maxHeartbeats 1000000 in
theorem spanR_any (x : ByteArray) (w : World) : Calls Try.prog 53 #[.string x] w fun e w' => e = .returned (.int .i64 (lspan not10 x.data.toList)) ∧ w' = w := by
  have H : Hid (∀ w, Calls Try.prog 59 #[.string x, .int .u8 10] w fun e w' => e = .returned (.int .i64 (Lib.indexByte x.data.toList 10)) ∧ w' = w) := fun w => idx_any x 10 w
  have hs := idx_span x.data.toList
  rw [list_len] at hs
  generalize Lib.indexByte x.data.toList 10 = i at *
  generalize lspan not10 x.data.toList = k at *
  rcases hs with ⟨rfl, rfl⟩ | rfl
  · go_enter Try.func53, Try.ntmps53
    go_wp2_with (go_at_call 59; refine (H.out _).mono ?_; rintro e w' ⟨rfl, rfl⟩)
    go_ret
    exact ⟨rfl, rfl⟩
  · go_enter Try.func53, Try.ntmps53
    go_wp2_with (go_at_call 59; refine (H.out _).mono ?_; rintro e w' ⟨rfl, rfl⟩)
    go_ret
    exact ⟨rfl, rfl⟩
set_option maxRecDepth 100000 in
set_option maxHeartbeats 1000000 in
theorem spanS_any (x : ByteArray) (w : World) (hx : x.size ≤ 65536) : Calls Try.prog 76 #[.string x] w fun e w' => e = .returned (.int .i64 (clo (x.data.toList.drop 1) 1)) ∧ w' = w := by
  obtain ⟨R, hR⟩ : ∃ R, clo (x.data.toList.drop 1) 1 = R := ⟨_, rfl⟩
  rw [hR]
  go_enter Try.func76, Try.ntmps76
  go_wp2
  go_loop [3] (fun i => ∃ k : Nat, 1 ≤ k ∧ k ≤ x.size + 1 ∧ i = .int .i64 k ∧ clo (x.data.toList.drop k) k = R) (fun i => x.size + 1 - (intOf i).toNat)
  case atStart => exact ⟨1, Nat.le_refl _, by omega, rfl, hR⟩
  case round =>
    obtain ⟨k, hk1, hk, rfl, hq⟩ := hrel
    clear hR
    have HQ : Hid _ := hq
    clear hq
    by_cases hlt : k < x.size
    · have hlt' : (k : Int) < x.size := by omega
      have b0 := bt_eq x k hlt
      rw [drop_at x k hlt] at HQ
      by_cases h92 : x[k].toNat = 92
      · rw [clo_esc _ _ _ h92, List.drop_drop] at HQ
        clear b0
        go_wp2
        go_round
        case rel => exact ⟨k + 2, by omega, by omega, by go_num, HQ.out⟩
        case measure => simp [intOf]; omega
      · by_cases h93 : x[k].toNat = 93
        · rw [clo_end _ _ _ h93] at HQ
          rw [h93] at b0
          go_wp2
          go_ret
          exact ⟨ret_int (by rw [← HQ.out]; rfl), rfl⟩
        · rw [clo_on _ _ _ h93 h92] at HQ
          have c1 : ((x[k].toNat : Int) == 92) = false := by simp; omega
          have c2 : ((x[k].toNat : Int) == 93) = false := by simp; omega
          clear b0
          go_wp2
          go_round
          case rel => exact ⟨k + 1, by omega, by omega, by go_num, HQ.out⟩
          case measure => simp [intOf]; omega
    · have hlt' : ¬ (k : Int) < x.size := by omega
      rw [drop_end x k (by omega)] at HQ
      simp only [clo] at HQ
      go_wp2
      go_ret
      exact ⟨ret_int (by rw [← HQ.out]; rfl), rfl⟩
end Go.Proofs.Ytbbmjnhbmcbehaa
