/- Quote, at every row of bytes of at most 65536. -/
import Derived.Test.YtlkcadibjmfmcaaDoorNf
import Derived.Test.YtlkcadibjmfmcaaDoorBa
import Derived.Test.YtlkcadibjmfmcaaDoorShelf
import Derived.Laws.BitsAllLaws
import Derived.ChangeAlike
namespace Go.Proofs.YtlkcadibjmfmcaaDoor
open Go.RowKit

theorem ret_str {a b : ByteArray} (h : a = b) : Ending.returned (.string a) = .returned (.string b) := by rw [h]
def hexd (k : Nat) : UInt8 := if k < 10 then UInt8.ofNat (48 + k) else UInt8.ofNat (87 + k)
theorem esc_hex : ∀ n : Fin 256, (⟨#[92, 120]⟩ : ByteArray) ++ (⟨#[48, 49, 50, 51, 52, 53, 54, 55, 56, 57, 97, 98, 99, 100, 101, 102]⟩ : ByteArray).extract (n.val / 16) (n.val / 16 + 1) ++ (⟨#[48, 49, 50, 51, 52, 53, 54, 55, 56, 57, 97, 98, 99, 100, 101, 102]⟩ : ByteArray).extract (n.val % 16) (n.val % 16 + 1) = ⟨#[92, 120, hexd (n.val / 16), hexd (n.val % 16)]⟩ := by decide +kernel
theorem and15 (n : Nat) (h : n < 256) : bits .and .u8 (n : Int) 15 = (n : Int) % 16 := by
  have := u8_and_nat n 15 h (by decide)
  rw [show ((15 : Nat) : Int) = 15 from rfl] at this
  rw [this, nat_mask4]; simp
def plainq (n : Nat) : Bool := decide (32 ≤ n) && decide (n ≤ 126) && decide (n ≠ 34) && decide (n ≠ 92)
set_option maxRecDepth 100000 in
set_option maxHeartbeats 1000000 in
theorem plainq_any (n : Nat) (w : World) (hn : n < 256) : Calls Tryd.prog 79 #[.int .u8 n] w fun e w' => e = .returned (.bool (plainq n)) ∧ w' = w := by
  have H : Hid (plainq n = (decide (32 ≤ n) && decide (n ≤ 126) && decide (n ≠ 34) && decide (n ≠ 92))) := rfl
  go_enter Tryd.func79, Tryd.ntmps79
  go_wp2
  all_goals go_ret
  all_goals (refine ⟨ret_bool ?_, rfl⟩; rw [H.out])
  all_goals (rw [Bool.eq_iff_iff]; simp; try omega)
theorem belDrew {B : Nat} {w wr : World} (h : Below B w wr) (n : Nat) : Below B w (wr.drewN n) := ⟨h.os, h.tape, h.output, h.size, h.block⟩
theorem idx_any (s : ByteArray) (n : Nat) (w : World) :
    Calls Tryd.prog 95 #[.string s, .int .u8 n] w fun e w' => e = .returned (.int .i64 (Lib.indexByte s.data.toList n.toUInt8)) ∧ w' = w := indexByte_any s n w
theorem specq_le (n : Nat) : Lib.indexByte [10, 9, 13, 34, 92] n.toUInt8 < 5 := by
  have : ∀ c : Fin 256, Lib.indexByte [10, 9, 13, 34, 92] (UInt8.ofNat c.val) < 5 := by decide +kernel
  have h := this ⟨n % 256, Nat.mod_lt _ (by omega)⟩
  have e : UInt8.ofNat (n % 256) = UInt8.ofNat n := by
    apply UInt8.toNat_inj.1; simp
  simp only at h
  rw [e] at h; exact h
def shortqL (i : Nat) : UInt8 := [110, 116, 114, 34, 92].getD i 0
def escq (n : Nat) : List UInt8 := if Lib.indexByte [10, 9, 13, 34, 92] n.toUInt8 < 0 then [92, 120, hexd (n / 16), hexd (n % 16)] else [92, shortqL (Lib.indexByte [10, 9, 13, 34, 92] n.toUInt8).toNat]
theorem escq_short : ∀ i : Fin 5, (⟨#[92]⟩ : ByteArray) ++ (⟨#[110, 116, 114, 34, 92]⟩ : ByteArray).extract i.val (i.val + 1) = ⟨#[92, shortqL i.val]⟩ := by decide +kernel
set_option maxRecDepth 100000 in
set_option maxHeartbeats 400000 in
theorem escq_any (n : Nat) (w : World) (hn : n < 256) :
    Calls Tryd.prog 81 #[.int .u8 n, .string ⟨#[110, 116, 114, 34, 92]⟩, .string ⟨#[10, 9, 13, 34, 92]⟩] w fun e w' => e = .returned (.string ⟨(escq n).toArray⟩) ∧ ∃ nq, w' = w.drewN nq := by
  have hs := specq_le n
  have HI : Hid (∀ w, Calls Tryd.prog 95 #[.string ⟨#[10, 9, 13, 34, 92]⟩, .int .u8 n] w fun e w' => e = .returned (.int .i64 (Lib.indexByte [10, 9, 13, 34, 92] n.toUInt8)) ∧ w' = w) := fun w => idx_any _ n w
  by_cases hi : 0 ≤ Lib.indexByte [10, 9, 13, 34, 92] n.toUInt8
  · have H : Hid (escq n = [92, shortqL (Lib.indexByte [10, 9, 13, 34, 92] n.toUInt8).toNat]) := by
      show _ = _
      unfold escq; rw [if_neg (by omega)]
    obtain ⟨i, he⟩ := Int.eq_ofNat_of_zero_le hi
    rw [he] at HI H hs
    have H2 : Hid _ := escq_short ⟨i, by omega⟩
    clear he hi
    go_enter Tryd.func81, Tryd.ntmps81
    go_wp2_with (go_at_call 95; refine (HI.out _).mono ?_; rintro e w' ⟨rfl, rfl⟩)
    go_ret
    refine ⟨ret_str ?_, 0, rfl⟩
    rw [H.out, H2.out]; simp
  · have H : Hid (escq n = [92, 120, hexd (n / 16), hexd (n % 16)]) := by
      show _ = _
      unfold escq; rw [if_pos (by omega)]
    have H2 : Hid _ := esc_hex ⟨n, hn⟩
    have q1 : (0 : Int) ≤ (n : Int) / 16 := by omega
    have q2 : (n : Int) / 16 + 1 ≤ 16 := by omega
    have q3 : (0 : Int) ≤ (n : Int) % 16 := by omega
    have q4 : (n : Int) % 16 + 1 ≤ 16 := by omega
    have q5 := and15 n hn
    have hi' : Lib.indexByte [10, 9, 13, 34, 92] n.toUInt8 < 0 := by omega
    generalize Lib.indexByte [10, 9, 13, 34, 92] n.toUInt8 = i at *
    go_enter Tryd.func81, Tryd.ntmps81
    go_wp2_with (go_at_call 95; refine (HI.out _).mono ?_; rintro e w' ⟨rfl, rfl⟩)
    go_quiet (fail)
    go_wp2
    go_ret
    refine ⟨ret_str ?_, nq, rfl⟩
    rw [H.out, H2.out]


/-- The sign of a byte in a text in quotes. -/
def signq (n : Nat) : List UInt8 := if plainq n then [UInt8.ofNat n] else escq n
def quoteL (l : List Nat) : List UInt8 := [34] ++ l.flatMap signq ++ [34]
theorem signq_len : ∀ n : Fin 256, 0 < (signq n.val).length ∧ (signq n.val).length ≤ 4 := by decide +kernel
theorem escq_len : ∀ n : Fin 256, 0 < (escq n.val).length := by decide +kernel
theorem flat_le : ∀ l : List Nat, (∀ n ∈ l, n < 256) → (l.flatMap signq).length ≤ 4 * l.length
  | [], _ => by simp
  | n :: l, h => by
    have h1 := (signq_len ⟨n, h n (by simp)⟩).2
    have h2 := flat_le l (fun m hm => h m (by simp [hm]))
    simp only [List.flatMap_cons, List.length_append, List.length_cons] at *; omega
/-- A row of bytes that a slice shows. -/
def Row (w : World) (a : Option Addr) (L : List Nat) : Prop := ∀ i, i < L.length → ∃ bk o, a = some ⟨bk, o, none⟩ ∧ bk < w.heap.size ∧ w.cell? ⟨bk, o + i, none⟩ = some (.int .u8 ((L.getD i 0 : Nat) : Int))
theorem Row.below {w w' : World} {a : Option Addr} {L : List Nat} (h : Row w a L) {B : Nat} (hb : Below B w w') (hB : w.heap.size ≤ B) : Row w' a L := by
  intro i hi
  obtain ⟨bk, o, e, hl, hc⟩ := h i hi
  exact ⟨bk, o, e, Nat.lt_of_lt_of_le hl hb.size, (hb.cell (p := ⟨bk, o + i, none⟩) (Nat.lt_of_lt_of_le hl hB)).trans hc⟩
theorem getD_lt {L : List Nat} (h : ∀ n ∈ L, n < 256) (i : Nat) : L.getD i 0 < 256 := by
  rw [List.getD_eq_getElem?_getD]
  cases e : L[i]? with
  | none => simp
  | some x => exact h x (List.mem_of_getElem? e)
theorem take_flat {L : List Nat} {i : Nat} (h : i < L.length) : (L.take (i + 1)).flatMap signq = (L.take i).flatMap signq ++ signq (L.getD i 0) := by
  rw [List.take_succ_eq_append_getElem h, List.flatMap_append]; simp [List.getD_eq_getElem?_getD, List.getElem?_eq_getElem h]

set_option maxRecDepth 100000 in
set_option maxHeartbeats 4000000 in
theorem quote_any (L : List Nat) (a : Option Addr) (c : Nat) (w : World) (hL : ∀ n ∈ L, n < 256) (hn : L.length ≤ 65536) (hr : Row w a L) :
    Calls Tryd.prog 63 #[.slice a L.length c] w fun e w' => e = .returned (.string ⟨(quoteL L).toArray⟩) ∧ Below w.heap.size w w' := by
  have H0 : Hid _ := fun (W : World) (l : List UInt8) (h : BL w.heap.size w.heap.size l W) (h1 : l.length ≤ 300000) (h2 : w.heap.size ≤ W.heap.size) => wbyte_any w.heap.size w.heap.size l 34 W (by omega) h (by omega) h2
  have b0 : BL w.heap.size w.heap.size [] (w.alloc (.cells #[.pointer none, .slice none 0 0] 110)) := Lib.fresh_isBuilder 110 5 w
  have hB0 : Below w.heap.size w (w.alloc (.cells #[.pointer none, .slice none 0 0] 110)) := (Below.refl _ _).alloc (Nat.le_refl _) _
  go_enter Tryd.func63, Tryd.ntmps63
  go_wp2_with (go_at_call 78; refine (H0.out _ _ b0 (by simp) (by simp)).mono ?_)
  rintro e w1 ⟨rfl, hb1, hB1, -⟩
  replace hB1 := hB0.trans hB1
  clear b0 hB0
  go_wp2
  go_loopw [9] (fun i W => ∃ k : Nat, k ≤ L.length ∧ i = .int .i64 k ∧ BL w.heap.size w.heap.size ([34] ++ (L.take k).flatMap signq) W ∧ Below w.heap.size w W) (fun i _ => L.length - (intOf i).toNat)
  case atStart => exact ⟨0, Nat.zero_le _, rfl, by simpa using hb1, hB1⟩
  case round =>
    obtain ⟨k, hk, rfl, hb, hB⟩ := hrel
    clear hb1 hB1
    have hfl := flat_le (L.take k) (fun n h => hL n (List.mem_of_mem_take h))
    have htl : (L.take k).length ≤ k := List.length_take_le _ _
    have hsz := hB.size
    by_cases hlt : k < L.length
    · have hlt' : (k : Int) < L.length := by omega
      obtain ⟨bk, o, rfl, hl, hcell⟩ := hr k hlt
      replace hcell := (hB.cell (p := ⟨bk, o + k, none⟩) hl).trans hcell
      have HT : Hid _ := take_flat hlt
      have h256 := getD_lt hL k
      generalize L.getD k 0 = n at *
      have HP : Hid _ := fun w => plainq_any n w h256
      cases hp : plainq n with
      | true =>
        rw [hp] at HP
        have HS : Hid (signq n = [UInt8.ofNat n]) := by show _ = _; unfold signq; rw [if_pos hp]
        have HW : Hid _ := fun (_ : Unit) => wbyte_any w.heap.size w.heap.size _ n wr h256 hb (by rw [List.length_append, List.length_singleton]; omega) hsz
        clear hp
        go_wp2_with (first | (go_at_call 79; refine (HP.out _).mono ?_; rintro e w' ⟨rfl, rfl⟩) | (go_at_call 78; refine (HW.out ()).mono ?_))
        rintro e w2 ⟨rfl, hb2, hB2, -⟩
        go_wp2
        go_roundw
        case rel => exact ⟨k + 1, by omega, by go_num, by rw [HT.out, HS.out, ← List.append_assoc]; exact hb2, hB.trans hB2⟩
        case measure => simp [intOf]; omega
      | false =>
        rw [hp] at HP
        have HS : Hid (signq n = escq n) := by show _ = _; unfold signq; rw [if_neg (by simp [hp])]
        have HE : Hid _ := fun w => escq_any n w h256
        have hel := escq_len ⟨n, h256⟩
        have hel4 := (signq_len ⟨n, h256⟩).2
        simp only at hel hel4
        rw [HS.out] at hel4
        have HW : Hid _ := fun nq => wstr_any w.heap.size w.heap.size _ (escq n) (wr.drewN nq) hel hb (by rw [List.length_append, List.length_singleton]; omega) hsz
        clear hp
        go_wp2_with (first | (go_at_call 79; refine (HP.out _).mono ?_; rintro e w' ⟨rfl, rfl⟩) | (go_at_call 81; refine (HE.out _).mono ?_; rintro e w' ⟨rfl, nq, rfl⟩) | (go_at_call 80; refine (HW.out _).mono ?_))
        rintro e w2 ⟨rfl, hb2, hB2, -⟩
        go_wp2
        go_roundw
        case rel => exact ⟨k + 1, by omega, by go_num, by rw [HT.out, HS.out, ← List.append_assoc]; exact hb2, (belDrew hB _).trans hB2⟩
        case measure => simp [intOf]; omega
    · obtain rfl : k = L.length := by omega
      rw [List.take_length] at hb hfl
      clear hk hlt htl
      have HW : Hid _ := fun (_ : Unit) => wbyte_any w.heap.size w.heap.size _ 34 wr (by omega) hb (by rw [List.length_append, List.length_singleton]; omega) hsz
      go_wp2_with (go_at_call 78; refine (HW.out ()).mono ?_)
      rintro e w2 ⟨rfl, hb2, hB2, -⟩
      have HS : Hid _ := fun (_ : Unit) => bstring_any w.heap.size w.heap.size _ w2 hb2 (Nat.le_trans hsz hB2.size)
      go_wp2_with (go_at_call 82; refine (HS.out ()).mono ?_)
      rintro e w3 ⟨rfl, hB3⟩
      go_wp2
      go_ret
      exact ⟨ret_str rfl, (hB.trans hB2).trans hB3⟩
end Go.Proofs.YtlkcadibjmfmcaaDoor
