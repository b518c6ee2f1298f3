/- The law TreesWrites, walked. -/
import Derived.Test.YtlnlkbkmnkjbhaaDoorT10
import Derived.Test.YtlnlkbkmnkjbhaaDoorLl
namespace Go.Proofs.YtlnlkbkmnkjbhaaDoor
open Go.RowKit

/-- A tree in its box. -/
structure To (w : World) (a : Tr) (f : Nat) (sa : Option Addr) (sc : Nat) (W : World) : Prop where
  bel : Below w.heap.size w W
  a0 : W.cell? ⟨w.heap.size, 0, none⟩ = some (.int .i64 a.rule)
  a1 : W.cell? ⟨w.heap.size, 1, none⟩ = some (.int .u8 (a.byte.toNat : Int))
  a2 : W.cell? ⟨w.heap.size, 2, none⟩ = some (.slice sa a.kids.length sc)
  ka : TAt W W.heap.size f sa a.kids
  lt : w.heap.size < W.heap.size
section
variable {w : World} {a : Tr} {f : Nat} {sa : Option Addr} {sc : Nat} {W W' : World}
theorem To.nx (hb : Below W.heap.size W W') (h : To w a f sa sc W) : To w a f sa sc W' := by
  have hl := h.lt
  have k : ∀ b q, b < W.heap.size → W'.cell? ⟨b, q, none⟩ = W.cell? ⟨b, q, none⟩ := fun b q hlt => hb.cell (p := ⟨b, q, none⟩) hlt
  exact ⟨below_of h.bel hb, (k _ _ hl).trans h.a0, (k _ _ hl).trans h.a1, (k _ _ hl).trans h.a2, (h.ka.keep hb).mono hb.size, Nat.lt_of_lt_of_le hl hb.size⟩
theorem To.facts (h : To w a f sa sc W) : W.cell? ⟨w.heap.size, 0, none⟩ = some (.int .i64 a.rule) ∧ W.cell? ⟨w.heap.size, 1, none⟩ = some (.int .u8 (a.byte.toNat : Int)) ∧ W.cell? ⟨w.heap.size, 2, none⟩ = some (.slice sa a.kids.length sc) := ⟨h.a0, h.a1, h.a2⟩
theorem To.start (w : World) (a : Tr) (f : Nat) (sa : Option Addr) (sc : Nat) (hk : TAt w w.heap.size f sa a.kids) : To w a f sa sc (w.alloc (.cells #[.int .i64 a.rule, .int .u8 (a.byte.toNat : Int), .slice sa a.kids.length sc] 27)) := by
  have hb := (Below.refl w.heap.size w).alloc (Nat.le_refl _) (.cells #[.int .i64 a.rule, .int .u8 (a.byte.toNat : Int), .slice sa a.kids.length sc] 27)
  exact ⟨hb, cell_new 0 rfl, cell_new 1 rfl, cell_new 2 rfl, (hk.keep hb).mono hb.size, by simp⟩
end
set_option maxRecDepth 100000 in
set_option maxHeartbeats 8000000 in
theorem treesWrites_walk (a : Tr) (sa : Option Addr) (sc f : Nat) (w : World) (hka : TAt w w.heap.size f sa a.kids) (hsc : a.kids.length ≤ sc) (hTab : Tab w.heap.size w) :
    Calls Tryd.prog 7 #[.agg #[.int .i64 a.rule, .int .u8 (a.byte.toNat : Int), .slice sa a.kids.length sc]] w fun e w' => e = .returned (.bool true) ∧ Below w.heap.size w w' := by
  have T0 := To.start w a f sa sc hka
  obtain ⟨w2, hw2⟩ : ∃ w2, w.alloc (.cells #[.int .i64 a.rule, .int .u8 (a.byte.toNat : Int), .slice sa a.kids.length sc] 27) = w2 := ⟨_, rfl⟩
  rw [hw2] at T0
  obtain ⟨e0, e1, e2⟩ := T0.facts
  have HT0 : Hid _ := T0
  have HALV : Hid (∀ W, To w a f sa sc W → Calls Tryd.prog 15 #[] W fun e w' => e = .returned (.bool true) ∧ Below W.heap.size W w') := fun W h => alive_any W (hTab.nx h.bel)
  have HHA : Hid (∀ W, To w a f sa sc W → Calls Tryd.prog 13 #[.agg #[.int .i64 a.rule, .int .u8 (a.byte.toNat : Int), .slice sa a.kids.length sc]] W fun e w' => e = .returned (.bool (decide (1500 < sz a))) ∧ Below W.heap.size W w') := fun W h => heavy_any a sa sc f W h.ka
  by_cases ha : 1500 < sz a
  · rw [decide_eq_true ha] at HHA
    clear ha T0 hka hTab
    go_enter Tryd.func7, Tryd.ntmps7
    go_wp2_with (go_at_call 13; refine (HHA.out _ HT0.out).mono ?_; rintro e w3 ⟨rfl, hb3⟩; have HT3 : Hid _ := HT0.out.nx hb3; clear hb3)
    refine (HALV.out _ HT3.out).mono ?_
    rintro e w4 ⟨rfl, hb4⟩
    have HT4 : Hid _ := HT3.out.nx hb4
    clear hb4
    go_wp2
    go_ret
    exact ⟨rfl, HT4.out.bel⟩
  · rw [decide_eq_false ha] at HHA
    have HP1 : Hid (∀ W, To w a f sa sc W → Calls Tryd.prog 33 #[.agg #[.int .i64 a.rule, .int .u8 (a.byte.toNat : Int), .slice sa a.kids.length sc]] W fun e w' => e = .returned (.tuple #[.string (prt a).1, .int .i64 (prt a).2]) ∧ Below W.heap.size W w') := fun W h => print_any a sa sc f W h.ka hsc (by omega) (hTab.nx h.bel)
    have HP2 : Hid (∀ W, To w a f sa sc W → Calls Tryd.prog 34 #[.agg #[.int .i64 a.rule, .int .u8 (a.byte.toNat : Int), .slice sa a.kids.length sc]] W fun e w' => e = .returned (.tuple #[.string (prt a).1, .int .i64 (prt a).2]) ∧ Below W.heap.size W w') := fun W h => refPrint_any a sa sc f W h.ka (by omega)
    generalize (prt a).1 = p1 at HP1 HP2
    generalize (prt a).2 = p2 at HP1 HP2
    clear ha T0 hka hTab
    go_enter Tryd.func7, Tryd.ntmps7
    go_wp2_with (go_at_call 13; refine (HHA.out _ HT0.out).mono ?_; rintro e w3 ⟨rfl, hb3⟩; have HT3 : Hid _ := HT0.out.nx hb3; clear hb3; obtain ⟨e0, e1, e2⟩ := HT3.out.facts)
    refine (HP1.out _ HT3.out).mono ?_
    rintro e w4 ⟨rfl, hb4⟩
    have HT4 : Hid _ := HT3.out.nx hb4
    clear hb4
    obtain ⟨e0, e1, e2⟩ := HT4.out.facts
    go_wp2_with (go_at_call 34; refine (HP2.out _ HT4.out).mono ?_; rintro e w5 ⟨rfl, hb5⟩; have HT5 : Hid _ := HT4.out.nx hb5; clear hb5)
    refine (HALV.out _ HT5.out).mono ?_
    rintro e w6 ⟨rfl, hb6⟩
    have HT6 : Hid _ := HT5.out.nx hb6
    clear hb6
    go_wp2
    go_ret
    exact ⟨by simp, HT6.out.bel⟩
end Go.Proofs.YtlnlkbkmnkjbhaaDoor
