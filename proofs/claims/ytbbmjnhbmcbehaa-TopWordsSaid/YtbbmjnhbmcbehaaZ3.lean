/- The law TopWords, walked. -/
import Derived.Test.YtbbmjnhbmcbehaaZ2
import Derived.Test.YtbbmjnhbmcbehaaB1
namespace Go.Proofs.Ytbbmjnhbmcbehaa
open Go.RowKit
theorem cat_eq (l m : List UInt8) : (⟨l.toArray⟩ : ByteArray) ++ ⟨m.toArray⟩ = ⟨(l ++ m).toArray⟩ := by
  apply ByteArray.ext; simp [ByteArray.data_append]
theorem cat_run (l m : List UInt8) (h : l.length + m.length ≤ 100000) (W : World) : (Op.stringOp .add ⟨l.toArray⟩ ⟨m.toArray⟩).run Try.prog W = .ok (.string ⟨(l ++ m).toArray⟩) W := by
  rw [run_string_add_sum W _ _ (by simp [ByteArray.size]; omega), cat_eq]
/-- What stands while the law's last line is reckoned. -/
structure Tb (w : World) (B g : Nat) (CS : Nat → Option Value) (v : Value) (s : St) (a : Option Addr) (L : List Nat) (W : World) : Prop where
  box : Blk W B 33 #[.int .u64 s.a, .int .u64 s.b, .int .u64 s.c, .int .u64 s.d]
  lt : g < W.heap.size
  cs : ∀ j, W.cell? ⟨g, j, none⟩ = CS j
  row : W.ownsRow w.heap.size 5 1 v L.length (bytesV L)
  ra : Row W a L
  bel : Below w.heap.size w W
theorem Tb.drew {w W : World} {B g : Nat} {CS : Nat → Option Value} {v : Value} {s : St} {a : Option Addr} {L : List Nat} (h : Tb w B g CS v s a L W) : Tb w B g CS v s a L W.drew := ⟨h.box, h.lt, h.cs, h.row, h.ra, h.bel.drew⟩
theorem Tb.nx {w W W' : World} {B g : Nat} {CS : Nat → Option Value} {v : Value} {s : St} {a : Option Addr} {L : List Nat} (hb : Below W.heap.size W W') (h : Tb w B g CS v s a L W) : Tb w B g CS v s a L W' :=
  ⟨h.box.after hb, Nat.lt_of_lt_of_le h.lt hb.size, fun j => (hb.cell (p := ⟨g, j, none⟩) h.lt).trans (h.cs j), row_below h.row hb, h.ra.below hb (Nat.le_refl _), below_of h.bel hb⟩
def CSok (CS : Nat → Option Value) (s : St) (v : Value) : Prop :=
  CS 0 = some (.int .i64 5) ∧ CS 3 = some (.int .u64 s.a) ∧ CS 4 = some (.int .u64 s.b) ∧ CS 5 = some (.int .u64 s.c) ∧ CS 6 = some (.int .u64 s.d) ∧ CS 11 = some (.int .i64 4) ∧ CS 13 = some v ∧ CS 22 = some (.int .i64 7)
theorem Tb.facts {w W : World} {B g : Nat} {CS : Nat → Option Value} {v : Value} {s : St} {a : Option Addr} {L : List Nat} (h : Tb w B g CS v s a L W) (hc : CSok CS s v) (c : Nat) {SL : ByteArray} (h1 : strN L = SL) :
    W.cell? ⟨B, 0, none⟩ = some (.int .u64 s.a) ∧ W.cell? ⟨B, 1, none⟩ = some (.int .u64 s.b) ∧ W.cell? ⟨B, 2, none⟩ = some (.int .u64 s.c) ∧ W.cell? ⟨B, 3, none⟩ = some (.int .u64 s.d)
    ∧ W.cell? ⟨g, 0, none⟩ = some (.int .i64 5) ∧ W.cell? ⟨g, 3, none⟩ = some (.int .u64 s.a) ∧ W.cell? ⟨g, 4, none⟩ = some (.int .u64 s.b) ∧ W.cell? ⟨g, 5, none⟩ = some (.int .u64 s.c) ∧ W.cell? ⟨g, 6, none⟩ = some (.int .u64 s.d) ∧ W.cell? ⟨g, 11, none⟩ = some (.int .i64 4) ∧ W.cell? ⟨g, 13, none⟩ = some v ∧ W.cell? ⟨g, 22, none⟩ = some (.int .i64 7)
    ∧ (convert 30 9 v).run Try.prog W = .ok (.string SL) W ∧ (convert 30 9 (.slice a L.length c)).run Try.prog W = .ok (.string SL) W := by
  obtain ⟨c0, c3, c4, c5, c6, c11, c13, c22⟩ := hc
  exact ⟨h.box.cell 0 rfl, h.box.cell 1 rfl, h.box.cell 2 rfl, h.box.cell 3 rfl, (h.cs 0).trans c0, (h.cs 3).trans c3, (h.cs 4).trans c4, (h.cs 5).trans c5, (h.cs 6).trans c6, (h.cs 11).trans c11, (h.cs 13).trans c13, (h.cs 22).trans c22, by rw [← h1]; exact row_conv h.row, by rw [← h1]; exact arg_conv h.ra c⟩
set_option maxRecDepth 100000 in
set_option maxHeartbeats 4000000 in
theorem top_walk (s : St) (hs : s.ok) (L : List Nat) (a : Option Addr) (c : Nat) (hL : ∀ n ∈ L, n < 256) (hm : L.length ≤ maxLen) (w : World) (ha : Row w a L) :
    Calls Try.prog 11 #[.agg #[.int .u64 s.a, .int .u64 s.b, .int .u64 s.c, .int .u64 s.d], .slice a L.length c] w fun e w' => e = .returned (.bool true) ∧ Below w.heap.size w w' := by
  unfold maxLen at hm
  have HL : Hid _ := fun w => topalive_any w
  have hbA : Below w.heap.size w (w.alloc (.cells #[.int .u64 s.a, .int .u64 s.b, .int .u64 s.c, .int .u64 s.d] 33)) := (Below.refl _ _).alloc (Nat.le_refl _) _
  by_cases h1 : 10000 < L.length
  · have h1' : (10000 : Int) < L.length := by omega
    go_enter Try.func11, Try.ntmps11
    go_wp2_with (go_at_call 27; refine (HL.out _).mono ?_; rintro e w1 ⟨rfl, hb1⟩)
    go_ret
    exact ⟨rfl, below_of hbA hb1⟩
  have h1' : (L.length : Int) ≤ 10000 := by omega
  have HA : Hid _ := fun (W : World) (hr : Row W a L) => quote_any L a c W hL (by omega) hr
  have HP : Hid _ := fun (W : World) => print_any s hs W
  obtain ⟨d1, d2, d3, hsc, k1, k2, k3, k4, k5⟩ := top_words s hs L hL (by omega)
  have hpl := print_len s
  have hql := quoteL_len L hL
  have hcat := cat_run (printL s) (quoteL L) (by omega)
  have HS : Hid _ := fun (W : World) => scan_any ⟨(printL s ++ quoteL L).toArray⟩ W
  rw [show (⟨(printL s ++ quoteL L).toArray⟩ : ByteArray).data.toList = printL s ++ quoteL L from rfl, hsc] at HS
  obtain ⟨X, hX⟩ : ∃ X : ByteArray, (⟨(printL s ++ quoteL L).toArray⟩ : ByteArray) = X := ⟨_, rfl⟩
  obtain ⟨SL, hSL⟩ : ∃ q : ByteArray, strN L = q := ⟨_, rfl⟩
  rw [hX] at HS hcat
  obtain ⟨XP, hXP⟩ : ∃ X : ByteArray, (⟨(printL s).toArray⟩ : ByteArray) = X := ⟨_, rfl⟩
  obtain ⟨XQ, hXQ⟩ : ∃ X : ByteArray, (⟨(quoteL L).toArray⟩ : ByteArray) = X := ⟨_, rfl⟩
  rw [hXP] at HP hcat
  rw [hXQ] at HA hcat
  have HSL : Hid _ := hSL
  clear hX hXP hXQ hSL hsc hpl hql h1
  have haA : Row (w.alloc (.cells #[.int .u64 s.a, .int .u64 s.b, .int .u64 s.c, .int .u64 s.d] 33)) a L := ha.below hbA (Nat.le_refl _)
  go_enter Try.func11, Try.ntmps11
  go_wp2_with (go_at_call 28; refine (HP.out _).mono ?_)
  rintro e w1 ⟨rfl, hb1⟩
  have ha1 := haA.below hb1 (Nat.le_refl _)
  go_wp2_with (go_at_call 18; refine (HA.out _ ha1).mono ?_)
  rintro e w2 ⟨rfl, hb2⟩
  have ha2 := ha1.below hb2 (Nat.le_refl _)
  go_wp2_with (go_at_call 13; refine (HS.out _).mono ?_)
  rintro e w3 ⟨lv, L', rfl, hL', hW, hb3⟩
  simp only at hL'
  obtain ⟨v1, v2, v3, rfl⟩ : ∃ v1 v2 v3, L' = [(d1, v1), (d2, v2), (d3, v3)] := by
    match L', hL' with
    | [(a1, b1), (a2, b2), (a3, b3)], h =>
      simp only [List.map_cons, List.map_nil, List.cons.injEq, and_true] at h
      obtain ⟨rfl, rfl, rfl⟩ := h
      exact ⟨_, _, _, rfl⟩
  clear hL'
  have hrow := hW.row
  have hv := hW.bytes (d2, v2) (by simp)
  simp only [k4] at hv
  have hlen : [(d1, v1), (d2, v2), (d3, v3)].length = 3 := rfl
  rw [hlen] at hrow
  obtain ⟨g, cap, rfl⟩ := ownsRow_succ hrow
  have hg := (hrow.lt g rfl).2
  have hcs : CSok (fun j => w3.cell? ⟨g, j, none⟩) s v2 := by
    have q0 := fun j hj => (hrow.cellAt (0 * 11 + j) (by omega)).trans (wcells_get [(d1, v1), (d2, v2), (d3, v3)] 0 j (d1, v1) rfl hj)
    have q1 := fun j hj => (hrow.cellAt (1 * 11 + j) (by omega)).trans (wcells_get [(d1, v1), (d2, v2), (d3, v3)] 1 j (d2, v2) rfl hj)
    have q2 := fun j hj => (hrow.cellAt (2 * 11 + j) (by omega)).trans (wcells_get [(d1, v1), (d2, v2), (d3, v3)] 2 j (d3, v3) rfl hj)
    have c0 := q0 0 (by decide)
    have c3 := q0 3 (by decide)
    have c4 := q0 4 (by decide)
    have c5 := q0 5 (by decide)
    have c6 := q0 6 (by decide)
    have c11 := q1 0 (by decide)
    have c13 := q1 2 (by decide)
    have c22 := q2 0 (by decide)
    simp [wcell, k1, k2, k3, k5] at c0 c3 c4 c5 c6 c11 c13 c22
    exact ⟨c0, c3, c4, c5, c6, c11, c13, c22⟩
  have hB3 := below_of (below_of (below_of hbA hb1) hb2) hb3
  have hbx := (((Blk.new w 33 #[.int .u64 s.a, .int .u64 s.b, .int .u64 s.c, .int .u64 s.d]).after hb1).after hb2).after hb3
  have T : Tb w w.heap.size g (fun j => w3.cell? ⟨g, j, none⟩) v2 s a L w3 := ⟨hbx, hg, fun _ => rfl, row_mono hv (Nat.le_trans (Nat.le_trans hbA.size hb1.size) hb2.size), ha2.below hb3 (Nat.le_refl _), hB3⟩
  obtain ⟨va, vc, rfl⟩ := row_slice hv
  generalize (fun j => w3.cell? ⟨g, j, none⟩) = CS at *
  simp only [fv]
  have HC : Hid _ := hcs
  clear hcs hv hrow hg hW hB3 hbx hb1 hb2 hb3 ha ha1 ha2 haA hbA k1 k2 k3 k4 k5 HA HP HS hcat hlen
  rw [show ((0 : Nat) : Int) = 0 from rfl]
  go_wp2
  have T' := T.nx ((Below.refl _ _).alloc (Nat.le_refl _) (.cells #[.int .i64 0, .int .i64 0] 26))
  obtain ⟨W0, hW0⟩ : ∃ W0, w3.alloc (.cells #[.int .i64 0, .int .i64 0] 26) = W0 := ⟨_, rfl⟩
  rw [hW0] at T' ⊢
  clear hW0 T
  have E0 : ∀ w, (Op.equalIn 10000 33 (.agg #[.int .u64 s.a, .int .u64 s.b, .int .u64 s.c, .int .u64 s.d]) (.agg #[.int .u64 s.a, .int .u64 s.b, .int .u64 s.c, .int .u64 s.d])).run Try.prog w = .ok true w := fun w => by rw [eq26, (St.same_eq _ _).2 rfl]
  have T := T'
  clear T'
  have TC := T.facts HC.out c HSL.out
  go_region_held3 (fun W' => W'.cell? ⟨w.heap.size, 0, none⟩ = some (.int .u64 s.a) ∧ W'.cell? ⟨w.heap.size, 1, none⟩ = some (.int .u64 s.b) ∧ W'.cell? ⟨w.heap.size, 2, none⟩ = some (.int .u64 s.c) ∧ W'.cell? ⟨w.heap.size, 3, none⟩ = some (.int .u64 s.d) ∧ W'.cell? ⟨g, 0, none⟩ = some (.int .i64 5) ∧ W'.cell? ⟨g, 3, none⟩ = some (.int .u64 s.a) ∧ W'.cell? ⟨g, 4, none⟩ = some (.int .u64 s.b) ∧ W'.cell? ⟨g, 5, none⟩ = some (.int .u64 s.c) ∧ W'.cell? ⟨g, 6, none⟩ = some (.int .u64 s.d) ∧ W'.cell? ⟨g, 11, none⟩ = some (.int .i64 4) ∧ W'.cell? ⟨g, 13, none⟩ = some (.slice va L.length vc) ∧ W'.cell? ⟨g, 22, none⟩ = some (.int .i64 7) ∧ (convert 30 9 (.slice va L.length vc)).run Try.prog W' = .ok (.string SL) W' ∧ (convert 30 9 (.slice a L.length c)).run Try.prog W' = .ok (.string SL) W') (first | exact T.facts HC.out c HSL.out | exact T.drew.facts HC.out c HSL.out) (first | (go_at_call 27; refine (HL.out _).mono ?_; rintro e w5 ⟨rfl, hb5⟩; replace T : Tb w w.heap.size g CS (.slice va L.length vc) s a L w5 := (by first | exact Tb.nx hb5 T | exact Tb.nx hb5 T.drew); clear hb5))
  all_goals go_wp2
  all_goals go_ret
  all_goals exact ⟨rfl, T.bel⟩
end Go.Proofs.Ytbbmjnhbmcbehaa
