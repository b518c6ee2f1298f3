/- The law TreesTell, walked. -/
import Derived.Test.YtlnlkbkmnkjbhaaDoorSd
import Derived.Test.YtlnlkbkmnkjbhaaDoorSf
import Derived.Test.YtlnlkbkmnkjbhaaDoorEe
import Derived.Test.YtlnlkbkmnkjbhaaDoorLl
import Derived.Deep.RegionHeld3
namespace Go.Proofs.YtlnlkbkmnkjbhaaDoor
open Go.RowKit

/-- A tree in its box, and a list of spans. -/
structure Ty (w : World) (a : Tr) (f : Nat) (sa : Option Addr) (sc : Nat) (sp : List (Nat × Nat)) (v : Value) (W : World) : Prop where
  bel : Below w.heap.size w W
  a0 : W.cell? ⟨w.heap.size, 0, none⟩ = some (.int .i64 a.rule)
  a1 : W.cell? ⟨w.heap.size, 1, none⟩ = some (.int .u8 (a.byte.toNat : Int))
  a2 : W.cell? ⟨w.heap.size, 2, none⟩ = some (.slice sa a.kids.length sc)
  ka : TAt W W.heap.size f sa a.kids
  lt : w.heap.size < W.heap.size
  row : W.ownsRow (w.heap.size + 1) 58 2 v sp.length (rcs sp)
section
variable {w : World} {a : Tr} {f : Nat} {sa : Option Addr} {sc : Nat} {sp : List (Nat × Nat)} {v : Value} {W W' : World}
theorem Ty.nx (hb : Below W.heap.size W W') (h : Ty w a f sa sc sp v W) : Ty w a f sa sc sp v W' := by
  have hl := h.lt
  have k : ∀ b q, b < W.heap.size → W'.cell? ⟨b, q, none⟩ = W.cell? ⟨b, q, none⟩ := fun b q hlt => hb.cell (p := ⟨b, q, none⟩) hlt
  exact ⟨below_of h.bel hb, (k _ _ hl).trans h.a0, (k _ _ hl).trans h.a1, (k _ _ hl).trans h.a2, (h.ka.keep hb).mono hb.size, Nat.lt_of_lt_of_le hl hb.size, row_below h.row hb⟩
theorem Ty.drew (h : Ty w a f sa sc sp v W) : Ty w a f sa sc sp v W.drew := Ty.nx (show Below W.heap.size W W.drew from ⟨rfl, rfl, rfl, Nat.le_refl _, fun _ _ => rfl⟩) h
theorem Ty.facts (h : Ty w a f sa sc sp v W) : W.cell? ⟨w.heap.size, 0, none⟩ = some (.int .i64 a.rule) ∧ W.cell? ⟨w.heap.size, 1, none⟩ = some (.int .u8 (a.byte.toNat : Int)) ∧ W.cell? ⟨w.heap.size, 2, none⟩ = some (.slice sa a.kids.length sc) := ⟨h.a0, h.a1, h.a2⟩
theorem Ty.start (w : World) (a : Tr) (f : Nat) (sa : Option Addr) (sc : Nat) (hk : TAt w w.heap.size f sa a.kids) : Ty w a f sa sc [] (.slice none 0 0) (w.alloc (.cells #[.int .i64 a.rule, .int .u8 (a.byte.toNat : Int), .slice sa a.kids.length sc] 27)) := by
  have hb := (Below.refl w.heap.size w).alloc (Nat.le_refl _) (.cells #[.int .i64 a.rule, .int .u8 (a.byte.toNat : Int), .slice sa a.kids.length sc] 27)
  exact ⟨hb, cell_new 0 rfl, cell_new 1 rfl, cell_new 2 rfl, (hk.keep hb).mono hb.size, by simp, World.ownsRow_nil _ _ _ _⟩
theorem Ty.with (h : Ty w a f sa sc sp v W) {sq : List (Nat × Nat)} {u : Value} (hr : W.ownsRow (w.heap.size + 1) 58 2 u sq.length (rcs sq)) : Ty w a f sa sc sq u W := ⟨h.bel, h.a0, h.a1, h.a2, h.ka, h.lt, hr⟩
end
/-- A row of bytes is turned into a text, here and later. -/
def CvAt (w : World) (v : Value) (bs : ByteArray) : Prop := ∀ W', Below w.heap.size w W' → (convert 40 9 v).run Tryd.prog W' = .ok (.string bs) W'
theorem cvAt {w : World} {B : Nat} {v : Value} {l : List UInt8} (h : w.ownsRow B 5 1 v l.length (bvs l)) : CvAt w v (bstr l) := fun _ hb => row_conv (row_ab h (fun g hg => hb.block g (h.lt g hg).2))
theorem CvAt.nx {w w' : World} {v : Value} {bs : ByteArray} (h : CvAt w v bs) (hb : Below w.heap.size w w') : CvAt w' v bs := fun W' hW => h W' (below_of hb hW)
theorem CvAt.here {w : World} {v : Value} {bs : ByteArray} (h : CvAt w v bs) : (convert 40 9 v).run Tryd.prog w = .ok (.string bs) w := h w (Below.refl _ _)
set_option maxRecDepth 100000 in
set_option maxHeartbeats 8000000 in
theorem treesTell_walk (a : Tr) (sa : Option Addr) (sc f : Nat) (w : World) (hka : TAt w w.heap.size f sa a.kids) (hsc : a.kids.length ≤ sc) (hTab : Tab w.heap.size w) :
    Calls Tryd.prog 4 #[.agg #[.int .i64 a.rule, .int .u8 (a.byte.toNat : Int), .slice sa a.kids.length sc]] w fun e w' => e = .returned (.bool true) ∧ Below w.heap.size w w' := by
  have T0 := Ty.start w a f sa sc hka
  obtain ⟨w2, hw2⟩ : ∃ w2, w.alloc (.cells #[.int .i64 a.rule, .int .u8 (a.byte.toNat : Int), .slice sa a.kids.length sc] 27) = w2 := ⟨_, rfl⟩
  rw [hw2] at T0
  obtain ⟨e0, e1, e2⟩ := T0.facts
  have HT0 : Hid _ := T0
  have HALV : Hid (∀ W sp v, Ty w a f sa sc sp v W → Calls Tryd.prog 15 #[] W fun e w' => e = .returned (.bool true) ∧ Below W.heap.size W w') := fun W sp v h => alive_any W (hTab.nx h.bel)
  have HHA : Hid (∀ W sp v, Ty w a f sa sc sp v W → Calls Tryd.prog 13 #[.agg #[.int .i64 a.rule, .int .u8 (a.byte.toNat : Int), .slice sa a.kids.length sc]] W fun e w' => e = .returned (.bool (decide (1500 < sz a))) ∧ Below W.heap.size W w') := fun W sp v h => heavy_any a sa sc f W h.ka
  by_cases ha : 1500 < sz a
  · rw [decide_eq_true ha] at HHA
    clear ha T0 hka hTab
    go_enter Tryd.func4, Tryd.ntmps4
    go_wp2_with (go_at_call 13; refine (HHA.out _ _ _ HT0.out).mono ?_; rintro e w3 ⟨rfl, hb3⟩; have HT3 : Hid _ := HT0.out.nx hb3; clear hb3)
    refine (HALV.out _ _ _ HT3.out).mono ?_
    rintro e w4 ⟨rfl, hb4⟩
    have HT4 : Hid _ := HT3.out.nx hb4
    clear hb4
    go_wp2
    go_ret
    exact ⟨rfl, HT4.out.bel⟩
  · rw [decide_eq_false ha] at HHA
    have HZ1 : Hid (∀ W sp v, Ty w a f sa sc sp v W → Calls Tryd.prog 20 #[.agg #[.int .i64 a.rule, .int .u8 (a.byte.toNat : Int), .slice sa a.kids.length sc]] W fun e w' => e = .returned (.tuple #[.int .i64 (sz a : Int), .int .i64 (dp a : Int)]) ∧ Below W.heap.size W w') := fun W sp v h => size_any a sa sc f W h.ka hsc (by omega)
    have HZ2 : Hid (∀ W sp v, Ty w a f sa sc sp v W → Calls Tryd.prog 21 #[.agg #[.int .i64 a.rule, .int .u8 (a.byte.toNat : Int), .slice sa a.kids.length sc]] W fun e w' => e = .returned (.tuple #[.int .i64 (sz a : Int), .int .i64 (dp a : Int)]) ∧ Below W.heap.size W w') := fun W sp v h => refSize_any f (sz a) a sa sc W (Nat.le_refl _) h.ka (by omega)
    have HSP : Hid (∀ W sp v, Ty w a f sa sc sp v W → Calls Tryd.prog 22 #[.agg #[.int .i64 a.rule, .int .u8 (a.byte.toNat : Int), .slice sa a.kids.length sc]] W fun e w' => (∃ va vc, e = .returned (.slice va (spn a 0 false).length vc) ∧ w'.ownsRow (w.heap.size + 1) 58 2 (.slice va (spn a 0 false).length vc) (spn a 0 false).length (rcs (spn a 0 false))) ∧ Below W.heap.size W w') := fun W sp v h => by
      refine (spans_any a sa sc f W h.ka hsc (by omega)).mono ?_
      rintro e w' ⟨⟨v, rfl, hr⟩, hb⟩
      obtain ⟨va, vc, rfl⟩ := row_slice hr
      exact ⟨⟨va, vc, rfl, row_base hr h.lt⟩, hb⟩
    have HRS : Hid (∀ W sp v, Ty w a f sa sc sp v W → Calls Tryd.prog 26 #[.agg #[.int .i64 a.rule, .int .u8 (a.byte.toNat : Int), .slice sa a.kids.length sc]] W fun e w' => (∃ va vc, e = .returned (.slice va (spn a 0 false).length vc) ∧ w'.ownsRow (w.heap.size + 1) 58 2 (.slice va (spn a 0 false).length vc) (spn a 0 false).length (rcs (spn a 0 false))) ∧ Below W.heap.size W w') := fun W sp v h => by
      refine (refSpans_any a sa sc f W h.ka (by omega)).mono ?_
      rintro e w' ⟨⟨v, rfl, hr⟩, hb⟩
      obtain ⟨va, vc, rfl⟩ := row_slice hr
      exact ⟨⟨va, vc, rfl, row_base hr h.lt⟩, hb⟩
    have HY1 : Hid (∀ W sp v, Ty w a f sa sc sp v W → Calls Tryd.prog 23 #[.agg #[.int .i64 a.rule, .int .u8 (a.byte.toNat : Int), .slice sa a.kids.length sc]] W fun e w' => (∃ v, e = .returned v ∧ CvAt w' v (bstr (yl a))) ∧ Below W.heap.size W w') := fun W sp v h => by
      refine (yield_any a sa sc f W h.ka hsc (by omega)).mono ?_
      rintro e w' ⟨⟨v, rfl, hr⟩, hb⟩
      exact ⟨⟨v, rfl, cvAt hr⟩, hb⟩
    have HY2 : Hid (∀ W sp v, Ty w a f sa sc sp v W → Calls Tryd.prog 24 #[.agg #[.int .i64 a.rule, .int .u8 (a.byte.toNat : Int), .slice sa a.kids.length sc]] W fun e w' => (∃ v, e = .returned v ∧ CvAt w' v (bstr (yl a))) ∧ Below W.heap.size W w') := fun W sp v h => by
      refine (refYield_any f (sz a) a sa sc W (Nat.le_refl _) h.ka (by omega)).mono ?_
      rintro e w' ⟨⟨v, rfl, hr⟩, hb⟩
      exact ⟨⟨v, rfl, cvAt hr⟩, hb⟩
    have hspl : (spn a 0 false).length ≤ 1000000000000 := by rw [spn_len]; omega
    have HSR : Hid (∀ W v v2, Ty w a f sa sc (spn a 0 false) v W → W.ownsRow (w.heap.size + 1) 58 2 v2 (spn a 0 false).length (rcs (spn a 0 false)) → Calls Tryd.prog 25 #[v, v2] W fun e w' => e = .returned (.bool true) ∧ Below W.heap.size W w') := fun W v v2 h h2 => by
      refine (sameRuns_any hspl h.row h2).mono ?_
      rintro e w' ⟨rfl, n, rfl⟩
      exact ⟨rfl, ⟨rfl, rfl, rfl, Nat.le_refl _, fun _ _ => rfl⟩⟩
    generalize spn a 0 false = sp at *
    generalize bstr (yl a) = bs at *
    clear ha T0 hka hTab hspl
    go_enter Tryd.func4, Tryd.ntmps4
    go_wp2_with (go_at_call 13; refine (HHA.out _ _ _ HT0.out).mono ?_; rintro e w3 ⟨rfl, hb3⟩; have HT3 : Hid _ := HT0.out.nx hb3; clear hb3; obtain ⟨e0, e1, e2⟩ := HT3.out.facts)
    refine (HZ1.out _ _ _ HT3.out).mono ?_
    rintro e w4 ⟨rfl, hb4⟩
    have HT4 : Hid _ := HT3.out.nx hb4
    clear hb4
    obtain ⟨e0, e1, e2⟩ := HT4.out.facts
    go_wp2_with (go_at_call 21; refine (HZ2.out _ _ _ HT4.out).mono ?_; rintro e w5 ⟨rfl, hb5⟩; have HT5 : Hid _ := HT4.out.nx hb5; clear hb5; obtain ⟨e0, e1, e2⟩ := HT5.out.facts)
    refine (HSP.out _ _ _ HT5.out).mono ?_
    rintro e w6 ⟨⟨va, vc, rfl, hr6⟩, hb6⟩
    have T := (HT5.out.nx hb6).with hr6
    clear hb6 hr6
    go_wp2
    clear e0 e1 e2 HT5 HT4 HT3 HT0 HHA HZ1 HZ2 HSP
    refine wp_region_held_drew (S := (fun W => W.cell? ⟨w.heap.size, 0, none⟩ = some (.int .i64 a.rule) ∧ W.cell? ⟨w.heap.size, 1, none⟩ = some (.int .u8 (a.byte.toNat : Int)) ∧ W.cell? ⟨w.heap.size, 2, none⟩ = some (.slice sa a.kids.length sc))) (by kernel_rfl) T.drew.facts (fun hHeld => ?_)
    refine wpAnyH_ready (rs := [0]) (by kernel_rfl) (by simp) ?_
    refine (AllReadyH.cons rfl (fun K hK => ?_) AllReadyH.nil)
    go_simp
    refine (HALV.out _ _ _ T.drew).mono ?_
    rintro e w7 ⟨rfl, hb7⟩
    replace T := Ty.nx hb7 T.drew
    clear hb7
    go_wp2_with fail
    refine hK.out _ _ T.facts (fun hHeld => ?_)
    clear hK K
    try simp only [Act.put, List.getElem_toArray, List.getElem_cons_zero, List.getElem_cons_succ, List.setIfInBounds_toArray, List.set_cons_zero, List.set_cons_succ]
    refine wpAnyH_take (i := 1) (v := ?v1) rfl (by kernel_rfl) (by kernel_rfl) (by kernel_rfl) (fun _ _ _ h => h) (Or.inl ⟨by rfl, ?y1⟩) (by assumption) ?_
    case y1 => (intro w hSw; (try dsimp only at hSw); go_simp <;> with_reducible rfl)
    try simp only [Act.put, List.getElem_toArray, List.getElem_cons_zero, List.getElem_cons_succ, List.setIfInBounds_toArray, List.set_cons_zero, List.set_cons_succ]
    refine wpAnyH_take (i := 2) (v := ?v2) rfl (by kernel_rfl) (by kernel_rfl) (by kernel_rfl) (fun _ _ _ h => h) (Or.inl ⟨by rfl, ?y2⟩) (by assumption) ?_
    case y2 => (intro w hSw; (try dsimp only at hSw); go_simp <;> with_reducible rfl)
    try simp only [Act.put, List.getElem_toArray, List.getElem_cons_zero, List.getElem_cons_succ, List.setIfInBounds_toArray, List.set_cons_zero, List.set_cons_succ]
    refine wpAnyH_take (i := 3) (v := ?v3) rfl (by kernel_rfl) (by kernel_rfl) (by kernel_rfl) (fun _ _ _ h => h) (Or.inl ⟨by rfl, ?y3⟩) (by assumption) ?_
    case y3 => (intro w hSw; (try dsimp only at hSw); go_simp <;> with_reducible rfl)
    try simp only [Act.put, List.getElem_toArray, List.getElem_cons_zero, List.getElem_cons_succ, List.setIfInBounds_toArray, List.set_cons_zero, List.set_cons_succ]
    refine wpAnyH_take (i := 4) (v := ?v4) rfl (by kernel_rfl) (by kernel_rfl) (by kernel_rfl) (fun _ _ _ h => h) (Or.inl ⟨by rfl, ?y4⟩) (by assumption) ?_
    case y4 => (intro w hSw; (try dsimp only at hSw); go_simp <;> with_reducible rfl)
    try simp only [Act.put, List.getElem_toArray, List.getElem_cons_zero, List.getElem_cons_succ, List.setIfInBounds_toArray, List.set_cons_zero, List.set_cons_succ]
    refine wpAnyH_take (i := 5) (v := ?v5) rfl (by kernel_rfl) (by kernel_rfl) (by kernel_rfl) (fun _ _ _ h => h) (Or.inl ⟨by rfl, ?y5⟩) (by assumption) ?_
    case y5 => (intro w hSw; (try dsimp only at hSw); go_simp <;> with_reducible rfl)
    try simp only [Act.put, List.getElem_toArray, List.getElem_cons_zero, List.getElem_cons_succ, List.setIfInBounds_toArray, List.set_cons_zero, List.set_cons_succ]
    refine wpAnyH_take (i := 6) (v := ?v6) rfl (by kernel_rfl) (by kernel_rfl) (by kernel_rfl) (fun _ _ _ h => h) (Or.inl ⟨by rfl, ?y6⟩) (by assumption) ?_
    case y6 => (intro w hSw; (try dsimp only at hSw); go_simp <;> with_reducible rfl)
    try simp only [Act.put, List.getElem_toArray, List.getElem_cons_zero, List.getElem_cons_succ, List.setIfInBounds_toArray, List.set_cons_zero, List.set_cons_succ]
    refine wpAnyH_take (i := 7) (v := ?v7) rfl (by kernel_rfl) (by kernel_rfl) (by kernel_rfl) (fun _ _ _ h => h) (Or.inl ⟨by rfl, ?y7⟩) (by assumption) ?_
    case y7 => (intro w hSw; (try dsimp only at hSw); go_simp <;> with_reducible rfl)
    try simp only [Act.put, List.getElem_toArray, List.getElem_cons_zero, List.getElem_cons_succ, List.setIfInBounds_toArray, List.set_cons_zero, List.set_cons_succ]
    refine wpAnyH_take (i := 8) (v := ?v8) rfl (by kernel_rfl) (by kernel_rfl) (by kernel_rfl) (fun _ _ _ h => h) (Or.inl ⟨by rfl, ?y8⟩) (by assumption) ?_
    case y8 => (intro w hSw; (try dsimp only at hSw); go_simp <;> with_reducible rfl)
    try simp only [Act.put, List.getElem_toArray, List.getElem_cons_zero, List.getElem_cons_succ, List.setIfInBounds_toArray, List.set_cons_zero, List.set_cons_succ]
    refine wpAnyH_take (i := 9) (v := ?v9) rfl (by kernel_rfl) (by kernel_rfl) (by kernel_rfl) (fun _ _ _ h => h) (Or.inl ⟨by rfl, ?y9⟩) (by assumption) ?_
    case y9 => (intro w hSw; (try dsimp only at hSw); go_simp <;> with_reducible rfl)
    try simp only [Act.put, List.getElem_toArray, List.getElem_cons_zero, List.getElem_cons_succ, List.setIfInBounds_toArray, List.set_cons_zero, List.set_cons_succ]
    refine wpAnyH_take (i := 10) (v := ?v10) rfl (by kernel_rfl) (by kernel_rfl) (by kernel_rfl) (fun _ _ _ h => h) (Or.inl ⟨by rfl, ?y10⟩) (by assumption) ?_
    case y10 => (intro w hSw; (try dsimp only at hSw); go_simp <;> with_reducible rfl)
    try simp only [Act.put, List.getElem_toArray, List.getElem_cons_zero, List.getElem_cons_succ, List.setIfInBounds_toArray, List.set_cons_zero, List.set_cons_succ]
    refine wpAnyH_take (i := 11) (v := ?v11) rfl (by kernel_rfl) (by kernel_rfl) (by kernel_rfl) (fun _ _ _ h => h) (Or.inl ⟨by rfl, ?y11⟩) (by assumption) ?_
    case y11 => (intro w hSw; (try dsimp only at hSw); go_simp <;> with_reducible rfl)
    try simp only [Act.put, List.getElem_toArray, List.getElem_cons_zero, List.getElem_cons_succ, List.setIfInBounds_toArray, List.set_cons_zero, List.set_cons_succ]
    refine wpAnyH_take (i := 12) (v := ?v12) rfl (by kernel_rfl) (by kernel_rfl) (by kernel_rfl) (fun _ _ _ h => h) (Or.inl ⟨by rfl, ?y12⟩) (by assumption) ?_
    case y12 => (intro w hSw; (try dsimp only at hSw); go_simp <;> with_reducible rfl)
    try simp only [Act.put, List.getElem_toArray, List.getElem_cons_zero, List.getElem_cons_succ, List.setIfInBounds_toArray, List.set_cons_zero, List.set_cons_succ]
    refine wpAnyH_take (i := 15) (v := ?v13) rfl (by kernel_rfl) (by kernel_rfl) (by kernel_rfl) (fun _ _ _ h => h) (Or.inl ⟨by rfl, ?y13⟩) (by assumption) ?_
    case y13 => (intro w hSw; (try dsimp only at hSw); go_simp <;> with_reducible rfl)
    try simp only [Act.put, List.getElem_toArray, List.getElem_cons_zero, List.getElem_cons_succ, List.setIfInBounds_toArray, List.set_cons_zero, List.set_cons_succ]
    refine wpAnyH_ready (rs := [13]) (by kernel_rfl) (by simp) ?_
    refine (AllReadyH.cons rfl (fun K hK => ?_) AllReadyH.nil)
    go_simp
    refine (HY1.out _ _ _ T).mono ?_
    rintro e w8 ⟨⟨v8, rfl, hv8⟩, hb8⟩
    have hc8 := hv8.here
    have Hv8 : Hid _ := fun (_ : Unit) => hv8
    replace T := Ty.nx hb8 T
    clear hb8 hv8
    go_wp2_with fail
    refine hK.out _ _ T.facts (fun hHeld => ?_)
    clear hK K
    try simp only [Act.put, List.getElem_toArray, List.getElem_cons_zero, List.getElem_cons_succ, List.setIfInBounds_toArray, List.set_cons_zero, List.set_cons_succ]
    refine wpAnyH_ready (rs := [14, 16]) (by kernel_rfl) (by simp) ?_
    refine (AllReadyH.cons rfl (fun K hK => ?_) (AllReadyH.cons rfl (fun K hK => ?_) AllReadyH.nil))
    · skip
      go_simp
      refine hK.out _ _ T.facts (fun hHeld => ?_)
      clear hK K
      try simp only [Act.put, List.getElem_toArray, List.getElem_cons_zero, List.getElem_cons_succ, List.setIfInBounds_toArray, List.set_cons_zero, List.set_cons_succ]
      refine wpAnyH_ready (rs := [16]) (by kernel_rfl) (by simp) ?_
      refine (AllReadyH.cons rfl (fun K hK => ?_) AllReadyH.nil)
      go_simp
      refine (HY2.out _ _ _ T).mono ?_
      rintro e w9 ⟨⟨v9, rfl, hv9⟩, hb9⟩
      have hc9 := hv9.here
      have hd8 := ((Hv8.out ()).nx hb9).here
      replace T := Ty.nx hb9 T
      clear hb9 hv9
      go_wp2_with fail
      refine hK.out _ _ T.facts (fun hHeld => ?_)
      clear hK K
      try simp only [Act.put, List.getElem_toArray, List.getElem_cons_zero, List.getElem_cons_succ, List.setIfInBounds_toArray, List.set_cons_zero, List.set_cons_succ]
      refine wpAnyH_ready (rs := [17]) (by kernel_rfl) (by simp) ?_
      refine (AllReadyH.cons rfl (fun K hK => ?_) AllReadyH.nil)
      go_simp
      refine hK.out _ _ T.facts (fun hHeld => ?_)
      clear hK K
      try simp only [Act.put, List.getElem_toArray, List.getElem_cons_zero, List.getElem_cons_succ, List.setIfInBounds_toArray, List.set_cons_zero, List.set_cons_succ]
      refine wpAnyH_take (i := 18) (v := ?v14) rfl (by kernel_rfl) (by kernel_rfl) (by kernel_rfl) (fun _ _ _ h => h) (Or.inl ⟨by rfl, ?y14⟩) (by assumption) ?_
      case y14 => (intro w hSw; (try dsimp only at hSw); go_simp <;> with_reducible rfl)
      try simp only [Act.put, List.getElem_toArray, List.getElem_cons_zero, List.getElem_cons_succ, List.setIfInBounds_toArray, List.set_cons_zero, List.set_cons_succ]
      refine wpAnyH_take (i := 19) (v := ?v15) rfl (by kernel_rfl) (by kernel_rfl) (by kernel_rfl) (fun _ _ _ h => h) (Or.inl ⟨by rfl, ?y15⟩) (by assumption) ?_
      case y15 => (intro w hSw; (try dsimp only at hSw); go_simp <;> with_reducible rfl)
      try simp only [Act.put, List.getElem_toArray, List.getElem_cons_zero, List.getElem_cons_succ, List.setIfInBounds_toArray, List.set_cons_zero, List.set_cons_succ]
      refine wpAnyH_take (i := 20) (v := ?v16) rfl (by kernel_rfl) (by kernel_rfl) (by kernel_rfl) (fun _ _ _ h => h) (Or.inl ⟨by rfl, ?y16⟩) (by assumption) ?_
      case y16 => (intro w hSw; (try dsimp only at hSw); go_simp <;> with_reducible rfl)
      try simp only [Act.put, List.getElem_toArray, List.getElem_cons_zero, List.getElem_cons_succ, List.setIfInBounds_toArray, List.set_cons_zero, List.set_cons_succ]
      refine wpAnyH_take (i := 21) (v := ?v17) rfl (by kernel_rfl) (by kernel_rfl) (by kernel_rfl) (fun _ _ _ h => h) (Or.inl ⟨by rfl, ?y17⟩) (by assumption) ?_
      case y17 => (intro w hSw; (try dsimp only at hSw); go_simp <;> with_reducible rfl)
      try simp only [Act.put, List.getElem_toArray, List.getElem_cons_zero, List.getElem_cons_succ, List.setIfInBounds_toArray, List.set_cons_zero, List.set_cons_succ]
      refine wpAnyH_take (i := 22) (v := ?v18) rfl (by kernel_rfl) (by kernel_rfl) (by kernel_rfl) (fun _ _ _ h => h) (Or.inl ⟨by rfl, ?y18⟩) (by assumption) ?_
      case y18 => (intro w hSw; (try dsimp only at hSw); go_simp <;> with_reducible rfl)
      try simp only [Act.put, List.getElem_toArray, List.getElem_cons_zero, List.getElem_cons_succ, List.setIfInBounds_toArray, List.set_cons_zero, List.set_cons_succ]
      refine wpAnyH_ready (rs := [23]) (by kernel_rfl) (by simp) ?_
      refine (AllReadyH.cons rfl (fun K hK => ?_) AllReadyH.nil)
      go_simp
      refine (HRS.out _ _ _ T).mono ?_
      rintro e w10 ⟨⟨va10, vc10, rfl, hr10⟩, hb10⟩
      replace T := Ty.nx hb10 T
      clear hb10
      go_wp2_with fail
      refine hK.out _ _ T.facts (fun hHeld => ?_)
      clear hK K
      try simp only [Act.put, List.getElem_toArray, List.getElem_cons_zero, List.getElem_cons_succ, List.setIfInBounds_toArray, List.set_cons_zero, List.set_cons_succ]
      refine wpAnyH_ready (rs := [24]) (by kernel_rfl) (by simp) ?_
      refine (AllReadyH.cons rfl (fun K hK => ?_) AllReadyH.nil)
      go_simp
      refine (HSR.out _ _ _ T hr10).mono ?_
      rintro e w11 ⟨rfl, hb11⟩
      replace T := Ty.nx hb11 T
      clear hb11 hr10
      go_wp2_with fail
      refine hK.out _ _ T.facts (fun hHeld => ?_)
      clear hK K
      try simp only [Act.put, List.getElem_toArray, List.getElem_cons_zero, List.getElem_cons_succ, List.setIfInBounds_toArray, List.set_cons_zero, List.set_cons_succ]
      refine wpAnyH_take (i := 25) (v := ?v19) rfl (by kernel_rfl) (by kernel_rfl) (by kernel_rfl) (fun _ _ _ h => h) (Or.inl ⟨by rfl, ?y19⟩) (by assumption) ?_
      case y19 => (intro w hSw; (try dsimp only at hSw); go_simp <;> with_reducible rfl)
      try simp only [Act.put, List.getElem_toArray, List.getElem_cons_zero, List.getElem_cons_succ, List.setIfInBounds_toArray, List.set_cons_zero, List.set_cons_succ]
      refine wpAnyH_take (i := 26) (v := ?v20) rfl (by kernel_rfl) (by kernel_rfl) (by kernel_rfl) (fun _ _ _ h => h) (Or.inl ⟨by rfl, ?y20⟩) (by assumption) ?_
      case y20 => (intro w hSw; (try dsimp only at hSw); go_simp <;> with_reducible rfl)
      try simp only [Act.put, List.getElem_toArray, List.getElem_cons_zero, List.getElem_cons_succ, List.setIfInBounds_toArray, List.set_cons_zero, List.set_cons_succ]
      refine wpAnyH_done (by kernel_rfl) ?_ _
      clear hHeld
      go_wp2
      go_ret
      exact ⟨by simp, T.bel⟩
    · skip
      go_simp
      refine (HY2.out _ _ _ T).mono ?_
      rintro e w9 ⟨⟨v9, rfl, hv9⟩, hb9⟩
      have hc9 := hv9.here
      have hd8 := ((Hv8.out ()).nx hb9).here
      replace T := Ty.nx hb9 T
      clear hb9 hv9
      go_wp2_with fail
      refine hK.out _ _ T.facts (fun hHeld => ?_)
      clear hK K
      try simp only [Act.put, List.getElem_toArray, List.getElem_cons_zero, List.getElem_cons_succ, List.setIfInBounds_toArray, List.set_cons_zero, List.set_cons_succ]
      refine wpAnyH_ready (rs := [14, 17]) (by kernel_rfl) (by simp) ?_
      refine (AllReadyH.cons rfl (fun K hK => ?_) (AllReadyH.cons rfl (fun K hK => ?_) AllReadyH.nil))
      · skip
        go_simp
        refine hK.out _ _ T.facts (fun hHeld => ?_)
        clear hK K
        try simp only [Act.put, List.getElem_toArray, List.getElem_cons_zero, List.getElem_cons_succ, List.setIfInBounds_toArray, List.set_cons_zero, List.set_cons_succ]
        refine wpAnyH_ready (rs := [17]) (by kernel_rfl) (by simp) ?_
        refine (AllReadyH.cons rfl (fun K hK => ?_) AllReadyH.nil)
        go_simp
        refine hK.out _ _ T.facts (fun hHeld => ?_)
        clear hK K
        try simp only [Act.put, List.getElem_toArray, List.getElem_cons_zero, List.getElem_cons_succ, List.setIfInBounds_toArray, List.set_cons_zero, List.set_cons_succ]
        refine wpAnyH_take (i := 18) (v := ?v21) rfl (by kernel_rfl) (by kernel_rfl) (by kernel_rfl) (fun _ _ _ h => h) (Or.inl ⟨by rfl, ?y21⟩) (by assumption) ?_
        case y21 => (intro w hSw; (try dsimp only at hSw); go_simp <;> with_reducible rfl)
        try simp only [Act.put, List.getElem_toArray, List.getElem_cons_zero, List.getElem_cons_succ, List.setIfInBounds_toArray, List.set_cons_zero, List.set_cons_succ]
        refine wpAnyH_take (i := 19) (v := ?v22) rfl (by kernel_rfl) (by kernel_rfl) (by kernel_rfl) (fun _ _ _ h => h) (Or.inl ⟨by rfl, ?y22⟩) (by assumption) ?_
        case y22 => (intro w hSw; (try dsimp only at hSw); go_simp <;> with_reducible rfl)
        try simp only [Act.put, List.getElem_toArray, List.getElem_cons_zero, List.getElem_cons_succ, List.setIfInBounds_toArray, List.set_cons_zero, List.set_cons_succ]
        refine wpAnyH_take (i := 20) (v := ?v23) rfl (by kernel_rfl) (by kernel_rfl) (by kernel_rfl) (fun _ _ _ h => h) (Or.inl ⟨by rfl, ?y23⟩) (by assumption) ?_
        case y23 => (intro w hSw; (try dsimp only at hSw); go_simp <;> with_reducible rfl)
        try simp only [Act.put, List.getElem_toArray, List.getElem_cons_zero, List.getElem_cons_succ, List.setIfInBounds_toArray, List.set_cons_zero, List.set_cons_succ]
        refine wpAnyH_take (i := 21) (v := ?v24) rfl (by kernel_rfl) (by kernel_rfl) (by kernel_rfl) (fun _ _ _ h => h) (Or.inl ⟨by rfl, ?y24⟩) (by assumption) ?_
        case y24 => (intro w hSw; (try dsimp only at hSw); go_simp <;> with_reducible rfl)
        try simp only [Act.put, List.getElem_toArray, List.getElem_cons_zero, List.getElem_cons_succ, List.setIfInBounds_toArray, List.set_cons_zero, List.set_cons_succ]
        refine wpAnyH_take (i := 22) (v := ?v25) rfl (by kernel_rfl) (by kernel_rfl) (by kernel_rfl) (fun _ _ _ h => h) (Or.inl ⟨by rfl, ?y25⟩) (by assumption) ?_
        case y25 => (intro w hSw; (try dsimp only at hSw); go_simp <;> with_reducible rfl)
        try simp only [Act.put, List.getElem_toArray, List.getElem_cons_zero, List.getElem_cons_succ, List.setIfInBounds_toArray, List.set_cons_zero, List.set_cons_succ]
        refine wpAnyH_ready (rs := [23]) (by kernel_rfl) (by simp) ?_
        refine (AllReadyH.cons rfl (fun K hK => ?_) AllReadyH.nil)
        go_simp
        refine (HRS.out _ _ _ T).mono ?_
        rintro e w10 ⟨⟨va10, vc10, rfl, hr10⟩, hb10⟩
        replace T := Ty.nx hb10 T
        clear hb10
        go_wp2_with fail
        refine hK.out _ _ T.facts (fun hHeld => ?_)
        clear hK K
        try simp only [Act.put, List.getElem_toArray, List.getElem_cons_zero, List.getElem_cons_succ, List.setIfInBounds_toArray, List.set_cons_zero, List.set_cons_succ]
        refine wpAnyH_ready (rs := [24]) (by kernel_rfl) (by simp) ?_
        refine (AllReadyH.cons rfl (fun K hK => ?_) AllReadyH.nil)
        go_simp
        refine (HSR.out _ _ _ T hr10).mono ?_
        rintro e w11 ⟨rfl, hb11⟩
        replace T := Ty.nx hb11 T
        clear hb11 hr10
        go_wp2_with fail
        refine hK.out _ _ T.facts (fun hHeld => ?_)
        clear hK K
        try simp only [Act.put, List.getElem_toArray, List.getElem_cons_zero, List.getElem_cons_succ, List.setIfInBounds_toArray, List.set_cons_zero, List.set_cons_succ]
        refine wpAnyH_take (i := 25) (v := ?v26) rfl (by kernel_rfl) (by kernel_rfl) (by kernel_rfl) (fun _ _ _ h => h) (Or.inl ⟨by rfl, ?y26⟩) (by assumption) ?_
        case y26 => (intro w hSw; (try dsimp only at hSw); go_simp <;> with_reducible rfl)
        try simp only [Act.put, List.getElem_toArray, List.getElem_cons_zero, List.getElem_cons_succ, List.setIfInBounds_toArray, List.set_cons_zero, List.set_cons_succ]
        refine wpAnyH_take (i := 26) (v := ?v27) rfl (by kernel_rfl) (by kernel_rfl) (by kernel_rfl) (fun _ _ _ h => h) (Or.inl ⟨by rfl, ?y27⟩) (by assumption) ?_
        case y27 => (intro w hSw; (try dsimp only at hSw); go_simp <;> with_reducible rfl)
        try simp only [Act.put, List.getElem_toArray, List.getElem_cons_zero, List.getElem_cons_succ, List.setIfInBounds_toArray, List.set_cons_zero, List.set_cons_succ]
        refine wpAnyH_done (by kernel_rfl) ?_ _
        clear hHeld
        go_wp2
        go_ret
        exact ⟨by simp, T.bel⟩
      · skip
        go_simp
        refine hK.out _ _ T.facts (fun hHeld => ?_)
        clear hK K
        try simp only [Act.put, List.getElem_toArray, List.getElem_cons_zero, List.getElem_cons_succ, List.setIfInBounds_toArray, List.set_cons_zero, List.set_cons_succ]
        refine wpAnyH_ready (rs := [14]) (by kernel_rfl) (by simp) ?_
        refine (AllReadyH.cons rfl (fun K hK => ?_) AllReadyH.nil)
        go_simp
        refine hK.out _ _ T.facts (fun hHeld => ?_)
        clear hK K
        try simp only [Act.put, List.getElem_toArray, List.getElem_cons_zero, List.getElem_cons_succ, List.setIfInBounds_toArray, List.set_cons_zero, List.set_cons_succ]
        refine wpAnyH_take (i := 18) (v := ?v28) rfl (by kernel_rfl) (by kernel_rfl) (by kernel_rfl) (fun _ _ _ h => h) (Or.inl ⟨by rfl, ?y28⟩) (by assumption) ?_
        case y28 => (intro w hSw; (try dsimp only at hSw); go_simp <;> with_reducible rfl)
        try simp only [Act.put, List.getElem_toArray, List.getElem_cons_zero, List.getElem_cons_succ, List.setIfInBounds_toArray, List.set_cons_zero, List.set_cons_succ]
        refine wpAnyH_take (i := 19) (v := ?v29) rfl (by kernel_rfl) (by kernel_rfl) (by kernel_rfl) (fun _ _ _ h => h) (Or.inl ⟨by rfl, ?y29⟩) (by assumption) ?_
        case y29 => (intro w hSw; (try dsimp only at hSw); go_simp <;> with_reducible rfl)
        try simp only [Act.put, List.getElem_toArray, List.getElem_cons_zero, List.getElem_cons_succ, List.setIfInBounds_toArray, List.set_cons_zero, List.set_cons_succ]
        refine wpAnyH_take (i := 20) (v := ?v30) rfl (by kernel_rfl) (by kernel_rfl) (by kernel_rfl) (fun _ _ _ h => h) (Or.inl ⟨by rfl, ?y30⟩) (by assumption) ?_
        case y30 => (intro w hSw; (try dsimp only at hSw); go_simp <;> with_reducible rfl)
        try simp only [Act.put, List.getElem_toArray, List.getElem_cons_zero, List.getElem_cons_succ, List.setIfInBounds_toArray, List.set_cons_zero, List.set_cons_succ]
        refine wpAnyH_take (i := 21) (v := ?v31) rfl (by kernel_rfl) (by kernel_rfl) (by kernel_rfl) (fun _ _ _ h => h) (Or.inl ⟨by rfl, ?y31⟩) (by assumption) ?_
        case y31 => (intro w hSw; (try dsimp only at hSw); go_simp <;> with_reducible rfl)
        try simp only [Act.put, List.getElem_toArray, List.getElem_cons_zero, List.getElem_cons_succ, List.setIfInBounds_toArray, List.set_cons_zero, List.set_cons_succ]
        refine wpAnyH_take (i := 22) (v := ?v32) rfl (by kernel_rfl) (by kernel_rfl) (by kernel_rfl) (fun _ _ _ h => h) (Or.inl ⟨by rfl, ?y32⟩) (by assumption) ?_
        case y32 => (intro w hSw; (try dsimp only at hSw); go_simp <;> with_reducible rfl)
        try simp only [Act.put, List.getElem_toArray, List.getElem_cons_zero, List.getElem_cons_succ, List.setIfInBounds_toArray, List.set_cons_zero, List.set_cons_succ]
        refine wpAnyH_ready (rs := [23]) (by kernel_rfl) (by simp) ?_
        refine (AllReadyH.cons rfl (fun K hK => ?_) AllReadyH.nil)
        go_simp
        refine (HRS.out _ _ _ T).mono ?_
        rintro e w10 ⟨⟨va10, vc10, rfl, hr10⟩, hb10⟩
        replace T := Ty.nx hb10 T
        clear hb10
        go_wp2_with fail
        refine hK.out _ _ T.facts (fun hHeld => ?_)
        clear hK K
        try simp only [Act.put, List.getElem_toArray, List.getElem_cons_zero, List.getElem_cons_succ, List.setIfInBounds_toArray, List.set_cons_zero, List.set_cons_succ]
        refine wpAnyH_ready (rs := [24]) (by kernel_rfl) (by simp) ?_
        refine (AllReadyH.cons rfl (fun K hK => ?_) AllReadyH.nil)
        go_simp
        refine (HSR.out _ _ _ T hr10).mono ?_
        rintro e w11 ⟨rfl, hb11⟩
        replace T := Ty.nx hb11 T
        clear hb11 hr10
        go_wp2_with fail
        refine hK.out _ _ T.facts (fun hHeld => ?_)
        clear hK K
        try simp only [Act.put, List.getElem_toArray, List.getElem_cons_zero, List.getElem_cons_succ, List.setIfInBounds_toArray, List.set_cons_zero, List.set_cons_succ]
        refine wpAnyH_take (i := 25) (v := ?v33) rfl (by kernel_rfl) (by kernel_rfl) (by kernel_rfl) (fun _ _ _ h => h) (Or.inl ⟨by rfl, ?y33⟩) (by assumption) ?_
        case y33 => (intro w hSw; (try dsimp only at hSw); go_simp <;> with_reducible rfl)
        try simp only [Act.put, List.getElem_toArray, List.getElem_cons_zero, List.getElem_cons_succ, List.setIfInBounds_toArray, List.set_cons_zero, List.set_cons_succ]
        refine wpAnyH_take (i := 26) (v := ?v34) rfl (by kernel_rfl) (by kernel_rfl) (by kernel_rfl) (fun _ _ _ h => h) (Or.inl ⟨by rfl, ?y34⟩) (by assumption) ?_
        case y34 => (intro w hSw; (try dsimp only at hSw); go_simp <;> with_reducible rfl)
        try simp only [Act.put, List.getElem_toArray, List.getElem_cons_zero, List.getElem_cons_succ, List.setIfInBounds_toArray, List.set_cons_zero, List.set_cons_succ]
        refine wpAnyH_done (by kernel_rfl) ?_ _
        clear hHeld
        go_wp2
        go_ret
        exact ⟨by simp, T.bel⟩
end Go.Proofs.YtlnlkbkmnkjbhaaDoor
