/- A term's text, read: texts in quotes. -/
import Derived.Test.YtlkcadibjmfmcaaDoorQc
namespace Go.Proofs.YtlkcadibjmfmcaaDoor
open Go.RowKit

/-- The text in quotes with which a list begins: its bytes, a fault's place and code; and how many bytes were read. -/
def unq2 (l : List UInt8) : (List Nat × Nat × Nat) × Nat := if (unq l).2.2 = 15 then (unq (l.take (unq l).2.1), (unq l).2.1) else (unq l, l.length)
/-- The text in quotes that is a term. -/
def rquo (s : ByteArray) (q m : Nat) : PR (List Nat) :=
  if (unq2 (s.data.toList.drop q)).1.2.2 ≠ 13 ∧ 200 < m then .bad q 2
  else if (unq2 (s.data.toList.drop q)).1.2.2 ≠ 0 then .bad (q + (unq2 (s.data.toList.drop q)).1.2.1) (unq2 (s.data.toList.drop q)).1.2.2
  else .ok (unq2 (s.data.toList.drop q)).1.1 (q + (unq2 (s.data.toList.drop q)).2)
/-- What reading a text in quotes comes to. -/
def QPost (R : Nat) (s : ByteArray) (w : World) : PR (List Nat) → Ending → World → Prop
  | .ok t q, e, w' => (∃ v, e = .returned v ∧ w'.ownsRow w.heap.size 5 1 v t.length (bytesV t)) ∧ RdAt w' R s q ∧ w.grownBy w' (some R)
  | .bad q c, e, w' => e = FE q c ∧ w.grownBy w' (some R)
theorem quo_places : ∀ (f : Nat) (l : List UInt8) (k : Nat) (acc : List Nat), (quo f l k acc).fin ≤ k + l.length ∧ (quo f l k acc).fat ≤ k + l.length := by
  intro f
  induction f with
  | zero => intro l k acc; simp [quo]
  | succ f ih =>
    intro l k acc
    cases l with
    | nil => simp [quo]
    | cons c l =>
      rw [quo]
      split
      · simp
      split
      · split
        · simp
        · have h := rdq_le ⟨(c :: l).toArray⟩
          have hs : (⟨(c :: l).toArray⟩ : ByteArray).size = (c :: l).length := str_size _
          rw [hs] at h
          have h' : (rdql (c :: l)).2 ≤ (c :: l).length := h
          have := ih ((c :: l).drop (rdql (c :: l)).2) (k + (rdql (c :: l)).2) (acc ++ [(rdql (c :: l)).1])
          rw [List.length_drop] at this
          omega
      split
      · have := ih l (k + 1) (acc ++ [c.toNat]); simp; omega
      · simp
theorem unq_places (l : List UInt8) : (unq l).2.1 ≤ l.length + 1 ∧ ((unq l).2.2 = 15 → (unq l).2.1 ≤ l.length) := by
  have h := quo_places l.length (l.drop 1) 1 []
  have h' : (quoted l).fin ≤ 1 + (l.drop 1).length ∧ (quoted l).fat ≤ 1 + (l.drop 1).length := h
  rw [List.length_drop] at h'
  unfold unq
  split
  · simp
  split
  · simp
  split
  · rename_i hl hne hc
    refine ⟨by simp only; omega, fun _ => ?_⟩
    simp only
    have : 0 < l.length := by
      rcases Nat.eq_zero_or_pos l.length with h0 | h0
      · exact absurd h0 (by intro h0; rw [h0] at hne; simp at hne)
      · exact h0
    omega
  split
  · rename_i hlt; exact ⟨by simp only; omega, fun _ => by simp only; omega⟩
  · simp
set_option maxRecDepth 100000 in
set_option maxHeartbeats 8000000 in
theorem quoted_any (R : Nat) (s : ByteArray) (q m : Nat) (w : World) (h : RdAt w R s q) (hq : q ≤ s.size) (hm : s.size ≤ 65536) :
    Calls Tryd.prog 67 #[.pointer (some ⟨R, 0, none⟩), .int .i64 (m : Int)] w fun e w' => QPost R s w (rquo s q m) e w' := by
  have h0 := h.text
  have h1 := h.at'
  have hpI : (q : Int) ≤ (s.size : Int) := by omega
  have hrl : (s.extract q s.size).data.toList = s.data.toList.drop q := extract_post s q
  have hrs : (s.extract q s.size).size = s.size - q := by simp
  have hll : (s.data.toList.drop q).length = s.size - q := by rw [List.length_drop, list_len]
  have hpl := unq_places (s.data.toList.drop q)
  have hpl2 := unq_places ((s.data.toList.drop q).take (unq (s.data.toList.drop q)).2.1)
  have HU1 : Hid (∀ W, _) := fun W => unquote_any (s.extract q s.size) W
  rw [hrl] at HU1
  have HU2 : Hid (∀ W, _) := fun W => unquote_any ((s.extract q s.size).extract 0 (unq (s.data.toList.drop q)).2.1) W
  have hx2 : ((s.extract q s.size).extract 0 (unq (s.data.toList.drop q)).2.1).data.toList = (s.data.toList.drop q).take (unq (s.data.toList.drop q)).2.1 := by rw [extract_list, hrl]; simp
  rw [hx2] at HU2
  unfold rquo unq2
  generalize s.data.toList.drop q = l at *
  rcases hu1 : unq l with ⟨bs1, a1, c1⟩
  simp only [hu1] at HU1 HU2 hpl hpl2 ⊢
  rcases hu2 : unq (l.take a1) with ⟨bs2, a2, c2⟩
  simp only [hu2] at HU2 hpl2 ⊢
  rw [List.length_take] at hpl2
  obtain ⟨rs, hrr⟩ : ∃ rs, s.extract q s.size = rs := ⟨_, rfl⟩
  rw [hrr] at HU1 HU2 hrs
  obtain ⟨n1, hn1⟩ : ∃ n1, l.length = n1 := ⟨_, rfl⟩
  rw [hn1] at hll hpl hpl2 ⊢
  have hrn : rs.size = n1 := by omega
  have HRR : Hid _ := hrr
  have hq6 : (q : Int) ≤ 65536 := by omega
  have hn6 : (n1 : Int) ≤ 65536 := by omega
  have hrn' : (rs.size : Int) = (n1 : Int) := by omega
  have HR : Hid _ := h
  have HF : Hid (∀ (a c : Nat) W, Calls Tryd.prog 53 #[.pointer (some ⟨R, 0, none⟩), .int .i64 ((q : Int) + (a : Int)), .int .i64 (c : Int)] W fun e w' => e = FE (q + a) c ∧ w' = W) := fun a c W => by
    have := fail_any R (q + a) c W
    push_cast at this
    exact this
  have HBD : Hid (∀ W, RdAt W R s q → _) := fun W hW => bound_any R s q m W hW
  simp only [fv] at HU1 HU2
  clear h hrl hu1 hu2 hx2 hrr hrs hq hm
  by_cases h15 : c1 = 15
  · simp only [if_pos h15]
    have g15 : ((c1 : Int) == 15) = true := by simp [h15]
    have ha1 : (a1 : Int) ≤ (rs.size : Int) := by have := hpl.2 h15; omega
    have ha1b : (a1 : Int) ≤ 65536 := by omega
    have ha2b : (a2 : Int) ≤ 65540 := by omega
    have hwr : IntKind.i64.wrap ((q : Int) + (a2 : Int)) = (q : Int) + (a2 : Int) := by rw [IntKind.wrap_i64]; omega
    have hsz : (rs.extract 0 a1).size = a1 := by have := hpl.2 h15; simp; omega
    clear hpl hpl2 h15 hn1 hll hrn
    by_cases h13 : c2 = 13
    · rw [if_neg (by simp [h13]), if_pos (by omega)]
      have g13 : ((c2 : Int) != 13) = false := by simp [h13]
      have g0 : ((c2 : Int) != 0) = true := by simp [h13]
      have g0' : ¬ (c2 : Int) = 0 := by omega
      clear h13 HBD
      go_enter Tryd.func67, Tryd.ntmps67
      go_wp2
      go_quiet (fail)
      rw [HRR.out]
      go_wp2_with (go_at_call 84; refine (HU1.out _).mono ?_)
      first | rintro e w2 v1 rfl hrow1 hb2 | rintro e w2 ⟨v1, rfl, hrow1, hb2⟩
      have hB2 : Below w.heap.size w w2 := ⟨hb2.os, hb2.tape, hb2.output, hb2.size, fun b hb => hb2.block b hb⟩
      have hB3 : Below w.heap.size w (w2.alloc (.cells #[.int .i64 (a1 : Int), .int .i64 (c1 : Int)] 44)) := hB2.alloc hB2.size _
      have HB3 : Hid _ := hB3
      clear hb2
      clear hrow1
      go_wp2_with (go_at_call 84; refine (HU2.out _).mono ?_)
      first | rintro e w4 v2 rfl hrow2 hb4 | rintro e w4 ⟨v2, rfl, hrow2, hb4⟩
      have z0 := (hb4.cell (p := ⟨w2.heap.size, 0, none⟩) (by show w2.heap.size < _; simp)).trans (cell_new (w := w2) (t := 44) (cs := #[.int .i64 (a1 : Int), .int .i64 (c1 : Int)]) 0 rfl)
      have z1 := (hb4.cell (p := ⟨w2.heap.size, 1, none⟩) (by show w2.heap.size < _; simp)).trans (cell_new (w := w2) (t := 44) (cs := #[.int .i64 (a1 : Int), .int .i64 (c1 : Int)]) 1 rfl)
      have zf0 : w4.frozen? ⟨w2.heap.size, 0, none⟩ = false := (hb4.frozen (p := ⟨w2.heap.size, 0, none⟩) (by show w2.heap.size < _; simp)).trans (by simp)
      have zf1 : w4.frozen? ⟨w2.heap.size, 1, none⟩ = false := (hb4.frozen (p := ⟨w2.heap.size, 1, none⟩) (by show w2.heap.size < _; simp)).trans (by simp)
      have hB4 : Below w.heap.size w w4 := HB3.out.trans (hb4.mono HB3.out.size)
      have hs2 := hB2.size
      have hB5 : Below w.heap.size w ((w4.setCell ⟨w2.heap.size, 0, none⟩ (.int .i64 (a2 : Int))).setCell ⟨w2.heap.size, 1, none⟩ (.int .i64 (c2 : Int))) := (hB4.setCell (p := ⟨w2.heap.size, 0, none⟩) hs2 _).setCell (p := ⟨w2.heap.size, 1, none⟩) hs2 _
      have HROW : Hid (((w4.setCell ⟨w2.heap.size, 0, none⟩ (.int .i64 (a2 : Int))).setCell ⟨w2.heap.size, 1, none⟩ (.int .i64 (c2 : Int))).ownsRow w.heap.size 5 1 v2 bs2.length (bytesV bs2)) := row_mono (row_put (row_put hrow2 (by simp) _) (by simp) _) HB3.out.size
      have HRD : Hid (RdAt ((w4.setCell ⟨w2.heap.size, 0, none⟩ (.int .i64 (a2 : Int))).setCell ⟨w2.heap.size, 1, none⟩ (.int .i64 (c2 : Int))) R s q) := HR.out.below hB5 HR.out.lt
      have HB5 : Hid _ := hB5
      have r1 := HRD.out.at'
      have r2 := HRD.out.fz
      clear hrow2 hb4 hB2 hB3 hB4 hB5
      go_wp2
      obtain ⟨W0, hW0⟩ : ∃ W0, ((w4.setCell ⟨w2.heap.size, 0, none⟩ (.int .i64 (a2 : Int))).setCell ⟨w2.heap.size, 1, none⟩ (.int .i64 (c2 : Int))) = W0 := ⟨_, rfl⟩
      have y0 : W0.cell? ⟨w2.heap.size, 0, none⟩ = some (.int .i64 (a2 : Int)) := by rw [← hW0]; exact (World.cell?_setCell_other _ _ _ _ (by simp)).trans (World.cell?_setCell_same' _ _ _ (by rw [z0]; rfl))
      have y1 : W0.cell? ⟨w2.heap.size, 1, none⟩ = some (.int .i64 (c2 : Int)) := by rw [← hW0]; exact World.cell?_setCell_same' _ _ _ (by rw [World.cell?_setCell_other _ _ _ _ (by simp), z1]; rfl)
      have y2 : W0.cell? ⟨R, 1, none⟩ = some (.int .i64 (q : Int)) := by rw [← hW0]; exact r1
      have HBB : Hid (Below w.heap.size w W0.drew) := by have h := HB5.out; rw [hW0] at h; exact ⟨h.os, h.tape, h.output, h.size, h.block⟩
      rw [hW0]
      clear hW0 r1 r2 z0 z1 zf0 zf1
      refine wp_region_held_drew (S := fun W => W.cell? ⟨w2.heap.size, 0, none⟩ = some (.int .i64 (a2 : Int)) ∧ W.cell? ⟨w2.heap.size, 1, none⟩ = some (.int .i64 (c2 : Int)) ∧ W.cell? ⟨R, 1, none⟩ = some (.int .i64 (q : Int))) (by kernel_rfl) ⟨y0, y1, y2⟩ (fun hHeld => ?_)
      refine wpAnyH_take (i := 0) (v := ?v1) rfl (by kernel_rfl) (by kernel_rfl) (by kernel_rfl) (fun _ _ _ h => h) (Or.inl ⟨by rfl, ?y1⟩) (by assumption) ?_
      case y1 => (intro w hSw; (try dsimp only at hSw); go_simp <;> with_reducible rfl)
      try simp only [Act.put, List.getElem_toArray, List.getElem_cons_zero, List.setIfInBounds_toArray, List.set_cons_zero, List.set_cons_succ]
      refine wpAnyH_take (i := 1) (v := ?v2) rfl (by kernel_rfl) (by kernel_rfl) (by kernel_rfl) (fun _ _ _ h => h) (Or.inl ⟨by rfl, ?y2⟩) (by assumption) ?_
      case y2 => (intro w hSw; (try dsimp only at hSw); go_simp <;> with_reducible rfl)
      try simp only [Act.put, List.getElem_toArray, List.getElem_cons_zero, List.getElem_cons_succ, List.setIfInBounds_toArray, List.set_cons_zero, List.set_cons_succ]
      refine wpAnyH_take (i := 2) (v := ?v3) rfl (by kernel_rfl) (by kernel_rfl) (by kernel_rfl) (fun _ _ _ h => h) (Or.inl ⟨by rfl, ?y3⟩) (by assumption) ?_
      case y3 => (intro w hSw; (try dsimp only at hSw); go_simp <;> with_reducible rfl)
      try simp only [Act.put, List.getElem_toArray, List.getElem_cons_zero, List.getElem_cons_succ, List.setIfInBounds_toArray, List.set_cons_zero, List.set_cons_succ]
      refine wpAnyH_take (i := 3) (v := ?v4) rfl (by kernel_rfl) (by kernel_rfl) (by kernel_rfl) (fun _ _ _ h => h) (Or.inl ⟨by rfl, ?y4⟩) (by assumption) ?_
      case y4 => (intro w hSw; (try dsimp only at hSw); go_simp <;> with_reducible rfl)
      try simp only [Act.put, List.getElem_toArray, List.getElem_cons_zero, List.getElem_cons_succ, List.setIfInBounds_toArray, List.set_cons_zero, List.set_cons_succ]
      refine wpAnyH_take (i := 4) (v := ?v5) rfl (by kernel_rfl) (by kernel_rfl) (by kernel_rfl) (fun _ _ _ h => h) (Or.inl ⟨by rfl, ?y5⟩) (by assumption) ?_
      case y5 => (intro w hSw; (try dsimp only at hSw); go_simp <;> with_reducible rfl)
      try simp only [Act.put, List.getElem_toArray, List.getElem_cons_zero, List.getElem_cons_succ, List.setIfInBounds_toArray, List.set_cons_zero, List.set_cons_succ]
      refine wpAnyH_take (i := 5) (v := ?v6) rfl (by kernel_rfl) (by kernel_rfl) (by kernel_rfl) (fun _ _ _ h => h) (Or.inl ⟨by rfl, ?y6⟩) (by assumption) ?_
      case y6 => (intro w hSw; (try dsimp only at hSw); go_simp <;> with_reducible rfl)
      try simp only [Act.put, List.getElem_toArray, List.getElem_cons_zero, List.getElem_cons_succ, List.setIfInBounds_toArray, List.set_cons_zero, List.set_cons_succ]
      refine wpAnyH_take (i := 6) (v := ?v7) rfl (by kernel_rfl) (by kernel_rfl) (by kernel_rfl) (fun _ _ _ h => h) (Or.inl ⟨by rfl, ?y7⟩) (by assumption) ?_
      case y7 => (intro w hSw; (try dsimp only at hSw); go_simp <;> with_reducible rfl)
      try simp only [Act.put, List.getElem_toArray, List.getElem_cons_zero, List.getElem_cons_succ, List.setIfInBounds_toArray, List.set_cons_zero, List.set_cons_succ]
      refine wpAnyH_take (i := 7) (v := ?v8) rfl (by kernel_rfl) (by kernel_rfl) (by kernel_rfl) (fun _ _ _ h => h) (Or.inl ⟨by rfl, ?y8⟩) (by assumption) ?_
      case y8 => (intro w hSw; (try dsimp only at hSw); go_simp <;> with_reducible rfl)
      try simp only [Act.put, List.getElem_toArray, List.getElem_cons_zero, List.getElem_cons_succ, List.setIfInBounds_toArray, List.set_cons_zero, List.set_cons_succ]
      refine wpAnyH_take (i := 8) (v := ?v9) rfl (by kernel_rfl) (by kernel_rfl) (by kernel_rfl) (fun _ _ _ h => h) (Or.inl ⟨by rfl, ?y9⟩) (by assumption) ?_
      case y9 => (intro w hSw; (try dsimp only at hSw); go_simp <;> with_reducible rfl)
      try simp only [Act.put, List.getElem_toArray, List.getElem_cons_zero, List.getElem_cons_succ, List.setIfInBounds_toArray, List.set_cons_zero, List.set_cons_succ]
      refine wpAnyH_take (i := 9) (v := ?v10) rfl (by kernel_rfl) (by kernel_rfl) (by kernel_rfl) (fun _ _ _ h => h) (Or.inl ⟨by rfl, ?y10⟩) (by assumption) ?_
      case y10 => (intro w hSw; (try dsimp only at hSw); go_simp <;> with_reducible rfl)
      try simp only [Act.put, List.getElem_toArray, List.getElem_cons_zero, List.getElem_cons_succ, List.setIfInBounds_toArray, List.set_cons_zero, List.set_cons_succ]
      refine wpAnyH_ready (rs := [10]) (by kernel_rfl) (by simp) ?_
      refine (AllReadyH.cons rfl (fun K hK => ?_) AllReadyH.nil)
      go_simp
      go_at_call 53
      refine (HF.out a2 c2 _).mono ?_
      rintro e w9 ⟨rfl, rfl⟩
      simp only [FE]
      go_wp2_with fail
      refine ⟨rfl, ?_⟩
      exact ⟨rfl, grown_of_below HBB.out _⟩
    have g13 : ((c2 : Int) != 13) = true := by simp; omega
    have g13' : ¬ (c2 : Int) = 13 := by omega
    by_cases h2 : 200 < m
    · rw [if_pos ⟨h13, h2⟩]
      simp only [if_pos h2] at HBD
      clear h13 h2
      go_enter Tryd.func67, Tryd.ntmps67
      go_wp2
      go_quiet (fail)
      rw [HRR.out]
      go_wp2_with (go_at_call 84; refine (HU1.out _).mono ?_)
      first | rintro e w2 v1 rfl hrow1 hb2 | rintro e w2 ⟨v1, rfl, hrow1, hb2⟩
      have hB2 : Below w.heap.size w w2 := ⟨hb2.os, hb2.tape, hb2.output, hb2.size, fun b hb => hb2.block b hb⟩
      have hB3 : Below w.heap.size w (w2.alloc (.cells #[.int .i64 (a1 : Int), .int .i64 (c1 : Int)] 44)) := hB2.alloc hB2.size _
      have HB3 : Hid _ := hB3
      clear hb2
      clear hrow1
      go_wp2_with (go_at_call 84; refine (HU2.out _).mono ?_)
      first | rintro e w4 v2 rfl hrow2 hb4 | rintro e w4 ⟨v2, rfl, hrow2, hb4⟩
      have z0 := (hb4.cell (p := ⟨w2.heap.size, 0, none⟩) (by show w2.heap.size < _; simp)).trans (cell_new (w := w2) (t := 44) (cs := #[.int .i64 (a1 : Int), .int .i64 (c1 : Int)]) 0 rfl)
      have z1 := (hb4.cell (p := ⟨w2.heap.size, 1, none⟩) (by show w2.heap.size < _; simp)).trans (cell_new (w := w2) (t := 44) (cs := #[.int .i64 (a1 : Int), .int .i64 (c1 : Int)]) 1 rfl)
      have zf0 : w4.frozen? ⟨w2.heap.size, 0, none⟩ = false := (hb4.frozen (p := ⟨w2.heap.size, 0, none⟩) (by show w2.heap.size < _; simp)).trans (by simp)
      have zf1 : w4.frozen? ⟨w2.heap.size, 1, none⟩ = false := (hb4.frozen (p := ⟨w2.heap.size, 1, none⟩) (by show w2.heap.size < _; simp)).trans (by simp)
      have hB4 : Below w.heap.size w w4 := HB3.out.trans (hb4.mono HB3.out.size)
      have hs2 := hB2.size
      have hB5 : Below w.heap.size w ((w4.setCell ⟨w2.heap.size, 0, none⟩ (.int .i64 (a2 : Int))).setCell ⟨w2.heap.size, 1, none⟩ (.int .i64 (c2 : Int))) := (hB4.setCell (p := ⟨w2.heap.size, 0, none⟩) hs2 _).setCell (p := ⟨w2.heap.size, 1, none⟩) hs2 _
      have HROW : Hid (((w4.setCell ⟨w2.heap.size, 0, none⟩ (.int .i64 (a2 : Int))).setCell ⟨w2.heap.size, 1, none⟩ (.int .i64 (c2 : Int))).ownsRow w.heap.size 5 1 v2 bs2.length (bytesV bs2)) := row_mono (row_put (row_put hrow2 (by simp) _) (by simp) _) HB3.out.size
      have HRD : Hid (RdAt ((w4.setCell ⟨w2.heap.size, 0, none⟩ (.int .i64 (a2 : Int))).setCell ⟨w2.heap.size, 1, none⟩ (.int .i64 (c2 : Int))) R s q) := HR.out.below hB5 HR.out.lt
      have HB5 : Hid _ := hB5
      have r1 := HRD.out.at'
      have r2 := HRD.out.fz
      clear hrow2 hb4 hB2 hB3 hB4 hB5
      go_wp2_with (go_at_call 85; refine (HBD.out _ HRD.out).mono ?_)
      first | rintro e w9 rfl rfl | rintro e w9 ⟨rfl, rfl⟩
      simp only [FE]
      go_wp2
      refine ⟨rfl, ?_⟩
      exact ⟨rfl, grown_of_below HB5.out _⟩
    rw [if_neg (by omega)]
    simp only [if_neg h2] at HBD
    by_cases hc0 : c2 = 0
    · rw [if_neg (by simp [hc0])]
      have g0 : ((c2 : Int) != 0) = false := by simp [hc0]
      clear h13 h2 hc0
      go_enter Tryd.func67, Tryd.ntmps67
      go_wp2
      go_quiet (fail)
      rw [HRR.out]
      go_wp2_with (go_at_call 84; refine (HU1.out _).mono ?_)
      first | rintro e w2 v1 rfl hrow1 hb2 | rintro e w2 ⟨v1, rfl, hrow1, hb2⟩
      have hB2 : Below w.heap.size w w2 := ⟨hb2.os, hb2.tape, hb2.output, hb2.size, fun b hb => hb2.block b hb⟩
      have hB3 : Below w.heap.size w (w2.alloc (.cells #[.int .i64 (a1 : Int), .int .i64 (c1 : Int)] 44)) := hB2.alloc hB2.size _
      have HB3 : Hid _ := hB3
      clear hb2
      clear hrow1
      go_wp2_with (go_at_call 84; refine (HU2.out _).mono ?_)
      first | rintro e w4 v2 rfl hrow2 hb4 | rintro e w4 ⟨v2, rfl, hrow2, hb4⟩
      have z0 := (hb4.cell (p := ⟨w2.heap.size, 0, none⟩) (by show w2.heap.size < _; simp)).trans (cell_new (w := w2) (t := 44) (cs := #[.int .i64 (a1 : Int), .int .i64 (c1 : Int)]) 0 rfl)
      have z1 := (hb4.cell (p := ⟨w2.heap.size, 1, none⟩) (by show w2.heap.size < _; simp)).trans (cell_new (w := w2) (t := 44) (cs := #[.int .i64 (a1 : Int), .int .i64 (c1 : Int)]) 1 rfl)
      have zf0 : w4.frozen? ⟨w2.heap.size, 0, none⟩ = false := (hb4.frozen (p := ⟨w2.heap.size, 0, none⟩) (by show w2.heap.size < _; simp)).trans (by simp)
      have zf1 : w4.frozen? ⟨w2.heap.size, 1, none⟩ = false := (hb4.frozen (p := ⟨w2.heap.size, 1, none⟩) (by show w2.heap.size < _; simp)).trans (by simp)
      have hB4 : Below w.heap.size w w4 := HB3.out.trans (hb4.mono HB3.out.size)
      have hs2 := hB2.size
      have hB5 : Below w.heap.size w ((w4.setCell ⟨w2.heap.size, 0, none⟩ (.int .i64 (a2 : Int))).setCell ⟨w2.heap.size, 1, none⟩ (.int .i64 (c2 : Int))) := (hB4.setCell (p := ⟨w2.heap.size, 0, none⟩) hs2 _).setCell (p := ⟨w2.heap.size, 1, none⟩) hs2 _
      have HROW : Hid (((w4.setCell ⟨w2.heap.size, 0, none⟩ (.int .i64 (a2 : Int))).setCell ⟨w2.heap.size, 1, none⟩ (.int .i64 (c2 : Int))).ownsRow w.heap.size 5 1 v2 bs2.length (bytesV bs2)) := row_mono (row_put (row_put hrow2 (by simp) _) (by simp) _) HB3.out.size
      have HRD : Hid (RdAt ((w4.setCell ⟨w2.heap.size, 0, none⟩ (.int .i64 (a2 : Int))).setCell ⟨w2.heap.size, 1, none⟩ (.int .i64 (c2 : Int))) R s q) := HR.out.below hB5 HR.out.lt
      have HB5 : Hid _ := hB5
      have r1 := HRD.out.at'
      have r2 := HRD.out.fz
      clear hrow2 hb4 hB2 hB3 hB4 hB5
      have HFN : Hid (RdAt (((w4.setCell ⟨w2.heap.size, 0, none⟩ (.int .i64 (a2 : Int))).setCell ⟨w2.heap.size, 1, none⟩ (.int .i64 (c2 : Int))).setCell ⟨R, 1, none⟩ (.int .i64 ((q : Int) + (a1 : Int)))) R s (q + a1) ∧ w.grownBy (((w4.setCell ⟨w2.heap.size, 0, none⟩ (.int .i64 (a2 : Int))).setCell ⟨w2.heap.size, 1, none⟩ (.int .i64 (c2 : Int))).setCell ⟨R, 1, none⟩ (.int .i64 ((q : Int) + (a1 : Int)))) (some R)) := by
        have h3 := HRD.out.put (q + a1)
        push_cast at h3
        exact ⟨h3, grown_tr (grown_of_below HB5.out _) (grown_set _ _ _ _)⟩
      have HRF : Hid ((((w4.setCell ⟨w2.heap.size, 0, none⟩ (.int .i64 (a2 : Int))).setCell ⟨w2.heap.size, 1, none⟩ (.int .i64 (c2 : Int))).setCell ⟨R, 1, none⟩ (.int .i64 ((q : Int) + (a1 : Int)))).ownsRow w.heap.size 5 1 v2 bs2.length (bytesV bs2)) := row_put HROW.out HR.out.lt _
      go_wp2_with (go_at_call 85; refine (HBD.out _ HRD.out).mono ?_; rintro e w9 ⟨rfl, rfl⟩)
      go_ret
      exact ⟨⟨_, rfl, HRF.out⟩, HFN.out⟩
    · rw [if_pos hc0]
      have g0 : ((c2 : Int) != 0) = true := by simp; omega
      have g0' : ¬ (c2 : Int) = 0 := by omega
      clear h13 h2 hc0
      go_enter Tryd.func67, Tryd.ntmps67
      go_wp2
      go_quiet (fail)
      rw [HRR.out]
      go_wp2_with (go_at_call 84; refine (HU1.out _).mono ?_)
      first | rintro e w2 v1 rfl hrow1 hb2 | rintro e w2 ⟨v1, rfl, hrow1, hb2⟩
      have hB2 : Below w.heap.size w w2 := ⟨hb2.os, hb2.tape, hb2.output, hb2.size, fun b hb => hb2.block b hb⟩
      have hB3 : Below w.heap.size w (w2.alloc (.cells #[.int .i64 (a1 : Int), .int .i64 (c1 : Int)] 44)) := hB2.alloc hB2.size _
      have HB3 : Hid _ := hB3
      clear hb2
      clear hrow1
      go_wp2_with (go_at_call 84; refine (HU2.out _).mono ?_)
      first | rintro e w4 v2 rfl hrow2 hb4 | rintro e w4 ⟨v2, rfl, hrow2, hb4⟩
      have z0 := (hb4.cell (p := ⟨w2.heap.size, 0, none⟩) (by show w2.heap.size < _; simp)).trans (cell_new (w := w2) (t := 44) (cs := #[.int .i64 (a1 : Int), .int .i64 (c1 : Int)]) 0 rfl)
      have z1 := (hb4.cell (p := ⟨w2.heap.size, 1, none⟩) (by show w2.heap.size < _; simp)).trans (cell_new (w := w2) (t := 44) (cs := #[.int .i64 (a1 : Int), .int .i64 (c1 : Int)]) 1 rfl)
      have zf0 : w4.frozen? ⟨w2.heap.size, 0, none⟩ = false := (hb4.frozen (p := ⟨w2.heap.size, 0, none⟩) (by show w2.heap.size < _; simp)).trans (by simp)
      have zf1 : w4.frozen? ⟨w2.heap.size, 1, none⟩ = false := (hb4.frozen (p := ⟨w2.heap.size, 1, none⟩) (by show w2.heap.size < _; simp)).trans (by simp)
      have hB4 : Below w.heap.size w w4 := HB3.out.trans (hb4.mono HB3.out.size)
      have hs2 := hB2.size
      have hB5 : Below w.heap.size w ((w4.setCell ⟨w2.heap.size, 0, none⟩ (.int .i64 (a2 : Int))).setCell ⟨w2.heap.size, 1, none⟩ (.int .i64 (c2 : Int))) := (hB4.setCell (p := ⟨w2.heap.size, 0, none⟩) hs2 _).setCell (p := ⟨w2.heap.size, 1, none⟩) hs2 _
      have HROW : Hid (((w4.setCell ⟨w2.heap.size, 0, none⟩ (.int .i64 (a2 : Int))).setCell ⟨w2.heap.size, 1, none⟩ (.int .i64 (c2 : Int))).ownsRow w.heap.size 5 1 v2 bs2.length (bytesV bs2)) := row_mono (row_put (row_put hrow2 (by simp) _) (by simp) _) HB3.out.size
      have HRD : Hid (RdAt ((w4.setCell ⟨w2.heap.size, 0, none⟩ (.int .i64 (a2 : Int))).setCell ⟨w2.heap.size, 1, none⟩ (.int .i64 (c2 : Int))) R s q) := HR.out.below hB5 HR.out.lt
      have HB5 : Hid _ := hB5
      have r1 := HRD.out.at'
      have r2 := HRD.out.fz
      clear hrow2 hb4 hB2 hB3 hB4 hB5
      go_wp2_with (go_at_call 85; refine (HBD.out _ HRD.out).mono ?_; rintro e w9 ⟨rfl, rfl⟩)
      obtain ⟨W0, hW0⟩ : ∃ W0, ((w4.setCell ⟨w2.heap.size, 0, none⟩ (.int .i64 (a2 : Int))).setCell ⟨w2.heap.size, 1, none⟩ (.int .i64 (c2 : Int))) = W0 := ⟨_, rfl⟩
      have y0 : W0.cell? ⟨w2.heap.size, 0, none⟩ = some (.int .i64 (a2 : Int)) := by rw [← hW0]; exact (World.cell?_setCell_other _ _ _ _ (by simp)).trans (World.cell?_setCell_same' _ _ _ (by rw [z0]; rfl))
      have y1 : W0.cell? ⟨w2.heap.size, 1, none⟩ = some (.int .i64 (c2 : Int)) := by rw [← hW0]; exact World.cell?_setCell_same' _ _ _ (by rw [World.cell?_setCell_other _ _ _ _ (by simp), z1]; rfl)
      have y2 : W0.cell? ⟨R, 1, none⟩ = some (.int .i64 (q : Int)) := by rw [← hW0]; exact r1
      have HBB : Hid (Below w.heap.size w W0.drew) := by have h := HB5.out; rw [hW0] at h; exact ⟨h.os, h.tape, h.output, h.size, h.block⟩
      rw [hW0]
      clear hW0 r1 r2 z0 z1 zf0 zf1
      refine wp_region_held_drew (S := fun W => W.cell? ⟨w2.heap.size, 0, none⟩ = some (.int .i64 (a2 : Int)) ∧ W.cell? ⟨w2.heap.size, 1, none⟩ = some (.int .i64 (c2 : Int)) ∧ W.cell? ⟨R, 1, none⟩ = some (.int .i64 (q : Int))) (by kernel_rfl) ⟨y0, y1, y2⟩ (fun hHeld => ?_)
      refine wpAnyH_take (i := 0) (v := ?v11) rfl (by kernel_rfl) (by kernel_rfl) (by kernel_rfl) (fun _ _ _ h => h) (Or.inl ⟨by rfl, ?y11⟩) (by assumption) ?_
      case y11 => (intro w hSw; (try dsimp only at hSw); go_simp <;> with_reducible rfl)
      try simp only [Act.put, List.getElem_toArray, List.getElem_cons_zero, List.setIfInBounds_toArray, List.set_cons_zero, List.set_cons_succ]
      refine wpAnyH_take (i := 1) (v := ?v12) rfl (by kernel_rfl) (by kernel_rfl) (by kernel_rfl) (fun _ _ _ h => h) (Or.inl ⟨by rfl, ?y12⟩) (by assumption) ?_
      case y12 => (intro w hSw; (try dsimp only at hSw); go_simp <;> with_reducible rfl)
      try simp only [Act.put, List.getElem_toArray, List.getElem_cons_zero, List.getElem_cons_succ, List.setIfInBounds_toArray, List.set_cons_zero, List.set_cons_succ]
      refine wpAnyH_take (i := 2) (v := ?v13) rfl (by kernel_rfl) (by kernel_rfl) (by kernel_rfl) (fun _ _ _ h => h) (Or.inl ⟨by rfl, ?y13⟩) (by assumption) ?_
      case y13 => (intro w hSw; (try dsimp only at hSw); go_simp <;> with_reducible rfl)
      try simp only [Act.put, List.getElem_toArray, List.getElem_cons_zero, List.getElem_cons_succ, List.setIfInBounds_toArray, List.set_cons_zero, List.set_cons_succ]
      refine wpAnyH_take (i := 3) (v := ?v14) rfl (by kernel_rfl) (by kernel_rfl) (by kernel_rfl) (fun _ _ _ h => h) (Or.inl ⟨by rfl, ?y14⟩) (by assumption) ?_
      case y14 => (intro w hSw; (try dsimp only at hSw); go_simp <;> with_reducible rfl)
      try simp only [Act.put, List.getElem_toArray, List.getElem_cons_zero, List.getElem_cons_succ, List.setIfInBounds_toArray, List.set_cons_zero, List.set_cons_succ]
      refine wpAnyH_take (i := 4) (v := ?v15) rfl (by kernel_rfl) (by kernel_rfl) (by kernel_rfl) (fun _ _ _ h => h) (Or.inl ⟨by rfl, ?y15⟩) (by assumption) ?_
      case y15 => (intro w hSw; (try dsimp only at hSw); go_simp <;> with_reducible rfl)
      try simp only [Act.put, List.getElem_toArray, List.getElem_cons_zero, List.getElem_cons_succ, List.setIfInBounds_toArray, List.set_cons_zero, List.set_cons_succ]
      refine wpAnyH_take (i := 5) (v := ?v16) rfl (by kernel_rfl) (by kernel_rfl) (by kernel_rfl) (fun _ _ _ h => h) (Or.inl ⟨by rfl, ?y16⟩) (by assumption) ?_
      case y16 => (intro w hSw; (try dsimp only at hSw); go_simp <;> with_reducible rfl)
      try simp only [Act.put, List.getElem_toArray, List.getElem_cons_zero, List.getElem_cons_succ, List.setIfInBounds_toArray, List.set_cons_zero, List.set_cons_succ]
      refine wpAnyH_take (i := 6) (v := ?v17) rfl (by kernel_rfl) (by kernel_rfl) (by kernel_rfl) (fun _ _ _ h => h) (Or.inl ⟨by rfl, ?y17⟩) (by assumption) ?_
      case y17 => (intro w hSw; (try dsimp only at hSw); go_simp <;> with_reducible rfl)
      try simp only [Act.put, List.getElem_toArray, List.getElem_cons_zero, List.getElem_cons_succ, List.setIfInBounds_toArray, List.set_cons_zero, List.set_cons_succ]
      refine wpAnyH_take (i := 7) (v := ?v18) rfl (by kernel_rfl) (by kernel_rfl) (by kernel_rfl) (fun _ _ _ h => h) (Or.inl ⟨by rfl, ?y18⟩) (by assumption) ?_
      case y18 => (intro w hSw; (try dsimp only at hSw); go_simp <;> with_reducible rfl)
      try simp only [Act.put, List.getElem_toArray, List.getElem_cons_zero, List.getElem_cons_succ, List.setIfInBounds_toArray, List.set_cons_zero, List.set_cons_succ]
      refine wpAnyH_take (i := 8) (v := ?v19) rfl (by kernel_rfl) (by kernel_rfl) (by kernel_rfl) (fun _ _ _ h => h) (Or.inl ⟨by rfl, ?y19⟩) (by assumption) ?_
      case y19 => (intro w hSw; (try dsimp only at hSw); go_simp <;> with_reducible rfl)
      try simp only [Act.put, List.getElem_toArray, List.getElem_cons_zero, List.getElem_cons_succ, List.setIfInBounds_toArray, List.set_cons_zero, List.set_cons_succ]
      refine wpAnyH_take (i := 9) (v := ?v20) rfl (by kernel_rfl) (by kernel_rfl) (by kernel_rfl) (fun _ _ _ h => h) (Or.inl ⟨by rfl, ?y20⟩) (by assumption) ?_
      case y20 => (intro w hSw; (try dsimp only at hSw); go_simp <;> with_reducible rfl)
      try simp only [Act.put, List.getElem_toArray, List.getElem_cons_zero, List.getElem_cons_succ, List.setIfInBounds_toArray, List.set_cons_zero, List.set_cons_succ]
      refine wpAnyH_ready (rs := [10]) (by kernel_rfl) (by simp) ?_
      refine (AllReadyH.cons rfl (fun K hK => ?_) AllReadyH.nil)
      go_simp
      go_at_call 53
      refine (HF.out a2 c2 _).mono ?_
      rintro e w9 ⟨rfl, rfl⟩
      simp only [FE]
      go_wp2_with fail
      refine ⟨rfl, ?_⟩
      exact ⟨rfl, grown_of_below HBB.out _⟩
  · simp only [if_neg h15]
    have g15 : ((c1 : Int) == 15) = false := by simp; omega
    have ha1b : (a1 : Int) ≤ 65540 := by omega
    have hwr : IntKind.i64.wrap ((q : Int) + (a1 : Int)) = (q : Int) + (a1 : Int) := by rw [IntKind.wrap_i64]; omega
    clear hpl hpl2 h15 hn1 hll hrn HU2
    by_cases h13 : c1 = 13
    · rw [if_neg (by simp [h13]), if_pos (by omega)]
      have g13 : ((c1 : Int) != 13) = false := by simp [h13]
      have g0 : ((c1 : Int) != 0) = true := by simp [h13]
      have g0' : ¬ (c1 : Int) = 0 := by omega
      clear h13 HBD
      go_enter Tryd.func67, Tryd.ntmps67
      go_wp2
      go_quiet (fail)
      rw [HRR.out]
      go_wp2_with (go_at_call 84; refine (HU1.out _).mono ?_)
      first | rintro e w2 v1 rfl hrow1 hb2 | rintro e w2 ⟨v1, rfl, hrow1, hb2⟩
      have hB2 : Below w.heap.size w w2 := ⟨hb2.os, hb2.tape, hb2.output, hb2.size, fun b hb => hb2.block b hb⟩
      have hB3 : Below w.heap.size w (w2.alloc (.cells #[.int .i64 (a1 : Int), .int .i64 (c1 : Int)] 44)) := hB2.alloc hB2.size _
      have HB3 : Hid _ := hB3
      clear hb2
      have HROW : Hid ((w2.alloc (.cells #[.int .i64 (a1 : Int), .int .i64 (c1 : Int)] 44)).ownsRow w.heap.size 5 1 v1 bs1.length (bytesV bs1)) := World.ownsRow.alloc (w := w2) hrow1 _
      have HRD : Hid (RdAt (w2.alloc (.cells #[.int .i64 (a1 : Int), .int .i64 (c1 : Int)] 44)) R s q) := HR.out.below hB3 HR.out.lt
      have r1 := HRD.out.at'
      have r2 := HRD.out.fz
      clear hrow1 hB2
      go_wp2
      obtain ⟨W0, hW0⟩ : ∃ W0, (w2.alloc (.cells #[.int .i64 (a1 : Int), .int .i64 (c1 : Int)] 44)) = W0 := ⟨_, rfl⟩
      have y0 : W0.cell? ⟨w2.heap.size, 0, none⟩ = some (.int .i64 (a1 : Int)) := by rw [← hW0]; exact cell_new 0 rfl
      have y1 : W0.cell? ⟨w2.heap.size, 1, none⟩ = some (.int .i64 (c1 : Int)) := by rw [← hW0]; exact cell_new 1 rfl
      have y2 : W0.cell? ⟨R, 1, none⟩ = some (.int .i64 (q : Int)) := by rw [← hW0]; exact r1
      have HBB : Hid (Below w.heap.size w W0.drew) := by have h := HB3.out; rw [hW0] at h; exact ⟨h.os, h.tape, h.output, h.size, h.block⟩
      rw [hW0]
      clear hW0 r1 r2 
      refine wp_region_held_drew (S := fun W => W.cell? ⟨w2.heap.size, 0, none⟩ = some (.int .i64 (a1 : Int)) ∧ W.cell? ⟨w2.heap.size, 1, none⟩ = some (.int .i64 (c1 : Int)) ∧ W.cell? ⟨R, 1, none⟩ = some (.int .i64 (q : Int))) (by kernel_rfl) ⟨y0, y1, y2⟩ (fun hHeld => ?_)
      refine wpAnyH_take (i := 0) (v := ?v21) rfl (by kernel_rfl) (by kernel_rfl) (by kernel_rfl) (fun _ _ _ h => h) (Or.inl ⟨by rfl, ?y21⟩) (by assumption) ?_
      case y21 => (intro w hSw; (try dsimp only at hSw); go_simp <;> with_reducible rfl)
      try simp only [Act.put, List.getElem_toArray, List.getElem_cons_zero, List.setIfInBounds_toArray, List.set_cons_zero, List.set_cons_succ]
      refine wpAnyH_take (i := 1) (v := ?v22) rfl (by kernel_rfl) (by kernel_rfl) (by kernel_rfl) (fun _ _ _ h => h) (Or.inl ⟨by rfl, ?y22⟩) (by assumption) ?_
      case y22 => (intro w hSw; (try dsimp only at hSw); go_simp <;> with_reducible rfl)
      try simp only [Act.put, List.getElem_toArray, List.getElem_cons_zero, List.getElem_cons_succ, List.setIfInBounds_toArray, List.set_cons_zero, List.set_cons_succ]
      refine wpAnyH_take (i := 2) (v := ?v23) rfl (by kernel_rfl) (by kernel_rfl) (by kernel_rfl) (fun _ _ _ h => h) (Or.inl ⟨by rfl, ?y23⟩) (by assumption) ?_
      case y23 => (intro w hSw; (try dsimp only at hSw); go_simp <;> with_reducible rfl)
      try simp only [Act.put, List.getElem_toArray, List.getElem_cons_zero, List.getElem_cons_succ, List.setIfInBounds_toArray, List.set_cons_zero, List.set_cons_succ]
      refine wpAnyH_take (i := 3) (v := ?v24) rfl (by kernel_rfl) (by kernel_rfl) (by kernel_rfl) (fun _ _ _ h => h) (Or.inl ⟨by rfl, ?y24⟩) (by assumption) ?_
      case y24 => (intro w hSw; (try dsimp only at hSw); go_simp <;> with_reducible rfl)
      try simp only [Act.put, List.getElem_toArray, List.getElem_cons_zero, List.getElem_cons_succ, List.setIfInBounds_toArray, List.set_cons_zero, List.set_cons_succ]
      refine wpAnyH_take (i := 4) (v := ?v25) rfl (by kernel_rfl) (by kernel_rfl) (by kernel_rfl) (fun _ _ _ h => h) (Or.inl ⟨by rfl, ?y25⟩) (by assumption) ?_
      case y25 => (intro w hSw; (try dsimp only at hSw); go_simp <;> with_reducible rfl)
      try simp only [Act.put, List.getElem_toArray, List.getElem_cons_zero, List.getElem_cons_succ, List.setIfInBounds_toArray, List.set_cons_zero, List.set_cons_succ]
      refine wpAnyH_take (i := 5) (v := ?v26) rfl (by kernel_rfl) (by kernel_rfl) (by kernel_rfl) (fun _ _ _ h => h) (Or.inl ⟨by rfl, ?y26⟩) (by assumption) ?_
      case y26 => (intro w hSw; (try dsimp only at hSw); go_simp <;> with_reducible rfl)
      try simp only [Act.put, List.getElem_toArray, List.getElem_cons_zero, List.getElem_cons_succ, List.setIfInBounds_toArray, List.set_cons_zero, List.set_cons_succ]
      refine wpAnyH_take (i := 6) (v := ?v27) rfl (by kernel_rfl) (by kernel_rfl) (by kernel_rfl) (fun _ _ _ h => h) (Or.inl ⟨by rfl, ?y27⟩) (by assumption) ?_
      case y27 => (intro w hSw; (try dsimp only at hSw); go_simp <;> with_reducible rfl)
      try simp only [Act.put, List.getElem_toArray, List.getElem_cons_zero, List.getElem_cons_succ, List.setIfInBounds_toArray, List.set_cons_zero, List.set_cons_succ]
      refine wpAnyH_take (i := 7) (v := ?v28) rfl (by kernel_rfl) (by kernel_rfl) (by kernel_rfl) (fun _ _ _ h => h) (Or.inl ⟨by rfl, ?y28⟩) (by assumption) ?_
      case y28 => (intro w hSw; (try dsimp only at hSw); go_simp <;> with_reducible rfl)
      try simp only [Act.put, List.getElem_toArray, List.getElem_cons_zero, List.getElem_cons_succ, List.setIfInBounds_toArray, List.set_cons_zero, List.set_cons_succ]
      refine wpAnyH_take (i := 8) (v := ?v29) rfl (by kernel_rfl) (by kernel_rfl) (by kernel_rfl) (fun _ _ _ h => h) (Or.inl ⟨by rfl, ?y29⟩) (by assumption) ?_
      case y29 => (intro w hSw; (try dsimp only at hSw); go_simp <;> with_reducible rfl)
      try simp only [Act.put, List.getElem_toArray, List.getElem_cons_zero, List.getElem_cons_succ, List.setIfInBounds_toArray, List.set_cons_zero, List.set_cons_succ]
      refine wpAnyH_take (i := 9) (v := ?v30) rfl (by kernel_rfl) (by kernel_rfl) (by kernel_rfl) (fun _ _ _ h => h) (Or.inl ⟨by rfl, ?y30⟩) (by assumption) ?_
      case y30 => (intro w hSw; (try dsimp only at hSw); go_simp <;> with_reducible rfl)
      try simp only [Act.put, List.getElem_toArray, List.getElem_cons_zero, List.getElem_cons_succ, List.setIfInBounds_toArray, List.set_cons_zero, List.set_cons_succ]
      refine wpAnyH_ready (rs := [10]) (by kernel_rfl) (by simp) ?_
      refine (AllReadyH.cons rfl (fun K hK => ?_) AllReadyH.nil)
      go_simp
      go_at_call 53
      refine (HF.out a1 c1 _).mono ?_
      rintro e w9 ⟨rfl, rfl⟩
      simp only [FE]
      go_wp2_with fail
      refine ⟨rfl, ?_⟩
      exact ⟨rfl, grown_of_below HBB.out _⟩
    have g13 : ((c1 : Int) != 13) = true := by simp; omega
    have g13' : ¬ (c1 : Int) = 13 := by omega
    by_cases h2 : 200 < m
    · rw [if_pos ⟨h13, h2⟩]
      simp only [if_pos h2] at HBD
      clear h13 h2
      go_enter Tryd.func67, Tryd.ntmps67
      go_wp2
      go_quiet (fail)
      rw [HRR.out]
      go_wp2_with (go_at_call 84; refine (HU1.out _).mono ?_)
      first | rintro e w2 v1 rfl hrow1 hb2 | rintro e w2 ⟨v1, rfl, hrow1, hb2⟩
      have hB2 : Below w.heap.size w w2 := ⟨hb2.os, hb2.tape, hb2.output, hb2.size, fun b hb => hb2.block b hb⟩
      have hB3 : Below w.heap.size w (w2.alloc (.cells #[.int .i64 (a1 : Int), .int .i64 (c1 : Int)] 44)) := hB2.alloc hB2.size _
      have HB3 : Hid _ := hB3
      clear hb2
      have HROW : Hid ((w2.alloc (.cells #[.int .i64 (a1 : Int), .int .i64 (c1 : Int)] 44)).ownsRow w.heap.size 5 1 v1 bs1.length (bytesV bs1)) := World.ownsRow.alloc (w := w2) hrow1 _
      have HRD : Hid (RdAt (w2.alloc (.cells #[.int .i64 (a1 : Int), .int .i64 (c1 : Int)] 44)) R s q) := HR.out.below hB3 HR.out.lt
      have r1 := HRD.out.at'
      have r2 := HRD.out.fz
      clear hrow1 hB2
      go_wp2_with (go_at_call 85; refine (HBD.out _ HRD.out).mono ?_)
      first | rintro e w9 rfl rfl | rintro e w9 ⟨rfl, rfl⟩
      simp only [FE]
      go_wp2
      refine ⟨rfl, ?_⟩
      exact ⟨rfl, grown_of_below HB3.out _⟩
    rw [if_neg (by omega)]
    simp only [if_neg h2] at HBD
    by_cases hc0 : c1 = 0
    · rw [if_neg (by simp [hc0])]
      have g0 : ((c1 : Int) != 0) = false := by simp [hc0]
      clear h13 h2 hc0
      go_enter Tryd.func67, Tryd.ntmps67
      go_wp2
      go_quiet (fail)
      rw [HRR.out]
      go_wp2_with (go_at_call 84; refine (HU1.out _).mono ?_)
      first | rintro e w2 v1 rfl hrow1 hb2 | rintro e w2 ⟨v1, rfl, hrow1, hb2⟩
      have hB2 : Below w.heap.size w w2 := ⟨hb2.os, hb2.tape, hb2.output, hb2.size, fun b hb => hb2.block b hb⟩
      have hB3 : Below w.heap.size w (w2.alloc (.cells #[.int .i64 (a1 : Int), .int .i64 (c1 : Int)] 44)) := hB2.alloc hB2.size _
      have HB3 : Hid _ := hB3
      clear hb2
      have HROW : Hid ((w2.alloc (.cells #[.int .i64 (a1 : Int), .int .i64 (c1 : Int)] 44)).ownsRow w.heap.size 5 1 v1 bs1.length (bytesV bs1)) := World.ownsRow.alloc (w := w2) hrow1 _
      have HRD : Hid (RdAt (w2.alloc (.cells #[.int .i64 (a1 : Int), .int .i64 (c1 : Int)] 44)) R s q) := HR.out.below hB3 HR.out.lt
      have r1 := HRD.out.at'
      have r2 := HRD.out.fz
      clear hrow1 hB2
      have HFN : Hid (RdAt ((w2.alloc (.cells #[.int .i64 (a1 : Int), .int .i64 (c1 : Int)] 44)).setCell ⟨R, 1, none⟩ (.int .i64 ((q : Int) + (n1 : Int)))) R s (q + n1) ∧ w.grownBy ((w2.alloc (.cells #[.int .i64 (a1 : Int), .int .i64 (c1 : Int)] 44)).setCell ⟨R, 1, none⟩ (.int .i64 ((q : Int) + (n1 : Int)))) (some R)) := by
        have h3 := HRD.out.put (q + n1)
        push_cast at h3
        exact ⟨h3, grown_tr (grown_of_below HB3.out _) (grown_set _ _ _ _)⟩
      have HRF : Hid (((w2.alloc (.cells #[.int .i64 (a1 : Int), .int .i64 (c1 : Int)] 44)).setCell ⟨R, 1, none⟩ (.int .i64 ((q : Int) + (n1 : Int)))).ownsRow w.heap.size 5 1 v1 bs1.length (bytesV bs1)) := row_put HROW.out HR.out.lt _
      go_wp2_with (go_at_call 85; refine (HBD.out _ HRD.out).mono ?_; rintro e w9 ⟨rfl, rfl⟩)
      go_ret
      exact ⟨⟨_, rfl, HRF.out⟩, HFN.out⟩
    · rw [if_pos hc0]
      have g0 : ((c1 : Int) != 0) = true := by simp; omega
      have g0' : ¬ (c1 : Int) = 0 := by omega
      clear h13 h2 hc0
      go_enter Tryd.func67, Tryd.ntmps67
      go_wp2
      go_quiet (fail)
      rw [HRR.out]
      go_wp2_with (go_at_call 84; refine (HU1.out _).mono ?_)
      first | rintro e w2 v1 rfl hrow1 hb2 | rintro e w2 ⟨v1, rfl, hrow1, hb2⟩
      have hB2 : Below w.heap.size w w2 := ⟨hb2.os, hb2.tape, hb2.output, hb2.size, fun b hb => hb2.block b hb⟩
      have hB3 : Below w.heap.size w (w2.alloc (.cells #[.int .i64 (a1 : Int), .int .i64 (c1 : Int)] 44)) := hB2.alloc hB2.size _
      have HB3 : Hid _ := hB3
      clear hb2
      have HROW : Hid ((w2.alloc (.cells #[.int .i64 (a1 : Int), .int .i64 (c1 : Int)] 44)).ownsRow w.heap.size 5 1 v1 bs1.length (bytesV bs1)) := World.ownsRow.alloc (w := w2) hrow1 _
      have HRD : Hid (RdAt (w2.alloc (.cells #[.int .i64 (a1 : Int), .int .i64 (c1 : Int)] 44)) R s q) := HR.out.below hB3 HR.out.lt
      have r1 := HRD.out.at'
      have r2 := HRD.out.fz
      clear hrow1 hB2
      go_wp2_with (go_at_call 85; refine (HBD.out _ HRD.out).mono ?_; rintro e w9 ⟨rfl, rfl⟩)
      obtain ⟨W0, hW0⟩ : ∃ W0, (w2.alloc (.cells #[.int .i64 (a1 : Int), .int .i64 (c1 : Int)] 44)) = W0 := ⟨_, rfl⟩
      have y0 : W0.cell? ⟨w2.heap.size, 0, none⟩ = some (.int .i64 (a1 : Int)) := by rw [← hW0]; exact cell_new 0 rfl
      have y1 : W0.cell? ⟨w2.heap.size, 1, none⟩ = some (.int .i64 (c1 : Int)) := by rw [← hW0]; exact cell_new 1 rfl
      have y2 : W0.cell? ⟨R, 1, none⟩ = some (.int .i64 (q : Int)) := by rw [← hW0]; exact r1
      have HBB : Hid (Below w.heap.size w W0.drew) := by have h := HB3.out; rw [hW0] at h; exact ⟨h.os, h.tape, h.output, h.size, h.block⟩
      rw [hW0]
      clear hW0 r1 r2 
      refine wp_region_held_drew (S := fun W => W.cell? ⟨w2.heap.size, 0, none⟩ = some (.int .i64 (a1 : Int)) ∧ W.cell? ⟨w2.heap.size, 1, none⟩ = some (.int .i64 (c1 : Int)) ∧ W.cell? ⟨R, 1, none⟩ = some (.int .i64 (q : Int))) (by kernel_rfl) ⟨y0, y1, y2⟩ (fun hHeld => ?_)
      refine wpAnyH_take (i := 0) (v := ?v31) rfl (by kernel_rfl) (by kernel_rfl) (by kernel_rfl) (fun _ _ _ h => h) (Or.inl ⟨by rfl, ?y31⟩) (by assumption) ?_
      case y31 => (intro w hSw; (try dsimp only at hSw); go_simp <;> with_reducible rfl)
      try simp only [Act.put, List.getElem_toArray, List.getElem_cons_zero, List.setIfInBounds_toArray, List.set_cons_zero, List.set_cons_succ]
      refine wpAnyH_take (i := 1) (v := ?v32) rfl (by kernel_rfl) (by kernel_rfl) (by kernel_rfl) (fun _ _ _ h => h) (Or.inl ⟨by rfl, ?y32⟩) (by assumption) ?_
      case y32 => (intro w hSw; (try dsimp only at hSw); go_simp <;> with_reducible rfl)
      try simp only [Act.put, List.getElem_toArray, List.getElem_cons_zero, List.getElem_cons_succ, List.setIfInBounds_toArray, List.set_cons_zero, List.set_cons_succ]
      refine wpAnyH_take (i := 2) (v := ?v33) rfl (by kernel_rfl) (by kernel_rfl) (by kernel_rfl) (fun _ _ _ h => h) (Or.inl ⟨by rfl, ?y33⟩) (by assumption) ?_
      case y33 => (intro w hSw; (try dsimp only at hSw); go_simp <;> with_reducible rfl)
      try simp only [Act.put, List.getElem_toArray, List.getElem_cons_zero, List.getElem_cons_succ, List.setIfInBounds_toArray, List.set_cons_zero, List.set_cons_succ]
      refine wpAnyH_take (i := 3) (v := ?v34) rfl (by kernel_rfl) (by kernel_rfl) (by kernel_rfl) (fun _ _ _ h => h) (Or.inl ⟨by rfl, ?y34⟩) (by assumption) ?_
      case y34 => (intro w hSw; (try dsimp only at hSw); go_simp <;> with_reducible rfl)
      try simp only [Act.put, List.getElem_toArray, List.getElem_cons_zero, List.getElem_cons_succ, List.setIfInBounds_toArray, List.set_cons_zero, List.set_cons_succ]
      refine wpAnyH_take (i := 4) (v := ?v35) rfl (by kernel_rfl) (by kernel_rfl) (by kernel_rfl) (fun _ _ _ h => h) (Or.inl ⟨by rfl, ?y35⟩) (by assumption) ?_
      case y35 => (intro w hSw; (try dsimp only at hSw); go_simp <;> with_reducible rfl)
      try simp only [Act.put, List.getElem_toArray, List.getElem_cons_zero, List.getElem_cons_succ, List.setIfInBounds_toArray, List.set_cons_zero, List.set_cons_succ]
      refine wpAnyH_take (i := 5) (v := ?v36) rfl (by kernel_rfl) (by kernel_rfl) (by kernel_rfl) (fun _ _ _ h => h) (Or.inl ⟨by rfl, ?y36⟩) (by assumption) ?_
      case y36 => (intro w hSw; (try dsimp only at hSw); go_simp <;> with_reducible rfl)
      try simp only [Act.put, List.getElem_toArray, List.getElem_cons_zero, List.getElem_cons_succ, List.setIfInBounds_toArray, List.set_cons_zero, List.set_cons_succ]
      refine wpAnyH_take (i := 6) (v := ?v37) rfl (by kernel_rfl) (by kernel_rfl) (by kernel_rfl) (fun _ _ _ h => h) (Or.inl ⟨by rfl, ?y37⟩) (by assumption) ?_
      case y37 => (intro w hSw; (try dsimp only at hSw); go_simp <;> with_reducible rfl)
      try simp only [Act.put, List.getElem_toArray, List.getElem_cons_zero, List.getElem_cons_succ, List.setIfInBounds_toArray, List.set_cons_zero, List.set_cons_succ]
      refine wpAnyH_take (i := 7) (v := ?v38) rfl (by kernel_rfl) (by kernel_rfl) (by kernel_rfl) (fun _ _ _ h => h) (Or.inl ⟨by rfl, ?y38⟩) (by assumption) ?_
      case y38 => (intro w hSw; (try dsimp only at hSw); go_simp <;> with_reducible rfl)
      try simp only [Act.put, List.getElem_toArray, List.getElem_cons_zero, List.getElem_cons_succ, List.setIfInBounds_toArray, List.set_cons_zero, List.set_cons_succ]
      refine wpAnyH_take (i := 8) (v := ?v39) rfl (by kernel_rfl) (by kernel_rfl) (by kernel_rfl) (fun _ _ _ h => h) (Or.inl ⟨by rfl, ?y39⟩) (by assumption) ?_
      case y39 => (intro w hSw; (try dsimp only at hSw); go_simp <;> with_reducible rfl)
      try simp only [Act.put, List.getElem_toArray, List.getElem_cons_zero, List.getElem_cons_succ, List.setIfInBounds_toArray, List.set_cons_zero, List.set_cons_succ]
      refine wpAnyH_take (i := 9) (v := ?v40) rfl (by kernel_rfl) (by kernel_rfl) (by kernel_rfl) (fun _ _ _ h => h) (Or.inl ⟨by rfl, ?y40⟩) (by assumption) ?_
      case y40 => (intro w hSw; (try dsimp only at hSw); go_simp <;> with_reducible rfl)
      try simp only [Act.put, List.getElem_toArray, List.getElem_cons_zero, List.getElem_cons_succ, List.setIfInBounds_toArray, List.set_cons_zero, List.set_cons_succ]
      refine wpAnyH_ready (rs := [10]) (by kernel_rfl) (by simp) ?_
      refine (AllReadyH.cons rfl (fun K hK => ?_) AllReadyH.nil)
      go_simp
      go_at_call 53
      refine (HF.out a1 c1 _).mono ?_
      rintro e w9 ⟨rfl, rfl⟩
      simp only [FE]
      go_wp2_with fail
      refine ⟨rfl, ?_⟩
      exact ⟨rfl, grown_of_below HBB.out _⟩
end Go.Proofs.YtlkcadibjmfmcaaDoor
