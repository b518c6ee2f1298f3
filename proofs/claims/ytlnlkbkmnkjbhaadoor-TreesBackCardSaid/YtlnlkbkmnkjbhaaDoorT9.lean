/- A tree's text: the document's own. -/
import Derived.Test.YtlnlkbkmnkjbhaaDoorT8
namespace Go.Proofs.YtlnlkbkmnkjbhaaDoor
open Go.RowKit Go.Shelf

theorem wrap_hex : ∀ n : Fin 256, IntKind.i64.wrap ((IntKind.i64.wrap (n.val : Int)).tdiv 16) = ((n.val / 16 : Nat) : Int) ∧ (IntKind.i64.wrap (n.val : Int)).tmod 16 = ((n.val % 16 : Nat) : Int) := by decide +kernel
theorem three_conv (W : World) (l : List UInt8) (hl : l.length = 3) (v0 v1 v2 : Int) (h : bvs l = [.int .u8 v0, .int .u8 v1, .int .u8 v2]) : (convert 40 9 (.slice (some ⟨W.heap.size, 0, none⟩) 3 3)).run Tryd.prog (W.alloc (.cells #[.int .u8 v0, .int .u8 v1, .int .u8 v2] 5)) = .ok (.string (bstr l)) (W.alloc (.cells #[.int .u8 v0, .int .u8 v1, .int .u8 v2] 5)) := by
  have := run_convert_bytes_back (P := Tryd.prog) (W.alloc (.cells #[.int .u8 v0, .int .u8 v1, .int .u8 v2] 5)) 40 9 5 ⟨W.heap.size, 0, none⟩ 3 l Tryd.underlying40 Tryd.underlying5 Tryd.underlying9 (fun j hj => by
    have e : (⟨W.heap.size, 0, none⟩ : Addr).add j = ⟨W.heap.size, j, none⟩ := by simp [Addr.add]; omega
    rw [e]
    refine cell_new j ?_
    have h2 : (bvs l)[j]? = some (.int .u8 (l[j].toNat : Int)) := by unfold bvs; rw [List.getElem?_map, List.getElem?_eq_getElem hj]; rfl
    rw [h] at h2
    rw [List.getElem?_toArray]; exact h2)
  rw [hl] at this
  exact this
set_option maxRecDepth 100000 in
set_option maxHeartbeats 4000000 in
theorem refText_leaf (d : Tr) (sv0 : Value) (w : World) (hr : d.rule = -1) : Calls Tryd.prog 56 #[.agg #[.int .i64 d.rule, .int .u8 (d.byte.toNat : Int), sv0]] w fun e w' => e = .returned (.string (bstr (txt d))) ∧ Below w.heap.size w w' := by
  obtain ⟨w1, hw1⟩ : ∃ w1, w.alloc (.cells #[.int .i64 d.rule, .int .u8 (d.byte.toNat : Int), sv0] 27) = w1 := ⟨_, rfl⟩
  have hB1 : Below w.heap.size w w1 := by rw [← hw1]; exact (Below.refl _ _).alloc (Nat.le_refl _) _
  have s1 : w1.heap.size = w.heap.size + 1 := by rw [← hw1]; simp
  have a0 : w1.cell? ⟨w.heap.size, 0, none⟩ = some (.int .i64 d.rule) := by rw [← hw1]; exact cell_new 0 rfl
  have a1 : w1.cell? ⟨w.heap.size, 1, none⟩ = some (.int .u8 (d.byte.toNat : Int)) := by rw [← hw1]; exact cell_new 1 rfl
  have HT : Hid _ := txt_leaf hr
  have hre : (d.rule == -1) = true := by simpa using hr
  have hlt : d.byte.toNat < 256 := d.byte.toNat_lt
  generalize d.byte.toNat = c at *
  obtain ⟨m1, hm1⟩ : ∃ m1, c / 16 = m1 := ⟨_, rfl⟩
  obtain ⟨m2, hm2⟩ : ∃ m2, c % 16 = m2 := ⟨_, rfl⟩
  have l1 : m1 < 16 := by omega
  have l2 : m2 < 16 := by omega
  obtain ⟨w1', w2'⟩ := wrap_hex ⟨c, hlt⟩
  simp only at w1' w2'
  rw [hm1] at w1'
  rw [hm2] at w2'
  rw [hm1, hm2] at HT
  have q1 : (m1 : Int) < 16 := by omega
  have q2 : (m2 : Int) < 16 := by omega
  have hx1 := hex_at ⟨m1, l1⟩
  have hx2 := hex_at ⟨m2, l2⟩
  simp only at hx1 hx2
  have HT' : Hid (bvs (txt d) = [.int .u8 120, .int .u8 ((hexd m1).toNat : Int), .int .u8 ((hexd m2).toNat : Int)]) := by show _ = _; rw [HT.out]; rfl
  have HL3 : Hid ((txt d).length = 3) := by show _ = _; rw [HT.out]; rfl
  generalize (hexd m1).toNat = v1 at *
  generalize (hexd m2).toNat = v2 at *
  have hcv := three_conv w1 (txt d) HL3.out 120 (v1 : Int) (v2 : Int) HT'.out
  have b1a : ∀ o : Obj, (w1.alloc o).drew.cell? ⟨w.heap.size, 1, none⟩ = some (.int .u8 (c : Int)) := fun o => (((Below.refl w1.heap.size w1).alloc (Nat.le_refl _) o).cell (p := ⟨w.heap.size, 1, none⟩) (by show w.heap.size < _; omega)).trans a1
  have HBF : Hid (Below w.heap.size w (w1.alloc (.cells #[.int .u8 120, .int .u8 (v1 : Int), .int .u8 (v2 : Int)] 5)).drew) := by
    have h := hB1.alloc (by omega : w.heap.size ≤ w1.heap.size) (.cells #[.int .u8 120, .int .u8 (v1 : Int), .int .u8 (v2 : Int)] 5)
    exact ⟨h.os, h.tape, h.output, h.size, h.block⟩
  clear hr hm1 hm2 hB1 s1
  go_enter Tryd.func56, Tryd.ntmps56
  go_wp2
  have hcv' : (convert 40 9 (.slice (some ⟨w1.heap.size, 0, none⟩) 3 3)).run Tryd.prog (w1.alloc (.cells #[.int .u8 120, .int .u8 (v1 : Int), .int .u8 (v2 : Int)] 5)).drew = .ok (.string (bstr (txt d))) (w1.alloc (.cells #[.int .u8 120, .int .u8 (v1 : Int), .int .u8 (v2 : Int)] 5)).drew := by
    have h := three_conv w1.drew (txt d) HL3.out 120 (v1 : Int) (v2 : Int) HT'.out
    exact h
  refine wp_region_held_drew (S := fun W => W.cell? ⟨w.heap.size, 1, none⟩ = some (.int .u8 (c : Int))) (by kernel_rfl) a1 (fun hHeld => ?_)
  refine wpAnyH_take (i := 0) (v := ?v1) rfl (by kernel_rfl) (by kernel_rfl) (by kernel_rfl) (fun _ _ _ h => h) (Or.inl ⟨by rfl, ?y1⟩) (by assumption) ?_
  case y1 => (intro w hSw; (try dsimp only at hSw); go_simp <;> with_reducible rfl)
  try simp only [Act.put, List.getElem_toArray, List.getElem_cons_zero, List.setIfInBounds_toArray, List.set_cons_zero, List.set_cons_succ]
  refine wpAnyH_take (i := 1) (v := ?v2) rfl (by kernel_rfl) (by kernel_rfl) (by kernel_rfl) (fun _ _ _ h => h) (Or.inl ⟨by rfl, ?y2⟩) (by assumption) ?_
  case y2 => (intro w hSw; (try dsimp only at hSw); go_simp <;> with_reducible rfl)
  try simp only [Act.put, List.getElem_toArray, List.getElem_cons_zero, List.getElem_cons_succ, List.setIfInBounds_toArray, List.set_cons_zero, List.set_cons_succ]
  refine wpAnyH_take (i := 2) (v := ?v3) rfl (by kernel_rfl) (by kernel_rfl) (by kernel_rfl) (fun _ _ _ h => h) (Or.inl ⟨by rfl, ?y3⟩) (by assumption) ?_
  case y3 => (intro w hSw; (try dsimp only at hSw); go_simp <;> with_reducible rfl)
  try simp only [Act.put, List.getElem_toArray, List.getElem_cons_zero, List.getElem_cons_succ, List.setIfInBounds_toArray, List.set_cons_zero, List.set_cons_succ]
  refine wpAnyH_take (i := 3) (v := ?v4) rfl (by kernel_rfl) (by kernel_rfl) (by kernel_rfl) (fun _ _ _ h => h) (Or.inl ⟨by rfl, ?y4⟩) (by assumption) ?_
  case y4 => (intro w hSw; (try dsimp only at hSw); go_simp <;> with_reducible rfl)
  try simp only [Act.put, List.getElem_toArray, List.getElem_cons_zero, List.getElem_cons_succ, List.setIfInBounds_toArray, List.set_cons_zero, List.set_cons_succ]
  refine wpAnyH_take (i := 4) (v := ?v5) rfl (by kernel_rfl) (by kernel_rfl) (by kernel_rfl) (fun _ _ _ h => h) (Or.inl ⟨by rfl, ?y5⟩) (by assumption) ?_
  case y5 => (intro w hSw; (try dsimp only at hSw); go_simp <;> with_reducible rfl)
  try simp only [Act.put, List.getElem_toArray, List.getElem_cons_zero, List.getElem_cons_succ, List.setIfInBounds_toArray, List.set_cons_zero, List.set_cons_succ]
  refine wpAnyH_take (i := 5) (v := ?v6) rfl (by kernel_rfl) (by kernel_rfl) (by kernel_rfl) (fun _ _ _ h => h) (Or.inl ⟨by rfl, ?y6⟩) (by assumption) ?_
  case y6 => (intro w hSw; (try dsimp only at hSw); go_simp <;> with_reducible rfl)
  try simp only [Act.put, List.getElem_toArray, List.getElem_cons_zero, List.getElem_cons_succ, List.setIfInBounds_toArray, List.set_cons_zero, List.set_cons_succ]
  refine wpAnyH_take (i := 6) (v := ?v7) rfl (by kernel_rfl) (by kernel_rfl) (by kernel_rfl) (fun _ _ _ h => h) (Or.inl ⟨by rfl, ?y7⟩) (by assumption) ?_
  case y7 => (intro w hSw; (try dsimp only at hSw); go_simp <;> with_reducible rfl)
  try simp only [Act.put, List.getElem_toArray, List.getElem_cons_zero, List.getElem_cons_succ, List.setIfInBounds_toArray, List.set_cons_zero, List.set_cons_succ]
  refine wpAnyH_take (i := 7) (v := ?v8) rfl (by kernel_rfl) (by kernel_rfl) (by kernel_rfl) (fun _ _ _ h => h) (Or.inl ⟨by rfl, ?y8⟩) (by assumption) ?_
  case y8 => (intro w hSw; (try dsimp only at hSw); go_simp <;> with_reducible rfl)
  try simp only [Act.put, List.getElem_toArray, List.getElem_cons_zero, List.getElem_cons_succ, List.setIfInBounds_toArray, List.set_cons_zero, List.set_cons_succ]
  refine wpAnyH_take (i := 8) (v := ?v9) rfl (by kernel_rfl) (by kernel_rfl) (by kernel_rfl) (fun _ _ _ h => h) (Or.inl ⟨by rfl, ?y9⟩) (by assumption) ?_
  case y9 => (intro w hSw; (try dsimp only at hSw); go_simp <;> with_reducible rfl)
  try simp only [Act.put, List.getElem_toArray, List.getElem_cons_zero, List.getElem_cons_succ, List.setIfInBounds_toArray, List.set_cons_zero, List.set_cons_succ]
  refine wpAnyH_take (i := 9) (v := ?v10) rfl (by kernel_rfl) (by kernel_rfl) (by kernel_rfl) (fun _ _ _ h => h) (Or.inl ⟨by rfl, ?y10⟩) (by assumption) ?_
  case y10 => (intro w hSw; (try dsimp only at hSw); go_simp <;> with_reducible rfl)
  try simp only [Act.put, List.getElem_toArray, List.getElem_cons_zero, List.getElem_cons_succ, List.setIfInBounds_toArray, List.set_cons_zero, List.set_cons_succ]
  refine wpAnyH_ready (rs := [10]) (by kernel_rfl) (by simp) ?_
  refine (AllReadyH.cons rfl (fun K hK => ?_) AllReadyH.nil)
  · go_simp
    refine hK.out _ _ (b1a _) (fun hHeld => ?_)
    clear hK K
    try simp only [Act.put, List.getElem_toArray, List.getElem_cons_zero, List.getElem_cons_succ, List.setIfInBounds_toArray, List.set_cons_zero, List.set_cons_succ]
    refine wpAnyH_ready (rs := [11]) (by kernel_rfl) (by simp) ?_
    refine (AllReadyH.cons rfl (fun K hK => ?_) AllReadyH.nil)
    · go_simp
      refine hK.out _ _ (b1a _) (fun hHeld => ?_)
      clear hK K
      try simp only [Act.put, List.getElem_toArray, List.getElem_cons_zero, List.getElem_cons_succ, List.setIfInBounds_toArray, List.set_cons_zero, List.set_cons_succ]
      refine wpAnyH_take (i := 12) (v := ?v11) rfl (by kernel_rfl) (by kernel_rfl) (by kernel_rfl) (fun _ _ _ h => h) (Or.inl ⟨by rfl, ?y11⟩) (by assumption) ?_
      case y11 => (intro w hSw; (try dsimp only at hSw); go_simp <;> with_reducible rfl)
      try simp only [Act.put, List.getElem_toArray, List.getElem_cons_zero, List.getElem_cons_succ, List.setIfInBounds_toArray, List.set_cons_zero, List.set_cons_succ]
      refine wpAnyH_done (by kernel_rfl) ?_ _
      go_wp2
      go_ret
      exact ⟨rfl, HBF.out⟩
end Go.Proofs.YtlnlkbkmnkjbhaaDoor
