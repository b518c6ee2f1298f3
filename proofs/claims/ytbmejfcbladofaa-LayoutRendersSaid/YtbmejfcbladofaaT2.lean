/- The things of a document. -/
import Derived.Test.YtbmejfcbladofaaT1
namespace Go.Proofs.Ytbmejfcbladofaa
open Go.RowKit

theorem right_ok {d : Dc} (h : rightD d = true) : (pre d 1).length ≤ 20000 ∧ ∀ p ∈ pre d 1, okP p = true := by
  unfold rightD at h
  simp at h
  exact ⟨h.1, fun p hp => h.2 p.1 p.2 hp⟩
set_option maxRecDepth 100000 in
set_option maxHeartbeats 4000000 in
theorem things_any (d : Dc) (sa : Option Addr) (sc f : Nat) (w : World) (hk : DAt w w.heap.size f sa d.kids) (hr : rightD d = true) :
    Calls Try.prog 34 #[.agg #[.int .i64 d.kind, .string d.text, .int .i64 d.n, .slice sa d.kids.length sc]] w fun e w' => (∃ v, e = .returned v ∧ w'.ownsRow w.heap.size 88 1 v (thg d 0).length (thsV (thg d 0))) ∧ Below w.heap.size w w' := by
  obtain ⟨hl, hok⟩ := right_ok hr
  have hmf := hmf45
  obtain ⟨w1, hw1⟩ : ∃ w1, w.alloc (.cells #[.int .i64 d.kind, .string d.text, .int .i64 d.n, .slice sa d.kids.length sc] 24) = w1 := ⟨_, rfl⟩
  have s1 : w1.heap.size = w.heap.size + 1 := by rw [← hw1]; simp
  have hB1 : Below w.heap.size w w1 := by rw [← hw1]; exact (Below.refl _ _).alloc (Nat.le_refl _) _
  have x0 : w1.cell? ⟨w.heap.size, 0, none⟩ = some (.int .i64 d.kind) := by rw [← hw1]; exact cell_new 0 rfl
  have x1 : w1.cell? ⟨w.heap.size, 1, none⟩ = some (.string d.text) := by rw [← hw1]; exact cell_new 1 rfl
  have x2 : w1.cell? ⟨w.heap.size, 2, none⟩ = some (.int .i64 d.n) := by rw [← hw1]; exact cell_new 2 rfl
  have x3 : w1.cell? ⟨w.heap.size, 3, none⟩ = some (.slice sa d.kids.length sc) := by rw [← hw1]; exact cell_new 3 rfl
  obtain ⟨w3, hw3⟩ : ∃ w3, ((w1.alloc (.cells #[.slice none 0 0] 65)).alloc (.cells #[.nilFunc] 92)).setCell ⟨w.heap.size + 1 + 1, 0, none⟩ (.func (.func 45) #[] #[.pointer (some ⟨w.heap.size + 1, 0, none⟩), .pointer (some ⟨w.heap.size + 1 + 1, 0, none⟩)]) = w3 := ⟨_, rfl⟩
  have bL0 := (Boxed.new w1 65 (.slice none 0 0)).alloc (.cells #[.nilFunc] 92)
  have bF0 := Boxed.new (w1.alloc (.cells #[.slice none 0 0] 65)) 92 .nilFunc
  simp only [World.size_alloc, s1] at bL0 bF0
  have bL : Boxed w3 (w.heap.size + 1) 65 (.slice none 0 0) := by rw [← hw3]; exact box_other bL0 _ (by omega)
  have bF : Boxed w3 (w.heap.size + 1 + 1) 92 (.func (.func 45) #[] #[.pointer (some ⟨w.heap.size + 1, 0, none⟩), .pointer (some ⟨w.heap.size + 1 + 1, 0, none⟩)]) := by rw [← hw3]; exact box_set bF0 _
  have hB3 : Below (w.heap.size + 1) w1 w3 := by rw [← hw3]; exact (((Below.refl _ _).alloc (by omega) _).alloc (by simp; omega) _).setCell (by show _ ≤ w.heap.size + 1 + 1; omega) _
  have hBw : Below w.heap.size w w3 := hB1.trans (hB3.mono (by omega))
  have HA : Hid (AddS w.heap.size (w.heap.size + 1) (w.heap.size + 1 + 1) (.slice none 0 0) [] w3) := ⟨bL, bF, World.ownsRow_nil _ _ _ _, by omega, by omega, by omega, by simp [Value.ownBlock], by simp [Value.ownBlock]⟩
  have H45 : Hid _ := fun (_ : Unit) => add_any _ d 1 0 f sa sc w.heap.size (w.heap.size + 1) (w.heap.size + 1 + 1) (.slice none 0 0) [] w3 (Nat.le_refl _) hok (by omega) (by omega) (hk.keep hBw) HA.out (by simp; omega)
  have y0 := (hB3.cell (p := ⟨w.heap.size, 0, none⟩) (by show w.heap.size < _; omega)).trans x0
  have y1 := (hB3.cell (p := ⟨w.heap.size, 1, none⟩) (by show w.heap.size < _; omega)).trans x1
  have y2 := (hB3.cell (p := ⟨w.heap.size, 2, none⟩) (by show w.heap.size < _; omega)).trans x2
  have y3 := (hB3.cell (p := ⟨w.heap.size, 3, none⟩) (by show w.heap.size < _; omega)).trans x3
  have yF := bF.cell
  have n0 := bF0.cell
  have nf := bF0.frozen
  have hst : (store ⟨w.heap.size + 1 + 1, 0, none⟩ (.func (.func 45) #[] #[.pointer (some ⟨w.heap.size + 1, 0, none⟩), .pointer (some ⟨w.heap.size + 1 + 1, 0, none⟩)])).run Try.prog ((w1.alloc (.cells #[.slice none 0 0] 65)).alloc (.cells #[.nilFunc] 92)) = .ok () w3 := by
    rw [run_store Try.prog _ _ _ _ rfl, n0]
    simp only [nf, hw3]
    rfl
  have HB : Hid (w.heap.size + 1 ≤ w3.heap.size) := by show _ ≤ _; have := hB3.size; omega
  clear x0 x1 x2 x3 hB3 bL bF bL0 bF0 HA hk hok hl hB1
  go_enter Try.func34, Try.ntmps34
  go_wp2_with (go_at_call 45; refine (H45.out ()).mono ?_)
  rintro e w4 ⟨⟨rv, rfl⟩, v', hA4, hT4⟩
  rw [List.nil_append] at hA4
  have hc := hA4.lb.cell
  have hrow := hA4.row
  have hBf : Below w.heap.size w w4 := ⟨hT4.os.trans hBw.os, hT4.tape.trans hBw.tape, hT4.output.trans hBw.output, Nat.le_trans hBw.size hT4.size, fun b hb => (hT4.keep b (by have := HB.out; omega) (by omega) (by simp [Value.ownBlock])).trans (hBw.block b hb)⟩
  clear hA4 hT4 y0 y1 y2 y3 yF n0 nf hw1 hw3 hst
  go_wp2
  go_ret
  exact ⟨⟨v', rfl, hrow⟩, hBf⟩
end Go.Proofs.Ytbmejfcbladofaa
