/- The fixed calls that each law of the sets makes: the text of a, b, c is read as their set, and the rest comes out as it must. -/
import Derived.Test.YtpjnohpjdmgglabW9
import Derived.Test.YtpjnohpjdmgglabW3
namespace Go.Proofs.Ytpjnohpjdmgglab
open Go.RowKit

theorem byt1 : (⟨#[91, 97, 45, 99, 93]⟩ : ByteArray)[1].toNat = 97 := rfl
theorem byt3 : (⟨#[91, 97, 45, 99, 93]⟩ : ByteArray)[3].toNat = 99 := rfl
theorem plain97 : plain 97 = true := by decide +kernel
theorem plain99 : plain 99 = true := by decide +kernel
set_option maxRecDepth 100000 in
set_option maxHeartbeats 1000000 in
theorem rs1 (w : World) :
    Calls Try.prog 92 #[.string ⟨#[91, 97, 45, 99, 93]⟩, .int .i64 1] w fun e w' => e = .returned (.tuple #[.int .u8 97, .int .i64 2, .agg #[.int .i64 0, .int .i64 0]]) ∧ Below w.heap.size w w' := by
  have HP : Hid _ := fun w => plain_any 97 w (by decide)
  rw [plain97] at HP
  go_enter Try.func92, Try.ntmps92
  go_wp2_with (go_at_call 60; refine (HP.out _).mono ?_; rintro e w1 ⟨rfl, rfl⟩)
  exact bodyPost_ret (v := .tuple #[.int .u8 97, .int .i64 2, .agg #[.int .i64 0, .int .i64 0]]) (by simp [results, Try.results92, go_sem, byt1]) rfl ⟨rfl, (Below.refl _ _).alloc (Nat.le_refl _) _⟩
set_option maxRecDepth 100000 in
set_option maxHeartbeats 1000000 in
theorem rs3 (w : World) :
    Calls Try.prog 92 #[.string ⟨#[91, 97, 45, 99, 93]⟩, .int .i64 3] w fun e w' => e = .returned (.tuple #[.int .u8 99, .int .i64 4, .agg #[.int .i64 0, .int .i64 0]]) ∧ Below w.heap.size w w' := by
  have HP : Hid _ := fun w => plain_any 99 w (by decide)
  rw [plain99] at HP
  go_enter Try.func92, Try.ntmps92
  go_wp2_with (go_at_call 60; refine (HP.out _).mono ?_; rintro e w1 ⟨rfl, rfl⟩)
  exact bodyPost_ret (v := .tuple #[.int .u8 99, .int .i64 4, .agg #[.int .i64 0, .int .i64 0]]) (by simp [results, Try.results92, go_sem, byt3]) rfl ⟨rfl, (Below.refl _ _).alloc (Nat.le_refl _) _⟩

theorem range_ac (w : World) : Calls Try.prog 93 #[.int .i64 97, .int .i64 99] w fun e w' => e = .returned (.tuple #[.agg #[.int .u64 (rng 97 3).a, .int .u64 (rng 97 3).b, .int .u64 (rng 97 3).c, .int .u64 (rng 97 3).d], .int .i64 0]) ∧ Below w.heap.size w w' :=
  range_any 97 99 w (by decide) (by decide)
set_option maxRecDepth 100000 in
set_option maxHeartbeats 2000000 in
theorem ri (w : World) :
    Calls Try.prog 78 #[.string ⟨#[91, 97, 45, 99, 93]⟩, .int .i64 1] w fun e w' => e = .returned (.tuple #[.agg #[.int .u64 (rng 97 3).a, .int .u64 (rng 97 3).b, .int .u64 (rng 97 3).c, .int .u64 (rng 97 3).d], .int .i64 4, .agg #[.int .i64 0, .int .i64 0]]) ∧ Below w.heap.size w w' := by
  have HR : Hid _ := fun w => range_ac w
  have H1 : Hid _ := fun w => rs1 w
  have H3 : Hid _ := fun w => rs3 w
  generalize rng 97 3 = r at *
  have x2 : (⟨#[91, 97, 45, 99, 93]⟩ : ByteArray)[2].toNat = 45 := rfl
  have hb0 : Below w.heap.size w ((w.alloc (.cells #[.int .u64 0, .int .u64 0, .int .u64 0, .int .u64 0] 24)).alloc (.cells #[.int .i64 0, .int .i64 0] 41)) := ((Below.refl _ _).alloc (Nat.le_refl _) _).alloc (by simp <;> omega) _
  go_enter Try.func78, Try.ntmps78
  go_wp2_with (go_at_call 92; refine (H1.out _).mono ?_)
  rintro e w1 ⟨rfl, hb1⟩
  clear H1
  obtain ⟨hc1, hf1⟩ := bcell hb1
  have hz1 := hb1.size
  simp only [World.size_alloc] at hz1
  have y0 : w.heap.size < w1.heap.size := by omega
  have y1 : w.heap.size + 1 < w1.heap.size := by omega
  have hB1 := below_of hb0 hb1
  go_wp2_with (go_at_call 92; refine (H3.out _).mono ?_)
  rintro e w2 ⟨rfl, hb2⟩
  clear H3
  obtain ⟨hc2, hf2⟩ := bcell hb2
  have hz2 := hb2.size
  simp only [World.size_alloc] at hz2
  have u0 : w.heap.size < w2.heap.size := by omega
  have u1 : w.heap.size + 1 < w2.heap.size := by omega
  have u2 : w1.heap.size < w2.heap.size := by omega
  have n0 : w.heap.size ≠ w1.heap.size := by omega
  have n1 : w.heap.size + 1 ≠ w1.heap.size := by omega
  go_wp2_with (go_at_call 93; refine (HR.out _).mono ?_)
  rintro e w3 ⟨rfl, hb3⟩
  obtain ⟨hc3, hf3⟩ := bcell hb3
  have hz3 := hb3.size
  simp only [World.size_setCell] at hz3
  have v0 : w.heap.size < w3.heap.size := by omega
  have v1 : w.heap.size + 1 < w3.heap.size := by omega
  have v2 : w1.heap.size < w3.heap.size := by omega
  have a0 : w3.cell? ⟨w.heap.size, 0, none⟩ = some (.int .u64 0) := by go_simp
  have a1 : w3.cell? ⟨w.heap.size, 1, none⟩ = some (.int .u64 0) := by go_simp
  have a2 : w3.cell? ⟨w.heap.size, 2, none⟩ = some (.int .u64 0) := by go_simp
  have a3 : w3.cell? ⟨w.heap.size, 3, none⟩ = some (.int .u64 0) := by go_simp
  have b0 : w3.cell? ⟨w.heap.size + 1, 0, none⟩ = some (.int .i64 0) := by go_simp
  have b1 : w3.cell? ⟨w.heap.size + 1, 1, none⟩ = some (.int .i64 0) := by go_simp
  go_wp2
  refine bodyPost_ret (v := .tuple #[.agg #[.int .u64 r.a, .int .u64 r.b, .int .u64 r.c, .int .u64 r.d], .int .i64 4, .agg #[.int .i64 0, .int .i64 0]]) (by simp [results, Try.results78, go_sem, a0, a1, a2, a3, b0, b1, v0, v1]) rfl ⟨rfl, ?_⟩
  have hB2 := below_of (hB1.alloc (by omega) _) hb2
  have hB3 := below_of ((hB2.setCell (p := ⟨w1.heap.size, 0, none⟩) (by simp only; omega) _).setCell (p := ⟨w1.heap.size, 1, none⟩) (by simp only; omega) _) hb3
  refine Below.alloc ?_ ?_ _
  · refine Below.setCell (Below.setCell (Below.setCell (Below.setCell (Below.setCell (Below.setCell hB3 ?_ _) ?_ _) ?_ _) ?_ _) ?_ _) ?_ _ <;> (simp only; omega)
  · simp; omega

set_option maxRecDepth 100000 in
set_option maxHeartbeats 2000000 in
theorem ris (w : World) :
    Calls Try.prog 58 #[.string ⟨#[91, 97, 45, 99, 93]⟩, .int .i64 1] w fun e w' => e = .returned (.tuple #[.agg #[.int .u64 (rng 97 3).a, .int .u64 (rng 97 3).b, .int .u64 (rng 97 3).c, .int .u64 (rng 97 3).d], .int .i64 4, .agg #[.int .i64 0, .int .i64 0]]) ∧ Below w.heap.size w w' := by
  have HI : Hid _ := fun w => ri w
  have HO : Hid _ := fun w => or_any St.zero (rng 97 3) w St.zero_ok (rng_ok 97 3)
  have e0 : St.zero.or (rng 97 3) = rng 97 3 := St.ext' (St.or_ok St.zero_ok (rng_ok 97 3)) (rng_ok 97 3) (fun n _ => by rw [St.has_or, St.has_zero, Bool.false_or])
  rw [e0] at HO
  clear e0
  generalize rng 97 3 = r at *
  have x1 : (⟨#[91, 97, 45, 99, 93]⟩ : ByteArray)[1].toNat = 97 := rfl
  have x4 : (⟨#[91, 97, 45, 99, 93]⟩ : ByteArray)[4].toNat = 93 := rfl
  have hb0 : Below w.heap.size w (((w.alloc (.cells #[.int .u64 0, .int .u64 0, .int .u64 0, .int .u64 0] 24)).alloc (.cells #[.int .i64 0, .int .i64 0] 41)).alloc (.cells #[.int .u64 0, .int .u64 0, .int .u64 0, .int .u64 0] 24)) := (((Below.refl _ _).alloc (Nat.le_refl _) _).alloc (by simp <;> omega) _).alloc (by simp <;> omega) _
  go_enter Try.func58, Try.ntmps58
  go_wp2
  refine wp_loop_rounds 2 ?_
  rw [rounds_succ]
  go_wp2_with (go_at_call 78; refine (HI.out _).mono ?_)
  rintro e w1 ⟨rfl, hb1⟩
  obtain ⟨hc1, hf1⟩ := bcell hb1
  have hz1 := hb1.size
  simp only [World.size_alloc] at hz1
  have y0 : w.heap.size < w1.heap.size := by omega
  have y1 : w.heap.size + 1 < w1.heap.size := by omega
  have y2 : w.heap.size + 1 + 1 < w1.heap.size := by omega
  have hB1 := below_of hb0 hb1
  go_wp2_with (go_at_call 10; refine (HO.out _).mono ?_)
  rintro e w2 ⟨rfl, hb2⟩
  obtain ⟨hc2, hf2⟩ := bcell hb2
  have hz2 := hb2.size
  simp only [World.size_alloc] at hz2
  have u0 : w.heap.size < w2.heap.size := by omega
  have u1 : w.heap.size + 1 < w2.heap.size := by omega
  have u2 : w.heap.size + 1 + 1 < w2.heap.size := by omega
  have hA2 := below_of ((hb1.alloc (by simp; omega) (.cells #[.int .u64 r.a, .int .u64 r.b, .int .u64 r.c, .int .u64 r.d] 24)).alloc (by simp; omega) (.cells #[.int .i64 0, .int .i64 0] 41)) hb2
  have a0 : w2.cell? ⟨w.heap.size, 0, none⟩ = some (.int .u64 0) := (hA2.cell (p := ⟨w.heap.size, 0, none⟩) (by simp <;> omega)).trans (by go_simp)
  have a1 : w2.cell? ⟨w.heap.size, 1, none⟩ = some (.int .u64 0) := (hA2.cell (p := ⟨w.heap.size, 1, none⟩) (by simp <;> omega)).trans (by go_simp)
  have a2 : w2.cell? ⟨w.heap.size, 2, none⟩ = some (.int .u64 0) := (hA2.cell (p := ⟨w.heap.size, 2, none⟩) (by simp <;> omega)).trans (by go_simp)
  have a3 : w2.cell? ⟨w.heap.size, 3, none⟩ = some (.int .u64 0) := (hA2.cell (p := ⟨w.heap.size, 3, none⟩) (by simp <;> omega)).trans (by go_simp)
  have b0 : w2.cell? ⟨w.heap.size + 1, 0, none⟩ = some (.int .i64 0) := (hA2.cell (p := ⟨w.heap.size + 1, 0, none⟩) (by simp <;> omega)).trans (by go_simp)
  have b1 : w2.cell? ⟨w.heap.size + 1, 1, none⟩ = some (.int .i64 0) := (hA2.cell (p := ⟨w.heap.size + 1, 1, none⟩) (by simp <;> omega)).trans (by go_simp)
  have d0 : w2.cell? ⟨w.heap.size + 1 + 1, 0, none⟩ = some (.int .u64 0) := (hA2.cell (p := ⟨w.heap.size + 1 + 1, 0, none⟩) (by simp <;> omega)).trans (by go_simp)
  have d1 : w2.cell? ⟨w.heap.size + 1 + 1, 1, none⟩ = some (.int .u64 0) := (hA2.cell (p := ⟨w.heap.size + 1 + 1, 1, none⟩) (by simp <;> omega)).trans (by go_simp)
  have d2 : w2.cell? ⟨w.heap.size + 1 + 1, 2, none⟩ = some (.int .u64 0) := (hA2.cell (p := ⟨w.heap.size + 1 + 1, 2, none⟩) (by simp <;> omega)).trans (by go_simp)
  have d3 : w2.cell? ⟨w.heap.size + 1 + 1, 3, none⟩ = some (.int .u64 0) := (hA2.cell (p := ⟨w.heap.size + 1 + 1, 3, none⟩) (by simp <;> omega)).trans (by go_simp)
  have f0 : ∀ o, w2.frozen? ⟨w.heap.size, o, none⟩ = false := fun o => (hA2.frozen (p := ⟨w.heap.size, o, none⟩) (by simp <;> omega)).trans (by go_simp)
  have f1 : ∀ o, w2.frozen? ⟨w.heap.size + 1, o, none⟩ = false := fun o => (hA2.frozen (p := ⟨w.heap.size + 1, o, none⟩) (by simp <;> omega)).trans (by go_simp)
  have f2 : ∀ o, w2.frozen? ⟨w.heap.size + 1 + 1, o, none⟩ = false := fun o => (hA2.frozen (p := ⟨w.heap.size + 1 + 1, o, none⟩) (by simp <;> omega)).trans (by go_simp)
  clear hc1 hf1 hc2 hf2 HI HO
  go_wp2
  rw [rounds_succ]
  go_wp2
  refine bodyPost_ret (v := .tuple #[.agg #[.int .u64 r.a, .int .u64 r.b, .int .u64 r.c, .int .u64 r.d], .int .i64 4, .agg #[.int .i64 0, .int .i64 0]]) (by simp [results, Try.results58, go_sem, a0, a1, a2, a3, b0, b1]) rfl ⟨rfl, ?_⟩
  have hB2 := hb0.trans (hA2.mono hb0.size)
  refine Below.setCell ?_ (by simp only; omega) _
  refine Below.setCell ?_ (by simp only; omega) _
  refine Below.setCell ?_ (by simp only; omega) _
  refine Below.setCell ?_ (by simp only; omega) _
  refine Below.setCell ?_ (by simp only; omega) _
  refine Below.setCell ?_ (by simp only; omega) _
  refine Below.setCell ?_ (by simp only; omega) _
  refine Below.setCell ?_ (by simp only; omega) _
  refine Below.setCell ?_ (by simp only; omega) _
  refine Below.setCell ?_ (by simp only; omega) _
  exact hB2

theorem hp1 : Lib.hasPrefix [91, 97, 45, 99, 93] [91] = true := by decide
theorem hp2 : Lib.hasPrefix [91, 97, 45, 99, 93] [91, 94] = false := by decide
set_option maxRecDepth 100000 in
set_option maxHeartbeats 2000000 in
theorem parse_abc (w : World) :
    Calls Try.prog 32 #[.string ⟨#[91, 97, 45, 99, 93]⟩] w fun e w' => e = .returned (.tuple #[.agg #[.int .u64 (rng 97 3).a, .int .u64 (rng 97 3).b, .int .u64 (rng 97 3).c, .int .u64 (rng 97 3).d], .agg #[.int .i64 0, .int .i64 0]]) ∧ Below w.heap.size w w' := by
  have HI : Hid _ := fun w => ris w
  have HP1 : Hid (∀ w, Calls Try.prog 47 #[.string ⟨#[91, 97, 45, 99, 93]⟩, .string ⟨#[91]⟩] w fun e w' => e = .returned (.bool true) ∧ w' = w) := fun w => prefix_any _ _ w
  have HP2 : Hid (∀ w, Calls Try.prog 47 #[.string ⟨#[91, 97, 45, 99, 93]⟩, .string ⟨#[91, 94]⟩] w fun e w' => e = .returned (.bool false) ∧ w' = w) := fun w => prefix_any _ _ w
  generalize rng 97 3 = r at *
  have hb0 : Below w.heap.size w ((w.alloc (.cells #[.int .u64 0, .int .u64 0, .int .u64 0, .int .u64 0] 24)).alloc (.cells #[.int .i64 0, .int .i64 0] 41)) := ((Below.refl _ _).alloc (Nat.le_refl _) _).alloc (by simp <;> omega) _
  go_enter Try.func32, Try.ntmps32
  go_wp2_with (go_at_call 47; refine (HP1.out _).mono ?_)
  rintro e w1 ⟨rfl, rfl⟩
  go_wp2_with (go_at_call 47; refine (HP2.out _).mono ?_)
  rintro e w1 ⟨rfl, rfl⟩
  go_wp2_with (go_at_call 58; refine (HI.out _).mono ?_)
  rintro e w1 ⟨rfl, hb1⟩
  have hz1 := hb1.size
  simp only [World.size_alloc] at hz1
  have u0 : w.heap.size < w1.heap.size := by omega
  have u1 : w.heap.size + 1 < w1.heap.size := by omega
  have a0 : w1.cell? ⟨w.heap.size, 0, none⟩ = some (.int .u64 0) := (hb1.cell (p := ⟨w.heap.size, 0, none⟩) (by simp <;> omega)).trans (by go_simp)
  have a1 : w1.cell? ⟨w.heap.size, 1, none⟩ = some (.int .u64 0) := (hb1.cell (p := ⟨w.heap.size, 1, none⟩) (by simp <;> omega)).trans (by go_simp)
  have a2 : w1.cell? ⟨w.heap.size, 2, none⟩ = some (.int .u64 0) := (hb1.cell (p := ⟨w.heap.size, 2, none⟩) (by simp <;> omega)).trans (by go_simp)
  have a3 : w1.cell? ⟨w.heap.size, 3, none⟩ = some (.int .u64 0) := (hb1.cell (p := ⟨w.heap.size, 3, none⟩) (by simp <;> omega)).trans (by go_simp)
  have b0 : w1.cell? ⟨w.heap.size + 1, 0, none⟩ = some (.int .i64 0) := (hb1.cell (p := ⟨w.heap.size + 1, 0, none⟩) (by simp <;> omega)).trans (by go_simp)
  have b1 : w1.cell? ⟨w.heap.size + 1, 1, none⟩ = some (.int .i64 0) := (hb1.cell (p := ⟨w.heap.size + 1, 1, none⟩) (by simp <;> omega)).trans (by go_simp)
  have f0 : ∀ o, w1.frozen? ⟨w.heap.size, o, none⟩ = false := fun o => (hb1.frozen (p := ⟨w.heap.size, o, none⟩) (by simp <;> omega)).trans (by go_simp)
  have f1 : ∀ o, w1.frozen? ⟨w.heap.size + 1, o, none⟩ = false := fun o => (hb1.frozen (p := ⟨w.heap.size + 1, o, none⟩) (by simp <;> omega)).trans (by go_simp)
  have hB1 := below_of hb0 hb1
  go_wp2
  refine bodyPost_ret (v := .tuple #[.agg #[.int .u64 r.a, .int .u64 r.b, .int .u64 r.c, .int .u64 r.d], .agg #[.int .i64 0, .int .i64 0]]) (by simp [results, Try.results32, go_sem, a0, a1, a2, a3, b0, b1, u0, u1]) rfl ⟨rfl, ?_⟩
  refine Below.alloc (Below.alloc ?_ ?_ _) ?_ _
  · refine Below.setCell ?_ (by simp only; omega) _
    refine Below.setCell ?_ (by simp only; omega) _
    refine Below.setCell ?_ (by simp only; omega) _
    refine Below.setCell ?_ (by simp only; omega) _
    refine Below.setCell ?_ (by simp only; omega) _
    refine Below.setCell ?_ (by simp only; omega) _
    exact hB1
  · simp; omega
  · simp; omega

theorem five_new (w : World) (x0 x1 x2 x3 x4 : Value) : ∀ i, i < 5 → (w.alloc (.cells #[x0, x1, x2, x3, x4] 5)).cell? ⟨w.heap.size, 0 + i, none⟩ = some ([x0, x1, x2, x3, x4].getD i x0) := by
  intro i hi
  match i, hi with
  | 0, _ => simp
  | 1, _ => simp
  | 2, _ => simp
  | 3, _ => simp
  | 4, _ => simp
theorem size_abc : (rng 97 3).size = 3 := by decide +kernel
theorem text_abcxn : printL (ofL [97, 98, 99, 120, 10]) = [91, 92, 110, 97, 45, 99, 120, 93] := by decide +kernel
theorem has_a : (ofL [97]).has 97 = true := by decide +kernel
theorem ofL_ok (l : List Nat) : (ofL l).ok := by
  unfold ofL
  suffices ∀ (l : List Nat) (s : St), s.ok → (l.foldl St.add s).ok from this l _ St.zero_ok
  intro l
  induction l with
  | nil => intro s h; exact h
  | cons x l ih => intro s h; exact ih _ (St.add_ok h x)
theorem of_five (w : World) : Calls Try.prog 33 #[.slice (some ⟨w.heap.size, 0, none⟩) 5 5] (w.alloc (.cells #[.int .u8 97, .int .u8 98, .int .u8 99, .int .u8 120, .int .u8 10] 5)) fun e w' => e = .returned (.agg #[.int .u64 (ofL [97, 98, 99, 120, 10]).a, .int .u64 (ofL [97, 98, 99, 120, 10]).b, .int .u64 (ofL [97, 98, 99, 120, 10]).c, .int .u64 (ofL [97, 98, 99, 120, 10]).d]) ∧ Below (w.alloc (.cells #[.int .u8 97, .int .u8 98, .int .u8 99, .int .u8 120, .int .u8 10] 5)).heap.size (w.alloc (.cells #[.int .u8 97, .int .u8 98, .int .u8 99, .int .u8 120, .int .u8 10] 5)) w' :=
  of_any w.heap.size 0 5 5 [97, 98, 99, 120, 10] _ rfl (by decide) (by unfold maxLen; omega) (by simp) (fun i hi => by
    rw [five_new _ _ _ _ _ _ i hi]
    match i, hi with
    | 0, _ => rfl
    | 1, _ => rfl
    | 2, _ => rfl
    | 3, _ => rfl
    | 4, _ => rfl)
theorem of_one (w : World) : Calls Try.prog 33 #[.slice (some ⟨w.heap.size, 0, none⟩) 1 1] (w.alloc (.cells #[.int .u8 97] 5)) fun e w' => e = .returned (.agg #[.int .u64 (ofL [97]).a, .int .u64 (ofL [97]).b, .int .u64 (ofL [97]).c, .int .u64 (ofL [97]).d]) ∧ Below (w.alloc (.cells #[.int .u8 97] 5)).heap.size (w.alloc (.cells #[.int .u8 97] 5)) w' :=
  of_any w.heap.size 0 1 1 [97] _ rfl (by decide) (by unfold maxLen; omega) (by simp) (fun i hi => by
    match i, hi with
    | 0, _ => simp)

set_option maxRecDepth 100000 in
set_option maxHeartbeats 2000000 in
theorem alive_any (w : World) : Calls Try.prog 14 #[] w fun e w' => e = .returned (.bool true) ∧ Below w.heap.size w w' := by
  have H1 : Hid _ := fun w => parse_abc w
  have H2 : Hid _ := fun w => size_any (rng 97 3) w (rng_ok 97 3)
  rw [size_abc] at H2
  have H3 : Hid _ := fun w => of_five w
  have H4 : Hid _ := fun w => print_any (ofL [97, 98, 99, 120, 10]) (ofL_ok _) w
  rw [text_abcxn] at H4
  have H5 : Hid _ := fun w => of_one w
  have H6 : Hid (∀ w, Calls Try.prog 34 #[.agg #[.int .u64 (ofL [97]).a, .int .u64 (ofL [97]).b, .int .u64 (ofL [97]).c, .int .u64 (ofL [97]).d], .int .u8 97] w fun e w' => e = .returned (.bool ((ofL [97]).has 97)) ∧ Below w.heap.size w w') := fun w => has_any (ofL [97]) 97 w (ofL_ok _) (by decide)
  rw [has_a] at H6
  generalize rng 97 3 = r at *
  generalize ofL [97, 98, 99, 120, 10] = p at *
  generalize ofL [97] = q at *
  go_enter Try.func14, Try.ntmps14
  go_wp2_with (go_at_call 32; refine (H1.out _).mono ?_; rintro e w1 ⟨rfl, hb1⟩)
  refine (H2.out _).mono ?_
  rintro e w2 ⟨rfl, hb2⟩
  go_wp2_with (go_at_call 33; refine (H3.out _).mono ?_; rintro e w3 ⟨rfl, hb3⟩)
  refine (H4.out _).mono ?_
  rintro e w4 ⟨rfl, hb4⟩
  go_wp2_with (go_at_call 33; refine (H5.out _).mono ?_; rintro e w5 ⟨rfl, hb5⟩)
  refine (H6.out _).mono ?_
  rintro e w6 ⟨rfl, hb6⟩
  go_wp2
  go_ret
  refine ⟨rfl, ?_⟩
  have k1 := below_of ((hb1.alloc hb1.size (.cells #[.int .u64 r.a, .int .u64 r.b, .int .u64 r.c, .int .u64 r.d] 24)).alloc (by have := hb1.size; simp; omega) (.cells #[.int .i64 0, .int .i64 0] 41)) hb2
  have k2 := below_of (k1.alloc k1.size (.cells #[.int .u8 97, .int .u8 98, .int .u8 99, .int .u8 120, .int .u8 10] 5)) hb3
  have k3 := below_of k2 hb4
  have k4 := below_of (k3.alloc k3.size (.cells #[.int .u8 97] 5)) hb5
  exact below_of k4 hb6

end Go.Proofs.Ytpjnohpjdmgglab
