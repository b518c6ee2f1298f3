/- Whether a document is too great. -/
import Derived.Test.YtbmejfcbladofaaW0
namespace Go.Proofs.Ytbmejfcbladofaa
open Go.RowKit

theorem tdiv16 (n : Nat) : ((n : Int)).tdiv 16 = ((n / 16 : Nat) : Int) := by
  rw [Int.tdiv_eq_ediv_of_nonneg (by omega)]; omega
set_option maxRecDepth 100000 in
set_option maxHeartbeats 4000000 in
theorem weigh_any (f : Nat) : ∀ (N : Nat) (d : Dc) (sa : Option Addr) (sc most : Nat) (w : World), wt d ≤ N → DAt w w.heap.size f sa d.kids → TxD d → most ≤ 1000000 →
    Calls Try.prog 19 #[.agg #[.int .i64 d.kind, .string d.text, .int .i64 d.n, .slice sa d.kids.length sc], .int .i64 (most : Int)] w fun e w' => (∃ r : Nat, e = .returned (.int .i64 (r : Int)) ∧ (r ≤ most → r = wt d) ∧ (wt d ≤ most → r = wt d) ∧ r ≤ most + 8796093022209) ∧ Below w.heap.size w w' := by
  intro N
  induction N with
  | zero => intro d sa sc most w hN; rw [wt_eq] at hN; omega
  | succ N ih =>
  intro d sa sc most w hN hk ht hmost
  have hlen := hk.len
  have htx := ht.text
  have htk := ht.kids
  have hwt := wt_eq d
  obtain ⟨w1, hw1⟩ : ∃ w1, w.alloc (.cells #[.int .i64 d.kind, .string d.text, .int .i64 d.n, .slice sa d.kids.length sc] 24) = w1 := ⟨_, rfl⟩
  have hB1 : Below w.heap.size w w1 := by rw [← hw1]; exact (Below.refl _ _).alloc (Nat.le_refl _) _
  have s1 : w1.heap.size = w.heap.size + 1 := by rw [← hw1]; simp
  have a1 : w1.cell? ⟨w.heap.size, 1, none⟩ = some (.string d.text) := by rw [← hw1]; exact cell_new 1 rfl
  have a3 : w1.cell? ⟨w.heap.size, 3, none⟩ = some (.slice sa d.kids.length sc) := by rw [← hw1]; exact cell_new 3 rfl
  have hdv := tdiv16 d.text.size
  obtain ⟨q, hq⟩ : ∃ q, d.text.size / 16 = q := ⟨_, rfl⟩
  have hqb : q ≤ 8796093022208 := by omega
  rw [hq] at hdv hwt
  have HW : Hid _ := hwt
  have HI : Hid _ := ih
  have HK : Hid _ := hk
  have HT : Hid _ := htk
  have HN : Hid _ := hN
  have HQ : Hid _ := hq
  have HB1 : Hid _ := hB1
  have HS1 : Hid _ := s1
  clear hwt ih hk htk hN ht hq hB1 s1
  go_enter Try.func19, Try.ntmps19
  go_wp2
  go_loopw [5, 6] (fun n i W => ∃ (k r : Nat), k ≤ d.kids.length ∧ i = .int .i64 k ∧ n = .int .i64 r ∧ (r ≤ most → r = 1 + q + wtL (d.kids.take k)) ∧ (r ≤ most ∨ most < wt d) ∧ r ≤ most + 8796093022209 ∧ Below w1.heap.size w1 W) (fun _ i _ => d.kids.length - (intOf i).toNat)
  case atStart => exact ⟨0, 1 + q, by omega, rfl, by go_num, by simp [wtL], by rw [HW.out]; omega, by omega, Below.refl _ _⟩
  case round =>
    obtain ⟨k, r, hk, rfl, rfl, hr1, hr2, hr3, hB⟩ := hrel
    have hs1 := HS1.out
    have b1 := (hB.cell (p := ⟨w.heap.size, 1, none⟩) (by show w.heap.size < _; omega)).trans a1
    have b3 := (hB.cell (p := ⟨w.heap.size, 3, none⟩) (by show w.heap.size < _; omega)).trans a3
    have hBw : Below w.heap.size w wr := HB1.out.trans (hB.mono (by omega))
    have HBw : Hid _ := hBw
    have HR1 : Hid _ := hr1
    have HR2 : Hid _ := hr2
    have HB : Hid _ := hB
    clear hBw hr1 hr2 hB hs1
    by_cases hlt : k < d.kids.length
    · by_cases hle : r ≤ most
      · obtain ⟨x, hx⟩ : ∃ x, d.kids[k]? = some x := ⟨d.kids[k], by simp [hlt]⟩
        have hxm : x ∈ d.kids := List.mem_of_getElem? hx
        obtain ⟨b, o, hsa, hb, xa, xc, c0, c1, c2, c3, hxc, hxk⟩ := ((HK.out.keep HBw.out).mono HBw.out.size).one hx
        have hwx : wtL (d.kids.take (k + 1)) = wtL (d.kids.take k) + wt x := wtL_take hx
        have hwle := wtL_take_le d.kids (k + 1)
        have HC : Hid (Calls Try.prog 19 #[.agg #[.int .i64 x.kind, .string x.text, .int .i64 x.n, .slice xa x.kids.length xc], .int .i64 ((most : Int) - (r : Int))] wr fun e w' => (∃ r2 : Nat, e = .returned (.int .i64 (r2 : Int)) ∧ (r2 ≤ most - r → r2 = wt x) ∧ (wt x ≤ most - r → r2 = wt x) ∧ r2 ≤ most - r + 8796093022209) ∧ Below wr.heap.size wr w') := by
          have h := HI.out x xa xc (most - r) wr (by have := HN.out; have := HW.out; omega) hxk (HT.out.mem hxm) (by omega)
          rw [Int.ofNat_sub hle] at h
          exact h
        have HX : Hid _ := hwx
        have HXL : Hid _ := hwle
        subst hsa
        clear hwx hwle hx hxm hxk
        go_wp2_with (go_at_call 19; refine (HC.out).mono ?_)
        rintro e w2 ⟨⟨r2, rfl, h1, h2, h3⟩, hb2⟩
        have H1 : Hid _ := h1
        have H2 : Hid _ := h2
        have HB2 : Hid _ := hb2
        clear h1 h2 hb2
        go_wp2
        refine ⟨⟨k + 1, r + r2, by omega, by go_num, by go_num, ?_, ?_, by omega, HB.out.trans (HB2.out.mono HB.out.size)⟩, by simp [intOf]; omega⟩
        · intro h
          have e1 := HR1.out hle
          have e2 := H1.out (by omega)
          rw [HX.out]; omega
        · have e1 := HR1.out hle
          have e3 := HX.out
          have e4 := HXL.out
          have e5 := HW.out
          rcases Nat.lt_or_ge most (r + r2) with h | h
          · right
            rcases Nat.lt_or_ge (most - r) (wt x) with h' | h'
            · omega
            · have := H2.out h'; omega
          · exact .inl h
      · have hgt : (most : Int) < r := by omega
        go_wp2
        go_ret
        refine ⟨⟨r, rfl, fun h => by omega, fun h => ?_, by omega⟩, HBw.out⟩
        rcases HR2.out with h' | h' <;> omega
    · obtain rfl : k = d.kids.length := by omega
      rw [List.take_length] at HR1
      go_wp2
      go_ret
      refine ⟨⟨r, rfl, fun h => ?_, fun h => ?_, by omega⟩, HBw.out⟩
      · rw [HW.out]; exact HR1.out h
      · rcases HR2.out with h' | h'
        · rw [HW.out]; exact HR1.out h'
        · omega
set_option maxRecDepth 100000 in
theorem heavy_any (d : Dc) (sa : Option Addr) (sc f : Nat) (w : World) (hk : DAt w w.heap.size f sa d.kids) (ht : TxD d) :
    Calls Try.prog 9 #[.agg #[.int .i64 d.kind, .string d.text, .int .i64 d.n, .slice sa d.kids.length sc]] w fun e w' => e = .returned (.bool (decide (700 < wt d))) ∧ Below w.heap.size w w' := by
  have HC : Hid _ := fun (W : World) (hW : Below w.heap.size w W) => weigh_any f (wt d) d sa sc 700 W (Nat.le_refl _) ((hk.keep hW).mono hW.size) ht (by omega)
  clear hk ht
  obtain ⟨w1, hw1⟩ : ∃ w1, w.alloc (.cells #[.int .i64 d.kind, .string d.text, .int .i64 d.n, .slice sa d.kids.length sc] 24) = w1 := ⟨_, rfl⟩
  have HB1 : Hid (Below w.heap.size w w1) := by show Below _ _ _; rw [← hw1]; exact (Below.refl _ _).alloc (Nat.le_refl _) _
  have a0 : w1.cell? ⟨w.heap.size, 0, none⟩ = some (.int .i64 d.kind) := by rw [← hw1]; exact cell_new 0 rfl
  have a1 : w1.cell? ⟨w.heap.size, 1, none⟩ = some (.string d.text) := by rw [← hw1]; exact cell_new 1 rfl
  have a2 : w1.cell? ⟨w.heap.size, 2, none⟩ = some (.int .i64 d.n) := by rw [← hw1]; exact cell_new 2 rfl
  have a3 : w1.cell? ⟨w.heap.size, 3, none⟩ = some (.slice sa d.kids.length sc) := by rw [← hw1]; exact cell_new 3 rfl
  go_enter Try.func9, Try.ntmps9
  go_wp2_with (go_at_call 19; refine (HC.out w1 HB1.out).mono ?_)
  rintro e w2 ⟨⟨r, rfl, h1, h2, h3⟩, hb⟩
  have HB2 : Hid (Below w.heap.size w w2) := HB1.out.trans (hb.mono HB1.out.size)
  have HE : Hid (decide ((700 : Int) < (r : Int)) = decide (700 < wt d)) := by
    show _ = _
    rw [decide_eq_decide]
    constructor
    · intro h; rcases Nat.lt_or_ge 700 (wt d) with h' | h'
      · exact h'
      · have := h2 h'; omega
    · intro h; rcases Nat.lt_or_ge 700 r with h' | h'
      · omega
      · have := h1 h'; omega
  clear hb h1 h2 h3
  go_wp2
  go_ret
  refine ⟨?_, HB2.out⟩
  rw [← HE.out]
  simp
end Go.Proofs.Ytbmejfcbladofaa
