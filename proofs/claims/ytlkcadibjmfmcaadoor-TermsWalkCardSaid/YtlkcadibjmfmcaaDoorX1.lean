/- Whether a term is too great. -/
import Derived.Test.YtlkcadibjmfmcaaDoorS1
namespace Go.Proofs.YtlkcadibjmfmcaaDoor
open Go.RowKit

mutual
/-- A term's weight: its parts, and its texts by 64 bytes. -/
def wt : Tm → Nat | .mk _ _ t l => 1 + t.length / 64 + wtL l
def wtL : List Tm → Nat | [] => 0 | d :: l => wt d + wtL l
end
theorem wt_eq (d : Tm) : wt d = 1 + d.text.length / 64 + wtL d.kids := by cases d; rw [wt]; rfl
theorem wtL_take {l : List Tm} {k : Nat} {d : Tm} (h : l[k]? = some d) : wtL (l.take (k + 1)) = wtL (l.take k) + wt d := by
  induction l generalizing k with
  | nil => cases h
  | cons x l ih =>
    cases k with
    | zero => simp at h; subst h; simp [wtL]
    | succ k =>
      simp at h
      rw [List.take_succ_cons, List.take_succ_cons, wtL, wtL, ih h, Nat.add_assoc]
theorem wtL_take_le (l : List Tm) (k : Nat) : wtL (l.take k) ≤ wtL l := by
  induction l generalizing k with
  | nil => simp
  | cons x l ih =>
    cases k with
    | zero => simp [wtL]
    | succ k => rw [List.take_succ_cons, wtL, wtL]; have := ih k; omega
mutual
theorem sz_wt : ∀ d : Tm, sz d ≤ wt d
  | .mk k c t l => by rw [sz, wt]; have := szL_wtL l; omega
theorem szL_wtL : ∀ l : List Tm, szL l ≤ wtL l
  | [] => by simp [szL, wtL]
  | d :: l => by rw [szL, wtL]; have := sz_wt d; have := szL_wtL l; omega
end
set_option maxRecDepth 100000 in
set_option maxHeartbeats 4000000 in
theorem weigh_any (f : Nat) : ∀ (N : Nat) (d : Tm) (ya : Option Addr) (yc : Nat) (sa : Option Addr) (sc most : Nat) (w : World), wt d ≤ N → MAt w w.heap.size f sa d.kids → d.text.length ≤ 140737488355328 → most ≤ 1000000 →
    Calls Tryd.prog 34 #[.agg #[.int .i64 d.kind, .string d.cons, .slice ya d.text.length yc, .slice sa d.kids.length sc], .int .i64 (most : Int)] w fun e w' => (∃ r : Nat, e = .returned (.int .i64 (r : Int)) ∧ (r ≤ most → r = wt d) ∧ (wt d ≤ most → r = wt d) ∧ r ≤ most + 2199023255553) ∧ Below w.heap.size w w' := by
  intro N
  induction N with
  | zero => intro d ya yc sa sc most w hN; rw [wt_eq] at hN; omega
  | succ N ih =>
  intro d ya yc sa sc most w hN hk htx hmost
  have hlen := hk.len
  have hwt := wt_eq d
  obtain ⟨w1, hw1⟩ : ∃ w1, w.alloc (.cells #[.int .i64 d.kind, .string d.cons, .slice ya d.text.length yc, .slice sa d.kids.length sc] 25) = w1 := ⟨_, rfl⟩
  have hB1 : Below w.heap.size w w1 := by rw [← hw1]; exact (Below.refl _ _).alloc (Nat.le_refl _) _
  have s1 : w1.heap.size = w.heap.size + 1 := by rw [← hw1]; simp
  have a3 : w1.cell? ⟨w.heap.size, 3, none⟩ = some (.slice sa d.kids.length sc) := by rw [← hw1]; exact cell_new 3 rfl
  have a2 : w1.cell? ⟨w.heap.size, 2, none⟩ = some (.slice ya d.text.length yc) := by rw [← hw1]; exact cell_new 2 rfl
  have HW : Hid _ := hwt
  have HI : Hid _ := ih
  have HK : Hid _ := hk
  have HN : Hid _ := hN
  have HB1 : Hid _ := hB1
  have HS1 : Hid _ := s1
  clear hwt ih hk hN hB1 s1
  go_enter Tryd.func34, Tryd.ntmps34
  go_wp2
  go_loopw [5, 6] (fun n i W => ∃ (k r : Nat), k ≤ d.kids.length ∧ i = .int .i64 k ∧ n = .int .i64 r ∧ (r ≤ most → r = 1 + d.text.length / 64 + wtL (d.kids.take k)) ∧ (r ≤ most ∨ most < wt d) ∧ r ≤ most + 2199023255553 ∧ Below w1.heap.size w1 W) (fun _ i _ => d.kids.length - (intOf i).toNat)
  case atStart => exact ⟨0, 1 + d.text.length / 64, by omega, rfl, by go_num, by simp [wtL], by rw [HW.out]; omega, by omega, Below.refl _ _⟩
  case round =>
    obtain ⟨k, r, hk, rfl, rfl, hr1, hr2, hr3, hB⟩ := hrel
    have hs1 := HS1.out
    have b3 := (hB.cell (p := ⟨w.heap.size, 3, none⟩) (by show w.heap.size < _; omega)).trans a3
    have hBw : Below w.heap.size w wr := HB1.out.trans (hB.mono (by omega))
    have HBw : Hid _ := hBw
    have HR1 : Hid _ := hr1
    have HR2 : Hid _ := hr2
    have HB : Hid _ := hB
    clear hBw hr1 hr2 hB hs1
    by_cases hlt : k < d.kids.length
    · by_cases hle : r ≤ most
      · obtain ⟨x, hx⟩ : ∃ x, d.kids[k]? = some x := ⟨d.kids[k], by simp [hlt]⟩
        obtain ⟨b, o, hsa, hb, xa, xc, c0, c1, ⟨ta, tc, c2, _, htl, _⟩, c3, hxc, hxk⟩ := ((HK.out.keep HBw.out).mono HBw.out.size).one hx
        have hwx : wtL (d.kids.take (k + 1)) = wtL (d.kids.take k) + wt x := wtL_take hx
        have hwle := wtL_take_le d.kids (k + 1)
        have HC : Hid (Calls Tryd.prog 34 #[.agg #[.int .i64 x.kind, .string x.cons, .slice ta x.text.length tc, .slice xa x.kids.length xc], .int .i64 ((most : Int) - (r : Int))] wr fun e w' => (∃ r2 : Nat, e = .returned (.int .i64 (r2 : Int)) ∧ (r2 ≤ most - r → r2 = wt x) ∧ (wt x ≤ most - r → r2 = wt x) ∧ r2 ≤ most - r + 2199023255553) ∧ Below wr.heap.size wr w') := by
          have h := HI.out x ta tc xa xc (most - r) wr (by have := HN.out; have := HW.out; omega) hxk htl (by omega)
          rw [Int.ofNat_sub hle] at h
          exact h
        have HX : Hid _ := hwx
        have HXL : Hid _ := hwle
        subst hsa
        clear hwx hwle hx hxk
        go_wp2_with (go_at_call 34; refine (HC.out).mono ?_)
        rintro e w2 ⟨⟨r2, rfl, h1, h2, h3⟩, hb2⟩
        have H1 : Hid _ := h1
        have H2 : Hid _ := h2
        have HB2 : Hid _ := hb2
        clear h1 h2 hb2
        go_wp2
        refine ⟨⟨k + 1, r + r2, by omega, by go_num, by go_num, ?_, ?_, by omega, HB.out.trans (HB2.out.mono HB.out.size)⟩, by simp [intOf]; omega⟩
        · intro h
          have e1 := HR1.out hle
          have e2 := H1.out (by omega)
          rw [HX.out]; omega
        · have e1 := HR1.out hle
          have e3 := HX.out
          have e4 := HXL.out
          have e5 := HW.out
          rcases Nat.lt_or_ge most (r + r2) with h | h
          · right
            rcases Nat.lt_or_ge (most - r) (wt x) with h' | h'
            · omega
            · have := H2.out h'; omega
          · exact .inl h
      · have hgt : (most : Int) < r := by omega
        go_wp2
        go_ret
        refine ⟨⟨r, rfl, fun h => by omega, fun h => ?_, by omega⟩, HBw.out⟩
        rcases HR2.out with h' | h' <;> omega
    · obtain rfl : k = d.kids.length := by omega
      rw [List.take_length] at HR1
      go_wp2
      go_ret
      refine ⟨⟨r, rfl, fun h => ?_, fun h => ?_, by omega⟩, HBw.out⟩
      · rw [HW.out]; exact HR1.out h
      · rcases HR2.out with h' | h'
        · rw [HW.out]; exact HR1.out h'
        · omega
set_option maxRecDepth 100000 in
theorem heavy_any (d : Tm) (ya : Option Addr) (yc : Nat) (sa : Option Addr) (sc f : Nat) (w : World) (htx : d.text.length ≤ 140737488355328) (hk : MAt w w.heap.size f sa d.kids) :
    Calls Tryd.prog 12 #[.agg #[.int .i64 d.kind, .string d.cons, .slice ya d.text.length yc, .slice sa d.kids.length sc]] w fun e w' => e = .returned (.bool (decide (1000 < wt d))) ∧ Below w.heap.size w w' := by
  have HC : Hid _ := fun (W : World) (hW : Below w.heap.size w W) => weigh_any f (wt d) d ya yc sa sc 1000 W (Nat.le_refl _) ((hk.keep hW).mono hW.size) htx (by omega)
  clear hk
  obtain ⟨w1, hw1⟩ : ∃ w1, w.alloc (.cells #[.int .i64 d.kind, .string d.cons, .slice ya d.text.length yc, .slice sa d.kids.length sc] 25) = w1 := ⟨_, rfl⟩
  have HB1 : Hid (Below w.heap.size w w1) := by show Below _ _ _; rw [← hw1]; exact (Below.refl _ _).alloc (Nat.le_refl _) _
  have a0 : w1.cell? ⟨w.heap.size, 0, none⟩ = some (.int .i64 d.kind) := by rw [← hw1]; exact cell_new 0 rfl
  have a1 : w1.cell? ⟨w.heap.size, 1, none⟩ = some (.string d.cons) := by rw [← hw1]; exact cell_new 1 rfl
  have a2 : w1.cell? ⟨w.heap.size, 2, none⟩ = some (.slice ya d.text.length yc) := by rw [← hw1]; exact cell_new 2 rfl
  have a3 : w1.cell? ⟨w.heap.size, 3, none⟩ = some (.slice sa d.kids.length sc) := by rw [← hw1]; exact cell_new 3 rfl
  go_enter Tryd.func12, Tryd.ntmps12
  go_wp2_with (go_at_call 34; refine (HC.out w1 HB1.out).mono ?_)
  rintro e w2 ⟨⟨r, rfl, h1, h2, h3⟩, hb⟩
  have HB2 : Hid (Below w.heap.size w w2) := HB1.out.trans (hb.mono HB1.out.size)
  have HE : Hid (decide ((1000 : Int) < (r : Int)) = decide (1000 < wt d)) := by
    show _ = _
    rw [decide_eq_decide]
    constructor
    · intro h; rcases Nat.lt_or_ge 1000 (wt d) with h' | h'
      · exact h'
      · have := h2 h'; omega
    · intro h; rcases Nat.lt_or_ge 1000 r with h' | h'
      · omega
      · have := h1 h'; omega
  clear hb h1 h2 h3
  go_wp2
  go_ret
  refine ⟨?_, HB2.out⟩
  rw [← HE.out]
  simp
end Go.Proofs.YtlkcadibjmfmcaaDoor
