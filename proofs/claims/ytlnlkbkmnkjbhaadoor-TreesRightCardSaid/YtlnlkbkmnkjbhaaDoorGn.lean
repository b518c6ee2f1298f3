/- Which trees are right by a grammar, by the document's own answer. -/
import Derived.Test.YtlnlkbkmnkjbhaaDoorGj
import Derived.Test.YtlnlkbkmnkjbhaaDoorGk
import Derived.Test.YtlnlkbkmnkjbhaaDoorGl
namespace Go.Proofs.YtlnlkbkmnkjbhaaDoor
open Go.RowKit

set_option maxRecDepth 100000 in
set_option maxHeartbeats 4000000 in
theorem trefRight_any (G : Gm) (ga : Option Addr) (gc : Nat) (nt : Int) (d : Tr) (sa : Option Addr) (sc f : Nat) (w : World) (hR : RAt w w.heap.size ga G.rules) (hk : TAt w w.heap.size f sa d.kids) :
    Calls Tryd.prog 18 #[.agg #[.int .i64 G.nts, .int .i64 G.start, .slice ga G.rules.length gc], .int .i64 nt, .agg #[.int .i64 d.rule, .int .u8 (d.byte.toNat : Int), .slice sa d.kids.length sc]] w fun e w' => e = .returned (.int .i64 (rightC G nt d)) ∧ Below w.heap.size w w' := by
  obtain ⟨w1, hw1⟩ : ∃ w1, w.alloc (.cells #[.int .i64 G.nts, .int .i64 G.start, .slice ga G.rules.length gc] 24) = w1 := ⟨_, rfl⟩
  obtain ⟨w2, hw2⟩ : ∃ w2, w1.alloc (.cells #[.int .i64 d.rule, .int .u8 (d.byte.toNat : Int), .slice sa d.kids.length sc] 27) = w2 := ⟨_, rfl⟩
  have s1 : w1.heap.size = w.heap.size + 1 := by rw [← hw1]; simp
  have s2 : w2.heap.size = w.heap.size + 2 := by rw [← hw2]; simp [s1]
  have hB1 : Below w.heap.size w w1 := by rw [← hw1]; exact (Below.refl _ _).alloc (Nat.le_refl _) _
  have hB2 : Below w1.heap.size w1 w2 := by rw [← hw2]; exact (Below.refl _ _).alloc (Nat.le_refl _) _
  have hBw : Below w.heap.size w w2 := hB1.trans (hB2.mono hB1.size)
  have gg : ∀ j v, (#[.int .i64 G.nts, .int .i64 G.start, .slice ga G.rules.length gc] : Array Value)[j]? = some v → w2.cell? ⟨w.heap.size, j, none⟩ = some v := fun j v hv => (hB2.cell (p := ⟨w.heap.size, j, none⟩) (by show w.heap.size < _; omega)).trans (by rw [← hw1]; exact cell_new j hv)
  have dk : ∀ j v, (#[.int .i64 d.rule, .int .u8 (d.byte.toNat : Int), .slice sa d.kids.length sc] : Array Value)[j]? = some v → w2.cell? ⟨w.heap.size + 1, j, none⟩ = some v := fun j v hv => by rw [← hw2, ← s1]; exact cell_new j hv
  have HF : Hid (∀ W, Below w2.heap.size w2 W → (W.cell? ⟨w.heap.size, 0, none⟩ = some (.int .i64 G.nts) ∧ W.cell? ⟨w.heap.size, 1, none⟩ = some (.int .i64 G.start) ∧ W.cell? ⟨w.heap.size, 2, none⟩ = some (.slice ga G.rules.length gc)) ∧ W.cell? ⟨w.heap.size + 1, 0, none⟩ = some (.int .i64 d.rule) ∧ W.cell? ⟨w.heap.size + 1, 1, none⟩ = some (.int .u8 (d.byte.toNat : Int)) ∧ W.cell? ⟨w.heap.size + 1, 2, none⟩ = some (.slice sa d.kids.length sc)) := fun W h => by
    have k : ∀ b q, b < w2.heap.size → W.cell? ⟨b, q, none⟩ = w2.cell? ⟨b, q, none⟩ := fun b q hb => h.cell (p := ⟨b, q, none⟩) hb
    exact ⟨⟨(k _ _ (by omega)).trans (gg 0 _ rfl), (k _ _ (by omega)).trans (gg 1 _ rfl), (k _ _ (by omega)).trans (gg 2 _ rfl)⟩, (k _ _ (by omega)).trans (dk 0 _ rfl), (k _ _ (by omega)).trans (dk 1 _ rfl), (k _ _ (by omega)).trans (dk 2 _ rfl)⟩
  obtain ⟨⟨g0, g1, g2⟩, d0, d1, d2⟩ := HF.out w2 (Below.refl _ _)
  have HR : Hid _ := fun (_ : Unit) => grefRight_any G ga gc w2 ((hR.keep hBw).mono hBw.size)
  have HO : Hid (0 ≤ nt → ∀ W, Below w2.heap.size w2 W → Calls Tryd.prog 42 #[.agg #[.int .i64 G.nts, .int .i64 G.start, .slice ga G.rules.length gc], .int .i64 nt, .agg #[.int .i64 d.rule, .int .u8 (d.byte.toNat : Int), .slice sa d.kids.length sc]] W fun e w' => e = .returned (.bool (isS G ⟨nt, St.zero⟩ d)) ∧ Below W.heap.size W w') := fun h0 W h => refOf_any G ga gc (sz d) nt d sa sc f W (Nat.le_refl _) ((hR.keep (below_of hBw h)).mono (below_of hBw h).size) ((hk.keep (below_of hBw h)).mono (below_of hBw h).size) h0
  have HB : Hid _ := hBw
  have HC : Hid (rightC G nt d = if G.okB then (if isN G.nts nt then (if isS G ⟨nt, St.zero⟩ d then 0 else 90) else 1) else 3) := rfl
  clear hB1 hB2 hBw gg dk hR hk
  cases hok : G.okB with
  | false =>
    rw [hok] at HR HC
    clear hok
    go_enter Tryd.func18, Tryd.ntmps18
    go_wp2_with (go_at_call 41; refine (HR.out ()).mono ?_; rintro e w3 ⟨rfl, hb3⟩)
    go_ret
    exact ⟨by rw [HC.out]; rfl, below_of HB.out hb3⟩
  | true =>
    rw [hok] at HR HC
    clear hok
    by_cases h1 : nt < 0
    · have HN : Hid (isN G.nts nt = false) := by show _ = _; unfold isN; simp; omega
      rw [HN.out] at HC
      go_enter Tryd.func18, Tryd.ntmps18
      go_wp2_with (go_at_call 41; refine (HR.out ()).mono ?_; rintro e w3 ⟨rfl, hb3⟩; have HB3 : Hid _ := hb3; obtain ⟨⟨g0, g1, g2⟩, d0, d1, d2⟩ := HF.out w3 hb3; clear hb3)
      go_ret
      exact ⟨by rw [HC.out]; rfl, below_of HB.out HB3.out⟩
    · have h1' : decide (nt < 0) = false := by simp; omega
      by_cases h2 : G.nts ≤ nt
      · have HN : Hid (isN G.nts nt = false) := by show _ = _; unfold isN; simp; omega
        rw [HN.out] at HC
        go_enter Tryd.func18, Tryd.ntmps18
        go_wp2_with (go_at_call 41; refine (HR.out ()).mono ?_; rintro e w3 ⟨rfl, hb3⟩; have HB3 : Hid _ := hb3; obtain ⟨⟨g0, g1, g2⟩, d0, d1, d2⟩ := HF.out w3 hb3; clear hb3)
        go_ret
        exact ⟨by rw [HC.out]; rfl, below_of HB.out HB3.out⟩
      · have h2' : decide (G.nts ≤ nt) = false := by simp; omega
        have HN : Hid (isN G.nts nt = true) := by show _ = _; unfold isN; simp; omega
        rw [HN.out] at HC
        have H0 : Hid (0 ≤ nt) := by show _ ≤ _; omega
        cases hs : isS G ⟨nt, St.zero⟩ d with
        | false =>
          rw [hs] at HO HC
          clear hs
          go_enter Tryd.func18, Tryd.ntmps18
          go_wp2_with (go_at_call 41; refine (HR.out ()).mono ?_; rintro e w3 ⟨rfl, hb3⟩; have HB3 : Hid _ := hb3; obtain ⟨⟨g0, g1, g2⟩, d0, d1, d2⟩ := HF.out w3 hb3; clear hb3)
          refine (HO.out H0.out _ HB3.out).mono ?_
          rintro e w4 ⟨rfl, hb4⟩
          go_wp2
          go_ret
          exact ⟨by rw [HC.out]; rfl, below_of HB.out (HB3.out.trans (hb4.mono HB3.out.size))⟩
        | true =>
          rw [hs] at HO HC
          clear hs
          go_enter Tryd.func18, Tryd.ntmps18
          go_wp2_with (go_at_call 41; refine (HR.out ()).mono ?_; rintro e w3 ⟨rfl, hb3⟩; have HB3 : Hid _ := hb3; obtain ⟨⟨g0, g1, g2⟩, d0, d1, d2⟩ := HF.out w3 hb3; clear hb3)
          refine (HO.out H0.out _ HB3.out).mono ?_
          rintro e w4 ⟨rfl, hb4⟩
          go_wp2
          go_ret
          exact ⟨by rw [HC.out]; rfl, below_of HB.out (HB3.out.trans (hb4.mono HB3.out.size))⟩
end Go.Proofs.YtlnlkbkmnkjbhaaDoor
