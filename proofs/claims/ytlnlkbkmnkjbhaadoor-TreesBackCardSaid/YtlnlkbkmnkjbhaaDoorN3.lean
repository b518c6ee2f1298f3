/- The document's own reader of a tree's text: a node, walked. -/
import Derived.Test.YtlnlkbkmnkjbhaaDoorN2c
namespace Go.Proofs.YtlnlkbkmnkjbhaaDoor
open Go.RowKit

theorem rnode_eq (s : ByteArray) (f p m : Nat) : rnode s f p m = match rnum s p 8 p 0 with | .bad q c => .bad q c | .ok n q => (match rkids s f q (m + 1) with | .bad q c => .bad q c | .ok l q => .ok (.mk n 0 l) q) := by
  unfold rnode rkids
  cases rnum s p 8 p 0 with
  | bad q c => rfl
  | ok n q =>
    simp only []
    cases rwant s q 40 <;> rfl
theorem ten_le {n k : Nat} (h : n < 10 ^ k) (hk : k ≤ 6) : n < 1000000 := Nat.lt_of_lt_of_le h (pow_le6 k hk)
set_option maxRecDepth 100000 in
set_option maxHeartbeats 8000000 in
theorem node_step (s : ByteArray) (hs6 : s.size ≤ 65536) (G p m : Nat) (w : World) (hp : p < s.size) (h1 : digq (bt s p) = true) (h2 : m ≤ 200) (hG : 2 * (s.size - p) ≤ G + 1) (HO : ∀ f, f ≤ G → ∀ p m w, p ≤ s.size → 2 * (s.size - p) < f → m ≤ 201 → OCalls s f p m w) : NCalls s G p m w := by
  obtain ⟨i0, hinf, hz0, hz1, hz2⟩ := info_parts info24
  have HR : Hid _ := rnode_eq s G p m
  have hpb : (p : Int) ≤ 65536 := by omega
  have hmb : (m : Int) ≤ 200 := by omega
  have hgp := bt_eq s p hp
  have hgi : (p : Int) < (s.size : Int) := by omega
  obtain ⟨cp, hcp⟩ : ∃ cp, bt s p = cp := ⟨_, rfl⟩
  rw [hcp] at hgp
  have HST : Hid (ND s p p 0) := ND.start (by omega)
  have HCP : Hid _ := hcp
  have HS6 : Hid (s.size ≤ 65536) := hs6
  have HD1 : Hid (digq (bt s p) = true) := h1
  have HHO : Hid _ := HO
  have HGG : Hid _ := hG
  unfold NCalls
  clear h1 hcp HO hG
  go_enter Tryd.func82, Tryd.ntmps82
  go_wp2
  go_loopw [9, 10] (fun nv iv W => ∃ n q : Nat, nv = .int .i64 (n : Int) ∧ iv = .int .i64 (q : Int) ∧ ND s p q n ∧ W = ((w.alloc (.cells #[.int .i64 0, .int .u8 0, .slice none 0 0] 27)).alloc (.cells #[.int .i64 0, .int .i64 0] 52))) (fun _ iv _ => s.size - (intOf iv).toNat)
  case atStart => exact ⟨0, p, rfl, rfl, HST.out, rfl⟩
  case round =>
    obtain ⟨n, q, rfl, rfl, hI, rfl⟩ := hrel
    have HI : Hid (ND s p q n) := hI
    have hnb : (n : Int) ≤ 1000000 := by have := ten_le hI.bnd hI.six; omega
    have hqb : (q : Int) ≤ 65536 := by have := hI.hi; omega
    have hpq : (p : Int) ≤ (q : Int) := by have := hI.lo; omega
    have HLT : Hid (∀ c, bt s q = c → True) := fun _ _ => trivial
    by_cases hq : q < s.size
    · have hqI : (q : Int) < (s.size : Int) := by omega
      have hgq := bt_eq s q hq
      by_cases hd : digq (bt s q) = true
      · have hdd : 48 ≤ bt s q ∧ bt s q ≤ 57 := by
          unfold digq at hd; simp only [Bool.and_eq_true, decide_eq_true_eq] at hd; exact hd
        have a1 : (48 : Int) ≤ (bt s q : Int) := by omega
        have a2 : (bt s q : Int) ≤ 57 := by omega
        by_cases hb : q - p = 6 ∨ p < q ∧ bt s p = 48
        · have HB : Hid (rnode s G p m = .bad q 11) := by show _ = _; rw [HR.out, hI.at_bad hq hd hb]
          generalize bt s q = c at *
          rw [HCP.out] at hb
          by_cases hb6 : q - p = 6
          · have b1 : (((q : Int) - (p : Int)) == 6) = true := by simp; omega
            clear hI HLT hd hdd hb hb6
            go_wp2
            refine bodyPost_ret (v := .tuple #[.agg #[.int .i64 0, .int .u8 0, .slice none 0 0], .int .i64 0, .agg #[.int .i64 (q : Int), .int .i64 11]]) (by simp [results, Tryd.results82, go_sem]) rfl ?_
            rw [HB.out]
            exact ⟨⟨rfl, by omega⟩, ((Below.refl _ _).alloc (Nat.le_refl _) _).alloc (by simp) _⟩
          · have b1 : (((q : Int) - (p : Int)) == 6) = false := by simp; omega
            obtain ⟨b2, b3⟩ : p < q ∧ cp = 48 := by rcases hb with hb | hb; exact absurd hb hb6; exact hb
            have b2' : (p : Int) < (q : Int) := by omega
            have b3' : ((cp : Int) == 48) = true := by simp; omega
            clear hI HLT hd hdd hb hb6 b3 b2
            go_wp2
            refine bodyPost_ret (v := .tuple #[.agg #[.int .i64 0, .int .u8 0, .slice none 0 0], .int .i64 0, .agg #[.int .i64 (q : Int), .int .i64 11]]) (by simp [results, Tryd.results82, go_sem]) rfl ?_
            rw [HB.out]
            exact ⟨⟨rfl, by omega⟩, ((Below.refl _ _).alloc (Nat.le_refl _) _).alloc (by simp) _⟩
        · have HN : Hid (ND s p (q + 1) (10 * n + (bt s q - 48))) := hI.next hq hd hb
          generalize bt s q = c at *
          rw [HCP.out] at hb
          have b1 : (((q : Int) - (p : Int)) == 6) = false := by simp; omega
          have hlo := hI.lo
          by_cases hpq2 : p < q
          · have b2' : (p : Int) < (q : Int) := by omega
            have b3' : ((cp : Int) == 48) = false := by simp; omega
            clear hI HLT hd hb
            go_wp2
            exact ⟨⟨10 * n + (c - 48), q + 1, by rw [show ((10 * n + (c - 48) : Nat) : Int) = 10 * (n : Int) + (c : Int) - 48 by omega], by go_num, HN.out, trivial⟩, by simp [intOf]; omega⟩
          · have b2' : ¬ (p : Int) < (q : Int) := by omega
            clear hI HLT hd hb
            go_wp2
            exact ⟨⟨10 * n + (c - 48), q + 1, by rw [show ((10 * n + (c - 48) : Nat) : Int) = 10 * (n : Int) + (c : Int) - 48 by omega], by go_num, HN.out, trivial⟩, by simp [intOf]; omega⟩
      · have hd' : digq (bt s q) = false := by simpa using hd
        have hok := hI.at_stop hq hd'
        by_cases h48 : 48 ≤ bt s q
        · have h57 : ¬ bt s q ≤ 57 := fun h => by simp [digq, h48, h] at hd'
          have HB : Hid (rnode s G p m = .bad q 11) := by show _ = _; rw [HR.out, hok]; simp only []; rw [rkids_byte hq (by omega)]
          generalize bt s q = c at *
          have a1 : (48 : Int) ≤ (c : Int) := by omega
          have a2 : ¬ (c : Int) ≤ 57 := by omega
          have a3 : ((c : Int) == 41) = false := by simp; omega
          have a4 : ((c : Int) != 40) = true := by simp; omega
          have a5 : ¬ (s.size : Int) ≤ (q : Int) := by omega
          clear hd hd' hok h48 h57
          clear hI HLT
          go_wp2
          have hX : Below (w.heap.size + 2) ((w.alloc (.cells #[.int .i64 0, .int .u8 0, .slice none 0 0] 27)).alloc (.cells #[.int .i64 0, .int .i64 0] 52)) (((w.alloc (.cells #[.int .i64 0, .int .u8 0, .slice none 0 0] 27)).alloc (.cells #[.int .i64 0, .int .i64 0] 52)).alloc (.cells #[.int .i64 (n : Int), .int .u8 0, .slice none 0 0] 27)) := (Below.refl _ _).alloc (by simp) _
          generalize ((w.alloc (.cells #[.int .i64 0, .int .u8 0, .slice none 0 0] 27)).alloc (.cells #[.int .i64 0, .int .i64 0] 52)).alloc (.cells #[.int .i64 (n : Int), .int .u8 0, .slice none 0 0] 27) = W3 at hX ⊢
          go_loopw [10, 12] (fun iv wv W => iv = .int .i64 (q : Int) ∧ wv = .int .u8 40 ∧ W = W3) (fun _ _ _ => 0)
          case atStart => exact ⟨rfl, rfl, rfl⟩
          case round =>
            obtain ⟨rfl, rfl, rfl⟩ := hrel
            obtain ⟨t0, t1, t2, g0, g1, z0, z1, z2, y0, y1⟩ := two_cells (w := w) hX
            have HX : Hid _ := hX
            clear hX
            go_wp2
            obtain ⟨X, hX⟩ : ∃ X, ((((wr.setCell ⟨w.heap.size, 0, none⟩ (.int .i64 0)).setCell ⟨w.heap.size, 1, none⟩ (.int .u8 0)).setCell ⟨w.heap.size, 2, none⟩ (.slice none 0 0)).setCell ⟨w.heap.size + 1, 0, none⟩ (.int .i64 (q : Int))).setCell ⟨w.heap.size + 1, 1, none⟩ (.int .i64 11) = X := ⟨_, rfl⟩
            obtain ⟨⟨x0, x1, x2, x3, x4⟩, xb, _⟩ := five_below (w := w) HX.out hX.symm
            rw [hX]
            refine bodyPost_ret (v := .tuple #[.agg #[.int .i64 0, .int .u8 0, .slice none 0 0], .int .i64 0, .agg #[.int .i64 (q : Int), .int .i64 11]]) (by simp [results, Tryd.results82, go_sem, x0, x1, x2, x3, x4]) rfl ?_
            rw [HB.out]
            exact ⟨⟨rfl, by omega⟩, xb⟩
        · generalize hc0 : bt s q = c at *
          have HC0 : Hid _ := hc0
          have a1 : ¬ (48 : Int) ≤ (c : Int) := by omega
          have hpq1 : p < q := by
            have := hI.lo
            rcases Nat.lt_or_ge p q with h | h
            · exact h
            · have e : p = q := by omega
              have := HD1.out
              rw [e, hc0, hd'] at this
              cases this
          have HKS : Hid (KN w s n G q (m + 1) q [] [] (.slice none 0 0) G true (((w.alloc (.cells #[.int .i64 0, .int .u8 0, .slice none 0 0] 27)).alloc (.cells #[.int .i64 0, .int .i64 0] 52)).alloc (.cells #[.int .i64 (n : Int), .int .u8 0, .slice none 0 0] 27))) := KN.start (by omega) (by have := HGG.out; omega)
          have HT : Hid (rnode s G p m = match rkids s G q (m + 1) with | .bad q c => .bad q c | .ok l q => .ok (.mk n 0 l) q) := by show _ = _; rw [HR.out, hok]
          clear hd hd' hok h48 hI HLT hpq1 hc0
          go_wp2
          go_loopw [10, 12] (fun iv wv W => ∃ (q2 : Nat) (l : List Tr) (xs : List Value) (v : Value) (f : Nat) (first : Bool) (u : Nat), iv = .int .i64 (q2 : Int) ∧ wv = .int .u8 (u : Int) ∧ u = (if first then 40 else 32) ∧ KN w s n G q (m + 1) q2 l xs v f first W) (fun iv _ _ => s.size - (intOf iv).toNat)
          case atStart => exact ⟨q, [], [], _, G, true, 40, rfl, rfl, rfl, HKS.out⟩
          case round =>
            obtain ⟨q2, l, xs, lv, f, first, u, rfl, rfl, hu, hI⟩ := hrel
            have HU : Hid _ := hu
            clear hu
            obtain ⟨la, lc, hla⟩ := row_slice hI.row
            subst hla
            have HI : Hid (KN w s n G q (m + 1) q2 l xs (.slice la l.length lc) f first wr) := hI
            obtain ⟨t0, t1, t2, g0, g1, z0, z1, z2, y0, y1⟩ := two_cells (w := w) hI.bel
            have d0 := hI.b0
            have d1 := hI.b1
            have d2 := hI.b2
            have df := hI.bf
            have hdl := hI.lt
            have hq2b : (q2 : Int) ≤ 65536 := by have := hI.hi; omega
            by_cases he : s.size ≤ q2
            · have HB : Hid (rnode s G p m = .bad s.size 14) := by
                have e : q2 = s.size := by have := hI.hi; omega
                show _ = _
                rw [HT.out, ← hI.eq]
                unfold rrest
                cases first with
                | true => rw [if_pos rfl, rkids_end he, e]
                | false =>
                  obtain ⟨f1, rfl⟩ : ∃ f1, f = f1 + 1 := ⟨f - 1, by have := hI.fu' rfl; omega⟩
                  rw [if_neg (by simp), rk_end he, e]
              have b1 : (s.size : Int) ≤ (q2 : Int) := by omega
              clear hI
              go_wp2
              obtain ⟨X, hX⟩ : ∃ X, ((((wr.setCell ⟨w.heap.size, 0, none⟩ (.int .i64 0)).setCell ⟨w.heap.size, 1, none⟩ (.int .u8 0)).setCell ⟨w.heap.size, 2, none⟩ (.slice none 0 0)).setCell ⟨w.heap.size + 1, 0, none⟩ (.int .i64 (s.size : Int))).setCell ⟨w.heap.size + 1, 1, none⟩ (.int .i64 14) = X := ⟨_, rfl⟩
              obtain ⟨⟨x0, x1, x2, x3, x4⟩, xb, _⟩ := five_below (w := w) HI.out.bel hX.symm
              rw [hX]
              refine bodyPost_ret (v := .tuple #[.agg #[.int .i64 0, .int .u8 0, .slice none 0 0], .int .i64 0, .agg #[.int .i64 (s.size : Int), .int .i64 14]]) (by simp [results, Tryd.results82, go_sem, x0, x1, x2, x3, x4]) rfl ?_
              rw [HB.out]
              exact ⟨⟨rfl, by omega⟩, xb⟩
            · have hlt : q2 < s.size := by omega
              have hltI : (q2 : Int) < (s.size : Int) := by omega
              have heI : ¬ (s.size : Int) ≤ (q2 : Int) := by omega
              have hgq2 := bt_eq s q2 hlt
              obtain ⟨c2, hc2⟩ : ∃ c2, bt s q2 = c2 := ⟨_, rfl⟩
              rw [hc2] at hgq2
              have HC2 : Hid (bt s q2 = c2) := hc2
              have HEQ : Hid (rrest s f q2 (m + 1) l first = rkids s G q (m + 1)) := hI.eq
              clear hc2
              cases first with
              | true =>
                have hu40 : u = 40 := by have := HU.out; simpa using this
                have u1 : ((u : Int) != 40) = false := by simp; omega
                have u2 : ((u : Int) == 40) = true := by simp; omega
                by_cases h40 : c2 = 40
                · have v1 : ((c2 : Int) == 41) = false := by simp; omega
                  have v2 : ((c2 : Int) != (u : Int)) = false := by simp; omega
                  have HU2 : Hid (c2 = if true = true then 40 else 32) := by show _ = _; rw [if_pos rfl]; exact h40
                  by_cases hn1 : q2 + 1 < s.size
                  · have hn1I : (q2 : Int) + 1 < (s.size : Int) := by omega
                    have hg1 := bt_eq s (q2 + 1) hn1
                    obtain ⟨c3, hc3⟩ : ∃ c3, bt s (q2 + 1) = c3 := ⟨_, rfl⟩
                    rw [hc3] at hg1
                    by_cases h41 : c3 = 41
                    · have v3 : ((c3 : Int) == 41) = true := by simp; omega
                      have HB : Hid (rnode s G p m = .ok (.mk n 0 l) (q2 + 2)) := by
                        obtain ⟨f1, rfl⟩ : ∃ f1, f = f1 + 1 := ⟨f - 1, by have := hI.fu; omega⟩
                        show _ = _
                        rw [HT.out, ← HEQ.out]
                        unfold rrest
                        rw [if_pos rfl, rkids_none hn1 (by rw [HC2.out]; exact h40) (by rw [hc3]; exact h41), hI.fst.1 rfl]
                      clear h41 hc3 h40 hu40
                      clear hI
                      go_wp2
                      obtain ⟨X, hX⟩ : ∃ X, ((((wr.setCell ⟨w.heap.size, 0, none⟩ (.int .i64 (n : Int))).setCell ⟨w.heap.size, 1, none⟩ (.int .u8 0)).setCell ⟨w.heap.size, 2, none⟩ (.slice la l.length lc)).setCell ⟨w.heap.size + 1, 0, none⟩ (.int .i64 0)).setCell ⟨w.heap.size + 1, 1, none⟩ (.int .i64 0) = X := ⟨_, rfl⟩
                      obtain ⟨⟨x0, x1, x2, x3, x4⟩, xb, xs', xo⟩ := five_below (w := w) HI.out.bel hX.symm
                      rw [hX]
                      refine bodyPost_ret (v := .tuple #[.agg #[.int .i64 (n : Int), .int .u8 0, .slice la l.length lc], .int .i64 ((q2 + 2 : Nat) : Int), .agg #[.int .i64 0, .int .i64 0]]) (by simp [results, Tryd.results82, go_sem, x0, x1, x2, x3, x4]) rfl ?_
                      rw [HB.out]
                      exact HI.out.told HS6.out (q2 + 2) xb xs' xo
                    · have v3 : ((c3 : Int) == 41) = false := by simp; omega
                      have HN41 : Hid (true = true → ¬ (q2 + 1 < s.size ∧ bt s (q2 + 1) = 41)) := fun _ h => h41 (hc3.symm.trans h.2)
                      clear h41 hc3 h40 hu40
                      obtain ⟨f1, hf1, hf2, hf3, hf4⟩ := hI.one hlt (by rw [HC2.out]; exact HU2.out) HN41.out
                      have HF1 : Hid _ := hf1
                      have HF2 : Hid _ := hf2
                      have HF3 : Hid _ := hf3
                      have HF4 : Hid _ := hf4
                      clear hf1 hf2 hf3 hf4
                      clear hI
                      have HOC : Hid _ := fun (_ : Unit) => HHO.out f1 HF1.out (q2 + 1) (m + 1) wr (by omega) HF2.out (by omega)
                      unfold OCalls at HOC
                      push_cast at HOC
                      cases hr : rt s f1 (q2 + 1) (m + 1) with
                      | bad q3 c3 =>
                        rw [hr] at HOC
                        have HB : Hid (rnode s G p m = .bad q3 c3) := by show _ = _; rw [HT.out, HF4.out, hr]
                        clear hr
                        go_wp2_with (go_at_call 60; refine (HOC.out ()).mono ?_)
                        first | rintro e w5 rfl hk hb5 | rintro e w5 ⟨⟨rfl, hk⟩, hb5⟩
                        have HI5 : Hid _ := HI.out.below hb5
                        clear d0 d1 d2 df t0 t1 t2 g0 g1 z0 z1 z2 y0 y1
                        obtain ⟨t0, t1, t2, g0, g1, z0, z1, z2, y0, y1⟩ := two_cells (w := w) HI5.out.bel
                        have hkc : ((c3 : Int) != 0) = true := by simp; omega
                        have hl5 := HI5.out.lt
                        have k0 : w.heap.size < w5.heap.size := by omega
                        have k1 : w.heap.size < w5.heap.size + 1 := by omega
                        have k2 : w.heap.size + 1 < w5.heap.size := by omega
                        have k3 : w.heap.size + 1 < w5.heap.size + 1 := by omega
                        have HK0 : Hid (c3 ≠ 0) := hk
                        have HK2 : Hid (w.heap.size + 1 < w5.heap.size) := k2
                        clear hb5 hk hl5
                        go_wp2
                        go_region
                        go_wp2
                        obtain ⟨X, hX⟩ : ∃ X, ((((w5.setCell ⟨w.heap.size, 0, none⟩ (.int .i64 0)).setCell ⟨w.heap.size, 1, none⟩ (.int .u8 0)).setCell ⟨w.heap.size, 2, none⟩ (.slice none 0 0)).setCell ⟨w.heap.size + 1, 0, none⟩ (.int .i64 (q3 : Int))).setCell ⟨w.heap.size + 1, 1, none⟩ (.int .i64 (c3 : Int)) = X := ⟨_, rfl⟩
                        obtain ⟨⟨x0, x1, x2, x3, x4⟩, xb, xs', _⟩ := five_below (w := w) HI5.out.bel hX.symm
                        rw [hX]
                        obtain ⟨Y, hY⟩ : ∃ Y, ((X.alloc (.cells #[.int .i64 0, .int .u8 0, .slice none 0 0] 27)).alloc (.cells #[.int .i64 (q3 : Int), .int .i64 (c3 : Int)] 52)).drew = Y := ⟨_, rfl⟩
                        have hXY : Below X.heap.size X Y := by
                          rw [← hY]
                          exact (((Below.refl _ _).alloc (Nat.le_refl _) _).alloc (by simp) _).trans ⟨rfl, rfl, rfl, Nat.le_refl _, fun _ _ => rfl⟩
                        have hXs : w.heap.size + 1 < X.heap.size := by have := HK2.out; omega
                        have ky : ∀ b j, b ≤ w.heap.size + 1 → Y.cell? ⟨b, j, none⟩ = X.cell? ⟨b, j, none⟩ := fun b j h => hXY.cell (p := ⟨b, j, none⟩) (by show b < _; omega)
                        have y0' := (ky w.heap.size 0 (by omega)).trans x0
                        have y1' := (ky w.heap.size 1 (by omega)).trans x1
                        have y2' := (ky w.heap.size 2 (by omega)).trans x2
                        have y3' := (ky (w.heap.size + 1) 0 (by omega)).trans x3
                        have y4' := (ky (w.heap.size + 1) 1 (by omega)).trans x4
                        rw [hY]
                        refine bodyPost_ret (v := .tuple #[.agg #[.int .i64 0, .int .u8 0, .slice none 0 0], .int .i64 0, .agg #[.int .i64 (q3 : Int), .int .i64 (c3 : Int)]]) (by simp [results, Tryd.results82, go_sem, y0', y1', y2', y3', y4']) rfl ?_
                        rw [HB.out]
                        exact ⟨⟨rfl, HK0.out⟩, below_of xb hXY⟩
                      | ok d q3 =>
                        rw [hr] at HOC
                        have hp3 := (rt_rk_pos s f1).1 _ _ _ _ hr
                        have HP3 : Hid _ := hp3
                        have HEQ3 : Hid (rk s f1 q3 (m + 1) (l ++ [d]) = rkids s G q (m + 1)) := by show _ = _; rw [HF4.out, hr]
                        clear hr hp3
                        go_wp2_with (go_at_call 60; refine (HOC.out ()).mono ?_)
                        first | rintro e w5 va vc rfl hvc htin hb5 | rintro e w5 ⟨⟨va, vc, rfl, hvc, htin⟩, hb5⟩
                        have HI5 : Hid _ := HI.out.below hb5
                        clear d0 d1 d2 df t0 t1 t2 g0 g1 z0 z1 z2 y0 y1
                        have d2 := HI5.out.b2
                        have hdl5 := HI5.out.lt
                        have hdl6 : w.heap.size + 1 + 1 < w5.heap.size + 1 := by omega
                        have hdl7 : w.heap.size + 1 + 1 < w5.heap.size + 1 + 1 := by omega
                        have HTI : Hid _ := And.intro htin hvc
                        have HB5 : Hid _ := hb5
                        have hll := HI.out.len
                        have hlh := HI.out.hi
                        have hlen6 : l.length ≤ 65536 := by omega
                        have hnew := World.ownsRow.alloc (World.ownsRow.alloc (World.ownsRow.alloc (w := w5) HI5.out.row (.cells #[.int .i64 d.rule, .int .u8 (d.byte.toNat : Int), .slice va d.kids.length vc] 27)) (.cells #[.int .i64 0, .int .i64 0] 52)) (.cells #[.int .i64 d.rule, .int .u8 (d.byte.toNat : Int), .slice va d.kids.length vc] 27)
                        have HM : Hid (Below w5.heap.size w5 (((w5.alloc (.cells #[.int .i64 d.rule, .int .u8 (d.byte.toNat : Int), .slice va d.kids.length vc] 27)).alloc (.cells #[.int .i64 0, .int .i64 0] 52)).alloc (.cells #[.int .i64 d.rule, .int .u8 (d.byte.toNat : Int), .slice va d.kids.length vc] 27))) := (((Below.refl _ _).alloc (Nat.le_refl _) _).alloc (by simp) _).alloc (by simp; omega) _
                        clear hb5 htin hvc hll hlh
                        go_wp2_with (at_builtin; refine wpList_append_lies _ rfl _ _ 25 rfl (w.heap.size + 3) 27 i0 _ 3 40 Tryd.underlying25 hinf hz0 hz1 hz2 rfl (by decide) _ _ _ rfl hnew ⟨w5.heap.size + 1 + 1, 0, none⟩ 1 1 [.int .i64 d.rule, .int .u8 (d.byte.toNat : Int), .slice va d.kids.length vc] rfl rfl ?ca1 ?ca2 (by decide) ?ca3 ?ca4 ?ca5 (w5.heap.size + 1 + 1 + 1) (by simp) ?_)
                        case ca1 =>
                          have e2s : ((w5.alloc (.cells #[.int .i64 d.rule, .int .u8 (d.byte.toNat : Int), .slice va d.kids.length vc] 27)).alloc (.cells #[.int .i64 0, .int .i64 0] 52)).heap.size = w5.heap.size + 1 + 1 := by simp
                          rw [← e2s]
                          exact cell_three_new _ _ _ _ _
                        case ca2 => first | rfl | (intro u hu; simp at hu; rcases hu with rfl | rfl | rfl <;> rfl)
                        case ca3 => unfold maxLen; omega
                        case ca4 => omega
                        case ca5 => simp; omega
                        intro g1 cap1 w7 hown7 hgrow hat _
                        have HFN : Hid _ := HI.out.step HB5.out HM.out HTI.out.1 HTI.out.2 hown7 hgrow (by rcases hat with h | h; exact .inl h; exact .inr (by omega)) HP3.out.2 (by have := HI.out.len; have := HP3.out; omega) HF1.out (HF3.out q3 HP3.out.1 HP3.out.2) HEQ3.out
                        have hbk : w7.heap[w.heap.size + 1 + 1]? = w5.heap[w.heap.size + 1 + 1]? := (hgrow.block _ (by simp; omega) (fun e => by have := (HI5.out.row.lt _ e.symm).1; omega)).trans (HM.out.block _ hdl5)
                        have j2 := (World.cell?_of_block (a := ⟨w.heap.size + 1 + 1, 2, none⟩) hbk).trans d2
                        have jf := (World.frozen?_of_block (a := ⟨w.heap.size + 1 + 1, 2, none⟩) hbk).trans (HI5.out.bf 2)
                        clear hown7 hgrow hat hnew hbk d2
                        go_wp2
                        exact ⟨⟨q3, l ++ [d], _, _, f1, false, 32, rfl, rfl, rfl, HFN.out⟩, by have := HP3.out; simp [intOf]; omega⟩
                  · have hn1I : ¬ (q2 : Int) + 1 < (s.size : Int) := by omega
                    have HN41 : Hid (true = true → ¬ (q2 + 1 < s.size ∧ bt s (q2 + 1) = 41)) := fun _ h => hn1 h.1
                    clear h40 hu40
                    obtain ⟨f1, hf1, hf2, hf3, hf4⟩ := hI.one hlt (by rw [HC2.out]; exact HU2.out) HN41.out
                    have HF1 : Hid _ := hf1
                    have HF2 : Hid _ := hf2
                    have HF3 : Hid _ := hf3
                    have HF4 : Hid _ := hf4
                    clear hf1 hf2 hf3 hf4
                    clear hI
                    have HOC : Hid _ := fun (_ : Unit) => HHO.out f1 HF1.out (q2 + 1) (m + 1) wr (by omega) HF2.out (by omega)
                    unfold OCalls at HOC
                    push_cast at HOC
                    cases hr : rt s f1 (q2 + 1) (m + 1) with
                    | bad q3 c3 =>
                      rw [hr] at HOC
                      have HB : Hid (rnode s G p m = .bad q3 c3) := by show _ = _; rw [HT.out, HF4.out, hr]
                      clear hr
                      go_wp2_with (go_at_call 60; refine (HOC.out ()).mono ?_)
                      first | rintro e w5 rfl hk hb5 | rintro e w5 ⟨⟨rfl, hk⟩, hb5⟩
                      have HI5 : Hid _ := HI.out.below hb5
                      clear d0 d1 d2 df t0 t1 t2 g0 g1 z0 z1 z2 y0 y1
                      obtain ⟨t0, t1, t2, g0, g1, z0, z1, z2, y0, y1⟩ := two_cells (w := w) HI5.out.bel
                      have hkc : ((c3 : Int) != 0) = true := by simp; omega
                      have hl5 := HI5.out.lt
                      have k0 : w.heap.size < w5.heap.size := by omega
                      have k1 : w.heap.size < w5.heap.size + 1 := by omega
                      have k2 : w.heap.size + 1 < w5.heap.size := by omega
                      have k3 : w.heap.size + 1 < w5.heap.size + 1 := by omega
                      have HK0 : Hid (c3 ≠ 0) := hk
                      have HK2 : Hid (w.heap.size + 1 < w5.heap.size) := k2
                      clear hb5 hk hl5
                      go_wp2
                      go_region
                      go_wp2
                      obtain ⟨X, hX⟩ : ∃ X, ((((w5.setCell ⟨w.heap.size, 0, none⟩ (.int .i64 0)).setCell ⟨w.heap.size, 1, none⟩ (.int .u8 0)).setCell ⟨w.heap.size, 2, none⟩ (.slice none 0 0)).setCell ⟨w.heap.size + 1, 0, none⟩ (.int .i64 (q3 : Int))).setCell ⟨w.heap.size + 1, 1, none⟩ (.int .i64 (c3 : Int)) = X := ⟨_, rfl⟩
                      obtain ⟨⟨x0, x1, x2, x3, x4⟩, xb, xs', _⟩ := five_below (w := w) HI5.out.bel hX.symm
                      rw [hX]
                      obtain ⟨Y, hY⟩ : ∃ Y, ((X.alloc (.cells #[.int .i64 0, .int .u8 0, .slice none 0 0] 27)).alloc (.cells #[.int .i64 (q3 : Int), .int .i64 (c3 : Int)] 52)).drew = Y := ⟨_, rfl⟩
                      have hXY : Below X.heap.size X Y := by
                        rw [← hY]
                        exact (((Below.refl _ _).alloc (Nat.le_refl _) _).alloc (by simp) _).trans ⟨rfl, rfl, rfl, Nat.le_refl _, fun _ _ => rfl⟩
                      have hXs : w.heap.size + 1 < X.heap.size := by have := HK2.out; omega
                      have ky : ∀ b j, b ≤ w.heap.size + 1 → Y.cell? ⟨b, j, none⟩ = X.cell? ⟨b, j, none⟩ := fun b j h => hXY.cell (p := ⟨b, j, none⟩) (by show b < _; omega)
                      have y0' := (ky w.heap.size 0 (by omega)).trans x0
                      have y1' := (ky w.heap.size 1 (by omega)).trans x1
                      have y2' := (ky w.heap.size 2 (by omega)).trans x2
                      have y3' := (ky (w.heap.size + 1) 0 (by omega)).trans x3
                      have y4' := (ky (w.heap.size + 1) 1 (by omega)).trans x4
                      rw [hY]
                      refine bodyPost_ret (v := .tuple #[.agg #[.int .i64 0, .int .u8 0, .slice none 0 0], .int .i64 0, .agg #[.int .i64 (q3 : Int), .int .i64 (c3 : Int)]]) (by simp [results, Tryd.results82, go_sem, y0', y1', y2', y3', y4']) rfl ?_
                      rw [HB.out]
                      exact ⟨⟨rfl, HK0.out⟩, below_of xb hXY⟩
                    | ok d q3 =>
                      rw [hr] at HOC
                      have hp3 := (rt_rk_pos s f1).1 _ _ _ _ hr
                      have HP3 : Hid _ := hp3
                      have HEQ3 : Hid (rk s f1 q3 (m + 1) (l ++ [d]) = rkids s G q (m + 1)) := by show _ = _; rw [HF4.out, hr]
                      clear hr hp3
                      go_wp2_with (go_at_call 60; refine (HOC.out ()).mono ?_)
                      first | rintro e w5 va vc rfl hvc htin hb5 | rintro e w5 ⟨⟨va, vc, rfl, hvc, htin⟩, hb5⟩
                      have HI5 : Hid _ := HI.out.below hb5
                      clear d0 d1 d2 df t0 t1 t2 g0 g1 z0 z1 z2 y0 y1
                      have d2 := HI5.out.b2
                      have hdl5 := HI5.out.lt
                      have hdl6 : w.heap.size + 1 + 1 < w5.heap.size + 1 := by omega
                      have hdl7 : w.heap.size + 1 + 1 < w5.heap.size + 1 + 1 := by omega
                      have HTI : Hid _ := And.intro htin hvc
                      have HB5 : Hid _ := hb5
                      have hll := HI.out.len
                      have hlh := HI.out.hi
                      have hlen6 : l.length ≤ 65536 := by omega
                      have hnew := World.ownsRow.alloc (World.ownsRow.alloc (World.ownsRow.alloc (w := w5) HI5.out.row (.cells #[.int .i64 d.rule, .int .u8 (d.byte.toNat : Int), .slice va d.kids.length vc] 27)) (.cells #[.int .i64 0, .int .i64 0] 52)) (.cells #[.int .i64 d.rule, .int .u8 (d.byte.toNat : Int), .slice va d.kids.length vc] 27)
                      have HM : Hid (Below w5.heap.size w5 (((w5.alloc (.cells #[.int .i64 d.rule, .int .u8 (d.byte.toNat : Int), .slice va d.kids.length vc] 27)).alloc (.cells #[.int .i64 0, .int .i64 0] 52)).alloc (.cells #[.int .i64 d.rule, .int .u8 (d.byte.toNat : Int), .slice va d.kids.length vc] 27))) := (((Below.refl _ _).alloc (Nat.le_refl _) _).alloc (by simp) _).alloc (by simp; omega) _
                      clear hb5 htin hvc hll hlh
                      go_wp2_with (at_builtin; refine wpList_append_lies _ rfl _ _ 25 rfl (w.heap.size + 3) 27 i0 _ 3 40 Tryd.underlying25 hinf hz0 hz1 hz2 rfl (by decide) _ _ _ rfl hnew ⟨w5.heap.size + 1 + 1, 0, none⟩ 1 1 [.int .i64 d.rule, .int .u8 (d.byte.toNat : Int), .slice va d.kids.length vc] rfl rfl ?ca1 ?ca2 (by decide) ?ca3 ?ca4 ?ca5 (w5.heap.size + 1 + 1 + 1) (by simp) ?_)
                      case ca1 =>
                        have e2s : ((w5.alloc (.cells #[.int .i64 d.rule, .int .u8 (d.byte.toNat : Int), .slice va d.kids.length vc] 27)).alloc (.cells #[.int .i64 0, .int .i64 0] 52)).heap.size = w5.heap.size + 1 + 1 := by simp
                        rw [← e2s]
                        exact cell_three_new _ _ _ _ _
                      case ca2 => first | rfl | (intro u hu; simp at hu; rcases hu with rfl | rfl | rfl <;> rfl)
                      case ca3 => unfold maxLen; omega
                      case ca4 => omega
                      case ca5 => simp; omega
                      intro g1 cap1 w7 hown7 hgrow hat _
                      have HFN : Hid _ := HI.out.step HB5.out HM.out HTI.out.1 HTI.out.2 hown7 hgrow (by rcases hat with h | h; exact .inl h; exact .inr (by omega)) HP3.out.2 (by have := HI.out.len; have := HP3.out; omega) HF1.out (HF3.out q3 HP3.out.1 HP3.out.2) HEQ3.out
                      have hbk : w7.heap[w.heap.size + 1 + 1]? = w5.heap[w.heap.size + 1 + 1]? := (hgrow.block _ (by simp; omega) (fun e => by have := (HI5.out.row.lt _ e.symm).1; omega)).trans (HM.out.block _ hdl5)
                      have j2 := (World.cell?_of_block (a := ⟨w.heap.size + 1 + 1, 2, none⟩) hbk).trans d2
                      have jf := (World.frozen?_of_block (a := ⟨w.heap.size + 1 + 1, 2, none⟩) hbk).trans (HI5.out.bf 2)
                      clear hown7 hgrow hat hnew hbk d2
                      go_wp2
                      exact ⟨⟨q3, l ++ [d], _, _, f1, false, 32, rfl, rfl, rfl, HFN.out⟩, by have := HP3.out; simp [intOf]; omega⟩
                · have v2 : ((c2 : Int) != (u : Int)) = true := by simp; omega
                  have HB : Hid (rnode s G p m = .bad q2 11) := by
                    show _ = _
                    rw [HT.out, ← HEQ.out]
                    unfold rrest
                    rw [if_pos rfl, rkids_byte hlt (by rw [HC2.out]; exact h40)]
                  by_cases h41 : c2 = 41
                  · have v1 : ((c2 : Int) == 41) = true := by simp; omega
                    clear h41 h40 hu40
                    clear hI
                    go_wp2
                    obtain ⟨X, hX⟩ : ∃ X, ((((wr.setCell ⟨w.heap.size, 0, none⟩ (.int .i64 0)).setCell ⟨w.heap.size, 1, none⟩ (.int .u8 0)).setCell ⟨w.heap.size, 2, none⟩ (.slice none 0 0)).setCell ⟨w.heap.size + 1, 0, none⟩ (.int .i64 (q2 : Int))).setCell ⟨w.heap.size + 1, 1, none⟩ (.int .i64 11) = X := ⟨_, rfl⟩
                    obtain ⟨⟨x0, x1, x2, x3, x4⟩, xb, _⟩ := five_below (w := w) HI.out.bel hX.symm
                    rw [hX]
                    refine bodyPost_ret (v := .tuple #[.agg #[.int .i64 0, .int .u8 0, .slice none 0 0], .int .i64 0, .agg #[.int .i64 (q2 : Int), .int .i64 11]]) (by simp [results, Tryd.results82, go_sem, x0, x1, x2, x3, x4]) rfl ?_
                    rw [HB.out]
                    exact ⟨⟨rfl, by omega⟩, xb⟩
                  · have v1 : ((c2 : Int) == 41) = false := by simp; omega
                    clear h41 h40 hu40
                    clear hI
                    go_wp2
                    obtain ⟨X, hX⟩ : ∃ X, ((((wr.setCell ⟨w.heap.size, 0, none⟩ (.int .i64 0)).setCell ⟨w.heap.size, 1, none⟩ (.int .u8 0)).setCell ⟨w.heap.size, 2, none⟩ (.slice none 0 0)).setCell ⟨w.heap.size + 1, 0, none⟩ (.int .i64 (q2 : Int))).setCell ⟨w.heap.size + 1, 1, none⟩ (.int .i64 11) = X := ⟨_, rfl⟩
                    obtain ⟨⟨x0, x1, x2, x3, x4⟩, xb, _⟩ := five_below (w := w) HI.out.bel hX.symm
                    rw [hX]
                    refine bodyPost_ret (v := .tuple #[.agg #[.int .i64 0, .int .u8 0, .slice none 0 0], .int .i64 0, .agg #[.int .i64 (q2 : Int), .int .i64 11]]) (by simp [results, Tryd.results82, go_sem, x0, x1, x2, x3, x4]) rfl ?_
                    rw [HB.out]
                    exact ⟨⟨rfl, by omega⟩, xb⟩
              | false =>
                have hu32 : u = 32 := by have := HU.out; simpa using this
                have u1 : ((u : Int) != 40) = true := by simp; omega
                have u2 : ((u : Int) == 40) = false := by simp; omega
                obtain ⟨f0, hf0⟩ : ∃ f0, f = f0 + 1 := ⟨f - 1, by have := hI.fu' rfl; omega⟩
                by_cases h41 : c2 = 41
                · have v1 : ((c2 : Int) == 41) = true := by simp; omega
                  have HB : Hid (rnode s G p m = .ok (.mk n 0 l) (q2 + 1)) := by
                    show _ = _
                    rw [HT.out, ← HEQ.out, hf0]
                    unfold rrest
                    rw [if_neg (by simp), rk_close hlt (by rw [HC2.out]; exact h41)]
                  clear h41 hu32 hf0
                  clear hI
                  go_wp2
                  obtain ⟨X, hX⟩ : ∃ X, ((((wr.setCell ⟨w.heap.size, 0, none⟩ (.int .i64 (n : Int))).setCell ⟨w.heap.size, 1, none⟩ (.int .u8 0)).setCell ⟨w.heap.size, 2, none⟩ (.slice la l.length lc)).setCell ⟨w.heap.size + 1, 0, none⟩ (.int .i64 0)).setCell ⟨w.heap.size + 1, 1, none⟩ (.int .i64 0) = X := ⟨_, rfl⟩
                  obtain ⟨⟨x0, x1, x2, x3, x4⟩, xb, xs', xo⟩ := five_below (w := w) HI.out.bel hX.symm
                  rw [hX]
                  refine bodyPost_ret (v := .tuple #[.agg #[.int .i64 (n : Int), .int .u8 0, .slice la l.length lc], .int .i64 ((q2 + 1 : Nat) : Int), .agg #[.int .i64 0, .int .i64 0]]) (by simp [results, Tryd.results82, go_sem, x0, x1, x2, x3, x4]) rfl ?_
                  rw [HB.out]
                  exact HI.out.told HS6.out (q2 + 1) xb xs' xo
                · have v1 : ((c2 : Int) == 41) = false := by simp; omega
                  by_cases h32 : c2 = 32
                  · have v2 : ((c2 : Int) != (u : Int)) = false := by simp; omega
                    have HU2 : Hid (c2 = if false = true then 40 else 32) := by show _ = _; rw [if_neg (by simp)]; exact h32
                    have HN41 : Hid (false = true → ¬ (q2 + 1 < s.size ∧ bt s (q2 + 1) = 41)) := fun h => by cases h
                    clear h41 hu32 h32 hf0
                    obtain ⟨f1, hf1, hf2, hf3, hf4⟩ := hI.one hlt (by rw [HC2.out]; exact HU2.out) HN41.out
                    have HF1 : Hid _ := hf1
                    have HF2 : Hid _ := hf2
                    have HF3 : Hid _ := hf3
                    have HF4 : Hid _ := hf4
                    clear hf1 hf2 hf3 hf4
                    clear hI
                    have HOC : Hid _ := fun (_ : Unit) => HHO.out f1 HF1.out (q2 + 1) (m + 1) wr (by omega) HF2.out (by omega)
                    unfold OCalls at HOC
                    push_cast at HOC
                    cases hr : rt s f1 (q2 + 1) (m + 1) with
                    | bad q3 c3 =>
                      rw [hr] at HOC
                      have HB : Hid (rnode s G p m = .bad q3 c3) := by show _ = _; rw [HT.out, HF4.out, hr]
                      clear hr
                      go_wp2_with (go_at_call 60; refine (HOC.out ()).mono ?_)
                      first | rintro e w5 rfl hk hb5 | rintro e w5 ⟨⟨rfl, hk⟩, hb5⟩
                      have HI5 : Hid _ := HI.out.below hb5
                      clear d0 d1 d2 df t0 t1 t2 g0 g1 z0 z1 z2 y0 y1
                      obtain ⟨t0, t1, t2, g0, g1, z0, z1, z2, y0, y1⟩ := two_cells (w := w) HI5.out.bel
                      have hkc : ((c3 : Int) != 0) = true := by simp; omega
                      have hl5 := HI5.out.lt
                      have k0 : w.heap.size < w5.heap.size := by omega
                      have k1 : w.heap.size < w5.heap.size + 1 := by omega
                      have k2 : w.heap.size + 1 < w5.heap.size := by omega
                      have k3 : w.heap.size + 1 < w5.heap.size + 1 := by omega
                      have HK0 : Hid (c3 ≠ 0) := hk
                      have HK2 : Hid (w.heap.size + 1 < w5.heap.size) := k2
                      clear hb5 hk hl5
                      go_wp2
                      go_region
                      go_wp2
                      obtain ⟨X, hX⟩ : ∃ X, ((((w5.setCell ⟨w.heap.size, 0, none⟩ (.int .i64 0)).setCell ⟨w.heap.size, 1, none⟩ (.int .u8 0)).setCell ⟨w.heap.size, 2, none⟩ (.slice none 0 0)).setCell ⟨w.heap.size + 1, 0, none⟩ (.int .i64 (q3 : Int))).setCell ⟨w.heap.size + 1, 1, none⟩ (.int .i64 (c3 : Int)) = X := ⟨_, rfl⟩
                      obtain ⟨⟨x0, x1, x2, x3, x4⟩, xb, xs', _⟩ := five_below (w := w) HI5.out.bel hX.symm
                      rw [hX]
                      obtain ⟨Y, hY⟩ : ∃ Y, ((X.alloc (.cells #[.int .i64 0, .int .u8 0, .slice none 0 0] 27)).alloc (.cells #[.int .i64 (q3 : Int), .int .i64 (c3 : Int)] 52)).drew = Y := ⟨_, rfl⟩
                      have hXY : Below X.heap.size X Y := by
                        rw [← hY]
                        exact (((Below.refl _ _).alloc (Nat.le_refl _) _).alloc (by simp) _).trans ⟨rfl, rfl, rfl, Nat.le_refl _, fun _ _ => rfl⟩
                      have hXs : w.heap.size + 1 < X.heap.size := by have := HK2.out; omega
                      have ky : ∀ b j, b ≤ w.heap.size + 1 → Y.cell? ⟨b, j, none⟩ = X.cell? ⟨b, j, none⟩ := fun b j h => hXY.cell (p := ⟨b, j, none⟩) (by show b < _; omega)
                      have y0' := (ky w.heap.size 0 (by omega)).trans x0
                      have y1' := (ky w.heap.size 1 (by omega)).trans x1
                      have y2' := (ky w.heap.size 2 (by omega)).trans x2
                      have y3' := (ky (w.heap.size + 1) 0 (by omega)).trans x3
                      have y4' := (ky (w.heap.size + 1) 1 (by omega)).trans x4
                      rw [hY]
                      refine bodyPost_ret (v := .tuple #[.agg #[.int .i64 0, .int .u8 0, .slice none 0 0], .int .i64 0, .agg #[.int .i64 (q3 : Int), .int .i64 (c3 : Int)]]) (by simp [results, Tryd.results82, go_sem, y0', y1', y2', y3', y4']) rfl ?_
                      rw [HB.out]
                      exact ⟨⟨rfl, HK0.out⟩, below_of xb hXY⟩
                    | ok d q3 =>
                      rw [hr] at HOC
                      have hp3 := (rt_rk_pos s f1).1 _ _ _ _ hr
                      have HP3 : Hid _ := hp3
                      have HEQ3 : Hid (rk s f1 q3 (m + 1) (l ++ [d]) = rkids s G q (m + 1)) := by show _ = _; rw [HF4.out, hr]
                      clear hr hp3
                      go_wp2_with (go_at_call 60; refine (HOC.out ()).mono ?_)
                      first | rintro e w5 va vc rfl hvc htin hb5 | rintro e w5 ⟨⟨va, vc, rfl, hvc, htin⟩, hb5⟩
                      have HI5 : Hid _ := HI.out.below hb5
                      clear d0 d1 d2 df t0 t1 t2 g0 g1 z0 z1 z2 y0 y1
                      have d2 := HI5.out.b2
                      have hdl5 := HI5.out.lt
                      have hdl6 : w.heap.size + 1 + 1 < w5.heap.size + 1 := by omega
                      have hdl7 : w.heap.size + 1 + 1 < w5.heap.size + 1 + 1 := by omega
                      have HTI : Hid _ := And.intro htin hvc
                      have HB5 : Hid _ := hb5
                      have hll := HI.out.len
                      have hlh := HI.out.hi
                      have hlen6 : l.length ≤ 65536 := by omega
                      have hnew := World.ownsRow.alloc (World.ownsRow.alloc (World.ownsRow.alloc (w := w5) HI5.out.row (.cells #[.int .i64 d.rule, .int .u8 (d.byte.toNat : Int), .slice va d.kids.length vc] 27)) (.cells #[.int .i64 0, .int .i64 0] 52)) (.cells #[.int .i64 d.rule, .int .u8 (d.byte.toNat : Int), .slice va d.kids.length vc] 27)
                      have HM : Hid (Below w5.heap.size w5 (((w5.alloc (.cells #[.int .i64 d.rule, .int .u8 (d.byte.toNat : Int), .slice va d.kids.length vc] 27)).alloc (.cells #[.int .i64 0, .int .i64 0] 52)).alloc (.cells #[.int .i64 d.rule, .int .u8 (d.byte.toNat : Int), .slice va d.kids.length vc] 27))) := (((Below.refl _ _).alloc (Nat.le_refl _) _).alloc (by simp) _).alloc (by simp; omega) _
                      clear hb5 htin hvc hll hlh
                      go_wp2_with (at_builtin; refine wpList_append_lies _ rfl _ _ 25 rfl (w.heap.size + 3) 27 i0 _ 3 40 Tryd.underlying25 hinf hz0 hz1 hz2 rfl (by decide) _ _ _ rfl hnew ⟨w5.heap.size + 1 + 1, 0, none⟩ 1 1 [.int .i64 d.rule, .int .u8 (d.byte.toNat : Int), .slice va d.kids.length vc] rfl rfl ?ca1 ?ca2 (by decide) ?ca3 ?ca4 ?ca5 (w5.heap.size + 1 + 1 + 1) (by simp) ?_)
                      case ca1 =>
                        have e2s : ((w5.alloc (.cells #[.int .i64 d.rule, .int .u8 (d.byte.toNat : Int), .slice va d.kids.length vc] 27)).alloc (.cells #[.int .i64 0, .int .i64 0] 52)).heap.size = w5.heap.size + 1 + 1 := by simp
                        rw [← e2s]
                        exact cell_three_new _ _ _ _ _
                      case ca2 => first | rfl | (intro u hu; simp at hu; rcases hu with rfl | rfl | rfl <;> rfl)
                      case ca3 => unfold maxLen; omega
                      case ca4 => omega
                      case ca5 => simp; omega
                      intro g1 cap1 w7 hown7 hgrow hat _
                      have HFN : Hid _ := HI.out.step HB5.out HM.out HTI.out.1 HTI.out.2 hown7 hgrow (by rcases hat with h | h; exact .inl h; exact .inr (by omega)) HP3.out.2 (by have := HI.out.len; have := HP3.out; omega) HF1.out (HF3.out q3 HP3.out.1 HP3.out.2) HEQ3.out
                      have hbk : w7.heap[w.heap.size + 1 + 1]? = w5.heap[w.heap.size + 1 + 1]? := (hgrow.block _ (by simp; omega) (fun e => by have := (HI5.out.row.lt _ e.symm).1; omega)).trans (HM.out.block _ hdl5)
                      have j2 := (World.cell?_of_block (a := ⟨w.heap.size + 1 + 1, 2, none⟩) hbk).trans d2
                      have jf := (World.frozen?_of_block (a := ⟨w.heap.size + 1 + 1, 2, none⟩) hbk).trans (HI5.out.bf 2)
                      clear hown7 hgrow hat hnew hbk d2
                      go_wp2
                      exact ⟨⟨q3, l ++ [d], _, _, f1, false, 32, rfl, rfl, rfl, HFN.out⟩, by have := HP3.out; simp [intOf]; omega⟩
                  · have v2 : ((c2 : Int) != (u : Int)) = true := by simp; omega
                    have HB : Hid (rnode s G p m = .bad q2 11) := by
                      have hl : l ≠ [] := fun e => by have := hI.fst.2 e; cases this
                      show _ = _
                      rw [HT.out, ← HEQ.out, hf0]
                      unfold rrest
                      rw [if_neg (by simp), rk_byte hl hlt (by rw [HC2.out]; exact h41) (by rw [HC2.out]; exact h32)]
                    clear h41 hu32 h32 hf0
                    clear hI
                    go_wp2
                    obtain ⟨X, hX⟩ : ∃ X, ((((wr.setCell ⟨w.heap.size, 0, none⟩ (.int .i64 0)).setCell ⟨w.heap.size, 1, none⟩ (.int .u8 0)).setCell ⟨w.heap.size, 2, none⟩ (.slice none 0 0)).setCell ⟨w.heap.size + 1, 0, none⟩ (.int .i64 (q2 : Int))).setCell ⟨w.heap.size + 1, 1, none⟩ (.int .i64 11) = X := ⟨_, rfl⟩
                    obtain ⟨⟨x0, x1, x2, x3, x4⟩, xb, _⟩ := five_below (w := w) HI.out.bel hX.symm
                    rw [hX]
                    refine bodyPost_ret (v := .tuple #[.agg #[.int .i64 0, .int .u8 0, .slice none 0 0], .int .i64 0, .agg #[.int .i64 (q2 : Int), .int .i64 11]]) (by simp [results, Tryd.results82, go_sem, x0, x1, x2, x3, x4]) rfl ?_
                    rw [HB.out]
                    exact ⟨⟨rfl, by omega⟩, xb⟩
    · have hqI : ¬ (q : Int) < (s.size : Int) := by omega
      have hqe : q = s.size := by have := hI.hi; omega
      have HB : Hid (rnode s G p m = .bad s.size 14) := by show _ = _; rw [HR.out, hI.at_end (by omega), hqe]
      have hqJ : (s.size : Int) ≤ (q : Int) := by omega
      clear hqe
      clear hI HLT
      go_wp2
      have hX : Below (w.heap.size + 2) ((w.alloc (.cells #[.int .i64 0, .int .u8 0, .slice none 0 0] 27)).alloc (.cells #[.int .i64 0, .int .i64 0] 52)) (((w.alloc (.cells #[.int .i64 0, .int .u8 0, .slice none 0 0] 27)).alloc (.cells #[.int .i64 0, .int .i64 0] 52)).alloc (.cells #[.int .i64 (n : Int), .int .u8 0, .slice none 0 0] 27)) := (Below.refl _ _).alloc (by simp) _
      generalize ((w.alloc (.cells #[.int .i64 0, .int .u8 0, .slice none 0 0] 27)).alloc (.cells #[.int .i64 0, .int .i64 0] 52)).alloc (.cells #[.int .i64 (n : Int), .int .u8 0, .slice none 0 0] 27) = W3 at hX ⊢
      go_loopw [10, 12] (fun iv wv W => iv = .int .i64 (q : Int) ∧ wv = .int .u8 40 ∧ W = W3) (fun _ _ _ => 0)
      case atStart => exact ⟨rfl, rfl, rfl⟩
      case round =>
        obtain ⟨rfl, rfl, rfl⟩ := hrel
        obtain ⟨t0, t1, t2, g0, g1, z0, z1, z2, y0, y1⟩ := two_cells (w := w) hX
        have HX : Hid _ := hX
        clear hX
        go_wp2
        obtain ⟨X, hX⟩ : ∃ X, ((((wr.setCell ⟨w.heap.size, 0, none⟩ (.int .i64 0)).setCell ⟨w.heap.size, 1, none⟩ (.int .u8 0)).setCell ⟨w.heap.size, 2, none⟩ (.slice none 0 0)).setCell ⟨w.heap.size + 1, 0, none⟩ (.int .i64 (s.size : Int))).setCell ⟨w.heap.size + 1, 1, none⟩ (.int .i64 14) = X := ⟨_, rfl⟩
        obtain ⟨⟨x0, x1, x2, x3, x4⟩, xb, _⟩ := five_below (w := w) HX.out hX.symm
        rw [hX]
        refine bodyPost_ret (v := .tuple #[.agg #[.int .i64 0, .int .u8 0, .slice none 0 0], .int .i64 0, .agg #[.int .i64 (s.size : Int), .int .i64 14]]) (by simp [results, Tryd.results82, go_sem, x0, x1, x2, x3, x4]) rfl ?_
        rw [HB.out]
        exact ⟨⟨rfl, by omega⟩, xb⟩
end Go.Proofs.YtlnlkbkmnkjbhaaDoor
