/- The document's own reader of a tree's text: a leaf. -/
import Derived.Test.YtlnlkbkmnkjbhaaDoorN0
namespace Go.Proofs.YtlnlkbkmnkjbhaaDoor
open Go.RowKit

def hexB : ByteArray := ⟨#[48, 49, 50, 51, 52, 53, 54, 55, 56, 57, 97, 98, 99, 100, 101, 102]⟩
theorem hexs_eq : ∀ j : Fin 16, ∀ c : Fin 256, (bt hexB j.val = c.val) ↔ hv c.val = j.val := by decide +kernel
/-- Halves of a leaf that are read: so many, so much. -/
def LF (s : ByteArray) (p j n : Nat) : Prop := (j = 0 ∧ n = 0) ∨ (j = 1 ∧ rhalf s (p + 1) = .ok n (p + 2) ∧ n < 16) ∨ (j = 2 ∧ ∃ a b, rhalf s (p + 1) = .ok a (p + 2) ∧ rhalf s (p + 2) = .ok b (p + 3) ∧ n = 16 * a + b ∧ a < 16 ∧ b < 16)
theorem LF.done {s : ByteArray} {p n : Nat} (h : LF s p 2 n) : rleaf s (p + 1) = .ok (.mk (-1) (UInt8.ofNat n) []) (p + 3) ∧ n < 256 := by
  rcases h with ⟨h, _⟩ | ⟨h, _⟩ | ⟨_, a, b, h1, h2, rfl, ha, hb⟩
  · omega
  · omega
  · unfold rleaf; rw [h1]; simp only []; rw [h2]; exact ⟨rfl, by omega⟩
theorem LF.bad {s : ByteArray} {p j n q c : Nat} (h : LF s p j n) (hj : j < 2) (hr : rhalf s (p + 1 + j) = .bad q c) : rleaf s (p + 1) = .bad q c := by
  rcases h with ⟨rfl, _⟩ | ⟨rfl, h1, _⟩ | ⟨rfl, _⟩
  · unfold rleaf; rw [show p + 1 + 0 = p + 1 by omega] at hr; rw [hr]
  · unfold rleaf; rw [h1]; simp only []; rw [show p + 1 + 1 = p + 2 by omega] at hr; rw [hr]
  · omega
theorem LF.next {s : ByteArray} {p j n k : Nat} (h : LF s p j n) (hj : j < 2) (hr : rhalf s (p + 1 + j) = .ok k (p + 2 + j)) (hk : k < 16) : LF s p (j + 1) (16 * n + k) := by
  rcases h with ⟨rfl, rfl⟩ | ⟨rfl, h1, h2⟩ | ⟨rfl, _⟩
  · exact .inr (.inl ⟨rfl, by simpa using hr, by omega⟩)
  · exact .inr (.inr ⟨rfl, n, k, h1, by rw [show p + 1 + 1 = p + 2 by omega, show p + 2 + 1 = p + 3 by omega] at hr; exact hr, rfl, h2, hk⟩)
  · omega
theorem LF.lt {s : ByteArray} {p j n : Nat} (h : LF s p j n) : n < 256 ∧ j ≤ 2 := by
  rcases h with ⟨h, h'⟩ | ⟨h, _, _⟩ | ⟨_, a, b, h1, h2, rfl, ha, hb⟩ <;> omega
theorem rt_leaf (s : ByteArray) (f p m : Nat) (hp : p < s.size) (h1 : bt s p = 120) (h2 : m ≤ 200) : rt s (f + 1) p m = rleaf s (p + 1) := by
  rw [rt, if_neg (by omega), if_neg (fun h => h.1 h1), if_neg (by omega), if_pos h1]
set_option maxRecDepth 100000 in
set_option maxHeartbeats 4000000 in
theorem one_leaf (s : ByteArray) (hs6 : s.size ≤ 65536) (f p m : Nat) (w : World) (hp : p < s.size) (h1 : bt s p = 120) (h2 : m ≤ 200) : OCalls s (f + 1) p m w := by
  have HR : Hid (rt s (f + 1) p m = rleaf s (p + 1)) := rt_leaf s f p m hp h1 h2
  have HB : Hid (Below w.heap.size w ((w.alloc (.cells #[.int .i64 0, .int .u8 0, .slice none 0 0] 27)).alloc (.cells #[.int .i64 0, .int .i64 0] 52))) := ((Below.refl _ _).alloc (Nat.le_refl _) _).alloc (by simp) _
  have hpI : (p : Int) < (s.size : Int) := by omega
  have hnp : ¬ ((s.size : Int) ≤ (p : Int)) := by omega
  have hmI : ¬ (200 : Int) < (m : Int) := by omega
  have hpb : (p : Int) ≤ 65536 := by omega
  have hget := (bt_eq s p hp).trans h1
  unfold OCalls
  clear h1 h2
  go_enter Tryd.func60, Tryd.ntmps60
  go_wp2
  go_loopw [10, 11] (fun nv iv W => ∃ n j q : Nat, nv = .int .i64 (n : Int) ∧ iv = .int .i64 (q : Int) ∧ q = p + 1 + j ∧ LF s p j n ∧ Below (w.heap.size + 2) ((w.alloc (.cells #[.int .i64 0, .int .u8 0, .slice none 0 0] 27)).alloc (.cells #[.int .i64 0, .int .i64 0] 52)) W) (fun _ iv _ => p + 3 - (intOf iv).toNat)
  case atStart => exact ⟨0, 0, p + 1, rfl, by go_num, rfl, .inl ⟨rfl, rfl⟩, Below.refl _ _⟩
  case round =>
    obtain ⟨n, j, q, rfl, rfl, hq, hL, hW⟩ := hrel
    have hn := hL.lt
    have HL : Hid (LF s p j n) := hL
    obtain ⟨t0, t1, t2, g0, g1, z0, z1, z2, y0, y1⟩ := two_cells (w := w) hW
    have HW : Hid _ := hW
    clear hW
    by_cases hj : j < 2
    · have a1 : (q : Int) < (p : Int) + 3 := by omega
      have hqb : (q : Int) ≤ 65539 := by omega
      by_cases he : s.size ≤ q
      · have hps : q = s.size := by
          rcases hL with ⟨rfl, _⟩ | ⟨rfl, h3, _⟩ | ⟨rfl, _⟩
          · omega
          · have := rhalf_pos h3; omega
          · omega
        have hd := hL.bad hj (show rhalf s (p + 1 + j) = .bad (p + 1 + j) 14 by unfold rhalf; rw [if_pos (by omega)])
        rw [← hq, hps] at hd
        have HD : Hid _ := hd
        have a2 : (s.size : Int) ≤ (q : Int) := by omega
        clear hd hL hps he hj hq hn
        go_wp2
        obtain ⟨X, hX⟩ : ∃ X, ((((wr.setCell ⟨w.heap.size, 0, none⟩ (.int .i64 0)).setCell ⟨w.heap.size, 1, none⟩ (.int .u8 0)).setCell ⟨w.heap.size, 2, none⟩ (.slice none 0 0)).setCell ⟨w.heap.size + 1, 0, none⟩ (.int .i64 (s.size : Int))).setCell ⟨w.heap.size + 1, 1, none⟩ (.int .i64 14) = X := ⟨_, rfl⟩
        obtain ⟨⟨x0, x1, x2, x3, x4⟩, xb, _⟩ := five_below (w := w) HW.out hX.symm
        rw [hX]
        refine bodyPost_ret (v := .tuple #[.agg #[.int .i64 0, .int .u8 0, .slice none 0 0], .int .i64 0, .agg #[.int .i64 (s.size : Int), .int .i64 14]]) (by simp [results, Tryd.results60, go_sem, x0, x1, x2, x3, x4]) rfl ?_
        rw [HR.out, HD.out]
        exact ⟨⟨rfl, by omega⟩, xb⟩
      · have hlt : q < s.size := by omega
        have hget2 := bt_eq s q hlt
        have hcl := bt_lt s q
        have HH : Hid (rhalf s q = if hv (bt s q) = 16 then .bad q 11 else .ok (hv (bt s q)) (q + 1)) := by show _ = _; unfold rhalf; rw [if_neg he]
        generalize bt s q = c at *
        have a2 : ¬ (s.size : Int) ≤ (q : Int) := by omega
        have a3 : (q : Int) < (s.size : Int) := by omega
        have HQ : Hid _ := And.intro hq hj
        clear hL he hq hn hj
        go_wp2
        go_loopw [12, 13] (fun kv tv W => ∃ k t : Nat, kv = .int .i64 (k : Int) ∧ tv = .int .i64 (t : Int) ∧ t ≤ 16 ∧ k = (if hv c < t then hv c else 16) ∧ Below (w.heap.size + 2) ((w.alloc (.cells #[.int .i64 0, .int .u8 0, .slice none 0 0] 27)).alloc (.cells #[.int .i64 0, .int .i64 0] 52)) W) (fun _ tv _ => 16 - (intOf tv).toNat)
        case atStart => exact ⟨16, 0, rfl, rfl, by omega, by simp, HW.out⟩
        case round =>
          clear t0 t1 t2 g0 g1 z0 z1 z2 y0 y1
          obtain ⟨k, t, rfl, rfl, ht, hk, hW2⟩ := hrel
          obtain ⟨t0, t1, t2, g0, g1, z0, z1, z2, y0, y1⟩ := two_cells (w := w) hW2
          have HW2 : Hid _ := hW2
          have HKK : Hid _ := hk
          clear hW2 hk
          by_cases ht16 : t < 16
          · have b1 : (t : Int) < 16 := by omega
            have hgx : ∀ h, ((({ data := #[48, 49, 50, 51, 52, 53, 54, 55, 56, 57, 97, 98, 99, 100, 101, 102] } : ByteArray)[t]'h).toNat = bt hexB t) := fun h => bt_eq hexB t h
            have hiff := hexs_eq ⟨t, ht16⟩ ⟨c, hcl⟩
            simp only [] at hiff
            have hbd : ∀ N : Nat, Below (w.heap.size + 2) ((w.alloc (.cells #[.int .i64 0, .int .u8 0, .slice none 0 0] 27)).alloc (.cells #[.int .i64 0, .int .i64 0] 52)) (wr.drewN N) := fun N => HW2.out.trans ⟨rfl, rfl, rfl, Nat.le_refl _, fun _ _ => rfl⟩
            generalize bt hexB t = e at hgx hiff
            have HBD : Hid _ := hbd
            have HIF : Hid _ := hiff
            by_cases hec : e = c
            · have hee : ((e : Int) == (c : Int)) = true := by simp; omega
              clear hbd hiff
              go_wp2
              go_quiet (fail)
              go_wp2
              refine ⟨⟨t, t + 1, rfl, by go_num, by omega, ?_, HBD.out _⟩, by simp [intOf]; omega⟩
              have := HIF.out.1 hec
              rw [if_pos (by omega)]; exact this.symm
            · have hee : ((e : Int) == (c : Int)) = false := by simp; omega
              clear hbd hiff
              go_wp2
              go_quiet (fail)
              go_wp2
              refine ⟨⟨k, t + 1, rfl, by go_num, by omega, ?_, HBD.out _⟩, by simp [intOf]; omega⟩
              have h1 : hv c ≠ t := fun h => hec (HIF.out.2 h)
              rw [HKK.out]
              by_cases h2 : hv c < t
              · rw [if_pos h2, if_pos (by omega)]
              · rw [if_neg h2, if_neg (by omega)]
          · obtain rfl : t = 16 := by omega
            have hhv := hv_le c
            have hk16 : k = hv c := by
              have := HKK.out
              split at this <;> omega
            by_cases h16 : hv c = 16
            · have hk1 : ((k : Int) == 16) = true := by simp; omega
              have HD : Hid (rleaf s (p + 1) = .bad q 11) := LF.bad HL.out HQ.out.2 (by rw [← HQ.out.1, HH.out, if_pos h16])
              clear hk16 hhv h16
              go_wp2
              obtain ⟨X, hX⟩ : ∃ X, ((((wr.setCell ⟨w.heap.size, 0, none⟩ (.int .i64 0)).setCell ⟨w.heap.size, 1, none⟩ (.int .u8 0)).setCell ⟨w.heap.size, 2, none⟩ (.slice none 0 0)).setCell ⟨w.heap.size + 1, 0, none⟩ (.int .i64 (q : Int))).setCell ⟨w.heap.size + 1, 1, none⟩ (.int .i64 11) = X := ⟨_, rfl⟩
              obtain ⟨⟨x0, x1, x2, x3, x4⟩, xb, _⟩ := five_below (w := w) HW2.out hX.symm
              rw [hX]
              refine bodyPost_ret (v := .tuple #[.agg #[.int .i64 0, .int .u8 0, .slice none 0 0], .int .i64 0, .agg #[.int .i64 (q : Int), .int .i64 11]]) (by simp [results, Tryd.results60, go_sem, x0, x1, x2, x3, x4]) rfl ?_
              rw [HR.out, HD.out]
              exact ⟨⟨rfl, by omega⟩, xb⟩
            · have hk1 : ((k : Int) == 16) = false := by simp; omega
              have HN : Hid (LF s p (j + 1) (16 * n + k)) := LF.next HL.out HQ.out.2 (by rw [← HQ.out.1, HH.out, if_neg h16, hk16]; congr 1; have := HQ.out.1; omega) (by omega)
              have hnb : (n : Int) ≤ 256 := by have := LF.lt HL.out; omega
              have hkb : (k : Int) ≤ 16 := by omega
              clear hk16 hhv h16
              go_wp2
              exact ⟨⟨16 * n + k, j + 1, q + 1, by go_num, by go_num, by have := HQ.out.1; omega, HN.out, HW2.out⟩, by have := HQ.out; simp [intOf]; omega⟩
    · obtain rfl : j = 2 := by omega
      obtain ⟨hd, hn'⟩ := hL.done
      have HD : Hid _ := hd
      have a1 : ¬ (q : Int) < (p : Int) + 3 := by omega
      clear hd hL
      go_wp2
      obtain ⟨X, hX⟩ : ∃ X, ((((wr.setCell ⟨w.heap.size, 0, none⟩ (.int .i64 (-1))).setCell ⟨w.heap.size, 1, none⟩ (.int .u8 (n : Int))).setCell ⟨w.heap.size, 2, none⟩ (.slice none 0 0)).setCell ⟨w.heap.size + 1, 0, none⟩ (.int .i64 0)).setCell ⟨w.heap.size + 1, 1, none⟩ (.int .i64 0) = X := ⟨_, rfl⟩
      obtain ⟨⟨x0, x1, x2, x3, x4⟩, xb, _⟩ := five_below (w := w) HW.out hX.symm
      rw [hX]
      refine bodyPost_ret (v := .tuple #[.agg #[.int .i64 (-1), .int .u8 (n : Int), .slice none 0 0], .int .i64 ((p : Int) + 3), .agg #[.int .i64 0, .int .i64 0]]) (by simp [results, Tryd.results60, go_sem, x0, x1, x2, x3, x4]) rfl ?_
      rw [HR.out, HD.out]
      have hu : ((UInt8.ofNat n).toNat : Int) = (n : Int) := by simp [UInt8.toNat_ofNat']; omega
      refine ⟨⟨none, 0, ?_, Nat.le_refl _, by simp [Tr.kids], fun j x hj => by cases hj⟩, xb⟩
      simp only [Tr.rule, Tr.byte, Tr.kids, hu, List.length_nil]
      push_cast
      rfl
end Go.Proofs.YtlnlkbkmnkjbhaaDoor
