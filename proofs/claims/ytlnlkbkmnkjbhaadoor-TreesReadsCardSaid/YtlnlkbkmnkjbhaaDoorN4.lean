/- The document's own reader of a tree's text: a tree at any place; the whole. -/
import Derived.Test.YtlnlkbkmnkjbhaaDoorN3
namespace Go.Proofs.YtlnlkbkmnkjbhaaDoor
open Go.RowKit

theorem one_any (s : ByteArray) (hs6 : s.size ≤ 65536) : ∀ f p m w, p ≤ s.size → 2 * (s.size - p) < f → m ≤ 201 → OCalls s f p m w := by
  intro f
  induction f using Nat.strongRecOn with
  | ind f ih =>
    intro p m w hp hf hm
    obtain ⟨f', rfl⟩ : ∃ f', f = f' + 1 := ⟨f - 1, by omega⟩
    rcases Nat.lt_or_ge p s.size with hlt | hge
    · by_cases h120 : bt s p = 120
      · by_cases h2 : m ≤ 200
        · exact one_leaf s hs6 f' p m w hlt h120 h2
        · exact one_deep s f' p m w hlt (.inl h120) (by omega)
      · by_cases hd : digq (bt s p) = true
        · by_cases h2 : m ≤ 200
          · exact one_node s f' p m w hlt hd h2 (fun w => node_step s hs6 f' p m w hlt hd h2 (by omega) (fun f hf p m w a b c => ih f (by omega) p m w a b c))
          · exact one_deep s f' p m w hlt (.inr hd) (by omega)
        · exact one_byte s f' p m w hlt h120 (by simpa using hd)
    · obtain rfl : p = s.size := by omega
      exact one_short s f' m w
set_option maxRecDepth 100000 in
set_option maxHeartbeats 4000000 in
theorem refParse_any (s : ByteArray) (w : World) (hs : s.size ≤ maxLen) : Calls Tryd.prog 36 #[.string s] w fun e w' => PPost (2 * s.size + 2) w (rpar s) e w' := by
  unfold maxLen at hs
  by_cases hl : 65536 < s.size
  · have HP : Hid (rpar s = .bad 0 2) := by show _ = _; unfold rpar; rw [if_pos hl]
    have hlI : (65536 : Int) < (s.size : Int) := by omega
    clear hl hs
    go_enter Tryd.func36, Tryd.ntmps36
    go_wp2
    refine bodyPost_ret (v := .tuple #[.agg #[.int .i64 0, .int .u8 0, .slice none 0 0], .agg #[.int .i64 0, .int .i64 2]]) (by simp [results, Tryd.results36, go_sem]) rfl ?_
    rw [HP.out]
    exact ⟨rfl, ((Below.refl _ _).alloc (Nat.le_refl _) _).alloc (by simp) _⟩
  · have HRP : Hid (rpar s = match rt s (2 * s.size + 2) 0 1 with | .bad q c => .bad q c | .ok d q => if q < s.size then .bad q 15 else .ok d q) := by show _ = _; unfold rpar; rw [if_neg hl]; rfl
    have hlI : ¬ (65536 : Int) < (s.size : Int) := by omega
    have ho : OCalls s (2 * s.size + 2) 0 1 ((w.alloc (.cells #[.int .i64 0, .int .u8 0, .slice none 0 0] 27)).alloc (.cells #[.int .i64 0, .int .i64 0] 52)) := one_any s (by omega) (2 * s.size + 2) 0 1 _ (by omega) (by omega) (by omega)
    unfold OCalls at ho
    have hsz2 : ((w.alloc (.cells #[.int .i64 0, .int .u8 0, .slice none 0 0] 27)).alloc (.cells #[.int .i64 0, .int .i64 0] 52)).heap.size = w.heap.size + 2 := by simp
    have HSZ : Hid _ := hsz2
    have HC : Hid _ := fun (_ : Unit) => ho
    clear ho hsz2 hl hs
    cases hr : rt s (2 * s.size + 2) 0 1 with
    | bad q c =>
      rw [hr] at HC
      have HP : Hid (rpar s = .bad q c) := by show _ = _; rw [HRP.out, hr]
      clear hr
      go_enter Tryd.func36, Tryd.ntmps36
      go_wp2_with (go_at_call 60; refine (HC.out ()).mono ?_)
      first | rintro e w5 rfl hk hb5 | rintro e w5 ⟨⟨rfl, hk⟩, hb5⟩
      have hsz5 := hb5.size
      rw [HSZ.out] at hb5 hsz5
      obtain ⟨t0, t1, t2, g0, g1, z0, z1, z2, y0, y1⟩ := two_cells (w := w) hb5
      have k0 : w.heap.size < w5.heap.size := by omega
      have k1 : w.heap.size < w5.heap.size + 1 := by omega
      have k2 : w.heap.size + 1 < w5.heap.size := by omega
      have k3 : w.heap.size + 1 < w5.heap.size + 1 := by omega
      have HK2 : Hid (w.heap.size + 1 < w5.heap.size) := k2
      have HB5 : Hid _ := hb5
      have hkc : ((c : Int) != 0) = true := by simp; omega
      clear hb5 hk hsz5
      go_wp2
      go_region
      go_wp2
      obtain ⟨X, hX⟩ : ∃ X, ((((w5.setCell ⟨w.heap.size, 0, none⟩ (.int .i64 0)).setCell ⟨w.heap.size, 1, none⟩ (.int .u8 0)).setCell ⟨w.heap.size, 2, none⟩ (.slice none 0 0)).setCell ⟨w.heap.size + 1, 0, none⟩ (.int .i64 (q : Int))).setCell ⟨w.heap.size + 1, 1, none⟩ (.int .i64 (c : Int)) = X := ⟨_, rfl⟩
      obtain ⟨⟨x0, x1, x2, x3, x4⟩, xb, xs', xo⟩ := five_below (w := w) HB5.out hX.symm
      rw [hX]
      obtain ⟨Y, hY⟩ : ∃ Y, ((X.alloc (.cells #[.int .i64 0, .int .u8 0, .slice none 0 0] 27)).alloc (.cells #[.int .i64 (q : Int), .int .i64 (c : Int)] 52)).drew = Y := ⟨_, rfl⟩
      have hXY : Below X.heap.size X Y := by
        rw [← hY]
        exact (((Below.refl _ _).alloc (Nat.le_refl _) _).alloc (by simp) _).trans ⟨rfl, rfl, rfl, Nat.le_refl _, fun _ _ => rfl⟩
      have hXs : w.heap.size + 1 < X.heap.size := by have := HK2.out; omega
      have ky : ∀ b j, b ≤ w.heap.size + 1 → Y.cell? ⟨b, j, none⟩ = X.cell? ⟨b, j, none⟩ := fun b j h => hXY.cell (p := ⟨b, j, none⟩) (by show b < _; omega)
      have y0' := (ky w.heap.size 0 (by omega)).trans x0
      have y1' := (ky w.heap.size 1 (by omega)).trans x1
      have y2' := (ky w.heap.size 2 (by omega)).trans x2
      have y3' := (ky (w.heap.size + 1) 0 (by omega)).trans x3
      have y4' := (ky (w.heap.size + 1) 1 (by omega)).trans x4
      rw [hY]
      refine bodyPost_ret (v := .tuple #[.agg #[.int .i64 0, .int .u8 0, .slice none 0 0], .agg #[.int .i64 (q : Int), .int .i64 (c : Int)]]) (by simp [results, Tryd.results36, go_sem, y0', y1', y2', y3', y4']) rfl ?_
      rw [HP.out]
      exact ⟨rfl, below_of xb hXY⟩
    | ok d q =>
      rw [hr] at HC
      have hpq := (rt_rk_pos s (2 * s.size + 2)).1 _ _ _ _ hr
      have hrp : rpar s = if q < s.size then .bad q 15 else .ok d q := by rw [HRP.out, hr]
      by_cases hq : q < s.size
      · have HP : Hid (rpar s = .bad q 15) := by show _ = _; rw [hrp, if_pos hq]
        have hqI : (q : Int) < (s.size : Int) := by omega
        clear hr hrp hpq hq
        go_enter Tryd.func36, Tryd.ntmps36
        go_wp2_with (go_at_call 60; refine (HC.out ()).mono ?_)
        first | rintro e w5 va vc rfl hvc htin hb5 | rintro e w5 ⟨⟨va, vc, rfl, hvc, htin⟩, hb5⟩
        have hsz5 := hb5.size
        rw [HSZ.out] at hb5 hsz5
        obtain ⟨t0, t1, t2, g0, g1, z0, z1, z2, y0, y1⟩ := two_cells (w := w) hb5
        have k0 : w.heap.size < w5.heap.size := by omega
        have k1 : w.heap.size < w5.heap.size + 1 := by omega
        have k2 : w.heap.size + 1 < w5.heap.size := by omega
        have k3 : w.heap.size + 1 < w5.heap.size + 1 := by omega
        have HK2 : Hid (w.heap.size + 1 < w5.heap.size) := k2
        have HB5 : Hid _ := hb5
        clear hb5 hvc htin hsz5
        go_wp2
        obtain ⟨X, hX⟩ : ∃ X, ((((w5.setCell ⟨w.heap.size, 0, none⟩ (.int .i64 0)).setCell ⟨w.heap.size, 1, none⟩ (.int .u8 0)).setCell ⟨w.heap.size, 2, none⟩ (.slice none 0 0)).setCell ⟨w.heap.size + 1, 0, none⟩ (.int .i64 (q : Int))).setCell ⟨w.heap.size + 1, 1, none⟩ (.int .i64 15) = X := ⟨_, rfl⟩
        obtain ⟨⟨x0, x1, x2, x3, x4⟩, xb, xs', xo⟩ := five_below (w := w) HB5.out hX.symm
        rw [hX]
        obtain ⟨Y, hY⟩ : ∃ Y, ((X.alloc (.cells #[.int .i64 d.rule, .int .u8 (d.byte.toNat : Int), .slice va d.kids.length vc] 27)).alloc (.cells #[.int .i64 0, .int .i64 0] 52)) = Y := ⟨_, rfl⟩
        have hXY : Below X.heap.size X Y := by
          rw [← hY]
          exact (((Below.refl _ _).alloc (Nat.le_refl _) _).alloc (by simp) _).trans ⟨rfl, rfl, rfl, Nat.le_refl _, fun _ _ => rfl⟩
        have hXs : w.heap.size + 1 < X.heap.size := by have := HK2.out; omega
        have ky : ∀ b j, b ≤ w.heap.size + 1 → Y.cell? ⟨b, j, none⟩ = X.cell? ⟨b, j, none⟩ := fun b j h => hXY.cell (p := ⟨b, j, none⟩) (by show b < _; omega)
        have y0' := (ky w.heap.size 0 (by omega)).trans x0
        have y1' := (ky w.heap.size 1 (by omega)).trans x1
        have y2' := (ky w.heap.size 2 (by omega)).trans x2
        have y3' := (ky (w.heap.size + 1) 0 (by omega)).trans x3
        have y4' := (ky (w.heap.size + 1) 1 (by omega)).trans x4
        rw [hY]
        refine bodyPost_ret (v := .tuple #[.agg #[.int .i64 0, .int .u8 0, .slice none 0 0], .agg #[.int .i64 (q : Int), .int .i64 15]]) (by simp [results, Tryd.results36, go_sem, y0', y1', y2', y3', y4']) rfl ?_
        rw [HP.out]
        exact ⟨rfl, below_of xb hXY⟩
      · have HP : Hid (rpar s = .ok d q) := by show _ = _; rw [hrp, if_neg hq]
        have hqI : ¬ (q : Int) < (s.size : Int) := by omega
        clear hr hrp hpq hq
        go_enter Tryd.func36, Tryd.ntmps36
        go_wp2_with (go_at_call 60; refine (HC.out ()).mono ?_)
        first | rintro e w5 va vc rfl hvc htin hb5 | rintro e w5 ⟨⟨va, vc, rfl, hvc, htin⟩, hb5⟩
        rw [HSZ.out] at htin
        have hsz5 := hb5.size
        rw [HSZ.out] at hb5 hsz5
        obtain ⟨t0, t1, t2, g0, g1, z0, z1, z2, y0, y1⟩ := two_cells (w := w) hb5
        have k0 : w.heap.size < w5.heap.size := by omega
        have k1 : w.heap.size < w5.heap.size + 1 := by omega
        have k2 : w.heap.size + 1 < w5.heap.size := by omega
        have k3 : w.heap.size + 1 < w5.heap.size + 1 := by omega
        have HK2 : Hid (w.heap.size + 1 < w5.heap.size) := k2
        have HB5 : Hid _ := hb5
        have HTI : Hid _ := And.intro htin hvc
        clear hb5 hvc htin hsz5
        go_wp2
        go_region
        go_wp2
        obtain ⟨X, hX⟩ : ∃ X, ((((w5.setCell ⟨w.heap.size, 0, none⟩ (.int .i64 d.rule)).setCell ⟨w.heap.size, 1, none⟩ (.int .u8 (d.byte.toNat : Int))).setCell ⟨w.heap.size, 2, none⟩ (.slice va d.kids.length vc)).setCell ⟨w.heap.size + 1, 0, none⟩ (.int .i64 0)).setCell ⟨w.heap.size + 1, 1, none⟩ (.int .i64 0) = X := ⟨_, rfl⟩
        obtain ⟨⟨x0, x1, x2, x3, x4⟩, xb, xs', xo⟩ := five_below (w := w) HB5.out hX.symm
        rw [hX]
        obtain ⟨Y, hY⟩ : ∃ Y, ((X.alloc (.cells #[.int .i64 d.rule, .int .u8 (d.byte.toNat : Int), .slice va d.kids.length vc] 27)).alloc (.cells #[.int .i64 0, .int .i64 0] 52)).drew = Y := ⟨_, rfl⟩
        have hXY : Below X.heap.size X Y := by
          rw [← hY]
          exact (((Below.refl _ _).alloc (Nat.le_refl _) _).alloc (by simp) _).trans ⟨rfl, rfl, rfl, Nat.le_refl _, fun _ _ => rfl⟩
        have hXs : w.heap.size + 1 < X.heap.size := by have := HK2.out; omega
        have ky : ∀ b j, b ≤ w.heap.size + 1 → Y.cell? ⟨b, j, none⟩ = X.cell? ⟨b, j, none⟩ := fun b j h => hXY.cell (p := ⟨b, j, none⟩) (by show b < _; omega)
        have y0' := (ky w.heap.size 0 (by omega)).trans x0
        have y1' := (ky w.heap.size 1 (by omega)).trans x1
        have y2' := (ky w.heap.size 2 (by omega)).trans x2
        have y3' := (ky (w.heap.size + 1) 0 (by omega)).trans x3
        have y4' := (ky (w.heap.size + 1) 1 (by omega)).trans x4
        rw [hY]
        refine bodyPost_ret (v := .tuple #[.agg #[.int .i64 d.rule, .int .u8 (d.byte.toNat : Int), .slice va d.kids.length vc], .agg #[.int .i64 0, .int .i64 0]]) (by simp [results, Tryd.results36, go_sem, y0', y1', y2', y3', y4']) rfl ?_
        rw [HP.out]
        refine ⟨⟨va, vc, rfl, HTI.out.2, ?_⟩, below_of xb hXY⟩
        have hyz := hXY.size
        exact (HTI.out.1.keep (fun b hb q => ((hXY.cell (p := ⟨b, q, none⟩) (by show b < _; omega)).trans (World.cell?_of_block (a := ⟨b, q, none⟩) (xo b (by omega) (by omega)))))).wide (fun b hb => ⟨by omega, by omega⟩)
end Go.Proofs.YtlnlkbkmnkjbhaaDoor
