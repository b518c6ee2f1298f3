/- A plain tree's text behind another one: nodes. -/
import Derived.Test.YtlnlkbkmnkjbhaaDoorT4
namespace Go.Proofs.YtlnlkbkmnkjbhaaDoor
open Go.RowKit Go.Shelf

theorem app_kept {W W' : World} {B n : Nat} {v : Value} {xs : List Value} {o : Obj} (hr : W.ownsRow B 5 1 v n xs) (hB : B ≤ W.heap.size) (hg : (W.alloc o).grownBy W' v.ownBlock) : Below B W W' ∧ Lib.OthersKept 5 none W W' := by
  have hal : Below W.heap.size W (W.alloc o) := (Below.refl _ _).alloc (Nat.le_refl _) _
  refine ⟨⟨hg.os, hg.tape, hg.output, Nat.le_trans hal.size hg.size, fun b hb => (hg.block b (by have := hal.size; omega) (fun e => by have := (hr.lt b e.symm).1; omega)).trans (hal.block b (by omega))⟩, ?_⟩
  refine Lib.OthersKept.grown (Lib.OthersKept.alloc (Lib.OthersKept.refl _ _ _) _) hg (fun g hg' => ?_)
  obtain ⟨cur, hc⟩ := row_type hr hg'
  exact ⟨cur, _, (hal.block g (Array.getElem?_eq_some_iff.1 hc).1).trans hc⟩
/-- While a text is written: the tree in its box stays. -/
structure AT (w w1 : World) (B : Nat) (W : World) : Prop where
  bel : Below B w W
  kept : Lib.OthersKept 5 none w1 W
  sz : w1.heap.size ≤ W.heap.size
theorem AT.step {w w1 W W' : World} {B : Nat} (h : AT w w1 B W) (hb : Below B W W') (hk : Lib.OthersKept 5 none W W') : AT w w1 B W' := ⟨h.bel.trans hb, Lib.OthersKept.trans h.kept hk, Nat.le_trans h.sz hb.size⟩
theorem kept_below {W W' : World} (h : Below W.heap.size W W') : Lib.OthersKept 5 none W W' := fun k _ hk _ _ => (h.block k (Array.getElem?_eq_some_iff.1 hk).1).trans hk
theorem AT.below {w w1 W W' : World} {B : Nat} (h : AT w w1 B W) (hB : B ≤ W.heap.size) (hb : Below W.heap.size W W') : AT w w1 B W' := h.step (hb.mono hB) (kept_below hb)
theorem AT.cells {w w1 W : World} {B b : Nat} {cs : Array Value} (h : AT w w1 B W) (hc : w1.heap[b]? = some (.cells cs 27)) : ∀ j v, cs[j]? = some v → W.cell? ⟨b, j, none⟩ = some v := by
  intro j v hv
  have h1 := h.kept b _ hc (by simp) (fun c fz e => by cases e)
  simp [World.cell?, h1, hv]
theorem tabB {B : Nat} {w W : World} (h : Tab B w) (hb : Below B w W) : Lib.TabBelow Tryd.prog B W "internal/strconv.uint64pow10" .u64 Lib.pow10Tab := h.on hb
theorem one_new {W : World} (c : Int) : ∀ (j : Nat) u, ([.int .u8 c] : List Value)[j]? = some u → (W.alloc (.cells #[.int .u8 c] 5)).cell? ((⟨W.heap.size, 0, none⟩ : Addr).add j) = some u := fun j u hu => by
  have e : (⟨W.heap.size, 0, none⟩ : Addr).add j = ⟨W.heap.size, j, none⟩ := by simp [Addr.add]; omega
  rw [e]
  exact cell_new (w := W) (t := 5) j (by rw [List.getElem?_toArray]; exact hu)
set_option maxRecDepth 100000 in
set_option maxHeartbeats 8000000 in
theorem appendTree_any (B f : Nat) : ∀ (N : Nat) (d : Tr) (sa : Option Addr) (sc n : Nat) (xs : List Value) (sv : Value) (w : World), sz d ≤ N → pl d = true → w.ownsRow B 5 1 sv n xs → B ≤ w.heap.size → TAt w B f sa d.kids → Tab B w → n + 10 * sz d ≤ 100000000000000 →
    Calls Tryd.prog 54 #[sv, .agg #[.int .i64 d.rule, .int .u8 (d.byte.toNat : Int), .slice sa d.kids.length sc]] w fun e w' => ∃ v', e = .returned v' ∧ w'.ownsRow B 5 1 v' (n + (txt d).length) (xs ++ bvs (txt d)) ∧ Below B w w' ∧ Lib.OthersKept 5 none w w' := by
  intro N
  induction N with
  | zero => intro d sa sc n xs sv w hN; rw [sz_eq] at hN; omega
  | succ N ih =>
  intro d sa sc n xs sv w hN hpl hrow hB hk hTab hlim
  by_cases hr : d.rule = -1
  · refine (appendLeaf_any d _ B n xs sv w hr hrow hB (by omega)).mono ?_
    rintro e w' ⟨v', rfl, h1, h2, h3⟩
    exact ⟨v', rfl, by have e : (txt d).length = 3 := by rw [txt_leaf hr]; rfl
                       rw [e]; exact h1, h2, h3⟩
  obtain ⟨i0, hinf, hz0, hz1, hz2⟩ := info_parts info5
  have hlen := hk.len
  have hsz := sz_eq d
  have hpn := hpl
  rw [pl_node hr] at hpn
  simp only [Bool.and_eq_true] at hpn
  have hrr : 0 ≤ d.rule ∧ d.rule ≤ 999999 := by
    have h := hpn.1
    unfold isPl at h; rw [if_neg hr] at h
    simp only [Bool.and_eq_true, decide_eq_true_eq] at h
    exact ⟨h.1.2, h.2⟩
  have HPK : Hid (∀ x ∈ d.kids, pl x = true) := by have h := hpn.2; rw [plL_all, List.all_eq_true] at h; exact h
  obtain ⟨w1, hw1⟩ : ∃ w1, w.alloc (.cells #[.int .i64 d.rule, .int .u8 (d.byte.toNat : Int), .slice sa d.kids.length sc] 27) = w1 := ⟨_, rfl⟩
  have hB1 : Below w.heap.size w w1 := by rw [← hw1]; exact (Below.refl _ _).alloc (Nat.le_refl _) _
  have s1 : w1.heap.size = w.heap.size + 1 := by rw [← hw1]; simp
  have hob : w1.heap[w.heap.size]? = some (.cells #[.int .i64 d.rule, .int .u8 (d.byte.toNat : Int), .slice sa d.kids.length sc] 27) := by rw [← hw1]; exact World.alloc_heap_new _ _
  have HCE : Hid (∀ W, AT w w1 B W → W.cell? ⟨w.heap.size, 0, none⟩ = some (.int .i64 d.rule) ∧ W.cell? ⟨w.heap.size, 1, none⟩ = some (.int .u8 (d.byte.toNat : Int)) ∧ W.cell? ⟨w.heap.size, 2, none⟩ = some (.slice sa d.kids.length sc)) := fun W h => ⟨h.cells hob 0 _ rfl, h.cells hob 1 _ rfl, h.cells hob 2 _ rfl⟩
  have hA1 : AT w w1 B w1 := ⟨hB1.mono hB, Lib.OthersKept.refl _ _ _, Nat.le_refl _⟩
  obtain ⟨a0, a1, a2⟩ := HCE.out w1 hA1
  have hre : (d.rule == -1) = false := by simpa using hr
  have HL : Hid _ := fun (_ : Unit) => isLeaf_any d (.slice sa d.kids.length sc) w1
  rw [hre] at HL
  have HTX : Hid _ := txt_node hr
  have hil := itoa_len hrr.1 hrr.2
  have HR1 : Hid (w1.ownsRow B 5 1 sv n xs) := row_below hrow hB1
  obtain ⟨va, vc, rfl⟩ := row_slice hrow
  have HI : Hid _ := ih
  have HK : Hid (∀ W, AT w w1 B W → TAt W B f sa d.kids) := fun W h => hk.keep h.bel
  have HTB : Hid (∀ W, AT w w1 B W → Tab B W) := fun W h => hTab.on h.bel
  have HN : Hid _ := hN
  have HZ : Hid _ := hsz
  have HLI : Hid _ := hlim
  have HA1 : Hid _ := hA1
  have HOK : Hid (Lib.OthersKept 5 none w w1) := kept_below hB1
  have hnl : n ≤ 100000000000000 := by omega
  clear hr hre ih hk hTab hrow hN hsz hlim hA1 hpn hpl hB1 hob
  go_enter Tryd.func54, Tryd.ntmps54
  go_wp2_with (go_at_call 69; refine (HL.out ()).mono ?_)
  first | rintro e w2 rfl hb2 | rintro e w2 ⟨rfl, hb2⟩
  have hA2 : AT w w1 B w2 := HA1.out.below (by omega) hb2
  have hr2 := row_below HR1.out hb2
  have hs2 := hA2.sz
  obtain ⟨b0, b1, b2⟩ := HCE.out w2 hA2
  obtain ⟨il, hill⟩ : ∃ il, (Lib.itoa d.rule).length = il := ⟨_, rfl⟩
  have hil6 : il ≤ 6 := by omega
  have hai := appendInt_any B n d.rule (by omega) (by omega) (.slice va n vc) xs w2 hr2 (by omega) (by omega) (HTB.out w2 hA2)
  rw [hill] at hai
  have HIL : Hid _ := hill
  have HAI : Hid _ := fun (_ : Unit) => hai
  have HA2 : Hid _ := hA2
  clear hA2 hr2 hb2 a0 a1 a2 hill hil hai
  go_wp2_with (go_at_call 75; refine (HAI.out ()).mono ?_)
  rintro e w3 ⟨v3, rfl, hr3, hbe3, hok3⟩
  have hA3 := HA2.out.step hbe3 hok3
  have hs3 := hA3.sz
  obtain ⟨e0, e1, e2⟩ := HCE.out w3 hA3
  obtain ⟨va3, vc3, rfl⟩ := row_slice hr3
  have HA3 : Hid _ := hA3
  have hr3' := World.ownsRow.alloc (w := w3) hr3 (.cells #[.int .u8 40] 5)
  have HR3 : Hid _ := fun (_ : Unit) => hr3
  clear hbe3 hok3 hA3 b0 b1 b2 hr3
  go_wp2_with (at_builtin; refine wpList_append_own _ rfl _ _ 40 rfl B 5 i0 _ 1 1 Tryd.underlying40 hinf hz0 hz1 hz2 rfl (by decide) _ _ _ rfl hr3' ⟨w3.heap.size, 0, none⟩ 1 1 [.int .u8 40] rfl rfl (one_new 40) (by intro u hu; simp at hu; subst hu; rfl) (by unfold maxLen; omega) (by omega) (by simp; omega) ?_)
  intro v4 w4 hown4 hgrow4 _
  have hk4 := app_kept (HR3.out ()) (by have := HA3.out.sz; omega) hgrow4
  have hA4 := HA3.out.step hk4.1 hk4.2
  have hr4 : w4.ownsRow B 5 1 v4 (n + (Lib.itoa d.rule ++ [40]).length) (xs ++ bvs (Lib.itoa d.rule ++ [40])) := by
    rw [List.length_append, HIL.out, bvs_append]
    exact hown4
  obtain ⟨acc0, hacc0⟩ : ∃ acc0, Lib.itoa d.rule ++ [40] = acc0 := ⟨_, rfl⟩
  rw [hacc0] at hr4
  have hal0 : acc0.length = il + 1 := by rw [← hacc0, List.length_append, HIL.out]; rfl
  have HACC : Hid _ := hacc0
  have HTOT : Hid (txt d = acc0 ++ txtL true d.kids ++ [41]) := by show _ = _; rw [HTX.out, ← hacc0]; simp
  have hn4 : n + il + 1 = n + acc0.length := by omega
  rw [hn4] at hown4
  have HAL : Hid _ := hal0
  obtain ⟨va4, vc4, hva4⟩ := row_slice hr4
  subst hva4
  obtain ⟨f0, f1, f2⟩ := HCE.out w4 hA4
  have HA4 : Hid _ := hA4
  have HR4 : Hid _ := fun (_ : Unit) => hr4
  clear hown4 hgrow4 hk4 hA4 hr4 hr3' e0 e1 e2 hacc0 hw1 hal0 hn4
  go_wp2
  go_loopw [0, 30] (fun v i W => ∃ (k : Nat) (acc : List UInt8), k ≤ d.kids.length ∧ i = .int .i64 k ∧ acc = acc0 ++ txtL true (d.kids.take k) ∧ W.ownsRow B 5 1 v (n + acc.length) (xs ++ bvs acc) ∧ AT w w1 B W) (fun _ i _ => d.kids.length - (intOf i).toNat)
  case atStart => exact ⟨0, acc0, by omega, rfl, by simp [txtL], HR4.out (), HA4.out⟩
  case round =>
    obtain ⟨k, acc, hkl, rfl, hacc, hrow, hA⟩ := hrel
    have hsA := hA.sz
    have HAA : Hid _ := hacc
    have HA : Hid _ := hA
    have hplt : plL (d.kids.take k) = true := by
      rw [plL_all, List.all_eq_true]; exact fun x hx => HPK.out x (List.mem_of_mem_take hx)
    have hacl : acc.length ≤ il + 1 + 10 * szL (d.kids.take k) := by
      rw [hacc, List.length_append, HAL.out]; have := txtL_le _ true hplt; omega
    have hle0 := szL_take_le d.kids k
    have hac2 : n + acc.length ≤ 100000000000000 := by have := HLI.out; have := HZ.out; omega
    clear hA hacc hplt
    by_cases hlt : k < d.kids.length
    · obtain ⟨x, hx⟩ : ∃ x, d.kids[k]? = some x := ⟨d.kids[k], by simp [hlt]⟩
      obtain ⟨b, o, hsa, hb, xa, xc, c0, c1, c2, hxc, hxk⟩ := (HK.out wr HA.out).one hx
      have hzx := szL_take hx
      have hle := szL_take_le d.kids (k + 1)
      have hplx := HPK.out x (List.mem_of_getElem? hx)
      have HE : Hid (acc ++ (if k = 0 then [] else [32]) ++ txt x = acc0 ++ txtL true (d.kids.take (k + 1))) := by
        show _ = _
        rw [List.take_add_one, hx]
        simp only [Option.toList_some]
        rw [txtL_snoc, HAA.out]
        have e : (true && (d.kids.take k).isEmpty) = decide (k = 0) := by
          cases k with
          | zero => simp
          | succ k => simp; intro h; rw [h] at hlt; simp at hlt
        rw [e]
        by_cases h0 : k = 0 <;> simp [h0]
      obtain ⟨va, vc, hva⟩ := row_slice hrow
      subst hva
      obtain ⟨wk, hwk⟩ : ∃ wk, wr.alloc (.cells #[.int .i64 x.rule, .int .u8 (x.byte.toNat : Int), .slice xa x.kids.length xc] 27) = wk := ⟨_, rfl⟩
      have hbk : Below wr.heap.size wr wk := by rw [← hwk]; exact (Below.refl _ _).alloc (Nat.le_refl _) _
      have hAk := HA.out.below (by omega) hbk
      have hsk : wk.heap.size = wr.heap.size + 1 := by rw [← hwk]; simp
      have hrk := row_below hrow hbk
      have hobk : wk.heap[wr.heap.size]? = some (.cells #[.int .i64 x.rule, .int .u8 (x.byte.toNat : Int), .slice xa x.kids.length xc] 27) := by rw [← hwk]; exact World.alloc_heap_new _ _
      have HXC : Hid (∀ W, Lib.OthersKept 5 none wk W → W.cell? ⟨wr.heap.size, 0, none⟩ = some (.int .i64 x.rule) ∧ W.cell? ⟨wr.heap.size, 1, none⟩ = some (.int .u8 (x.byte.toNat : Int)) ∧ W.cell? ⟨wr.heap.size, 2, none⟩ = some (.slice xa x.kids.length xc)) := fun W h => by
        have h1 := h wr.heap.size _ hobk (by simp) (fun c fz e => by cases e)
        exact ⟨by simp [World.cell?, h1], by simp [World.cell?, h1], by simp [World.cell?, h1]⟩
      have HCK : Hid (∀ (n' : Nat) (xs' : List Value) (sv' : Value) (W : World), AT w w1 B W → W.ownsRow B 5 1 sv' n' xs' → n' ≤ n + acc.length + 1 → _) := fun n' xs' sv' W hW hr' hn' => HI.out x xa xc n' xs' sv' W (by have := HN.out; have := HZ.out; omega) hplx hr' (by have := hW.sz; omega) (hxk.cong (fun b q hb => (hW.bel.cell (p := ⟨b, q, none⟩) hb).trans (HA.out.bel.cell (p := ⟨b, q, none⟩) hb).symm)) (HTB.out W hW) (by have := HLI.out; have := HZ.out; omega)
      subst hsa
      have HAk : Hid _ := hAk
      have HWK : Hid _ := hwk
      have HRK : Hid _ := fun (_ : Unit) => hrk
      have HNX : Hid (∀ (v : Value) (m : Nat) (ys : List Value) (W : World), m = n + (acc ++ (if k = 0 then [] else [32]) ++ txt x).length → ys = xs ++ bvs (acc ++ (if k = 0 then [] else [32]) ++ txt x) → W.ownsRow B 5 1 v m ys → AT w w1 B W → ∃ (k' : Nat) (acc' : List UInt8), k' ≤ d.kids.length ∧ Value.int .i64 ((k : Int) + 1) = .int .i64 k' ∧ acc' = acc0 ++ txtL true (d.kids.take k') ∧ W.ownsRow B 5 1 v (n + acc'.length) (xs ++ bvs acc') ∧ AT w w1 B W) := fun v m ys W hm hys hr hW => ⟨k + 1, _, by omega, by go_num, HE.out, by rw [← hm, ← hys]; exact hr, hW⟩
      by_cases h0 : k = 0
      · have hc0 := HCK.out (n + acc.length) (xs ++ bvs acc) (.slice va (n + acc.length) vc) wk hAk hrk (by omega)
        rw [← hwk] at hc0
        have HC0 : Hid _ := fun (_ : Unit) => hc0
        have h0I : decide ((0 : Int) < (k : Int)) = false := by simp; omega
        have h0N : ¬ (0 : Int) < (k : Int) := by omega
        have HK0 : Hid _ := h0
        clear hc0 hrk hAk hwk hobk hbk hxk hx hrow h0 hsk
        go_wp2_with (go_at_call 54; refine (HC0.out ()).mono ?_)
        first | rintro e w6 v6 rfl hr6 hbe6 hok6 | rintro e w6 ⟨v6, rfl, hr6, hbe6, hok6⟩
        rw [HWK.out] at hbe6 hok6
        obtain ⟨va6, vc6, hva6⟩ := row_slice hr6
        subst hva6
        have HF : Hid _ := HNX.out _ _ _ _ (by rw [if_pos HK0.out]; simp; omega) (by rw [if_pos HK0.out]; simp [bvs]) hr6 (HAk.out.step hbe6 hok6)
        clear hr6 hbe6 hok6
        go_wp2
        go_roundw
        case rel => exact HF.out
        case measure => simp [intOf]; omega
      · have h0I : decide ((0 : Int) < (k : Int)) = true := by simp; omega
        have h0N : (0 : Int) < (k : Int) := by omega
        have HK0 : Hid _ := h0
        have hrk' : (wr.alloc (.cells #[.int .i64 x.rule, .int .u8 (x.byte.toNat : Int), .slice xa x.kids.length xc] 27)).ownsRow B 5 1 (.slice va (n + acc.length) vc) (n + acc.length) (xs ++ bvs acc) := by rw [hwk]; exact hrk
        have hrk2 := World.ownsRow.alloc hrk' (.cells #[.int .u8 32] 5)
        have HN32 : Hid _ := fun (_ : Unit) => one_new (W := wr.alloc (.cells #[.int .i64 x.rule, .int .u8 (x.byte.toNat : Int), .slice xa x.kids.length xc] 27)) 32
        clear hrk hAk hwk hobk hbk hxk hx hrow h0 hrk'
        go_wp2_with (at_builtin; refine wpList_append_own _ rfl _ _ 40 rfl B 5 i0 _ 1 1 Tryd.underlying40 hinf hz0 hz1 hz2 rfl (by decide) _ _ _ rfl hrk2 ⟨_, 0, none⟩ 1 1 [.int .u8 32] rfl rfl ?ca1 (by intro u hu; simp at hu; subst hu; rfl) (by unfold maxLen; omega) (by omega) (by simp; omega) ?_)
        case ca1 => have := HN32.out (); simpa using this
        intro v5 w5 hown5 hgrow5 _
        rw [HWK.out] at hgrow5
        have hk5 := app_kept (HRK.out ()) (by omega) hgrow5
        have hA5 := HAk.out.step hk5.1 hk5.2
        obtain ⟨x0, x1, x2⟩ := HXC.out w5 hk5.2
        have hc5 := HCK.out _ _ _ w5 hA5 hown5 (by omega)
        have HC5 : Hid _ := fun (_ : Unit) => hc5
        have HA5 : Hid _ := hA5
        obtain ⟨va5, vc5, hva5⟩ := row_slice hown5
        subst hva5
        clear hown5 hgrow5 hk5 hA5 hc5 hrk2
        go_wp2_with (go_at_call 54; refine (HC5.out ()).mono ?_)
        first | rintro e w6 v6 rfl hr6 hbe6 hok6 | rintro e w6 ⟨v6, rfl, hr6, hbe6, hok6⟩
        obtain ⟨va6, vc6, hva6⟩ := row_slice hr6
        subst hva6
        have HF : Hid _ := HNX.out _ _ _ _ (by rw [if_neg HK0.out]; simp; omega) (by rw [if_neg HK0.out]; simp [bvs]) hr6 (HA5.out.step hbe6 hok6)
        clear hr6 hbe6 hok6
        go_wp2
        go_roundw
        case rel => exact HF.out
        case measure => simp [intOf]; omega
    · obtain rfl : k = d.kids.length := by omega
      have HE : Hid (acc ++ [41] = txt d) := by show _ = _; rw [HTOT.out, HAA.out, List.take_length]
      have hr7 := World.ownsRow.alloc (w := wr) hrow (.cells #[.int .u8 41] 5)
      have HRW : Hid _ := fun (_ : Unit) => hrow
      obtain ⟨va, vc, hva⟩ := row_slice hrow
      subst hva
      clear hrow
      go_wp2_with (at_builtin; refine wpList_append_own _ rfl _ _ 40 rfl B 5 i0 _ 1 1 Tryd.underlying40 hinf hz0 hz1 hz2 rfl (by decide) _ _ _ rfl hr7 ⟨wr.heap.size, 0, none⟩ 1 1 [.int .u8 41] rfl rfl (one_new 41) (by intro u hu; simp at hu; subst hu; rfl) (by unfold maxLen; omega) (by omega) (by simp; omega) ?_)
      intro v8 w8 hown8 hgrow8 _
      have hk8 := app_kept (HRW.out ()) (by omega) hgrow8
      have hA8 := HA.out.step hk8.1 hk8.2
      have HF : Hid (w8.ownsRow B 5 1 v8 (n + (txt d).length) (xs ++ bvs (txt d)) ∧ Below B w w8 ∧ Lib.OthersKept 5 none w w8) := ⟨by rw [← HE.out, List.length_append, bvs_append]; exact hown8, hA8.bel, kept_trans HOK.out hA8.kept⟩
      obtain ⟨va8, vc8, hva8⟩ := row_slice hown8
      subst hva8
      clear hown8 hgrow8 hk8 hA8 hr7
      go_wp2
      go_ret
      exact ⟨_, rfl, HF.out⟩
end Go.Proofs.YtlnlkbkmnkjbhaaDoor
