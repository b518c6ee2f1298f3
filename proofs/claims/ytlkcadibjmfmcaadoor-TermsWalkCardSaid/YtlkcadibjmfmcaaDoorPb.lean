/- A right term's text behind another one: kids. -/
import Derived.Test.YtlkcadibjmfmcaaDoorPa
import Derived.Deep.RegionHeld3
import Derived.Deep.AppendLies
namespace Go.Proofs.YtlkcadibjmfmcaaDoor
open Go.RowKit Go.Shelf

/-- What writing comes to: the text stands behind what was written. -/
def APost (B n : Nat) (xs : List Value) (t : List UInt8) (w : World) (e : Ending) (w' : World) : Prop :=
  ∃ v', e = .returned v' ∧ w'.ownsRow B 5 1 v' (n + t.length) (xs ++ Lib.byteCells t) ∧ Below B w w' ∧ Lib.OthersKept 5 none w w'
/-- A term is written where it is asked to. -/
def AC (B f : Nat) (d : Tm) : Prop := ∀ (ta : Option Addr) (tc : Nat) (sa : Option Addr) (sc n : Nat) (xs : List Value) (sv : Value) (w : World), wl d = true → (txt d).length ≤ 65536 → w.ownsRow B 5 1 sv n xs → B ≤ w.heap.size → BAt w B ta d.text → MAt w B f sa d.kids → n + (txt d).length ≤ 1000000 →
  Calls Tryd.prog 48 #[sv, .agg #[.int .i64 d.kind, .string d.cons, .slice ta d.text.length tc, .slice sa d.kids.length sc]] w fun e w' => APost B n xs (txt d) w e w'
/-- What stays while a text is written. -/
structure KT (B : Nat) (w W : World) : Prop where
  bel : Below B w W
  kept : Lib.OthersKept 5 none w W
theorem KT.refl (B : Nat) (w : World) : KT B w w := ⟨Below.refl _ _, Lib.OthersKept.refl _ _ _⟩
theorem KT.trans {B : Nat} {w X Y : World} (h : KT B w X) (k : KT B X Y) : KT B w Y := ⟨h.bel.trans k.bel, Lib.OthersKept.trans h.kept k.kept⟩
theorem kept_below {W W' : World} (h : Below W.heap.size W W') : Lib.OthersKept 5 none W W' := fun k _ hk _ _ => (h.block k (Array.getElem?_eq_some_iff.1 hk).1).trans hk
theorem KT.below {B : Nat} {w X Y : World} (h : KT B w X) (hB : B ≤ X.heap.size) (hb : Below X.heap.size X Y) : KT B w Y := h.trans ⟨hb.mono hB, kept_below hb⟩
theorem KT.cells {B b : Nat} {w W : World} {cs : Array Value} (h : KT B w W) (hc : w.heap[b]? = some (.cells cs 25)) : ∀ j v, cs[j]? = some v → W.cell? ⟨b, j, none⟩ = some v := by
  intro j v hv
  have h1 := h.kept b _ hc (by simp) (fun c fz e => by cases e)
  simp [World.cell?, h1, hv]
theorem app_kt {W X W' : World} {B n : Nat} {v : Value} {xs : List Value} (hr : W.ownsRow B 5 1 v n xs) (hB : B ≤ W.heap.size) (hX : Below W.heap.size W X) (hg : X.grownBy W' v.ownBlock) : KT B W W' := by
  refine ⟨⟨hg.os.trans hX.os, hg.tape.trans hX.tape, hg.output.trans hX.output, Nat.le_trans hX.size hg.size, fun b hb => (hg.block b (by have := hX.size; omega) (fun e => by have := (hr.lt b e.symm).1; omega)).trans (hX.block b (by omega))⟩, ?_⟩
  refine Lib.OthersKept.grown (kept_below hX) hg (fun g hg' => ?_)
  obtain ⟨cur, fz, hc⟩ := row_kind hr g hg'
  exact ⟨cur, _, (hX.block g (Array.getElem?_eq_some_iff.1 hc).1).trans hc⟩
theorem one_new {W : World} (c : Int) : ∀ (j : Nat) u, ([.int .u8 c] : List Value)[j]? = some u → (W.alloc (.cells #[.int .u8 c] 5)).cell? ((⟨W.heap.size, 0, none⟩ : Addr).add j) = some u := fun j u hu => by
  have e : (⟨W.heap.size, 0, none⟩ : Addr).add j = ⟨W.heap.size, j, none⟩ := by simp [Addr.add]; omega
  rw [e]
  exact cell_new (w := W) (t := 5) j (by rw [List.getElem?_toArray]; exact hu)
theorem txtL_take_le {l : List Tm} {k : Nat} {x : Tm} (h : l[k]? = some x) : (txtL true (l.take k)).length + (txt x).length ≤ (txtL true l).length := by
  have e : l = l.take (k + 1) ++ l.drop (k + 1) := (List.take_append_drop _ _).symm
  have h2 : l.take (k + 1) = l.take k ++ [x] := by rw [List.take_add_one, h]; rfl
  rw [e, txtL_app, h2, txtL_snoc, ← h2, ← e]
  simp only [List.length_append]
  omega
theorem txtL_take_len (l : List Tm) (k : Nat) : (txtL true (l.take k)).length ≤ (txtL true l).length := by
  have e := txtL_app (l.take k) (l.drop k) true
  rw [List.take_append_drop] at e
  rw [e, List.length_append]; omega
set_option maxRecDepth 100000 in
set_option maxHeartbeats 8000000 in
theorem appendKids_any (B f : Nat) (l : List Tm) (IH : ∀ x ∈ l, AC B f x) (op en : UInt8) (sa : Option Addr) (sc n : Nat) (xs : List Value) (sv : Value) (w : World) (hwl : ∀ x ∈ l, wl x = true) (hlim : (txtL true l).length ≤ 65536) (hrow : w.ownsRow B 5 1 sv n xs) (hB : B ≤ w.heap.size) (hk : MAt w B f sa l) (hn : n + (txtL true l).length + 2 ≤ 1000000) :
    Calls Tryd.prog 64 #[sv, .int .u8 (op.toNat : Int), .slice sa l.length sc, .int .u8 (en.toNat : Int)] w fun e w' => APost B n xs ([op] ++ txtL true l ++ [en]) w e w' := by
  obtain ⟨i0, hinf, hz0, hz1, hz2⟩ := info_parts info5
  have hlen := hk.len
  have HK : Hid (∀ W, Below B w W → MAt W B f sa l) := fun W h => hk.keep h
  have HI : Hid _ := IH
  have HWL : Hid _ := hwl
  have HLI : Hid _ := hlim
  obtain ⟨va, vc, rfl⟩ := row_slice hrow
  have hr1 := World.ownsRow.alloc (w := w) hrow (.cells #[.int .u8 (op.toNat : Int)] 5)
  have HR : Hid _ := fun (_ : Unit) => hrow
  clear hk IH hwl hlim hrow
  go_enter Tryd.func64, Tryd.ntmps64
  go_wp2_with (at_builtin; refine wpList_append_own _ rfl _ _ 22 rfl B 5 i0 _ 1 1 Tryd.underlying22 hinf hz0 hz1 hz2 rfl (by decide) _ _ _ rfl hr1 ⟨w.heap.size, 0, none⟩ 1 1 [.int .u8 (op.toNat : Int)] rfl rfl (one_new _) (by intro u hu; simp at hu; subst hu; rfl) (by unfold maxLen; omega) (by omega) (by simp; omega) ?_)
  intro v4 w4 hown4 hgrow4 _
  have hk4 := app_kt (HR.out ()) hB ((Below.refl _ _).alloc (Nat.le_refl _) _) hgrow4
  have HR4 : Hid (w4.ownsRow B 5 1 v4 (n + [op].length) (xs ++ Lib.byteCells [op])) := hown4
  have HA4 : Hid _ := hk4
  obtain ⟨va4, vc4, rfl⟩ := row_slice hown4
  clear hown4 hgrow4 hk4 hr1
  go_wp2
  go_loopw [0, 17] (fun v i W => ∃ (k : Nat) (acc : List UInt8), k ≤ l.length ∧ i = .int .i64 k ∧ acc = [op] ++ txtL true (l.take k) ∧ W.ownsRow B 5 1 v (n + acc.length) (xs ++ Lib.byteCells acc) ∧ KT B w W) (fun _ i _ => l.length - (intOf i).toNat)
  case atStart => exact ⟨0, [op], by omega, rfl, by simp [txtL], HR4.out, HA4.out⟩
  case round =>
    obtain ⟨k, acc, hkl, rfl, hacc, hrow, hA⟩ := hrel
    have hsA := hA.bel.size
    have HAA : Hid _ := hacc
    have HA : Hid _ := hA
    have hacl : acc.length ≤ 65537 := by
      rw [hacc, List.length_append]; have := txtL_take_len l k; have := HLI.out; simp; omega
    clear hA hacc
    by_cases hlt : k < l.length
    · obtain ⟨x, hx⟩ : ∃ x, l[k]? = some x := ⟨l[k], by simp [hlt]⟩
      obtain ⟨b, o, hsa, hb, xa, xc, c0, c1, ⟨ta, tc, c2, _, _, hxt⟩, c3, hxc, hxk⟩ := (HK.out wr HA.out.bel).one hx
      have hplx := HWL.out x (List.mem_of_getElem? hx)
      have hxl : (txt x).length ≤ 65536 := by have := txtL_take_le hx; have := HLI.out; omega
      have HE : Hid (acc ++ (if k = 0 then [] else [44]) ++ txt x = [op] ++ txtL true (l.take (k + 1))) := by
        show _ = _
        rw [List.take_add_one, hx]
        simp only [Option.toList_some]
        rw [txtL_snoc, HAA.out]
        have e : (true && (l.take k).isEmpty) = decide (k = 0) := by
          cases k with
          | zero => simp
          | succ k => simp; intro h; rw [h] at hlt; simp at hlt
        rw [e]
        by_cases h0 : k = 0 <;> simp [h0]
      have hhe : (acc ++ (if k = 0 then [] else [44]) ++ txt x).length ≤ 1 + (txtL true l).length := by
        rw [HE.out, List.length_append]; have := txtL_take_len l (k + 1); simp; omega
      obtain ⟨va, vc, hva⟩ := row_slice hrow
      subst hva
      obtain ⟨wk, hwk⟩ : ∃ wk, wr.alloc (.cells #[.int .i64 x.kind, .string x.cons, .slice ta x.text.length tc, .slice xa x.kids.length xc] 25) = wk := ⟨_, rfl⟩
      have hbk : Below wr.heap.size wr wk := by rw [← hwk]; exact (Below.refl _ _).alloc (Nat.le_refl _) _
      have hAk := HA.out.below (by omega) hbk
      have hsk : wk.heap.size = wr.heap.size + 1 := by rw [← hwk]; simp
      have hrk := row_below hrow hbk
      have hobk : wk.heap[wr.heap.size]? = some (.cells #[.int .i64 x.kind, .string x.cons, .slice ta x.text.length tc, .slice xa x.kids.length xc] 25) := by rw [← hwk]; exact World.alloc_heap_new _ _
      have HXC : Hid (∀ W, KT B wk W → W.cell? ⟨wr.heap.size, 0, none⟩ = some (.int .i64 x.kind) ∧ W.cell? ⟨wr.heap.size, 1, none⟩ = some (.string x.cons) ∧ W.cell? ⟨wr.heap.size, 2, none⟩ = some (.slice ta x.text.length tc) ∧ W.cell? ⟨wr.heap.size, 3, none⟩ = some (.slice xa x.kids.length xc)) := fun W h => ⟨h.cells hobk 0 _ rfl, h.cells hobk 1 _ rfl, h.cells hobk 2 _ rfl, h.cells hobk 3 _ rfl⟩
      have HCK : Hid (∀ (n' : Nat) (xs' : List Value) (sv' : Value) (W : World), KT B w W → W.ownsRow B 5 1 sv' n' xs' → n' + (txt x).length ≤ 1000000 → _) := fun n' xs' sv' W hW hr' hn' => by
        have hcg : ∀ b q, b < B → W.cell? ⟨b, q, none⟩ = wr.cell? ⟨b, q, none⟩ := fun b q hb => (hW.bel.cell (p := ⟨b, q, none⟩) hb).trans (HA.out.bel.cell (p := ⟨b, q, none⟩) hb).symm
        exact HI.out x (List.mem_of_getElem? hx) ta tc xa xc n' xs' sv' W hplx hxl hr' (by have := hW.bel.size; omega) (hxt.keep hcg) (hxk.cong hcg) (by omega)
      subst hsa
      have HAk : Hid _ := hAk
      have HWK : Hid _ := hwk
      have HRK : Hid _ := fun (_ : Unit) => hrk
      have HNX : Hid (∀ (v : Value) (m : Nat) (ys : List Value) (W : World), m = n + (acc ++ (if k = 0 then [] else [44]) ++ txt x).length → ys = xs ++ Lib.byteCells (acc ++ (if k = 0 then [] else [44]) ++ txt x) → W.ownsRow B 5 1 v m ys → KT B w W → ∃ (k' : Nat) (acc' : List UInt8), k' ≤ l.length ∧ Value.int .i64 ((k : Int) + 1) = .int .i64 k' ∧ acc' = [op] ++ txtL true (l.take k') ∧ W.ownsRow B 5 1 v (n + acc'.length) (xs ++ Lib.byteCells acc') ∧ KT B w W) := fun v m ys W hm hys hr hW => ⟨k + 1, _, by omega, by go_num, HE.out, by rw [← hm, ← hys]; exact hr, hW⟩
      by_cases h0 : k = 0
      · have hc0 := HCK.out (n + acc.length) (xs ++ Lib.byteCells acc) (.slice va (n + acc.length) vc) wk hAk hrk (by rw [if_pos h0] at hhe; simp only [List.length_append, List.length_nil] at hhe; omega)
        rw [← hwk] at hc0
        have HC0 : Hid _ := fun (_ : Unit) => hc0
        have h0I : decide ((0 : Int) < (k : Int)) = false := by simp; omega
        have h0N : ¬ (0 : Int) < (k : Int) := by omega
        have HK0 : Hid _ := h0
        clear hc0 hrk hAk hwk hobk hbk hxk hx hrow h0 hsk hxt hhe
        go_wp2_with (go_at_call 48; refine (HC0.out ()).mono ?_)
        first | rintro e w6 v6 rfl hr6 hbe6 hok6 | rintro e w6 ⟨v6, rfl, hr6, hbe6, hok6⟩
        rw [HWK.out] at hbe6 hok6
        obtain ⟨va6, vc6, hva6⟩ := row_slice hr6
        subst hva6
        have HF : Hid _ := HNX.out _ _ _ _ (by rw [if_pos HK0.out]; simp; omega) (by rw [if_pos HK0.out]; simp [Lib.byteCells]) hr6 (HAk.out.trans ⟨hbe6, hok6⟩)
        clear hr6 hbe6 hok6
        go_wp2
        go_roundw
        case rel => exact HF.out
        case measure => simp [intOf]; omega
      · have h0I : decide ((0 : Int) < (k : Int)) = true := by simp; omega
        have h0N : (0 : Int) < (k : Int) := by omega
        have HK0 : Hid _ := h0
        have HH5 : Hid (n + acc.length + 1 + (txt x).length ≤ 1000000) := by rw [if_neg h0] at hhe; simp only [List.length_append, List.length_cons, List.length_nil] at hhe; show _ ≤ _; omega
        have hrk' : (wr.alloc (.cells #[.int .i64 x.kind, .string x.cons, .slice ta x.text.length tc, .slice xa x.kids.length xc] 25)).ownsRow B 5 1 (.slice va (n + acc.length) vc) (n + acc.length) (xs ++ Lib.byteCells acc) := by rw [hwk]; exact hrk
        have hrk2 := World.ownsRow.alloc hrk' (.cells #[.int .u8 44] 5)
        have HN32 : Hid _ := fun (_ : Unit) => one_new (W := wr.alloc (.cells #[.int .i64 x.kind, .string x.cons, .slice ta x.text.length tc, .slice xa x.kids.length xc] 25)) 44
        clear hrk hAk hwk hobk hbk hxk hx hrow h0 hrk' hxt hhe
        go_wp2_with (at_builtin; refine wpList_append_own _ rfl _ _ 22 rfl B 5 i0 _ 1 1 Tryd.underlying22 hinf hz0 hz1 hz2 rfl (by decide) _ _ _ rfl hrk2 ⟨_, 0, none⟩ 1 1 [.int .u8 44] rfl rfl ?ca1 (by intro u hu; simp at hu; subst hu; rfl) (by unfold maxLen; omega) (by omega) (by simp; omega) ?_)
        case ca1 => have := HN32.out (); simpa using this
        intro v5 w5 hown5 hgrow5 _
        rw [HWK.out] at hgrow5
        have hk5 := app_kt (HRK.out ()) (by omega) ((Below.refl _ _).alloc (Nat.le_refl _) _) hgrow5
        have hA5 := HAk.out.trans hk5
        obtain ⟨x0, x1, x2, x3⟩ := HXC.out w5 hk5
        have hc5 := HCK.out _ _ _ w5 hA5 hown5 (by have := HH5.out; omega)
        have HC5 : Hid _ := fun (_ : Unit) => hc5
        have HA5 : Hid _ := hA5
        obtain ⟨va5, vc5, hva5⟩ := row_slice hown5
        subst hva5
        clear hown5 hgrow5 hk5 hA5 hc5 hrk2
        go_wp2_with (go_at_call 48; refine (HC5.out ()).mono ?_)
        first | rintro e w6 v6 rfl hr6 hbe6 hok6 | rintro e w6 ⟨v6, rfl, hr6, hbe6, hok6⟩
        obtain ⟨va6, vc6, hva6⟩ := row_slice hr6
        subst hva6
        have HF : Hid _ := HNX.out _ _ _ _ (by rw [if_neg HK0.out]; simp; omega) (by rw [if_neg HK0.out]; simp [Lib.byteCells]) hr6 (HA5.out.trans ⟨hbe6, hok6⟩)
        clear hr6 hbe6 hok6
        go_wp2
        go_roundw
        case rel => exact HF.out
        case measure => simp [intOf]; omega
    · obtain rfl : k = l.length := by omega
      have HE : Hid (acc ++ [en] = [op] ++ txtL true l ++ [en]) := by show _ = _; rw [HAA.out, List.take_length]
      have hr7 := World.ownsRow.alloc (w := wr) hrow (.cells #[.int .u8 (en.toNat : Int)] 5)
      have HRW : Hid _ := fun (_ : Unit) => hrow
      obtain ⟨va, vc, hva⟩ := row_slice hrow
      subst hva
      clear hrow
      go_wp2_with (at_builtin; refine wpList_append_own _ rfl _ _ 22 rfl B 5 i0 _ 1 1 Tryd.underlying22 hinf hz0 hz1 hz2 rfl (by decide) _ _ _ rfl hr7 ⟨wr.heap.size, 0, none⟩ 1 1 [.int .u8 (en.toNat : Int)] rfl rfl (one_new _) (by intro u hu; simp at hu; subst hu; rfl) (by unfold maxLen; omega) (by omega) (by simp; omega) ?_)
      intro v8 w8 hown8 hgrow8 _
      have hk8 := app_kt (HRW.out ()) (by omega) ((Below.refl _ _).alloc (Nat.le_refl _) _) hgrow8
      have hA8 := HA.out.trans hk8
      have HF : Hid (w8.ownsRow B 5 1 v8 (n + ([op] ++ txtL true l ++ [en]).length) (xs ++ Lib.byteCells ([op] ++ txtL true l ++ [en])) ∧ Below B w w8 ∧ Lib.OthersKept 5 none w w8) := ⟨by rw [← HE.out, List.length_append, Lib.byteCells_append, ← Nat.add_assoc]; exact hown8, hA8.bel, hA8.kept⟩
      obtain ⟨va8, vc8, hva8⟩ := row_slice hown8
      subst hva8
      clear hown8 hgrow8 hk8 hA8 hr7
      go_wp2
      go_ret
      exact ⟨_, rfl, HF.out⟩
end Go.Proofs.YtlkcadibjmfmcaaDoor
