/- A tree is copied: the walk. -/
import Derived.Test.YtlnlkbkmnkjbhaaDoorC0
import Derived.OwnWalk
namespace Go.Proofs.YtlnlkbkmnkjbhaaDoor
open Go.RowKit

theorem cell_three_new (w : World) (u v x : Value) (t : TypeId) : ∀ j y, [u, v, x][j]? = some y → (w.alloc (.cells #[u, v, x] t)).cell? ((⟨w.heap.size, 0, none⟩ : Addr).add j) = some y := fun j y hy => by
  have hadd : (⟨w.heap.size, 0, none⟩ : Addr).add j = ⟨w.heap.size, j, none⟩ := by unfold Addr.add; split <;> simp_all
  rw [hadd]
  exact cell_new j (by simpa using hy)
theorem info24 : (Tryd.prog.info? 27).map (fun i => (i.zero, i.size, i.bytes)) = some (some (.agg #[.int .i64 0, .int .u8 0, .slice none 0 0]), 3, 40) := by kernel_rfl
set_option maxRecDepth 100000 in
set_option maxHeartbeats 8000000 in
theorem copy_step : ∀ (f : Nat) (d : Tr) (sa : Option Addr) (sc : Nat) (w : World), (∀ x ∈ d.kids, ∀ (xa : Option Addr) (xc : Nat) (w : World), TAt w w.heap.size f xa x.kids → Calls Tryd.prog 16 #[.agg #[.int .i64 x.rule, .int .u8 (x.byte.toNat : Int), .slice xa x.kids.length xc]] w fun e w' => (∃ va vc, e = .returned (.agg #[.int .i64 x.rule, .int .u8 (x.byte.toNat : Int), .slice va x.kids.length vc]) ∧ x.kids.length ≤ vc ∧ TIn w' (fun b => w.heap.size ≤ b ∧ b < w'.heap.size) f va x.kids) ∧ Below w.heap.size w w') → TAt w w.heap.size (f + 1) sa d.kids →
    Calls Tryd.prog 16 #[.agg #[.int .i64 d.rule, .int .u8 (d.byte.toNat : Int), .slice sa d.kids.length sc]] w fun e w' => (∃ va vc, e = .returned (.agg #[.int .i64 d.rule, .int .u8 (d.byte.toNat : Int), .slice va d.kids.length vc]) ∧ d.kids.length ≤ vc ∧ TIn w' (fun b => w.heap.size ≤ b ∧ b < w'.heap.size) (f + 1) va d.kids) ∧ Below w.heap.size w w' := by
  intro f d sa sc w ih hk
  have hlen := hk.1
  obtain ⟨i0, hinf, hz0, hz1, hz2⟩ := info_parts info24
  have HI : Hid _ := ih
  have HK : Hid _ := hk.2
  obtain ⟨n, hn⟩ : ∃ n, d.kids.length = n := ⟨_, rfl⟩
  rw [hn] at hlen ⊢
  have hX0 := CC.start w f d.rule d.byte (.slice sa n sc)
  clear ih hk
  go_enter Tryd.func16, Tryd.ntmps16
  go_wp2
  go_loopw [4] (fun iv W => ∃ (k : Nat) (lv : Value) (xs : List Value), k ≤ n ∧ iv = .int .i64 k ∧ CC w f d.rule d.byte (.slice sa n sc) (d.kids.take k) lv xs W) (fun iv _ => n - (intOf iv).toNat)
  case atStart => exact ⟨0, _, _, by omega, rfl, hX0⟩
  case round =>
    obtain ⟨k, lv, xs, hk, rfl, hX⟩ := hrel
    clear hX0
    by_cases hlt : k < n
    · obtain ⟨x, hx⟩ : ∃ x, d.kids[k]? = some x := ⟨d.kids[k]'(by omega), by simp⟩
      obtain ⟨b, o, rfl, hb, xa, xc, e0, e1, e2, hxc, hxk⟩ := HK.out k x hx
      have hps : (d.kids.take k).length = k := by rw [List.length_take]; omega
      have HP : Hid (d.kids.take (k + 1) = d.kids.take k ++ [x]) := by show _ = _; rw [List.take_add_one, hx]; rfl
      generalize d.kids.take k = ps at hX hps HP
      have hg2 := hX.g2
      have hXl := hX.lt
      have hXb := hX.bel
      have hbs := hXb.size
      have e0' := (hXb.cell (p := ⟨b, o + k * 3, none⟩) hb).trans e0
      have e1' := (hXb.cell (p := ⟨b, o + k * 3 + 1, none⟩) hb).trans e1
      have e2' := (hXb.cell (p := ⟨b, o + k * 3 + 2, none⟩) hb).trans e2
      have hkI : (k : Int) < n := by omega
      have HC : Hid _ := fun (_ : Unit) => HI.out x (List.mem_of_getElem? hx) xa xc wr ((hxk.keep hXb).mono hbs)
      have HX : Hid _ := hX
      clear e0 e1 e2 hxk hx hX HK HI hXb
      go_wp2_with (go_at_call 16; refine (HC.out ()).mono ?_)
      rintro e w2 ⟨⟨va, vc, rfl, hvc, htin⟩, hb2⟩
      have hX2 := HX.out.below hb2
      have hl2 := hX2.lt
      obtain ⟨W6, hW6⟩ : ∃ W6, w2.alloc (.cells #[.int .i64 x.rule, .int .u8 (x.byte.toNat : Int), .slice va x.kids.length vc] 27) = W6 := ⟨_, rfl⟩
      have hB6 : Below w2.heap.size w2 W6 := by rw [← hW6]; exact (Below.refl _ _).alloc (Nat.le_refl _) _
      have s6 : W6.heap.size = w2.heap.size + 1 := by rw [← hW6]; simp
      have t0 : W6.cell? ⟨w2.heap.size, 0, none⟩ = some (.int .i64 x.rule) := by rw [← hW6]; exact cell_new 0 rfl
      have t1 : W6.cell? ⟨w2.heap.size, 1, none⟩ = some (.int .u8 (x.byte.toNat : Int)) := by rw [← hW6]; exact cell_new 1 rfl
      have t2 : W6.cell? ⟨w2.heap.size, 2, none⟩ = some (.slice va x.kids.length vc) := by rw [← hW6]; exact cell_new 2 rfl
      have hX6 := hX2.below hB6
      have hrow := hX6.row
      have o2 : W6.cell? ⟨w.heap.size + 1 + 1, 2, none⟩ = some lv := hX6.o2
      have htin6 : TIn W6 (fun b => wr.heap.size ≤ b ∧ b < w2.heap.size) f va x.kids := htin.keep (fun b hb q => hB6.cell (p := ⟨b, q, none⟩) hb.2)
      have hfar : ∀ b, (wr.heap.size ≤ b ∧ b < w2.heap.size) → w.heap.size + 3 ≤ b ∧ b < W6.heap.size ∧ lv.ownBlock ≠ some b := fun b hb => ⟨by omega, by omega, fun e => by have := (HX.out.row.lt b e).2; omega⟩
      have HT : Hid _ := fun (_ : Unit) => htin6
      have HF : Hid _ := hfar
      have HX6 : Hid _ := hX6
      have HROW : Hid _ := fun (_ : Unit) => hrow
      have hl6 := hX6.lt
      clear s6
      clear htin hX2 hb2 hg2 e0' e1' e2' HC htin6 hfar hX6 hB6
      go_wp2_with (at_builtin; refine wpList_append_lies _ rfl _ _ 25 rfl (w.heap.size + 3) 27 i0 _ 3 40 Tryd.underlying25 hinf hz0 hz1 hz2 rfl (by decide) lv ps.length xs rfl ((HROW.out ()).alloc _) ⟨W6.heap.size, 0, none⟩ 1 1 [.int .i64 x.rule, .int .u8 (x.byte.toNat : Int), .slice va x.kids.length vc] rfl rfl ?ca1 ?ca2 (by decide) ?ca3 ?ca4 ?ca5 (W6.heap.size + 1) (by simp) ?_)
      case ca1 => exact cell_three_new _ _ _ _ _
      case ca2 => first | rfl | (intro u hu; simp at hu; rcases hu with rfl | rfl | rfl <;> rfl)
      case ca3 => unfold maxLen; omega
      case ca4 => omega
      case ca5 => simp; omega
      intro g1 cap1 w7 hown7 hgrow hat _
      have hBm : Below W6.heap.size W6 (W6.alloc (.cells #[.int .i64 x.rule, .int .u8 (x.byte.toNat : Int), .slice va x.kids.length vc] 27)) := (Below.refl _ _).alloc (Nat.le_refl _) _
      have hsm : (W6.alloc (.cells #[.int .i64 x.rule, .int .u8 (x.byte.toNat : Int), .slice va x.kids.length vc] 27)).heap.size = W6.heap.size + 1 := by simp
      have n2 : lv.ownBlock ≠ some (w.heap.size + 1 + 1) := fun e => by have := ((HROW.out ()).lt _ e).1; omega
      have p2 : w7.cell? ⟨w.heap.size + 1 + 1, 2, none⟩ = some lv := (hgrow.cell_far ⟨w.heap.size + 1 + 1, 2, none⟩ (by show w.heap.size + 1 + 1 < _; omega) (fun e => n2 e.symm)).trans ((hBm.cell (p := ⟨w.heap.size + 1 + 1, 2, none⟩) (by show w.heap.size + 1 + 1 < _; omega)).trans o2)
      have pf : w7.frozen? ⟨w.heap.size + 1 + 1, 2, none⟩ = false := (hgrow.frozen_far ⟨w.heap.size + 1 + 1, 2, none⟩ (by show w.heap.size + 1 + 1 < _; omega) (fun e => n2 e.symm)).trans ((hBm.frozen (p := ⟨w.heap.size + 1 + 1, 2, none⟩) (by show w.heap.size + 1 + 1 < _; omega)).trans HX6.out.fo)
      have hst := HX6.out.step (g1 := g1) (cap1 := cap1) (sc := vc) hBm (HT.out ()) HF.out hvc hgrow (by rw [hps]; exact hown7) (by rw [hsm]; exact hat)
      rw [hps] at hst
      have HS : Hid _ := hst
      clear hst hgrow hown7 hat hBm hsm n2 hrow o2 t0 t1 t2
      go_wp2
      refine ⟨⟨k + 1, .slice (some ⟨g1, 0, none⟩) (k + 1) cap1, xs ++ [.int .i64 x.rule, .int .u8 (x.byte.toNat : Int), .slice va x.kids.length vc], by omega, by go_num, ?_⟩, by simp [intOf]; omega⟩
      rw [HP.out]
      exact HS.out
    · obtain rfl : k = n := by omega
      rw [List.take_of_length_le (by omega)] at hX
      have hrow := hX.row
      have htin := hX.cx.tin hrow (by rw [hn]; exact hlen)
      have a0 := hX.a0
      have a1 := hX.a1
      have a2 := hX.a2
      have f0 := hX.f0
      have f1 := hX.f1
      have f2 := hX.f2
      have g2 := hX.g2
      have o0 : wr.cell? ⟨w.heap.size + 1 + 1, 0, none⟩ = some (.int .i64 d.rule) := hX.o0
      have o1 : wr.cell? ⟨w.heap.size + 1 + 1, 1, none⟩ = some (.int .u8 (d.byte.toNat : Int)) := hX.o1
      have o2 : wr.cell? ⟨w.heap.size + 1 + 1, 2, none⟩ = some lv := hX.o2
      have hbel := hX.bel
      have hl := hX.lt
      obtain ⟨la, lc, rfl, hlc, hti⟩ := htin
      rw [hn] at o2 hlc
      have HT : Hid _ := fun (_ : Unit) => hti
      have HB : Hid _ := hbel
      clear hX hrow hti HI HK hbel
      go_wp2
      refine bodyPost_ret (v := .agg #[.int .i64 d.rule, .int .u8 (d.byte.toNat : Int), .slice la k lc]) (by simp [results, Tryd.results16, go_sem, a0, a1, a2]) rfl ?_
      have hsB : w.heap.size ≤ w.heap.size + 1 := by omega
      refine ⟨⟨la, lc, rfl, hlc, ?_⟩, ((HB.out.setCell hsB _).setCell hsB _).setCell hsB _⟩
      refine ((HT.out ()).keep (fun b hb q => ?_)).wide (fun b hb => ⟨by omega, by simp [World.setCell]; exact hb.2⟩)
      have hne : w.heap.size + 1 ≠ b := by omega
      rw [World.cell?_setCell_far _ _ _ _ hne, World.cell?_setCell_far _ _ _ _ hne, World.cell?_setCell_far _ _ _ _ hne]
theorem copy_any : ∀ (f : Nat) (d : Tr) (sa : Option Addr) (sc : Nat) (w : World), TAt w w.heap.size f sa d.kids → Calls Tryd.prog 16 #[.agg #[.int .i64 d.rule, .int .u8 (d.byte.toNat : Int), .slice sa d.kids.length sc]] w fun e w' => (∃ va vc, e = .returned (.agg #[.int .i64 d.rule, .int .u8 (d.byte.toNat : Int), .slice va d.kids.length vc]) ∧ d.kids.length ≤ vc ∧ TIn w' (fun b => w.heap.size ≤ b ∧ b < w'.heap.size) f va d.kids) ∧ Below w.heap.size w w' := by
  intro f
  induction f with
  | zero =>
    intro d sa sc w hk
    have h0 : d.kids = [] := hk
    refine (copy_step 0 d sa sc w (fun x hx => by rw [h0] at hx; cases hx) (hk.up)).mono ?_
    rintro e w' ⟨⟨va, vc, h1, h2, _⟩, h4⟩
    exact ⟨⟨va, vc, h1, h2, h0⟩, h4⟩
  | succ f ih => exact fun d sa sc w hk => copy_step f d sa sc w (fun x _ xa xc W hW => ih x xa xc W hW) hk
end Go.Proofs.YtlnlkbkmnkjbhaaDoor
