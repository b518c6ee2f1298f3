/- The fixed calls of the theorems through the layers. -/
import Derived.Test.YtbbmjnhbmcbehaaZ1
import Derived.Test.YtbbmjnhbmcbehaaN16
import Derived.Deep.RegionHeld3
namespace Go.Proofs.Ytbbmjnhbmcbehaa
open Go.RowKit

def ttx : ByteArray := ⟨#[99, 102, 32, 69, 46, 65, 32, 91, 97, 45, 99, 93]⟩
theorem ttx_scan : (scan ttx.data.toList).2 = (0, 0) ∧ (scan ttx.data.toList).1.length = 6 ∧ ((scan ttx.data.toList).1[4]?).map (fun q => (q.set.a, q.set.b, q.set.c, q.set.d)) = some (0, 60129542144, 0, 0) := by decide +kernel
theorem ofL_abc : (ofL [97, 98, 99]).a = 0 ∧ (ofL [97, 98, 99]).b = 60129542144 ∧ (ofL [97, 98, 99]).c = 0 ∧ (ofL [97, 98, 99]).d = 0 := by decide +kernel
theorem of_abc (w : World) (B : Nat) (hB : Blk w B 5 #[.int .u8 97, .int .u8 98, .int .u8 99]) : Calls Try.prog 50 #[.slice (some ⟨B, 0, none⟩) 3 3] w fun e w' => e = .returned (.agg #[.int .u64 0, .int .u64 60129542144, .int .u64 0, .int .u64 0]) ∧ Below w.heap.size w w' := by
  have := of_any B 0 3 3 [97, 98, 99] _ rfl (by decide) (by decide) hB.lt (fun i hi => by
    match i, hi with
    | 0, _ => exact hB.cell 0 rfl
    | 1, _ => exact hB.cell 1 rfl
    | 2, _ => exact hB.cell 2 rfl)
  obtain ⟨a, b, c, d⟩ := ofL_abc
  rw [a, b, c, d] at this
  exact this
/-- What stands while the last line is reckoned. -/
structure Ta (w : World) (B g : Nat) (W : World) : Prop where
  box : Blk W B 26 #[.int .i64 0, .int .i64 0]
  lt : g < W.heap.size
  c3 : W.cell? ⟨g, 47, none⟩ = some (.int .u64 0)
  c4 : W.cell? ⟨g, 48, none⟩ = some (.int .u64 60129542144)
  c5 : W.cell? ⟨g, 49, none⟩ = some (.int .u64 0)
  c6 : W.cell? ⟨g, 50, none⟩ = some (.int .u64 0)
  bel : Below w.heap.size w W
theorem Ta.drew {w W : World} {B g : Nat} (h : Ta w B g W) : Ta w B g W.drew := ⟨h.box, h.lt, h.c3, h.c4, h.c5, h.c6, h.bel.drew⟩
theorem Ta.nx {w W W' : World} {B g : Nat} (hb : Below W.heap.size W W') (h : Ta w B g W) : Ta w B g W' :=
  ⟨h.box.after hb, Nat.lt_of_lt_of_le h.lt hb.size, (hb.cell (p := ⟨g, 47, none⟩) h.lt).trans h.c3, (hb.cell (p := ⟨g, 48, none⟩) h.lt).trans h.c4, (hb.cell (p := ⟨g, 49, none⟩) h.lt).trans h.c5, (hb.cell (p := ⟨g, 50, none⟩) h.lt).trans h.c6, below_of h.bel hb⟩
theorem Ta.alloc {w W : World} {B g : Nat} (h : Ta w B g W) (o : Obj) : Ta w B g (W.alloc o) := h.nx ((Below.refl _ _).alloc (Nat.le_refl _) o)
theorem Ta.facts {w W : World} {B g : Nat} (h : Ta w B g W) : W.cell? ⟨B, 0, none⟩ = some (.int .i64 0) ∧ W.cell? ⟨B, 1, none⟩ = some (.int .i64 0) ∧ W.cell? ⟨g, 47, none⟩ = some (.int .u64 0) ∧ W.cell? ⟨g, 48, none⟩ = some (.int .u64 60129542144) ∧ W.cell? ⟨g, 49, none⟩ = some (.int .u64 0) ∧ W.cell? ⟨g, 50, none⟩ = some (.int .u64 0) :=
  ⟨h.box.cell 0 rfl, h.box.cell 1 rfl, h.c3, h.c4, h.c5, h.c6⟩
set_option maxRecDepth 100000 in
set_option maxHeartbeats 4000000 in
theorem topalive_any (w : World) : Calls Try.prog 27 #[] w fun e w' => e = .returned (.bool true) ∧ Below w.heap.size w w' := by
  have H1 : Hid (∀ w, Calls Try.prog 13 #[.string ⟨#[99, 102, 32, 69, 46, 65, 32, 91, 97, 45, 99, 93]⟩] w (Scans w (scan ttx.data.toList))) := fun w => scan_any ttx w
  obtain ⟨hs2, hsl, hs9⟩ := ttx_scan
  generalize scan ttx.data.toList = S at *
  obtain ⟨ws, fa, fc⟩ := S
  simp only [Prod.mk.injEq] at hs2 hsl hs9
  obtain ⟨rfl, rfl⟩ := hs2
  go_enter Try.func27, Try.ntmps27
  go_wp2_with (go_at_call 13; refine (H1.out _).mono ?_)
  rintro e w1 ⟨lv, L, rfl, hL, hW, hb1⟩
  simp only at hL
  have hLl : L.length = 6 := by rw [← hsl, ← hL, List.length_map]
  obtain ⟨q, hq⟩ : ∃ q, L[4]? = some q := by
    rw [List.getElem?_eq_getElem (by omega)]; exact ⟨_, rfl⟩
  have hk : q.1.set.a = 0 ∧ q.1.set.b = 60129542144 ∧ q.1.set.c = 0 ∧ q.1.set.d = 0 := by
    rw [← hL, List.getElem?_map, hq] at hs9; simpa using hs9
  have hrow := hW.row
  rw [hLl] at hrow
  obtain ⟨g, cap, rfl⟩ := ownsRow_succ hrow
  have hc : ∀ j, j < 11 → w1.cell? ⟨g, 4 * 11 + j, none⟩ = (wcell q.1 q.2)[j]? := fun j hj => by
    rw [hrow.cellAt (4 * 11 + j) (by omega)]; exact wcells_get L 4 j q hq hj
  obtain ⟨ha, hb, hcc, hd⟩ := hk
  have c3 := hc 3 (by decide)
  have c4 := hc 4 (by decide)
  have c5 := hc 5 (by decide)
  have c6 := hc 6 (by decide)
  simp [wcell, ha, hb, hcc, hd] at c3 c4 c5 c6
  have hg := (hrow.lt g rfl).2
  simp only [fv]
  clear H1 hrow hW ha hb hcc hd hc hq hLl hL hs9 hsl
  go_wp2
  have T : Ta w w1.heap.size g (w1.alloc (.cells #[.int .i64 0, .int .i64 0] 26)) := by
    have hb2 : Below w1.heap.size w1 (w1.alloc (.cells #[.int .i64 0, .int .i64 0] 26)) := (Below.refl _ _).alloc (Nat.le_refl _) _
    exact ⟨Blk.new _ _ _, Nat.lt_of_lt_of_le hg hb2.size, (hb2.cell (p := ⟨g, 47, none⟩) hg).trans c3, (hb2.cell (p := ⟨g, 48, none⟩) hg).trans c4, (hb2.cell (p := ⟨g, 49, none⟩) hg).trans c5, (hb2.cell (p := ⟨g, 50, none⟩) hg).trans c6, below_of hb1 hb2⟩
  have HO : Hid _ := fun w B h => of_abc w B h
  obtain ⟨W0, hW0⟩ : ∃ W0, w1.alloc (.cells #[.int .i64 0, .int .i64 0] 26) = W0 := ⟨_, rfl⟩
  rw [hW0] at T ⊢
  clear hW0 c3 c4 c5 c6 hb1 hg
  have E0 : ∀ w, (Op.equalIn 10000 33 (.agg #[.int .u64 0, .int .u64 60129542144, .int .u64 0, .int .u64 0]) (.agg #[.int .u64 0, .int .u64 60129542144, .int .u64 0, .int .u64 0])).run Try.prog w = .ok true w := fun w => by
    have := eq26 ⟨0, 60129542144, 0, 0⟩ ⟨0, 60129542144, 0, 0⟩ w
    rw [(St.same_eq _ _).2 rfl] at this
    exact this
  have TC := T.facts
  go_region_held3 (fun W' => W'.cell? ⟨w1.heap.size, 0, none⟩ = some (.int .i64 0) ∧ W'.cell? ⟨w1.heap.size, 1, none⟩ = some (.int .i64 0) ∧ W'.cell? ⟨g, 47, none⟩ = some (.int .u64 0) ∧ W'.cell? ⟨g, 48, none⟩ = some (.int .u64 60129542144) ∧ W'.cell? ⟨g, 49, none⟩ = some (.int .u64 0) ∧ W'.cell? ⟨g, 50, none⟩ = some (.int .u64 0)) (first | exact T.facts | exact T.drew.facts | exact (T.drew.alloc _).facts | exact (T.alloc _).facts) (first | (go_at_call 50; refine (HO.out (W0.alloc (.cells #[.int .u8 97, .int .u8 98, .int .u8 99] 5)).drew W0.heap.size (Blk.new W0 5 _)).mono ?_; rintro e w5 ⟨rfl, hb5⟩; replace T : Ta w w1.heap.size g w5 := Ta.nx hb5 (T.alloc _).drew; clear hb5))
  all_goals go_wp2
  all_goals go_ret
  all_goals exact ⟨rfl, T.bel⟩
end Go.Proofs.Ytbbmjnhbmcbehaa
