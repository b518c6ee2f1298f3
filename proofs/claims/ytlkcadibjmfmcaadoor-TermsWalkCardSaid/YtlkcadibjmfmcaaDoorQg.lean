/- A term's text, read: terms. -/
import Derived.Test.YtlkcadibjmfmcaaDoorQf
namespace Go.Proofs.YtlkcadibjmfmcaaDoor
open Go.RowKit

theorem grown_alloc {w : World} (o : Obj) (R : Option Nat) : w.grownBy (w.alloc o) R := grown_of_below ((Below.refl _ _).alloc (Nat.le_refl _) _) R
theorem grown_from {w W : World} {R : Nat} {o : Obj} (hg : (w.alloc o).grownBy W (some R)) : w.grownBy W (some R) := grown_tr (grown_alloc o _) hg
theorem grown_fresh {w W : World} {R b : Nat} (hg : w.grownBy W (some R)) (hb : w.heap.size ≤ b) {o : Nat} (u : Value) : w.grownBy (W.setCell ⟨b, o, none⟩ u) (some R) :=
  ⟨hg.os, hg.tape, hg.output, by simp [World.setCell]; exact hg.size, fun k hk hne => (Below.heap_setCell W ⟨b, o, none⟩ u k (by show k ≠ b; omega)).trans (hg.block k hk hne)⟩
/-- The result's cells, as long as nobody else writes them. -/
theorem res_cells {w W : World} {R : Nat} {cs : Array Value} (hR : R < w.heap.size) (hg : (w.alloc (.cells cs 25)).grownBy W (some R)) : ∀ (j : Nat) v, cs[j]? = some v → W.cell? ⟨w.heap.size, j, none⟩ = some v ∧ W.frozen? ⟨w.heap.size, j, none⟩ = false := by
  intro j v hv
  have hlt : w.heap.size < (w.alloc (.cells cs 25)).heap.size := by simp
  have hne : some (w.heap.size) ≠ some R := by simp; omega
  exact ⟨(hg.cell_far ⟨w.heap.size, j, none⟩ hlt hne).trans (cell_new j hv), (hg.frozen_far ⟨w.heap.size, j, none⟩ hlt hne).trans (World.frozen?_alloc_new _ _ _ _)⟩
/-- Four cells written over. -/
def put4 (W : World) (b : Nat) (u0 u1 u2 u3 : Value) : World := (((W.setCell ⟨b, 0, none⟩ u0).setCell ⟨b, 1, none⟩ u1).setCell ⟨b, 2, none⟩ u2).setCell ⟨b, 3, none⟩ u3
/-- A result that is stored, cell by cell. -/
theorem res_store {w w6 : World} {R : Nat} {s : ByteArray} {q : Nat} (hR : R < w.heap.size) (h : RdAt w6 R s q) (hg : w.grownBy w6 (some R)) (u0 u1 u2 u3 : Value) : RdAt (put4 w6 w.heap.size u0 u1 u2 u3) R s q ∧ w.grownBy (put4 w6 w.heap.size u0 u1 u2 u3) (some R) ∧ w6.grownBy (put4 w6 w.heap.size u0 u1 u2 u3) (some w.heap.size) := by
  have hne : R ≠ w.heap.size := by omega
  exact ⟨(((h.grown (grown_set _ _ _ _) hne).grown (grown_set _ _ _ _) hne).grown (grown_set _ _ _ _) hne).grown (grown_set _ _ _ _) hne, grown_fresh (grown_fresh (grown_fresh (grown_fresh hg (Nat.le_refl _) _) (Nat.le_refl _) _) (Nat.le_refl _) _) (Nat.le_refl _) _, grown_tr (grown_tr (grown_tr (grown_set _ _ _ _) (grown_set _ _ _ _)) (grown_set _ _ _ _)) (grown_set _ _ _ _)⟩
theorem mix_nil (w : World) (S : Nat → Prop) (f : Nat) (a : Option Addr) : MIx w S f a [] := by
  cases f with
  | zero => rfl
  | succ f => exact ⟨by decide, fun j d hj => by cases hj⟩
theorem txx_nil (w : World) (S : Nat → Prop) : Txx w S (.slice none 0 0) [] := ⟨none, 0, rfl, Nat.le_refl _, by decide, fun i c hi => by cases hi⟩
/-- A term that was read, told in the result's cells. -/
theorem TPost.told {w w6 : World} {R : Nat} {s : ByteArray} {f q : Nat} {d : Tm} {ta va : Option Addr} {tc vc : Nat} (hR : R < w.heap.size) (hr : RdAt w6 R s q) (hg : w.grownBy w6 (some R)) (hvc : d.kids.length ≤ vc) (h1 : MIx w6 (fun b => w.heap.size + 1 ≤ b ∧ b < w6.heap.size) f va d.kids) (h2 : Txx w6 (fun b => w.heap.size + 1 ≤ b ∧ b < w6.heap.size) (.slice ta d.text.length tc) d.text) :
    TPost R s f w (.ok d q) (.returned (.agg #[.int .i64 d.kind, .string d.cons, .slice ta d.text.length tc, .slice va d.kids.length vc])) (put4 w6 w.heap.size (.int .i64 d.kind) (.string d.cons) (.slice ta d.text.length tc) (.slice va d.kids.length vc)) := by
  obtain ⟨a, b, c⟩ := res_store hR hr hg (.int .i64 d.kind) (.string d.cons) (.slice ta d.text.length tc) (.slice va d.kids.length vc)
  have hk : ∀ b, (w.heap.size + 1 ≤ b ∧ b < w6.heap.size) → (put4 w6 w.heap.size (.int .i64 d.kind) (.string d.cons) (.slice ta d.text.length tc) (.slice va d.kids.length vc)).heap[b]? = w6.heap[b]? := fun b hb => c.block b hb.2 (by simp; omega)
  have hw : ∀ b, (w.heap.size + 1 ≤ b ∧ b < w6.heap.size) → w.heap.size ≤ b ∧ b < (put4 w6 w.heap.size (.int .i64 d.kind) (.string d.cons) (.slice ta d.text.length tc) (.slice va d.kids.length vc)).heap.size := fun b hb => ⟨by omega, Nat.lt_of_lt_of_le hb.2 c.size⟩
  exact ⟨⟨ta, tc, va, vc, rfl, hvc, (h1.keep hk).wide hw, (h2.keep hk).wide hw⟩, a, b⟩
theorem prefix_one (x : ByteArray) (w : World) : Calls Tryd.prog 71 #[.string x, .string ⟨#[40]⟩] w fun e w' => e = .returned (.bool (decide (0 < x.size ∧ bt x 0 = 40))) ∧ w' = w := by
  have h := hasPrefix_any x ⟨#[40]⟩ w
  have e : Lib.hasPrefix x.data.toList (⟨#[40]⟩ : ByteArray).data.toList = decide (0 < x.size ∧ bt x 0 = 40) := by
    rw [show (⟨#[40]⟩ : ByteArray).data.toList = [40] from rfl, bt_list, ← list_len]
    cases x.data.toList with
    | nil => simp [Lib.hasPrefix]
    | cons c l =>
      rw [Bool.eq_iff_iff]; simp [Lib.hasPrefix, ← UInt8.toNat_inj]
      exact eq_comm
  rw [e] at h; exact h
theorem bt_extract (s : ByteArray) (q : Nat) : bt (s.extract q s.size) 0 = bt s q := by
  rw [bt_list, bt_list, extract_post]
  simp [List.getD_eq_getElem?_getD]
end Go.Proofs.YtlkcadibjmfmcaaDoor
