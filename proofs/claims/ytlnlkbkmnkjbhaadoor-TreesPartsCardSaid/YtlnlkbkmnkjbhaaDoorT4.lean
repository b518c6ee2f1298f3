/- A plain tree's text behind another one: appendTree. -/
import Derived.Test.YtlnlkbkmnkjbhaaDoorT3
import Derived.Test.YtlnlkbkmnkjbhaaDoorR1
import Derived.Deep.RegionHeld3
import Derived.Deep.AppendLies
namespace Go.Proofs.YtlnlkbkmnkjbhaaDoor
open Go.RowKit Go.Shelf

set_option maxRecDepth 100000 in
theorem bits_15 : ∀ c : Nat, c < 256 → bits BinOp.and IntKind.u8 (c : Int) 15 = ((c % 16 : Nat) : Int) := by
  have h : ∀ c : Fin 256, bits BinOp.and IntKind.u8 (c.val : Int) 15 = ((c.val % 16 : Nat) : Int) := by decide
  exact fun c hc => h ⟨c, hc⟩
theorem hex_at : ∀ k : Fin 16, (⟨#[48, 49, 50, 51, 52, 53, 54, 55, 56, 57, 97, 98, 99, 100, 101, 102]⟩ : ByteArray)[k.val].toNat = (hexd k.val).toNat := by decide +kernel
theorem kept_trans {X Y Z : World} (h : Lib.OthersKept 5 none X Y) (k : Lib.OthersKept 5 none Y Z) : Lib.OthersKept 5 none X Z := Lib.OthersKept.trans h k
set_option maxRecDepth 100000 in
set_option maxHeartbeats 4000000 in
theorem appendLeaf_any (d : Tr) (sv0 : Value) (B n : Nat) (xs : List Value) (sv : Value) (w : World) (hr : d.rule = -1) (hrow : w.ownsRow B 5 1 sv n xs) (hB : B ≤ w.heap.size) (hn : n ≤ 100000000000000) :
    Calls Tryd.prog 54 #[sv, .agg #[.int .i64 d.rule, .int .u8 (d.byte.toNat : Int), sv0]] w fun e w' => ∃ v', e = .returned v' ∧ w'.ownsRow B 5 1 v' (n + 3) (xs ++ bvs (txt d)) ∧ Below B w w' ∧ Lib.OthersKept 5 none w w' := by
  obtain ⟨i0, hinf, hz0, hz1, hz2⟩ := info_parts info5
  obtain ⟨w1, hw1⟩ : ∃ w1, w.alloc (.cells #[.int .i64 d.rule, .int .u8 (d.byte.toNat : Int), sv0] 27) = w1 := ⟨_, rfl⟩
  have hB1 : Below w.heap.size w w1 := by rw [← hw1]; exact (Below.refl _ _).alloc (Nat.le_refl _) _
  have s1 : w1.heap.size = w.heap.size + 1 := by rw [← hw1]; simp
  have a0 : w1.cell? ⟨w.heap.size, 0, none⟩ = some (.int .i64 d.rule) := by rw [← hw1]; exact cell_new 0 rfl
  have a1 : w1.cell? ⟨w.heap.size, 1, none⟩ = some (.int .u8 (d.byte.toNat : Int)) := by rw [← hw1]; exact cell_new 1 rfl
  have a2 : w1.cell? ⟨w.heap.size, 2, none⟩ = some sv0 := by rw [← hw1]; exact cell_new 2 rfl
  have HT : Hid _ := txt_leaf hr
  have hre : (d.rule == -1) = true := by simpa using hr
  have HL : Hid _ := fun (_ : Unit) => isLeaf_any d sv0 w1
  rw [hre] at HL
  obtain ⟨va, vc, rfl⟩ := row_slice hrow
  have hlt : d.byte.toNat < 256 := d.byte.toNat_lt
  generalize d.byte.toNat = c at *
  clear hr hre
  go_enter Tryd.func54, Tryd.ntmps54
  go_wp2_with (go_at_call 69; refine (HL.out ()).mono ?_)
  first | rintro e w2 rfl hb2 | rintro e w2 ⟨rfl, hb2⟩
  go_wp2
  have b1 := (hb2.cell (p := ⟨w.heap.size, 1, none⟩) (by show w.heap.size < _; omega)).trans a1
  obtain ⟨m1, hm1⟩ : ∃ m1, c / 16 = m1 := ⟨_, rfl⟩
  obtain ⟨m2, hm2⟩ : ∃ m2, c % 16 = m2 := ⟨_, rfl⟩
  have l1 : m1 < 16 := by omega
  have l2 : m2 < 16 := by omega
  have hbit := bits_15 c hlt
  have hdiv : (c : Int) / 16 = (m1 : Int) := by omega
  rw [hm2] at hbit
  rw [hm1, hm2] at HT
  clear hm1 hm2
  have q1 : (m1 : Int) < 16 := by omega
  have q2 : (m2 : Int) < 16 := by omega
  have hx1 := hex_at ⟨m1, l1⟩
  have hx2 := hex_at ⟨m2, l2⟩
  simp only at hx1 hx2
  have HT' : Hid (bvs (txt d) = [.int .u8 120, .int .u8 ((hexd m1).toNat : Int), .int .u8 ((hexd m2).toNat : Int)]) := by show _ = _; rw [HT.out]; rfl
  generalize (hexd m1).toNat = v1 at *
  generalize (hexd m2).toNat = v2 at *
  have hs2 := hb2.size
  have hr2 : w2.ownsRow B 5 1 (.slice va n vc) n xs := row_below (row_below hrow hB1) (hb2.mono (by omega))
  have hBw2 : Below w.heap.size w w2 := hB1.trans (hb2.mono (by omega))
  have b1a : ∀ o : Obj, (w2.alloc o).drew.cell? ⟨w.heap.size, 1, none⟩ = some (.int .u8 (c : Int)) := fun o => (((Below.refl w2.heap.size w2).alloc (Nat.le_refl _) o).cell (p := ⟨w.heap.size, 1, none⟩) (by show w.heap.size < _; omega)).trans b1
  have HR2 : Hid ((w2.alloc (.cells #[.int .u8 120, .int .u8 (v1 : Int), .int .u8 (v2 : Int)] 5)).drew.ownsRow B 5 1 (.slice va n vc) n xs) := World.ownsRow.drew (World.ownsRow.alloc (w := w2) hr2 _)
  have HNW : Hid (∀ (j : Nat) u, ([.int .u8 120, .int .u8 (v1 : Int), .int .u8 (v2 : Int)] : List Value)[j]? = some u → (w2.alloc (.cells #[.int .u8 120, .int .u8 (v1 : Int), .int .u8 (v2 : Int)] 5)).drew.cell? ((⟨w2.heap.size, 0, none⟩ : Addr).add j) = some u) := fun j u hu => by
    have e : (⟨w2.heap.size, 0, none⟩ : Addr).add j = ⟨w2.heap.size, j, none⟩ := by simp [Addr.add]; omega
    rw [e]
    exact cell_new (w := w2) (t := 5) j (by rw [List.getElem?_toArray]; exact hu)
  have HTY : Hid (∀ g, (Value.slice va n vc).ownBlock = some g → ∃ cur, w2.heap[g]? = some (.cells cur 5)) := fun g hg => row_type hr2 hg
  have HLT : Hid (∀ g, (Value.slice va n vc).ownBlock = some g → B ≤ g) := fun g hg => (hr2.lt g hg).1
  have hne9 : (Value.slice va n vc).ownBlock ≠ some w.heap.size := fun e => by have := (hrow.lt _ e).2; omega
  have HW2 : Hid (w2.heap[w.heap.size]? = w1.heap[w.heap.size]?) := hb2.block _ (by omega)
  have H9 : Hid (∀ w9 : World, (w2.alloc (.cells #[.int .u8 120, .int .u8 (v1 : Int), .int .u8 (v2 : Int)] 5)).drew.grownBy w9 (Value.slice va n vc).ownBlock → w9.cell? ⟨w.heap.size, 1, none⟩ = some (.int .u8 (c : Int)) ∧ Below B w w9 ∧ Lib.OthersKept 5 none w w9) := fun w9 hg => by
    have hal : Below w2.heap.size w2 (w2.alloc (.cells #[.int .u8 120, .int .u8 (v1 : Int), .int .u8 (v2 : Int)] 5)).drew := by
      have h := (Below.refl w2.heap.size w2).alloc (Nat.le_refl _) (.cells #[.int .u8 120, .int .u8 (v1 : Int), .int .u8 (v2 : Int)] 5)
      exact ⟨h.os, h.tape, h.output, h.size, h.block⟩
    have hk : ∀ b, b < w2.heap.size → (Value.slice va n vc).ownBlock ≠ some b → w9.heap[b]? = w2.heap[b]? := fun b hb hne => (hg.block b (by have := hal.size; omega) (fun e => hne e.symm)).trans (hal.block b hb)
    refine ⟨(World.cell?_of_block (a := ⟨w.heap.size, 1, none⟩) (hk _ (by show w.heap.size < _; omega) hne9)).trans b1, ⟨hg.os.trans hBw2.os, hg.tape.trans hBw2.tape, hg.output.trans hBw2.output, by have := hg.size; have := hal.size; omega, fun b hb => (hk b (by omega) (fun e => by have := HLT.out b e; omega)).trans (hBw2.block b (by omega))⟩, ?_⟩
    refine Lib.OthersKept.grown (e := 5) (b := none) (a := w) (w := (w2.alloc (.cells #[.int .u8 120, .int .u8 (v1 : Int), .int .u8 (v2 : Int)] 5)).drew) ?_ hg ?_
    · exact Lib.OthersKept.drew (Lib.OthersKept.alloc (fun k o hk' _ _ => (hBw2.block k (Array.getElem?_eq_some_iff.1 hk').1).trans hk') _)
    · intro g hg'
      obtain ⟨cur, hc⟩ := HTY.out g hg'
      exact ⟨cur, _, (hal.block g (Array.getElem?_eq_some_iff.1 hc).1).trans hc⟩
  clear hr2 hBw2 hB1 a0 a1 a2 hne9 hrow hb2
  go_region_held3 (fun W => W.cell? ⟨w.heap.size, 1, none⟩ = some (.int .u8 (c : Int))) (first | exact b1 | exact b1a _ | exact b9) ((refine step_append_lies _ (by rfl) _ _ _ (by rfl) B 5 i0 _ 1 1 Tryd.underlying40 hinf hz0 hz1 hz2 rfl (by omega) _ _ _ (by rfl) HR2.out ⟨w2.heap.size, 0, none⟩ 3 3 [.int .u8 120, .int .u8 (v1 : Int), .int .u8 (v2 : Int)] (by rfl) (by rfl) HNW.out (by simp [Value.oneCell']) (by omega) (by unfold maxLen; omega) (by omega) (by simp; omega) (w2.heap.size + 1) (by simp) ?_; intro g cap w9 hown9 hgrow9 hat9 hlt9; obtain ⟨b9, hbel9, hok9⟩ := H9.out w9 hgrow9))
  all_goals (
    go_wp2
    go_ret
    exact ⟨_, rfl, by rw [HT'.out]; exact hown9, hbel9, hok9⟩)
end Go.Proofs.YtlnlkbkmnkjbhaaDoor
