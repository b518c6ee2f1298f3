/- A list of trees in new memory: slices.Clone. -/
import Derived.Test.YtlnlkbkmnkjbhaaDoorP1
namespace Go.Proofs.YtlnlkbkmnkjbhaaDoor
open Go.RowKit

theorem nil_eq (ad : Addr) (n c : Nat) (w : World) : (Go.binOp .eql 25 (.slice (some ad) n c) (.slice none 0 0)).run Tryd.prog w = .ok (.bool false) w := by kernel_rfl
set_option maxRecDepth 100000 in
set_option maxHeartbeats 4000000 in
theorem lclone_any (w0 : World) (l : List Tr) (a : Option Addr) (c f : Nat) (w : World) (hk : TAt w0 w0.heap.size f a l) (hb : Below w0.heap.size w0 w) (hpos : 0 < l.length) :
    Calls Tryd.prog 72 #[.slice a l.length c] w fun e w' => (∃ g cap, e = .returned (.slice (some ⟨g, 0, none⟩) l.length cap) ∧ l.length ≤ cap ∧ w.heap.size ≤ g ∧ g < w'.heap.size ∧ (∀ q, w'.frozen? ⟨g, q, none⟩ = false) ∧ ∀ j z, l[j]? = some z → ∃ za zc, TCell w' g (j * 3) z za zc ∧ z.kids.length ≤ zc ∧ TAt w0 w0.heap.size f za z.kids) ∧ Below w.heap.size w w' := by
  obtain ⟨i0, hinf, hz0, hz1, hz2⟩ := info_parts info24
  cases f with
  | zero => cases (show l = [] from hk); simp at hpos
  | succ f =>
  obtain ⟨x0, hx0⟩ : ∃ x, l[0]? = some x := ⟨l[0], by simp⟩
  obtain ⟨b, o, rfl, hlt, _⟩ := hk.2 0 x0 hx0
  obtain ⟨news, hnl, hnc, hno, hnk⟩ := kid_cells hk
  have hl40 := hk.1
  have key : ∀ j z, l[j]? = some z → news[j * 3]? = some (.int .i64 z.rule) ∧ news[j * 3 + 1]? = some (.int .u8 (z.byte.toNat : Int)) ∧ ∃ za zc, news[j * 3 + 2]? = some (.slice za z.kids.length zc) ∧ z.kids.length ≤ zc ∧ TAt w0 w0.heap.size (f + 1) za z.kids := fun j z hj => by
    obtain ⟨h0, h1, f', a', c', h2, h3, h4⟩ := hnk j z hj
    obtain ⟨b', o', e, _, sa, sc, c0, c1, c2, hsc, hsk⟩ := hk.2 j z hj
    cases e
    have h5 := hnc _ _ h2
    rw [show b = b from rfl, show o + (j * 3 + 2) = o + j * 3 + 2 by omega, c2] at h5
    cases h5
    exact ⟨h0, h1, _, _, h2, hsc, hsk.up⟩
  have hnc' : ∀ j u, news[j]? = some u → (w.alloc (.cells #[] 27)).cell? ((⟨b, o, none⟩ : Addr).add j) = some u := fun j u hu => by
    have hadd : (⟨b, o, none⟩ : Addr).add j = ⟨b, o + j, none⟩ := by unfold Addr.add; split <;> simp_all
    rw [hadd]
    exact ((((Below.refl _ w).alloc (Nat.le_refl _) (.cells #[] 27)).cell (p := ⟨b, o + j, none⟩) (Nat.lt_of_lt_of_le hlt hb.size)).trans (hb.cell (p := ⟨b, o + j, none⟩) hlt)).trans (hnc j u hu)
  have hrow : (w.alloc (.cells #[] 27)).ownsRow w.heap.size 27 3 (.slice (some ⟨w.heap.size, 0, none⟩) 0 0) 0 [] := World.ownsRow_made w #[] 0 (Nat.le_refl _) (by unfold maxLen; omega) rfl
  have HKY : Hid _ := key
  obtain ⟨n, hn⟩ : ∃ n, l.length = n := ⟨_, rfl⟩
  rw [hn] at hpos hl40 hnl ⊢
  have hne := fun W => nil_eq ⟨b, o, none⟩ n c W
  clear hnk hnc hk key hx0 hn
  go_enter Tryd.func72, Tryd.ntmps72
  go_wp2_with (at_builtin; refine wpList_append_lies _ rfl _ _ 25 rfl w.heap.size 27 i0 _ 3 40 Tryd.underlying25 hinf hz0 hz1 hz2 rfl (by decide) _ _ _ rfl hrow ⟨b, o, none⟩ n c news rfl hnl hnc' hno hpos ?ca3 ?ca4 ?ca5 (w.heap.size + 1) (by simp) ?_)
  case ca3 => unfold maxLen; omega
  case ca4 => omega
  case ca5 => simp
  intro g cap w7 hown hgrow hat hg7
  go_wp2
  go_ret
  have hgw : w.heap.size ≤ g := by
    rcases hat with h | h
    · simp [Value.ownBlock] at h; omega
    · omega
  have hcap : n ≤ cap ∧ ∃ cur, w7.heap[g]? = some (.cells cur 27 (0, 0)) := by
    rcases hown.2 with ⟨h, _⟩ | ⟨g', cap', cur, h, _, h2, h3, _⟩
    · cases h
    · cases h; exact ⟨h3, cur, h2⟩
  obtain ⟨hcap, cur, hcur⟩ := hcap
  have hs7 := hgrow.size
  have hsa : (w.alloc (.cells #[] 27)).heap.size = w.heap.size + 1 := by simp
  refine ⟨⟨g, cap, rfl, hcap, hgw, hg7, fun q => by simp [World.frozen?, hcur], fun j z hj => ?_⟩, ⟨hgrow.os, hgrow.tape, hgrow.output, by omega, fun b hb => (hgrow.block b (by omega) (by simp [Value.ownBlock]; omega)).trans (((Below.refl _ w).alloc (Nat.le_refl _) (.cells #[] 27)).block b hb)⟩⟩
  obtain ⟨k0, k1, za, zc, k2, hzc, hzk⟩ := HKY.out j z hj
  have hlt0 := (List.getElem?_eq_some_iff.1 k2).1
  have kk : ∀ r u, r < 3 → news[j * 3 + r]? = some u → w7.cell? ⟨g, j * 3 + r, none⟩ = some u := fun r u hr hu => by
    have h := hown.cellAt (j * 3 + r) (by omega)
    rw [h]
    simpa using hu
  exact ⟨za, zc, ⟨kk 0 _ (by omega) k0, kk 1 _ (by omega) k1, kk 2 _ (by omega) k2⟩, hzc, hzk⟩
end Go.Proofs.YtlnlkbkmnkjbhaaDoor
