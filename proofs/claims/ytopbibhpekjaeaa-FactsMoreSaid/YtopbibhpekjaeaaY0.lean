/- The law of a rule more, walked. -/
import Derived.Test.YtopbibhpekjaeaaX3
import Derived.Test.YtopbibhpekjaeaaP3
import Derived.Test.YtopbibhpekjaeaaE4
import Derived.Test.YtopbibhpekjaeaaH1
namespace Go.Proofs.Ytopbibhpekjaeaa
open Go.RowKit

theorem short_more {N : Nat} {rs qs : List Rl} {a b : List Int} (hA : ShortOk N rs a) (hB : ShortOk N qs b) (h : ∀ r ∈ rs, r ∈ qs) : ∀ x, x < N → a.getD x 0 = -1 ∨ ∃ p q : Nat, a.getD x 0 = (p : Int) ∧ b.getD x 0 = (q : Int) ∧ q ≤ p := by
  intro x hx
  rcases hA.2 x hx with ⟨h1, _⟩ | ⟨k, hk, _, h1⟩
  · exact .inl h1
  · rcases hB.2 x hx with ⟨_, h2⟩ | ⟨j, _, hj, h2⟩
    · exact absurd ⟨k, hk.more h⟩ h2
    · have := hj k (hk.more h)
      exact .inr ⟨_, _, h1, h2, by omega⟩
theorem less_rows {W : World} {b1 b2 N : Nat} {v u : Value} {l m : List Bool} (h1 : W.ownsRow b1 4 1 v N (boolsV l)) (h2 : W.ownsRow b2 4 1 u N (boolsV m)) (hl : N ≤ 140737488355328) (hx : ∀ k, l.getD k false = true → m.getD k false = true) :
    Calls Try.prog 36 #[v, u] W fun e w' => e = .returned (.bool true) ∧ Below W.heap.size W w' := by
  by_cases h0 : N = 0
  · obtain ⟨a, c, rfl⟩ := row_slice h1
    obtain ⟨a', c', rfl⟩ := row_slice h2
    exact less_any _ _ _ _ _ _ hl fun k hk => by omega
  · obtain ⟨g, c, rfl, _, hg⟩ := row_at h1 (by omega)
    obtain ⟨g', c', rfl, _, hg'⟩ := row_at h2 (by omega)
    exact less_any _ _ _ _ _ _ hl fun k hk => ⟨g, 0, g', 0, l.getD k false, m.getD k false, rfl, rfl, hg, hg', by rw [Nat.zero_add]; exact getD_cell h1 k hk, by rw [Nat.zero_add]; exact getD_cell h2 k hk, hx k⟩
theorem MarkIs.more {p : St → Bool} {G X : Gm} {l m : List Bool} (hl : MarkIs p G l) (hm : MarkIs p X m) (hG : G.okB = true) (hX : X.okB = true) (h : ∀ r ∈ G.rules, r ∈ X.rules) : l.length = G.nts.toNat ∧ m.length = X.nts.toNat ∧ ∀ k, l.getD k false = true → m.getD k false = true := by
  rcases hl with ⟨h1, _⟩ | ⟨_, a2, a3⟩
  · rw [hG] at h1; cases h1
  rcases hm with ⟨h1, _⟩ | ⟨_, b2, b3⟩
  · rw [hX] at h1; cases h1
  exact ⟨a2, b2, fun k hk => (b3 k).2 (((a3 k).1 hk).more h)⟩
theorem ReachIs.more {G X : Gm} {l m : List Bool} (hl : ReachIs G l) (hm : ReachIs X m) (hG : G.okB = true) (hX : X.okB = true) (hs : X.start = G.start) (h : ∀ r ∈ G.rules, r ∈ X.rules) : l.length = G.nts.toNat ∧ m.length = X.nts.toNat ∧ ∀ k, l.getD k false = true → m.getD k false = true := by
  rcases hl with ⟨h1, _⟩ | ⟨_, a2, a3⟩
  · rw [hG] at h1; cases h1
  rcases hm with ⟨h1, _⟩ | ⟨_, b2, b3⟩
  · rw [hX] at h1; cases h1
  exact ⟨a2, b2, fun k hk => (b3 k).2 (by rw [hs]; exact ((a3 k).1 hk).more h)⟩
theorem ShortIs.more {G X : Gm} {l m : List Int} (hl : ShortIs G l) (hm : ShortIs X m) (hG : G.okB = true) (hX : X.okB = true) (hn : X.nts = G.nts) (h : ∀ r ∈ G.rules, r ∈ X.rules) : l.length = G.nts.toNat ∧ m.length = X.nts.toNat ∧ ∀ x, x < G.nts.toNat → l.getD x 0 = -1 ∨ ∃ p q : Nat, l.getD x 0 = (p : Int) ∧ m.getD x 0 = (q : Int) ∧ q ≤ p := by
  rcases hl with ⟨h1, _⟩ | ⟨_, a2⟩
  · rw [hG] at h1; cases h1
  rcases hm with ⟨h1, _⟩ | ⟨_, b2⟩
  · rw [hX] at h1; cases h1
  refine ⟨a2.1, b2.1, ?_⟩
  rw [hn] at b2
  exact short_more a2 b2 h
theorem CycIs.more {G X : Gm} {x y : Bool} (hl : CycIs G x) (hm : CycIs X y) (hG : G.okB = true) (hX : X.okB = true) (hn : X.nts = G.nts) (h : ∀ r ∈ G.rules, r ∈ X.rules) : x = true → y = true := by
  rcases hl with ⟨h1, _⟩ | ⟨_, a2⟩
  · rw [hG] at h1; cases h1
  rcases hm with ⟨h1, _⟩ | ⟨_, b2⟩
  · rw [hX] at h1; cases h1
  rw [hn] at b2
  exact fun hx => b2.2 ((a2.1 hx).more h)
/-- A rule is put behind those of a copy. -/
theorem copy_more {w W0 W1 w2 : World} {rs : List Rl} {R : Rl} {ra : Option Addr} {rc : Nat} {lv : Value} {xs : List Value} {nts start : Int} {g1 cap1 : Nat}
    (hw : Below w.heap.size w W1) (h0 : w.heap.size + 2 ≤ W0.heap.size) (h1 : W0.heap.size ≤ W1.heap.size) (hK : KAt w w.heap.size ra R.rhs) (hrow : W1.ownsRow W0.heap.size 52 2 lv rs.length xs) (hrx : Rx W1 lv (· < W0.heap.size + 3) rs xs)
    (hg : ((W1.alloc (.cells #[.int .i64 nts, .int .i64 start, lv] 24)).alloc (.cells #[.int .i64 R.lhs, .slice ra R.rhs.length rc] 52)).grownBy w2 lv.ownBlock)
    (hown : w2.ownsRow W0.heap.size 52 2 (.slice (some ⟨g1, 0, none⟩) (rs.length + 1) cap1) (rs.length + 1) (xs ++ [.int .i64 R.lhs, .slice ra R.rhs.length rc])) (hat : lv.ownBlock = some g1 ∨ g1 = W1.heap.size + 1 + 1) (hl : (rs.length + 1) * 32 ≤ 140737488355328) :
    ∃ W3, w2.setCell ⟨W1.heap.size, 2, none⟩ (.slice (some ⟨g1, 0, none⟩) (rs.length + 1) cap1) = W3 ∧ W3.cell? ⟨W1.heap.size, 0, none⟩ = some (.int .i64 nts) ∧ W3.cell? ⟨W1.heap.size, 1, none⟩ = some (.int .i64 start) ∧ W3.cell? ⟨W1.heap.size, 2, none⟩ = some (.slice (some ⟨g1, 0, none⟩) (rs.length + 1) cap1) ∧ RAt W3 W3.heap.size (some ⟨g1, 0, none⟩) (rs ++ [R]) ∧ W1.heap.size < W3.heap.size ∧ Below W0.heap.size W1 W3 := by
  have hws := hw.size
  have hlo : ∀ q, lv.ownBlock = some q → W0.heap.size ≤ q ∧ q < W1.heap.size := fun q hq => hrow.lt q hq
  have hBx : Below W1.heap.size W1 (W1.alloc (.cells #[.int .i64 nts, .int .i64 start, lv] 24)) := (Below.refl _ _).alloc (Nat.le_refl _) _
  have c0 : (W1.alloc (.cells #[.int .i64 nts, .int .i64 start, lv] 24)).cell? ⟨W1.heap.size, 0, none⟩ = some (.int .i64 nts) := cell_new 0 rfl
  have c1 : (W1.alloc (.cells #[.int .i64 nts, .int .i64 start, lv] 24)).cell? ⟨W1.heap.size, 1, none⟩ = some (.int .i64 start) := cell_new 1 rfl
  have c2 : (W1.alloc (.cells #[.int .i64 nts, .int .i64 start, lv] 24)).cell? ⟨W1.heap.size, 2, none⟩ = some lv := cell_new 2 rfl
  have hsx : (W1.alloc (.cells #[.int .i64 nts, .int .i64 start, lv] 24)).heap.size = W1.heap.size + 1 := by simp
  generalize W1.alloc (.cells #[.int .i64 nts, .int .i64 start, lv] 24) = Wx at *
  have hBm : Below Wx.heap.size Wx (Wx.alloc (.cells #[.int .i64 R.lhs, .slice ra R.rhs.length rc] 52)) := (Below.refl _ _).alloc (Nat.le_refl _) _
  have hsm : (Wx.alloc (.cells #[.int .i64 R.lhs, .slice ra R.rhs.length rc] 52)).heap.size = W1.heap.size + 1 + 1 := by simp [hsx]
  generalize Wx.alloc (.cells #[.int .i64 R.lhs, .slice ra R.rhs.length rc] 52) = Wm at *
  have hgs := hg.size
  have hK1 : KAt Wx Wx.heap.size ra R.rhs := (((hK.keep hw).mono hws).keep hBx).mono hBx.size
  have hr1 : Rx Wx lv (· = W1.heap.size) rs xs := (hrx.box (xb' := (· = W1.heap.size)) (fun b hb => by omega)).below hBx
  have hr2 := hr1.snoc rc hK1 (fun b o e h0 => by
    subst e
    have hb := hK.lt h0
    exact ⟨fun e2 => by have := (hlo _ e2).1; omega, by omega⟩)
  have hfar : ∀ b, b < Wx.heap.size → lv.ownBlock ≠ some b → ∀ q, w2.cell? ⟨b, q, none⟩ = Wx.cell? ⟨b, q, none⟩ := fun b hlt hne q =>
    (hg.cell_far ⟨b, q, none⟩ (by show b < _; omega) (fun e => hne e.symm)).trans (hBm.cell (p := ⟨b, q, none⟩) hlt)
  have nx : lv.ownBlock ≠ some W1.heap.size := fun e => by have := (hlo _ e).2; omega
  have hs3 : (w2.setCell ⟨W1.heap.size, 2, none⟩ (.slice (some ⟨g1, 0, none⟩) (rs.length + 1) cap1)).heap.size = w2.heap.size := by simp [World.setCell]
  have hr3 : Rx (w2.setCell ⟨W1.heap.size, 2, none⟩ (.slice (some ⟨g1, 0, none⟩) (rs.length + 1) cap1)) (.slice (some ⟨g1, 0, none⟩) (rs.length + 1) cap1) (· = W1.heap.size) (rs ++ [R]) (xs ++ [.int .i64 R.lhs, .slice ra R.rhs.length rc]) := by
    refine hr2.move (by omega) (fun b hb hne hx q => ?_) (fun b hlt e => ?_)
    · rw [World.cell?_setCell_far _ _ _ _ (fun e => hx e.symm)]; exact hfar b hb hne q
    · have e' : g1 = b := by simpa [Value.ownBlock] using e
      rcases hat with hat | hat
      · rw [← e']; exact hat
      · omega
  have hown3 : (w2.setCell ⟨W1.heap.size, 2, none⟩ (.slice (some ⟨g1, 0, none⟩) (rs.length + 1) cap1)).ownsRow W0.heap.size 52 2 (.slice (some ⟨g1, 0, none⟩) (rs.length + 1) cap1) (rs ++ [R]).length (xs ++ [.int .i64 R.lhs, .slice ra R.rhs.length rc]) := by
    rw [List.length_append]
    show World.ownsRow _ _ _ _ _ (rs.length + 1) _
    have hge : g1 ≠ W1.heap.size := fun e => by
      rcases hat with hat | hat
      · exact nx (by rw [← e]; exact hat)
      · omega
    refine ⟨hown.1, ?_⟩
    rcases hown.2 with h0 | ⟨g, cap, cur, hv, hbg, hg, rest⟩
    · exact .inl h0
    · refine .inr ⟨g, cap, cur, hv, hbg, (Below.heap_setCell w2 _ _ g ?_).trans hg, rest⟩
      have : g1 = g := by simpa using (Value.slice.inj hv).1
      show g ≠ W1.heap.size
      omega
  obtain ⟨a', c', e, hR⟩ := hr3.rat hown3 (by rw [List.length_append]; exact hl)
  have ea : a' = some ⟨g1, 0, none⟩ := by simpa using (Value.slice.inj e).1.symm
  subst ea
  refine ⟨_, rfl, ?_, ?_, World.cell?_setCell_same' _ _ _ (by rw [hfar _ (by omega) nx, c2]; rfl), hR, by omega, ?_⟩
  · rw [World.cell?_setCell_other _ _ _ _ (by simp), hfar _ (by omega) nx]; exact c0
  · rw [World.cell?_setCell_other _ _ _ _ (by simp), hfar _ (by omega) nx]; exact c1
  · exact (((hBx.mono h1).trans (hBm.mono (by omega))).grown hg (by omega) (fun q hq => by have := (hlo q hq).1; omega)).setCell (by show _ ≤ W1.heap.size; omega) _
end Go.Proofs.Ytopbibhpekjaeaa
