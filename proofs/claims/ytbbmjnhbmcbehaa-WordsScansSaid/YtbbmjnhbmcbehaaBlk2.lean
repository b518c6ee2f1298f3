/- Storing a word and a fault into their boxes. -/
import Derived.Test.YtbbmjnhbmcbehaaBlk
namespace Go.Proofs.Ytbbmjnhbmcbehaa
open Go.RowKit

theorem gen {P : World → Prop} (R : World → Prop) {W : World} (h : R W) (k : ∀ W, R W → P W) : P W := k W h
theorem Blk.put2 {W : World} {b c : Nat} {t : TypeId} {cs : Array Value} (h : Blk W b t cs) (hne : b ≠ c) (u0 u1 : Value) : Blk ((W.setCell ⟨c, 0, none⟩ u0).setCell ⟨c, 1, none⟩ u1) b t cs := (h.put c 0 u0 hne).put c 1 u1 hne
theorem Blk.set2 {W : World} {c : Nat} {t : TypeId} {x y : Value} (h : Blk W c t #[x, y]) (u0 u1 : Value) : Blk ((W.setCell ⟨c, 0, none⟩ u0).setCell ⟨c, 1, none⟩ u1) c t #[u0, u1] := (h.set 0 u0).set 1 u1
theorem Blk.set11 {W : World} {b : Nat} {t : TypeId} {x0 x1 x2 x3 x4 x5 x6 x7 x8 x9 x10 : Value} (h : Blk W b t #[x0, x1, x2, x3, x4, x5, x6, x7, x8, x9, x10]) (v0 v1 v2 v3 v4 v5 v6 v7 v8 v9 v10 : Value) : Blk (((((((((((W.setCell ⟨b, 0, none⟩ v0).setCell ⟨b, 1, none⟩ v1).setCell ⟨b, 2, none⟩ v2).setCell ⟨b, 3, none⟩ v3).setCell ⟨b, 4, none⟩ v4).setCell ⟨b, 5, none⟩ v5).setCell ⟨b, 6, none⟩ v6).setCell ⟨b, 7, none⟩ v7).setCell ⟨b, 8, none⟩ v8).setCell ⟨b, 9, none⟩ v9).setCell ⟨b, 10, none⟩ v10) b t #[v0, v1, v2, v3, v4, v5, v6, v7, v8, v9, v10] := by
  have h0 := h.set 0 v0
  simp only [List.setIfInBounds_toArray, List.set_cons_zero] at h0
  have h1 := h0.set 1 v1
  simp only [List.setIfInBounds_toArray, List.set_cons_zero, List.set_cons_succ] at h1
  have h2 := h1.set 2 v2
  simp only [List.setIfInBounds_toArray, List.set_cons_zero, List.set_cons_succ] at h2
  have h3 := h2.set 3 v3
  simp only [List.setIfInBounds_toArray, List.set_cons_zero, List.set_cons_succ] at h3
  have h4 := h3.set 4 v4
  simp only [List.setIfInBounds_toArray, List.set_cons_zero, List.set_cons_succ] at h4
  have h5 := h4.set 5 v5
  simp only [List.setIfInBounds_toArray, List.set_cons_zero, List.set_cons_succ] at h5
  have h6 := h5.set 6 v6
  simp only [List.setIfInBounds_toArray, List.set_cons_zero, List.set_cons_succ] at h6
  have h7 := h6.set 7 v7
  simp only [List.setIfInBounds_toArray, List.set_cons_zero, List.set_cons_succ] at h7
  have h8 := h7.set 8 v8
  simp only [List.setIfInBounds_toArray, List.set_cons_zero, List.set_cons_succ] at h8
  have h9 := h8.set 9 v9
  simp only [List.setIfInBounds_toArray, List.set_cons_zero, List.set_cons_succ] at h9
  have h10 := h9.set 10 v10
  simp only [List.setIfInBounds_toArray, List.set_cons_zero, List.set_cons_succ] at h10
  exact h10
theorem Blk.put11 {W : World} {b c : Nat} {t : TypeId} {cs : Array Value} (h : Blk W c t cs) (hne : c ≠ b) (v0 v1 v2 v3 v4 v5 v6 v7 v8 v9 v10 : Value) : Blk (((((((((((W.setCell ⟨b, 0, none⟩ v0).setCell ⟨b, 1, none⟩ v1).setCell ⟨b, 2, none⟩ v2).setCell ⟨b, 3, none⟩ v3).setCell ⟨b, 4, none⟩ v4).setCell ⟨b, 5, none⟩ v5).setCell ⟨b, 6, none⟩ v6).setCell ⟨b, 7, none⟩ v7).setCell ⟨b, 8, none⟩ v8).setCell ⟨b, 9, none⟩ v9).setCell ⟨b, 10, none⟩ v10) c t cs := by
  have h0 := h.put b 0 v0 hne
  have h1 := h0.put b 1 v1 hne
  have h2 := h1.put b 2 v2 hne
  have h3 := h2.put b 3 v3 hne
  have h4 := h3.put b 4 v4 hne
  have h5 := h4.put b 5 v5 hne
  have h6 := h5.put b 6 v6 hne
  have h7 := h6.put b 7 v7 hne
  have h8 := h7.put b 8 v8 hne
  have h9 := h8.put b 9 v9 hne
  have h10 := h9.put b 10 v10 hne
  exact h10
theorem below11 {B : Nat} {w W : World} {b : Nat} (h : Below B w W) (hb : B ≤ b) (v0 v1 v2 v3 v4 v5 v6 v7 v8 v9 v10 : Value) : Below B w (((((((((((W.setCell ⟨b, 0, none⟩ v0).setCell ⟨b, 1, none⟩ v1).setCell ⟨b, 2, none⟩ v2).setCell ⟨b, 3, none⟩ v3).setCell ⟨b, 4, none⟩ v4).setCell ⟨b, 5, none⟩ v5).setCell ⟨b, 6, none⟩ v6).setCell ⟨b, 7, none⟩ v7).setCell ⟨b, 8, none⟩ v8).setCell ⟨b, 9, none⟩ v9).setCell ⟨b, 10, none⟩ v10) := by
  have h0 := h.setCell (p := ⟨b, 0, none⟩) hb v0
  have h1 := h0.setCell (p := ⟨b, 1, none⟩) hb v1
  have h2 := h1.setCell (p := ⟨b, 2, none⟩) hb v2
  have h3 := h2.setCell (p := ⟨b, 3, none⟩) hb v3
  have h4 := h3.setCell (p := ⟨b, 4, none⟩) hb v4
  have h5 := h4.setCell (p := ⟨b, 5, none⟩) hb v5
  have h6 := h5.setCell (p := ⟨b, 6, none⟩) hb v6
  have h7 := h6.setCell (p := ⟨b, 7, none⟩) hb v7
  have h8 := h7.setCell (p := ⟨b, 8, none⟩) hb v8
  have h9 := h8.setCell (p := ⟨b, 9, none⟩) hb v9
  have h10 := h9.setCell (p := ⟨b, 10, none⟩) hb v10
  exact h10
theorem below2 {B : Nat} {w W : World} {c : Nat} (h : Below B w W) (hb : B ≤ c) (u0 u1 : Value) : Below B w ((W.setCell ⟨c, 0, none⟩ u0).setCell ⟨c, 1, none⟩ u1) :=
  (h.setCell (p := ⟨c, 0, none⟩) hb u0).setCell (p := ⟨c, 1, none⟩) hb u1
theorem row2 {W : World} {base c : Nat} {e : TypeId} {size : Nat} {v : Value} {n : Nat} {xs : List Value} (h : W.ownsRow base e size v n xs) (hb : c < base) (u0 u1 : Value) : ((W.setCell ⟨c, 0, none⟩ u0).setCell ⟨c, 1, none⟩ u1).ownsRow base e size v n xs := row_put (row_put h hb u0) hb u1
theorem row11 {W : World} {base b : Nat} {e : TypeId} {size : Nat} {v : Value} {n : Nat} {xs : List Value} (h : W.ownsRow base e size v n xs) (hb : b < base) (v0 v1 v2 v3 v4 v5 v6 v7 v8 v9 v10 : Value) : (((((((((((W.setCell ⟨b, 0, none⟩ v0).setCell ⟨b, 1, none⟩ v1).setCell ⟨b, 2, none⟩ v2).setCell ⟨b, 3, none⟩ v3).setCell ⟨b, 4, none⟩ v4).setCell ⟨b, 5, none⟩ v5).setCell ⟨b, 6, none⟩ v6).setCell ⟨b, 7, none⟩ v7).setCell ⟨b, 8, none⟩ v8).setCell ⟨b, 9, none⟩ v9).setCell ⟨b, 10, none⟩ v10).ownsRow base e size v n xs := by
  have h0 := row_put (i := 0) h hb v0
  have h1 := row_put (i := 1) h0 hb v1
  have h2 := row_put (i := 2) h1 hb v2
  have h3 := row_put (i := 3) h2 hb v3
  have h4 := row_put (i := 4) h3 hb v4
  have h5 := row_put (i := 5) h4 hb v5
  have h6 := row_put (i := 6) h5 hb v6
  have h7 := row_put (i := 7) h6 hb v7
  have h8 := row_put (i := 8) h7 hb v8
  have h9 := row_put (i := 9) h8 hb v9
  have h10 := row_put (i := 10) h9 hb v10
  exact h10
/-- A word and a fault stored into their boxes. -/
theorem both13 {W : World} {b c : Nat} {t r : TypeId} {x0 x1 x2 x3 x4 x5 x6 x7 x8 x9 x10 y0 y1 : Value} (h : Blk W b t #[x0, x1, x2, x3, x4, x5, x6, x7, x8, x9, x10]) (h' : Blk W c r #[y0, y1]) (hne : b ≠ c) (v0 v1 v2 v3 v4 v5 v6 v7 v8 v9 v10 u0 u1 : Value) :
    Blk (((((((((((((W.setCell ⟨b, 0, none⟩ v0).setCell ⟨b, 1, none⟩ v1).setCell ⟨b, 2, none⟩ v2).setCell ⟨b, 3, none⟩ v3).setCell ⟨b, 4, none⟩ v4).setCell ⟨b, 5, none⟩ v5).setCell ⟨b, 6, none⟩ v6).setCell ⟨b, 7, none⟩ v7).setCell ⟨b, 8, none⟩ v8).setCell ⟨b, 9, none⟩ v9).setCell ⟨b, 10, none⟩ v10).setCell ⟨c, 0, none⟩ u0).setCell ⟨c, 1, none⟩ u1) b t #[v0, v1, v2, v3, v4, v5, v6, v7, v8, v9, v10] ∧ Blk (((((((((((((W.setCell ⟨b, 0, none⟩ v0).setCell ⟨b, 1, none⟩ v1).setCell ⟨b, 2, none⟩ v2).setCell ⟨b, 3, none⟩ v3).setCell ⟨b, 4, none⟩ v4).setCell ⟨b, 5, none⟩ v5).setCell ⟨b, 6, none⟩ v6).setCell ⟨b, 7, none⟩ v7).setCell ⟨b, 8, none⟩ v8).setCell ⟨b, 9, none⟩ v9).setCell ⟨b, 10, none⟩ v10).setCell ⟨c, 0, none⟩ u0).setCell ⟨c, 1, none⟩ u1) c r #[u0, u1] :=
  ⟨(h.set11 v0 v1 v2 v3 v4 v5 v6 v7 v8 v9 v10).put2 hne u0 u1, (h'.put11 (Ne.symm hne) v0 v1 v2 v3 v4 v5 v6 v7 v8 v9 v10).set2 u0 u1⟩
end Go.Proofs.Ytbbmjnhbmcbehaa
