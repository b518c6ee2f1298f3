/- Things that are owned are things that are read; what laying out tells. -/
import Derived.Test.YtbmejfcbladofaaV3
namespace Go.Proofs.Ytbmejfcbladofaa
open Go.RowKit

theorem own_th {W : World} {lo : Nat} {v : Value} {l : List Th} (h : W.ownsRow lo 88 1 v l.length (thsV l)) (h0 : 0 < W.heap.size) : ∃ tb, tb < W.heap.size ∧ ThAt W tb v l := by
  rcases h.2 with ⟨rfl, hn⟩ | ⟨g, cap, cur, rfl, _, hg, hcap, _, hcs, ht⟩
  · obtain rfl : l = [] := List.length_eq_zero_iff.1 hn
    exact ⟨0, h0, none, 0, rfl, by simp, fun j t hj => by simp at hj⟩
  · refine ⟨g, (Array.getElem?_eq_some_iff.1 hg).1, some ⟨g, 0, none⟩, cap, rfl, hcap, fun j t hj => ⟨0, rfl, ?_⟩⟩
    have hjl := (List.getElem?_eq_some_iff.1 hj).1
    have h1 : (cur.toList.take (l.length * 1))[j]? = some t.val := by rw [ht]; simp [thsV, hj]
    rw [List.getElem?_take_of_lt (by omega), Array.getElem?_toList] at h1
    rw [Nat.zero_add]
    exact (blk_cell hg h1).1
/-- The page that laying out fills. -/
def layP (d : Dc) (wd : Int) : Pg := (fillN (thg d 0).length ⟨max wd 0, [], 0, 0, false⟩ (thg d 0)).1
theorem Turn.below_nil {PB : Nat} {tv' : Value} {X Y : World} {n : Nat} (h : Turn PB (.slice none 0 0) tv' X Y) (hn : n ≤ PB) (hx : n ≤ X.heap.size) : Below n X Y := ⟨h.os, h.tape, h.output, h.size, fun b hb => h.keep b (by omega) (by omega) (by simp [Value.ownBlock])⟩
end Go.Proofs.Ytbmejfcbladofaa
