/- Things are cut off what is still to be written. -/
import Derived.Test.YtbmejfcbladofaaU3
import Derived.RegionTactic
namespace Go.Proofs.Ytbmejfcbladofaa
open Go.RowKit

/-- What is still to be written is fewer things. -/
theorem PgAt.cut {lo PB tb sb : Nat} {p : Pg} {l l' : List Th} {tv rv fv : Value} {W : World} (h : PgAt lo PB tb sb p l tv rv fv W) (rv' fv' : Value) (hth : ThAt W tb rv' l') (hsr : SrAt W sb fv' l') :
    PgAt lo PB tb sb p l' tv rv' fv' ((W.setCell ⟨PB, 5, none⟩ rv').setCell ⟨PB, 6, none⟩ fv').drew ∧ Turn PB tv tv W ((W.setCell ⟨PB, 5, none⟩ rv').setCell ⟨PB, 6, none⟩ fv').drew := by
  have hk1 : ∀ b, b ≠ PB → (W.setCell ⟨PB, 5, none⟩ rv').heap[b]? = W.heap[b]? := fun b hb => Below.heap_setCell W ⟨PB, 5, none⟩ rv' b hb
  have hk : ∀ b, b ≠ PB → ((W.setCell ⟨PB, 5, none⟩ rv').setCell ⟨PB, 6, none⟩ fv').drew.heap[b]? = W.heap[b]? := fun b hb => (Below.heap_setCell (W.setCell ⟨PB, 5, none⟩ rv') ⟨PB, 6, none⟩ fv' b hb).trans (hk1 b hb)
  have hs : ((W.setCell ⟨PB, 5, none⟩ rv').setCell ⟨PB, 6, none⟩ fv').drew.heap.size = W.heap.size := by simp [World.setCell]
  have hb := blk_set (blk_set h.blk 5 rv') 6 fv'
  refine ⟨⟨hb, ⟨h.row.1, ?_⟩, hth.keep (hk tb h.n4), hsr.keep (hk sb h.n5), h.n1, h.n2, h.n3, h.n4, h.n5, by rw [hs]; exact h.lt1, by rw [hs]; exact h.lt2, h.lop⟩, ⟨rfl, rfl, rfl, Nat.le_of_eq hs.symm, fun b _ hb _ => hk b hb, fun _ h => .inl h⟩⟩
  rcases h.row.2 with h0 | ⟨g, cap, cur, hv, hbg, hg, rest⟩
  · exact .inl h0
  · exact .inr ⟨g, cap, cur, hv, hbg, (hk g (fun e => h.n1 (by rw [hv, ← e]; rfl))).trans hg, rest⟩
theorem SrAt.drop {W : World} {sb o c : Nat} {l : List Th} (h : SrAt W sb (.slice (some ⟨sb, o, none⟩) (l.length + 1) c) l) {n : Nat} (hn : n ≤ l.length) : SrAt W sb (.slice (some ⟨sb, o + n * 3, none⟩) (l.length + 1 - n) (c - n)) (l.drop n) := by
  obtain ⟨o', c', e, hc, h⟩ := h
  cases e
  refine ⟨o + n * 3, c - n, by rw [List.length_drop]; congr 1; omega, by rw [List.length_drop]; omega, fun j hj => ?_⟩
  rw [List.length_drop] at hj
  have := h (n + j) (by omega)
  rw [List.drop_drop, show o + n * 3 + j * 3 = o + (n + j) * 3 by omega]
  exact this
theorem ThAt.drop {W : World} {tb o c : Nat} {l : List Th} (h : ThAt W tb (.slice (some ⟨tb, o, none⟩) l.length c) l) {n : Nat} (hn : n ≤ l.length) (u : Option Addr) (hu : n = c ∨ u = some ⟨tb, o + n, none⟩) : ThAt W tb (.slice u (l.length - n) (c - n)) (l.drop n) := by
  obtain ⟨a', c', e, hc, h⟩ := h
  cases e
  refine ⟨u, c - n, by rw [List.length_drop], by rw [List.length_drop]; omega, fun j t hj => ?_⟩
  have hjl := (List.getElem?_eq_some_iff.1 hj).1
  rw [List.length_drop] at hjl
  rw [List.getElem?_drop] at hj
  obtain ⟨o', e, hcell⟩ := h (n + j) t hj
  cases e
  rcases hu with hu | hu
  · omega
  · exact ⟨o + n, hu, by rw [show o + n + j = o + (n + j) by omega]; exact hcell⟩
theorem ThAt.take {W : World} {tb o c : Nat} {l : List Th} (h : ThAt W tb (.slice (some ⟨tb, o, none⟩) l.length c) l) {n : Nat} (hn : n ≤ l.length) : ThAt W tb (.slice (some ⟨tb, o, none⟩) n n) (l.take n) := by
  obtain ⟨a', c', e, hc, h⟩ := h
  cases e
  have hlt : (l.take n).length = n := by rw [List.length_take]; omega
  refine ⟨_, n, by rw [hlt], by omega, fun j t hj => ?_⟩
  have hjl := (List.getElem?_eq_some_iff.1 hj).1
  rw [hlt] at hjl
  rw [List.getElem?_take_of_lt hjl] at hj
  exact h j t hj
set_option maxRecDepth 100000 in
set_option maxHeartbeats 8000000 in
theorem cut_any (lo PB tb sb : Nat) (p : Pg) (l : List Th) (tv rv fv : Value) (n : Nat) (w : World) (h : PgAt lo PB tb sb p l tv rv fv w) (hn : n ≤ l.length) (hl0 : 0 < l.length) :
    Calls Try.prog 46 #[.pointer (some ⟨PB, 0, none⟩), .int .i64 (n : Int)] w fun e w' => (∃ v rv' fv', e = .returned v ∧ ThAt w' tb v (l.take n) ∧ PgAt lo PB tb sb p (l.drop n) tv rv' fv' w') ∧ Turn PB tv tv w w' := by
  obtain ⟨a, c, rfl, hc, hth⟩ := h.th
  obtain ⟨o, c', rfl, hc', hsr⟩ := h.sr
  obtain ⟨oo, rfl, _⟩ := hth 0 l[0] (by simp)
  obtain ⟨c5, f5⟩ := blk_cell h.blk (j := 5) rfl
  obtain ⟨c6, f6⟩ := blk_cell h.blk (j := 6) rfl
  have HT : Hid _ := fun u hu => h.th.drop hn u hu
  have HTk : Hid _ := h.th.take hn
  have HS : Hid _ := h.sr.drop hn
  have HC : Hid _ := fun rv' (hth : ThAt w tb rv' (l.drop n)) => h.cut rv' _ hth HS.out
  have hn4 : Hid _ := h.n4
  have h1 : n ≤ c := by omega
  have hnI : (n : Int) ≤ l.length := by omega
  have hne : ¬ n = c' := by omega
  have h4 : n ≤ c' := by omega
  have h5 : n ≤ l.length + 1 := by omega
  have HF : Hid (∀ (u : Option Addr), (n = c ∨ u = some ⟨tb, oo + n, none⟩) → ∃ rv' fv', ThAt ((w.setCell ⟨PB, 5, none⟩ (.slice u (l.length - n) (c - n))).setCell ⟨PB, 6, none⟩ (.slice (some ⟨sb, o + n * 3, none⟩) (l.length + 1 - n) (c' - n))).drew tb (.slice (some ⟨tb, oo, none⟩) n n) (l.take n) ∧ PgAt lo PB tb sb p (l.drop n) tv rv' fv' ((w.setCell ⟨PB, 5, none⟩ (.slice u (l.length - n) (c - n))).setCell ⟨PB, 6, none⟩ (.slice (some ⟨sb, o + n * 3, none⟩) (l.length + 1 - n) (c' - n))).drew ∧ Turn PB tv tv w ((w.setCell ⟨PB, 5, none⟩ (.slice u (l.length - n) (c - n))).setCell ⟨PB, 6, none⟩ (.slice (some ⟨sb, o + n * 3, none⟩) (l.length + 1 - n) (c' - n))).drew) := fun u hu => by
    have := HC.out _ (HT.out u hu)
    exact ⟨_, _, ThAt.keep HTk.out ((Below.heap_setCell _ ⟨PB, 6, none⟩ _ tb hn4.out).trans (Below.heap_setCell _ ⟨PB, 5, none⟩ _ tb hn4.out)), this.1, this.2⟩
  clear h hth hsr
  go_enter Try.func46, Try.ntmps46
  go_wp2
  go_region
  all_goals go_wp2
  all_goals go_ret
  · obtain ⟨rv', fv', q1, q2, q3⟩ := HF.out (some ⟨tb, oo, none⟩) (.inl (by omega))
    first | rw [Nat.sub_self] at q1 q2 q3 | rw [show c - n = 0 by omega] at q1 q2 q3 | skip
    exact ⟨⟨_, rfl, q1, rv', fv', q2⟩, q3⟩
  · obtain ⟨rv', fv', q1, q2, q3⟩ := HF.out (some ⟨tb, oo + n, none⟩) (.inr rfl)
    exact ⟨⟨_, rfl, q1, rv', fv', q2⟩, q3⟩
end Go.Proofs.Ytbmejfcbladofaa
