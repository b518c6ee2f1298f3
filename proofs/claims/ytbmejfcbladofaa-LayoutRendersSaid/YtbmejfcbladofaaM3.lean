/- The document's own writer: in memory; bytes are put. -/
import Derived.Test.YtbmejfcbladofaaM2
namespace Go.Proofs.Ytbmejfcbladofaa
open Go.RowKit

structure WrAt (lo WB : Nat) (w : Wr) (wd : Int) (lv tv : Value) (ls : List Dc) (W : World) : Prop where
  blk : W.heap[WB]? = some (.cells #[lv, .int .i64 (w.pos : Int), tv, .int .i64 w.col, .int .i64 wd, .int .i64 (w.br : Int), .bool w.long] 46 (0, 0))
  row : W.ownsRow lo 5 1 tv w.out.length (bytesU w.out)
  lrow : ∃ lo', W.ownsRow lo' 24 4 lv ls.length (lfV ls)
  n1 : tv.ownBlock ≠ some WB
  n2 : lv.ownBlock ≠ some WB
  n3 : ∀ b, lv.ownBlock = some b → tv.ownBlock ≠ some b
theorem WrAt.set {lo WB : Nat} {w w' : Wr} {wd : Int} {lv tv : Value} {ls : List Dc} {W : World} (h : WrAt lo WB w wd lv tv ls W) (j : Nat) (u : Value) (hb : (#[lv, Value.int .i64 (w.pos : Int), tv, .int .i64 w.col, .int .i64 wd, .int .i64 (w.br : Int), .bool w.long]).setIfInBounds j u = #[lv, .int .i64 (w'.pos : Int), tv, .int .i64 w'.col, .int .i64 wd, .int .i64 (w'.br : Int), .bool w'.long]) (ho : w'.out = w.out) :
    WrAt lo WB w' wd lv tv ls (W.setCell ⟨WB, j, none⟩ u) ∧ Turn WB tv tv W (W.setCell ⟨WB, j, none⟩ u) := by
  have hk : ∀ b, b ≠ WB → (W.setCell ⟨WB, j, none⟩ u).heap[b]? = W.heap[b]? := fun b hb => Below.heap_setCell W ⟨WB, j, none⟩ u b hb
  have hs : (W.setCell ⟨WB, j, none⟩ u).heap.size = W.heap.size := by simp [World.setCell]
  obtain ⟨lo', hl⟩ := h.lrow
  refine ⟨⟨by rw [blk_set h.blk j u, hb], by rw [ho]; exact row_keep h.row (fun b e => hk b (fun e2 => h.n1 (by rw [← e2]; exact e))), ⟨lo', row_keep hl (fun b e => hk b (fun e2 => h.n2 (by rw [← e2]; exact e)))⟩, h.n1, h.n2, h.n3⟩, ⟨rfl, rfl, rfl, Nat.le_of_eq hs.symm, fun b _ hb _ => hk b hb, fun _ h => .inl h⟩⟩
theorem WrAt.below {lo WB : Nat} {w : Wr} {wd : Int} {lv tv : Value} {ls : List Dc} {W W' : World} (h : WrAt lo WB w wd lv tv ls W) (hb : Below W.heap.size W W') : WrAt lo WB w wd lv tv ls W' := by
  obtain ⟨lo', hl⟩ := h.lrow
  exact ⟨(hb.block WB (Array.getElem?_eq_some_iff.1 h.blk).1).trans h.blk, row_below h.row hb, ⟨lo', row_below hl hb⟩, h.n1, h.n2, h.n3⟩
/-- The text has grown. -/
theorem WrAt.grown {lo WB : Nat} {w : Wr} {wd : Int} {lv tv : Value} {ls : List Dc} {W w1 : World} (h : WrAt lo WB w wd lv tv ls W) {v' : Value} {tx' : List UInt8} (hg : W.grownBy w1 tv.ownBlock) (hown : w1.ownsRow lo 5 1 v' tx'.length (bytesU tx')) (hat : v'.ownBlock = tv.ownBlock ∨ v'.ownBlock = some W.heap.size) :
    WrAt lo WB { w with out := tx' } wd lv v' ls (w1.setCell ⟨WB, 2, none⟩ v') ∧ Turn WB tv v' W (w1.setCell ⟨WB, 2, none⟩ v') ∧ w1.heap[WB]? = W.heap[WB]? := by
  have hp := (Array.getElem?_eq_some_iff.1 h.blk).1
  have hgs := hg.size
  obtain ⟨lo', hl⟩ := h.lrow
  have hne : ∀ b, b < W.heap.size → tv.ownBlock ≠ some b → v'.ownBlock ≠ some b := fun b hb h1 e => by
    rcases hat with h' | h'
    · exact h1 (by rw [← h']; exact e)
    · rw [h'] at e; simp at e; omega
  have hw : ∀ b, b < W.heap.size → tv.ownBlock ≠ some b → w1.heap[b]? = W.heap[b]? := fun b hb h1 => hg.block b hb (fun e => h1 e.symm)
  have hk : ∀ b, b ≠ WB → (w1.setCell ⟨WB, 2, none⟩ v').heap[b]? = w1.heap[b]? := fun b hb => Below.heap_setCell w1 ⟨WB, 2, none⟩ v' b hb
  have hs : (w1.setCell ⟨WB, 2, none⟩ v').heap.size = w1.heap.size := by simp [World.setCell]
  have hb1 : w1.heap[WB]? = _ := (hw WB hp h.n1).trans h.blk
  refine ⟨⟨?_, row_keep hown (fun b e => hk b (fun e2 => hne WB hp h.n1 (by rw [← e2]; exact e))), ⟨lo', row_keep hl (fun b e => (hk b (fun e2 => h.n2 (by rw [← e2]; exact e))).trans (hw b (hl.lt b e).2 (h.n3 b e)))⟩, hne WB hp h.n1, h.n2, fun b e => hne b (hl.lt b e).2 (h.n3 b e)⟩, ⟨hg.os, hg.tape, hg.output, by omega, fun b hb h1 h2 => (hk b h1).trans (hw b hb h2), fun b hb => ?_⟩, hw WB hp h.n1⟩
  · rw [blk_set hb1 2 v']; rfl
  · rcases hat with h' | h'
    · exact .inl (by rw [← h']; exact hb)
    · rw [h'] at hb; simp at hb; exact .inr (by omega)
set_option maxRecDepth 100000 in
set_option maxHeartbeats 4000000 in
theorem rput_any (lo WB : Nat) (wt : Wr) (wd : Int) (lv tv : Value) (ls : List Dc) (s : ByteArray) (w : World) (h : WrAt lo WB wt wd lv tv ls w) (ht : wt.out.length ≤ 65536) (hc0 : 0 ≤ wt.col) (hc1 : wt.col ≤ 1000000) (hs : s.size ≤ 1000000) (hlo : lo ≤ w.heap.size) :
    Calls Try.prog 47 #[.pointer (some ⟨WB, 0, none⟩), .string s] w fun e w' => (∃ r, e = .returned r) ∧ ∃ tv', WrAt lo WB (rput wt s) wd lv tv' ls w' ∧ Turn WB tv tv' w w' := by
  obtain ⟨i0, hinf, hz0, hz1, hz2⟩ := info_parts info5
  obtain ⟨ta, tc, rfl⟩ := row_slice h.row
  obtain ⟨c2, f2⟩ := blk_cell h.blk (j := 2) rfl
  obtain ⟨c3, f3⟩ := blk_cell h.blk (j := 3) rfl
  obtain ⟨c6, f6⟩ := blk_cell h.blk (j := 6) rfl
  have hrow := h.row
  by_cases hlong : 65536 < wt.out.length + s.size
  · have hlongI : (65536 : Int) < (wt.out.length : Int) + s.size := by omega
    have HP := h.set 6 (.bool true) (w' := { wt with long := true }) rfl rfl
    have HE : Hid (rput wt s = { wt with long := true }) := by show _ = _; unfold rput; rw [if_pos hlong]
    have H2 : Hid _ := HP
    clear HP h hrow hlong
    go_enter Try.func47, Try.ntmps47
    go_wp2
    first | go_end0 | refine bodyPost_ret (results_none rfl _ _ _) rfl ?_
    rw [HE.out]
    exact ⟨⟨_, rfl⟩, _, H2.out.1, H2.out.2⟩
  · have hlongI : (wt.out.length : Int) + s.size ≤ 65536 := by omega
    have hlongD : decide ((65536 : Int) < (wt.out.length : Int) + s.size) = false := by simp; omega
    have HE : Hid (rput wt s = { wt with out := wt.out ++ s.data.toList, col := wt.col + s.size }) := by show _ = _; unfold rput; rw [if_neg hlong]
    clear hlong
    go_enter Try.func47, Try.ntmps47
    go_wp2_with (at_builtin; refine wpList_app_str rfl _ _ rfl lo _ _ _ rfl hrow s rfl ?ca1 hlo ?_)
    case ca1 => omega
    intro v' w1 hown hgrow hat
    have hlen : (wt.out ++ s.data.toList).length = wt.out.length + s.size := by rw [List.length_append]; rfl
    obtain ⟨hP1, hT1, hb1⟩ := h.grown (tx' := wt.out ++ s.data.toList) hgrow (by rw [hlen, bytesU_app]; exact hown) hat
    have hPw := hb1.trans h.blk
    obtain ⟨d2, e2⟩ := blk_cell hPw (j := 2) rfl
    obtain ⟨W2, hW2⟩ : ∃ W2, w1.setCell ⟨WB, 2, none⟩ v' = W2 := ⟨_, rfl⟩
    rw [hW2] at hP1 hT1
    obtain ⟨g3, k3⟩ := blk_cell hP1.blk (j := 3) rfl
    have hP2 := hP1.set 3 (.int .i64 (wt.col + (s.size : Int))) (w' := { wt with out := wt.out ++ s.data.toList, col := wt.col + s.size }) rfl rfl
    have H2 : Hid _ := hP2
    have HT : Hid _ := hT1
    obtain ⟨va, vc, rfl⟩ := row_slice hown
    clear hP2 hP1 hT1 hown hgrow hat h hrow hPw hb1 c2 c3 c6 f2 f3 f6
    go_wp2
    first | go_end0 | refine bodyPost_ret (results_none rfl _ _ _) rfl ?_
    rw [HE.out]
    exact ⟨⟨_, rfl⟩, _, H2.out.1, HT.out.trans H2.out.2⟩
end Go.Proofs.Ytbmejfcbladofaa
