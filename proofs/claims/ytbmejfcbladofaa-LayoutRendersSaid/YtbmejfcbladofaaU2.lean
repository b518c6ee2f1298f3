/- Bytes are written to a page. -/
import Derived.Test.YtbmejfcbladofaaU1
import Derived.Test.YtbmejfcbladofaaShelf
import Derived.Deep.AppendSrc
namespace Go.Proofs.Ytbmejfcbladofaa
open Go.RowKit

def wrP (p : Pg) (s : ByteArray) : Pg := if (65536 : Int) - (p.tx.length : Int) < (s.size : Int) then { p with long := true } else { p with tx := p.tx ++ s.data.toList, col := p.col + s.size }
/-- Cells of the page's block are set. -/
theorem PgAt.set {lo PB tb sb : Nat} {p : Pg} {l : List Th} {tv rv fv : Value} {W : World} (h : PgAt lo PB tb sb p l tv rv fv W) (j : Nat) (u : Value) {p' : Pg} {rv' fv' : Value} {l' : List Th} (hb : (#[Value.int .i64 p.wd, tv, .int .i64 p.col, .int .i64 (p.br : Int), .bool p.long, rv, fv]).setIfInBounds j u = #[.int .i64 p'.wd, tv, .int .i64 p'.col, .int .i64 (p'.br : Int), .bool p'.long, rv', fv']) (ht : p'.tx = p.tx) (hth : ThAt W tb rv' l') (hsr : SrAt W sb fv' l') :
    PgAt lo PB tb sb p' l' tv rv' fv' (W.setCell ⟨PB, j, none⟩ u) ∧ Turn PB tv tv W (W.setCell ⟨PB, j, none⟩ u) := by
  have hk : ∀ b, b ≠ PB → (W.setCell ⟨PB, j, none⟩ u).heap[b]? = W.heap[b]? := fun b hb => Below.heap_setCell W ⟨PB, j, none⟩ u b hb
  have hs : (W.setCell ⟨PB, j, none⟩ u).heap.size = W.heap.size := by simp [World.setCell]
  refine ⟨⟨by rw [blk_set h.blk j u, hb], ?_, hth.keep (hk tb h.n4), hsr.keep (hk sb h.n5), h.n1, h.n2, h.n3, h.n4, h.n5, by rw [hs]; exact h.lt1, by rw [hs]; exact h.lt2, h.lop⟩, ⟨rfl, rfl, rfl, Nat.le_of_eq hs.symm, fun b _ hb _ => hk b hb, fun _ h => .inl h⟩⟩
  rw [ht]
  refine ⟨h.row.1, ?_⟩
  rcases h.row.2 with h0 | ⟨g, cap, cur, hv, hbg, hg, rest⟩
  · exact .inl h0
  · exact .inr ⟨g, cap, cur, hv, hbg, (hk g (fun e => h.n1 (by rw [hv, ← e]; rfl))).trans hg, rest⟩
theorem PgAt.below {lo PB tb sb : Nat} {p : Pg} {l : List Th} {tv rv fv : Value} {W W' : World} (h : PgAt lo PB tb sb p l tv rv fv W) (hb : Below W.heap.size W W') : PgAt lo PB tb sb p l tv rv fv W' := by
  have hp := (Array.getElem?_eq_some_iff.1 h.blk).1
  have hs := hb.size
  refine ⟨(hb.block PB hp).trans h.blk, ⟨h.row.1, ?_⟩, h.th.keep (hb.block tb h.lt1), h.sr.keep (hb.block sb h.lt2), h.n1, h.n2, h.n3, h.n4, h.n5, by have := h.lt1; omega, by have := h.lt2; omega, h.lop⟩
  rcases h.row.2 with h0 | ⟨g, cap, cur, hv, hbg, hg, rest⟩
  · exact .inl h0
  · exact .inr ⟨g, cap, cur, hv, hbg, (hb.block g (Array.getElem?_eq_some_iff.1 hg).1).trans hg, rest⟩
theorem info5 : (Try.prog.info? 5).map (fun i => (i.zero, i.size, i.bytes)) = some (some (.int .u8 0), 1, 1) := by kernel_rfl
theorem bytesU_app (a b : List UInt8) : bytesU (a ++ b) = bytesU a ++ bytesU b := by simp [bytesU]
/-- A string's bytes put behind a row: and where the new row lies. -/
theorem app_str (ty : TypeId) (lo : Nat) (v : Value) (n : Nat) (xs : List Value) (s : ByteArray) (w : World) (hown : w.ownsRow lo 5 1 v n xs) (hn : n + s.size ≤ 1000000) (hlo : lo ≤ w.heap.size) :
    ∃ v' w', (Builtin.append_ #[40, 9] ty #[v, .string s]).run Try.prog w = .ok v' w' ∧ w'.ownsRow lo 5 1 v' (n + s.size) (xs ++ Lib.strCells s) ∧ w.grownBy w' v.ownBlock ∧ (v'.ownBlock = v.ownBlock ∨ v'.ownBlock = some w.heap.size) := by
  obtain ⟨i0, hinf, hz0, hz1, hz2⟩ := info_parts info5
  obtain ⟨v', w', hr, h2, h3, h4⟩ := Lib.run_append_own_string (P := Try.prog) w lo 40 9 ty 5 i0 Try.underlying40 Try.underlying9 hinf hz0 hz1 hz2 v n xs hown s (by unfold maxLen; omega) (by omega) hlo
  refine ⟨v', w', hr, h2, h3, ?_⟩
  have hxl : xs.length = n := by simpa using hown.1
  rcases hown.2 with ⟨rfl, rfl⟩ | ⟨g, cap, cur, rfl, hbg, hg, hnc, hcm, hcs, htake⟩
  · by_cases hm : s.size = 0
    · have := h4.2 ⟨rfl, hm⟩
      rw [this]; exact .inl rfl
    · have hr2 := Go.run_append_nil_string (P := Try.prog) w 40 9 ty 5 i0 (.int .u8 0) Try.underlying40 Try.underlying9 hinf hz0 s (by omega) (by omega) (by rw [hz2]; omega)
      rw [hr] at hr2
      obtain ⟨rfl, _⟩ := Result.ok.inj hr2
      exact .inr rfl
  · by_cases hroom : n + s.size ≤ cap
    · have hr2 := Lib.run_append_room_string (P := Try.prog) w 40 9 ty 5 i0 Try.underlying40 Try.underlying9 hinf hz1 g n cap cur hg s hroom (by omega)
      rw [hr] at hr2
      obtain ⟨rfl, _⟩ := Result.ok.inj hr2
      exact .inl rfl
    · have holds : ∀ j u, xs[j]? = some u → w.cell? ((⟨g, 0, none⟩ : Addr).add j) = some u := hown.cells (g := g) rfl
      have hr2 := Lib.run_append_grow_string (P := Try.prog) w 40 9 ty 5 i0 (.int .u8 0) Try.underlying40 Try.underlying9 hinf hz0 ⟨g, 0, none⟩ n cap xs (by rw [hz1]; simpa using hxl) holds s (by omega) (by omega) (by rw [hz2]; exact growslice_fits (by omega) (by omega))
      rw [hr] at hr2
      obtain ⟨rfl, _⟩ := Result.ok.inj hr2
      exact .inr rfl
/-- The same at the operation. -/
theorem wpList_app_str {ops : Array Oper} {rest : List Oper} {o : Oper} {a : Act} {Q : Exit → Act → World → Prop} {w : World} (hgd : o.guard = none) (sl x : Operand) (ho : o.op = .call { callee := .builtin .append, args := #[sl, x], argTypes := #[40, 9] }) (lo : Nat) (v : Value) (n : Nat) (xs : List Value) (hs : a.eval sl = v) (hown : w.ownsRow lo 5 1 v n xs) (s : ByteArray) (hx : a.eval x = .string s) (hn : n + s.size ≤ 1000000) (hlo : lo ≤ w.heap.size)
    (h : ∀ v' w', w'.ownsRow lo 5 1 v' (n + s.size) (xs ++ Lib.strCells s) → w.grownBy w' v.ownBlock → (v'.ownBlock = v.ownBlock ∨ v'.ownBlock = some w.heap.size) → wpList Try.prog ops Q rest (a.put o.dst v') w') : wpList Try.prog ops Q (o :: rest) a w := by
  refine wpList_plain hgd fun K hK => ?_
  obtain ⟨v', w', hr, h2, h3, h4⟩ := app_str o.type lo v n xs s w hown hn hlo
  unfold Oper.wp execOp
  simp only [ho, resolve, invoke, builtin, Sem.run_bind, Sem.run_pure, Result.andThen_ok, List.map_toArray, List.map_cons, List.map_nil, hs, hx, hr]
  exact hK _ _ (h v' w' h2 h3 h4)
/-- The text has grown. -/
theorem PgAt.grown {lo PB tb sb : Nat} {p : Pg} {l : List Th} {tv rv fv : Value} {W w1 : World} (h : PgAt lo PB tb sb p l tv rv fv W) {v' : Value} {tx' : List UInt8} (hg : W.grownBy w1 tv.ownBlock) (hown : w1.ownsRow lo 5 1 v' tx'.length (bytesU tx')) (hat : v'.ownBlock = tv.ownBlock ∨ v'.ownBlock = some W.heap.size) :
    PgAt lo PB tb sb { p with tx := tx' } l v' rv fv (w1.setCell ⟨PB, 1, none⟩ v') ∧ Turn PB tv v' W (w1.setCell ⟨PB, 1, none⟩ v') ∧ w1.heap[PB]? = W.heap[PB]? := by
  have hp := (Array.getElem?_eq_some_iff.1 h.blk).1
  have hgs := hg.size
  have hne : ∀ b, b < W.heap.size → tv.ownBlock ≠ some b → v'.ownBlock ≠ some b := fun b hb h1 e => by
    rcases hat with h' | h'
    · exact h1 (by rw [← h']; exact e)
    · rw [h'] at e; simp at e; omega
  have hw : ∀ b, b < W.heap.size → tv.ownBlock ≠ some b → w1.heap[b]? = W.heap[b]? := fun b hb h1 => hg.block b hb (fun e => h1 e.symm)
  have hk : ∀ b, b ≠ PB → (w1.setCell ⟨PB, 1, none⟩ v').heap[b]? = w1.heap[b]? := fun b hb => Below.heap_setCell w1 ⟨PB, 1, none⟩ v' b hb
  have hs : (w1.setCell ⟨PB, 1, none⟩ v').heap.size = w1.heap.size := by simp [World.setCell]
  have hb1 : w1.heap[PB]? = some (.cells #[.int .i64 p.wd, tv, .int .i64 p.col, .int .i64 (p.br : Int), .bool p.long, rv, fv] 69 (0, 0)) := (hw PB hp h.n1).trans h.blk
  refine ⟨⟨?_, ⟨hown.1, ?_⟩, h.th.keep ((hk tb h.n4).trans (hw tb h.lt1 h.n2)), h.sr.keep ((hk sb h.n5).trans (hw sb h.lt2 h.n3)), hne PB hp h.n1, hne tb h.lt1 h.n2, hne sb h.lt2 h.n3, h.n4, h.n5, by rw [hs]; have := h.lt1; omega, by rw [hs]; have := h.lt2; omega, h.lop⟩, ⟨hg.os, hg.tape, hg.output, by omega, fun b hb h1 h2 => (hk b h1).trans (hw b hb h2), fun b hb => ?_⟩, hw PB hp h.n1⟩
  · rw [blk_set hb1 1 v']; rfl
  · rcases hown.2 with h0 | ⟨g, cap, cur, hv, hbg, hg', rest⟩
    · exact .inl h0
    · exact .inr ⟨g, cap, cur, hv, hbg, (hk g (fun e => hne PB hp h.n1 (by rw [hv, ← e]; rfl))).trans hg', rest⟩
  · rcases hat with h' | h'
    · exact .inl (by rw [← h']; exact hb)
    · rw [h'] at hb; simp at hb; exact .inr (by omega)
set_option maxRecDepth 100000 in
set_option maxHeartbeats 4000000 in
theorem write_any (lo PB tb sb : Nat) (p : Pg) (l : List Th) (tv rv fv : Value) (s : ByteArray) (w : World) (h : PgAt lo PB tb sb p l tv rv fv w) (ht : p.tx.length ≤ 65536) (hc0 : 0 ≤ p.col) (hc1 : p.col ≤ 1000000) (hs : s.size ≤ 1000000000000) (hlo : lo ≤ w.heap.size) :
    Calls Try.prog 72 #[.pointer (some ⟨PB, 0, none⟩), .string s] w fun e w' => (∃ r, e = .returned r) ∧ ∃ tv', PgAt lo PB tb sb (wrP p s) l tv' rv fv w' ∧ Turn PB tv tv' w w' := by
  obtain ⟨i0, hinf, hz0, hz1, hz2⟩ := info_parts info5
  obtain ⟨ta, tc, rfl⟩ := row_slice h.row
  obtain ⟨c1, f1⟩ := blk_cell h.blk (j := 1) rfl
  obtain ⟨c2, f2⟩ := blk_cell h.blk (j := 2) rfl
  obtain ⟨c4, f4⟩ := blk_cell h.blk (j := 4) rfl
  have hrow := h.row
  have hpl := (Array.getElem?_eq_some_iff.1 h.blk).1
  by_cases hlong : (65536 : Int) - (p.tx.length : Int) < (s.size : Int)
  · have HP := h.set 4 (.bool true) (p' := { p with long := true }) (rv' := rv) (fv' := fv) (l' := l) rfl rfl h.th h.sr
    have HE : Hid (wrP p s = { p with long := true }) := by show _ = _; unfold wrP; rw [if_pos hlong]
    have H2 : Hid _ := HP
    clear HP h hrow
    go_enter Try.func72, Try.ntmps72
    go_wp2
    first | go_end0 | refine bodyPost_ret (results_none rfl _ _ _) rfl ?_
    rw [HE.out]
    exact ⟨⟨_, rfl⟩, _, H2.out.1, H2.out.2⟩
  · have hlong' : decide ((65536 : Int) - (p.tx.length : Int) < (s.size : Int)) = false := by simpa using hlong
    have HE : Hid (wrP p s = { p with tx := p.tx ++ s.data.toList, col := p.col + s.size }) := by show _ = _; unfold wrP; rw [if_neg hlong]
    go_enter Try.func72, Try.ntmps72
    go_wp2_with (at_builtin; refine wpList_app_str rfl _ _ rfl lo _ _ _ rfl hrow s rfl ?ca1 hlo ?_)
    case ca1 => omega
    intro v' w1 hown hgrow hat
    have hlen : (p.tx ++ s.data.toList).length = p.tx.length + s.size := by rw [List.length_append]; rfl
    obtain ⟨hP1, hT1, hb1⟩ := h.grown (tx' := p.tx ++ s.data.toList) hgrow (by rw [hlen, bytesU_app]; exact hown) hat
    have hPw := hb1.trans h.blk
    obtain ⟨d1, e1⟩ := blk_cell hPw (j := 1) rfl
    obtain ⟨W2, hW2⟩ : ∃ W2, w1.setCell ⟨PB, 1, none⟩ v' = W2 := ⟨_, rfl⟩
    rw [hW2] at hP1 hT1
    obtain ⟨g2, k2⟩ := blk_cell hP1.blk (j := 2) rfl
    have hP2 := hP1.set 2 (.int .i64 (p.col + (s.size : Int))) (p' := { p with tx := p.tx ++ s.data.toList, col := p.col + s.size }) (rv' := rv) (fv' := fv) (l' := l) rfl rfl hP1.th hP1.sr
    have H2 : Hid _ := hP2
    have HT : Hid _ := hT1
    obtain ⟨va, vc, rfl⟩ := row_slice hown
    clear hP2 hP1 hT1 hown hgrow hat h hrow hPw hb1 c1 c2 c4 f1 f2 f4
    go_wp2
    first | go_end0 | refine bodyPost_ret (results_none rfl _ _ _) rfl ?_
    rw [HE.out]
    exact ⟨⟨_, rfl⟩, _, H2.out.1, HT.out.trans H2.out.2⟩
end Go.Proofs.Ytbmejfcbladofaa
