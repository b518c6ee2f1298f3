/- A group is opened. -/
import Derived.Test.YtbmejfcbladofaaU4b
import Derived.Deep.QuietTactic
import Derived.BigQuiet
import Derived.Deep.RegionHeld3
namespace Go.Proofs.Ytbmejfcbladofaa
open Go.RowKit

/-- Is a group of the next n things flat? -/
def fitsP (p : Pg) (l : List Th) (n : Nat) : Bool := !(decide ((sr (l.drop n)).h < (sr l).h) || decide (p.wd - p.col < ((sr l).b : Int) - ((sr (l.drop n)).b : Int) + ((sr (l.drop n)).n : Int)))
def wrAll (p : Pg) (l : List Th) : Pg := l.foldl (fun q t => wrP q t.flatS) p
def openP (p : Pg) (l : List Th) (n : Nat) : Pg × List Th := if fitsP p l n then (wrAll p (l.take n), l.drop n) else ({ p with br := p.br + 1 }, l)
theorem wrP_len (p : Pg) (s : ByteArray) (h : p.tx.length ≤ 65536) : (wrP p s).tx.length ≤ 65536 := by
  unfold wrP
  split
  · exact h
  · next hs => simp only [List.length_append]; have : s.data.toList.length = s.size := rfl; omega
theorem wrP_col (p : Pg) (s : ByteArray) (hc : 0 ≤ p.col ∧ p.col ≤ 200000 + p.tx.length) : 0 ≤ (wrP p s).col ∧ (wrP p s).col ≤ 200000 + (wrP p s).tx.length := by
  unfold wrP
  split
  · exact hc
  · next hs => simp only [List.length_append]; have : s.data.toList.length = s.size := rfl; omega
theorem wrAll_ok (p : Pg) (l : List Th) (h : p.tx.length ≤ 65536) (hc : 0 ≤ p.col ∧ p.col ≤ 200000 + p.tx.length) : (wrAll p l).tx.length ≤ 65536 ∧ 0 ≤ (wrAll p l).col ∧ (wrAll p l).col ≤ 200000 + (wrAll p l).tx.length := by
  induction l generalizing p with
  | nil => exact ⟨h, hc⟩
  | cons t l ih => exact ih (wrP p t.flatS) (wrP_len p _ h) (wrP_col p _ hc)
theorem wrAll_snoc (p : Pg) (l : List Th) (k : Nat) (t : Th) (h : l[k]? = some t) : wrAll p (l.take (k + 1)) = wrP (wrAll p (l.take k)) t.flatS := by
  rw [List.take_add_one, h]; simp [wrAll]
theorem below_dN {B : Nat} {a w : World} (h : Below B a w) (q : Nat) : Below B a (w.drewN q) := ⟨h.os, h.tape, h.output, h.size, h.block⟩
theorem flat_text (x : ByteArray) (w : World) : (method 232 93 (.string x) "tracery/layout.flat").run Try.prog w = .ok (69, .string x) w := by kernel_rfl
theorem put_text (x : ByteArray) (w : World) : (method 232 93 (.string x) "tracery/layout.put").run Try.prog w = .ok (71, .string x) w := by kernel_rfl
theorem flat_line (x : ByteArray) (i : Int) (w : World) : (method 232 95 (.agg #[.string x, .int .i64 i]) "tracery/layout.flat").run Try.prog w = .ok (73, .agg #[.string x, .int .i64 i]) w := by kernel_rfl
theorem put_line (x : ByteArray) (i : Int) (w : World) : (method 232 95 (.agg #[.string x, .int .i64 i]) "tracery/layout.put").run Try.prog w = .ok (75, .agg #[.string x, .int .i64 i]) w := by kernel_rfl
theorem flat_hard (i : Int) (w : World) : (method 232 97 (.agg #[.int .i64 i]) "tracery/layout.flat").run Try.prog w = .ok (86, .agg #[.int .i64 i]) w := by kernel_rfl
theorem put_hard (i : Int) (w : World) : (method 232 97 (.agg #[.int .i64 i]) "tracery/layout.put").run Try.prog w = .ok (88, .agg #[.int .i64 i]) w := by kernel_rfl
theorem flat_group (m : Nat) (w : World) : (method 232 99 (.agg #[.int .i64 (m : Int)]) "tracery/layout.flat").run Try.prog w = .ok (89, .agg #[.int .i64 (m : Int)]) w := by kernel_rfl
theorem put_group (m : Nat) (w : World) : (method 232 99 (.agg #[.int .i64 (m : Int)]) "tracery/layout.put").run Try.prog w = .ok (91, .agg #[.int .i64 (m : Int)]) w := by kernel_rfl
/-- What is read while a group is opened. -/
structure OT (PB sb o k : Nat) (fv a0 a1 a2 b0 b1 b2 : Value) (W : World) : Prop where
  c6 : W.cell? ⟨PB, 6, none⟩ = some fv
  x0 : W.cell? ⟨sb, o, none⟩ = some a0
  x1 : W.cell? ⟨sb, o + 1, none⟩ = some a1
  x2 : W.cell? ⟨sb, o + 2, none⟩ = some a2
  y0 : W.cell? ⟨sb, o + k, none⟩ = some b0
  y1 : W.cell? ⟨sb, o + k + 1, none⟩ = some b1
  y2 : W.cell? ⟨sb, o + k + 2, none⟩ = some b2
  l1 : PB < W.heap.size
  l2 : sb < W.heap.size
section
variable {PB sb o k : Nat} {fv a0 a1 a2 b0 b1 b2 : Value} {W W' : World}
theorem OT.below (h : OT PB sb o k fv a0 a1 a2 b0 b1 b2 W) (hb : Below W.heap.size W W') : OT PB sb o k fv a0 a1 a2 b0 b1 b2 W' := by
  have q1 : ∀ q, W'.cell? ⟨PB, q, none⟩ = W.cell? ⟨PB, q, none⟩ := fun q => hb.cell (p := ⟨PB, q, none⟩) h.l1
  have q2 : ∀ q, W'.cell? ⟨sb, q, none⟩ = W.cell? ⟨sb, q, none⟩ := fun q => hb.cell (p := ⟨sb, q, none⟩) h.l2
  exact ⟨(q1 _).trans h.c6, (q2 _).trans h.x0, (q2 _).trans h.x1, (q2 _).trans h.x2, (q2 _).trans h.y0, (q2 _).trans h.y1, (q2 _).trans h.y2, Nat.lt_of_lt_of_le h.l1 hb.size, Nat.lt_of_lt_of_le h.l2 hb.size⟩
theorem OT.facts (h : OT PB sb o k fv a0 a1 a2 b0 b1 b2 W) : W.cell? ⟨PB, 6, none⟩ = some fv ∧ W.cell? ⟨sb, o, none⟩ = some a0 ∧ W.cell? ⟨sb, o + 1, none⟩ = some a1 ∧ W.cell? ⟨sb, o + 2, none⟩ = some a2 ∧ W.cell? ⟨sb, o + k, none⟩ = some b0 ∧ W.cell? ⟨sb, o + k + 1, none⟩ = some b1 ∧ W.cell? ⟨sb, o + k + 2, none⟩ = some b2 := ⟨h.c6, h.x0, h.x1, h.x2, h.y0, h.y1, h.y2⟩
end
theorem two_cells (w : World) (a0 a1 a2 b0 b1 b2 : Value) (W1 : World) (h : ((w.alloc (.cells #[a0, a1, a2] 90)).alloc (.cells #[b0, b1, b2] 90)).drew = W1) : Below w.heap.size w W1 ∧ (W1.cell? ⟨w.heap.size, 0, none⟩ = some a0 ∧ W1.cell? ⟨w.heap.size, 1, none⟩ = some a1 ∧ W1.cell? ⟨w.heap.size, 2, none⟩ = some a2) ∧ (W1.cell? ⟨w.heap.size + 1, 0, none⟩ = some b0 ∧ W1.cell? ⟨w.heap.size + 1, 1, none⟩ = some b1 ∧ W1.cell? ⟨w.heap.size + 1, 2, none⟩ = some b2) := by
  subst h
  have hs : (w.alloc (.cells #[a0, a1, a2] 90)).heap.size = w.heap.size + 1 := by simp
  have hB : Below (w.alloc (.cells #[a0, a1, a2] 90)).heap.size (w.alloc (.cells #[a0, a1, a2] 90)) ((w.alloc (.cells #[a0, a1, a2] 90)).alloc (.cells #[b0, b1, b2] 90)).drew := ((Below.refl _ _).alloc (Nat.le_refl _) _).drew
  have ha : ∀ q, ((w.alloc (.cells #[a0, a1, a2] 90)).alloc (.cells #[b0, b1, b2] 90)).drew.cell? ⟨w.heap.size, q, none⟩ = (w.alloc (.cells #[a0, a1, a2] 90)).cell? ⟨w.heap.size, q, none⟩ := fun q => hB.cell (p := ⟨w.heap.size, q, none⟩) (by rw [hs]; exact Nat.lt_succ_self _)
  refine ⟨((((Below.refl _ _).alloc (Nat.le_refl _) _).alloc (by simp) _).drew), ⟨(ha 0).trans (cell_new 0 rfl), (ha 1).trans (cell_new 1 rfl), (ha 2).trans (cell_new 2 rfl)⟩, ?_⟩
  rw [← hs]
  exact ⟨cell_new 0 rfl, cell_new 1 rfl, cell_new 2 rfl⟩
set_option maxRecDepth 100000 in
set_option maxHeartbeats 8000000 in
theorem open_any (lo PB tb sb : Nat) (p : Pg) (l : List Th) (tv rv fv : Value) (n : Nat) (w : World) (h : PgAt lo PB tb sb p l tv rv fv w) (hn : n ≤ l.length) (hl : l.length ≤ 1000000) (ht : p.tx.length ≤ 65536) (hc : 0 ≤ p.col ∧ p.col ≤ 200000 + p.tx.length) (hlo : lo ≤ w.heap.size) (hw : 0 ≤ p.wd ∧ p.wd ≤ 9223372036854775807) (hbr : p.br ≤ 1000000)
    (hb : (sr l).b ≤ 1000000000000 ∧ (sr l).n ≤ 1000000000000 ∧ (sr l).h ≤ 1000000000000) (hbn : (sr (l.drop n)).b ≤ 1000000000000 ∧ (sr (l.drop n)).n ≤ 1000000000000 ∧ (sr (l.drop n)).h ≤ 1000000000000) (hfl : ∀ t ∈ l, t.flatS.size ≤ 1000000000000) :
    Calls Try.prog 92 #[.pointer (some ⟨PB, 0, none⟩), .int .i64 (n : Int)] w fun e w' => (∃ r, e = .returned r) ∧ ∃ tv' rv' fv', PgAt lo PB tb sb (openP p l n).1 (openP p l n).2 tv' rv' fv' w' ∧ Turn PB tv tv' w w' := by
  obtain ⟨o, c', hfv, hc', hsr⟩ := h.sr
  subst hfv
  obtain ⟨x0, x1, x2⟩ := hsr 0 (by omega)
  obtain ⟨y0, y1, y2⟩ := hsr n hn
  rw [List.drop_zero, Nat.zero_mul, Nat.add_zero] at x0 x1 x2
  obtain ⟨c0, f0⟩ := blk_cell h.blk (j := 0) rfl
  obtain ⟨c2, f2⟩ := blk_cell h.blk (j := 2) rfl
  obtain ⟨c3, f3⟩ := blk_cell h.blk (j := 3) rfl
  obtain ⟨c6, f6⟩ := blk_cell h.blk (j := 6) rfl
  have hnI : (n : Int) < (l.length : Int) + 1 := by omega
  have hlI : (0 : Int) < (l.length : Int) + 1 := by omega
  have T : OT PB sb o (n * 3) (.slice (some ⟨sb, o, none⟩) (l.length + 1) c') (.int .i64 ((sr l).b : Int)) (.int .i64 ((sr l).n : Int)) (.int .i64 ((sr l).h : Int)) (.int .i64 ((sr (l.drop n)).b : Int)) (.int .i64 ((sr (l.drop n)).n : Int)) (.int .i64 ((sr (l.drop n)).h : Int)) w := ⟨c6, x0, x1, x2, y0, y1, y2, (Array.getElem?_eq_some_iff.1 h.blk).1, h.lt2⟩
  go_enter Try.func92, Try.ntmps92
  go_wp2
  go_region_held3 (fun W => W.cell? ⟨PB, 6, none⟩ = some (.slice (some ⟨sb, o, none⟩) (l.length + 1) c') ∧ W.cell? ⟨sb, o, none⟩ = some (.int .i64 ((sr l).b : Int)) ∧ W.cell? ⟨sb, o + 1, none⟩ = some (.int .i64 ((sr l).n : Int)) ∧ W.cell? ⟨sb, o + 2, none⟩ = some (.int .i64 ((sr l).h : Int)) ∧ W.cell? ⟨sb, o + n * 3, none⟩ = some (.int .i64 ((sr (l.drop n)).b : Int)) ∧ W.cell? ⟨sb, o + n * 3 + 1, none⟩ = some (.int .i64 ((sr (l.drop n)).n : Int)) ∧ W.cell? ⟨sb, o + n * 3 + 2, none⟩ = some (.int .i64 ((sr (l.drop n)).h : Int))) ((refine (OT.below T ?_).facts; repeat' (first | exact Below.refl _ _ | exact (Below.refl _ _).drew | refine Below.drew ?_ | refine Below.alloc ?_ (by simp) _ | refine Below.setCell ?_ (by simp) _))) (fail)
  all_goals first
    | (obtain ⟨w1, hW⟩ : ∃ w1, ((w.alloc (.cells #[.int .i64 ((sr (l.drop n)).b : Int), .int .i64 ((sr (l.drop n)).n : Int), .int .i64 ((sr (l.drop n)).h : Int)] 90)).alloc (.cells #[.int .i64 ((sr l).b : Int), .int .i64 ((sr l).n : Int), .int .i64 ((sr l).h : Int)] 90)).drew = w1 := ⟨_, rfl⟩; rw [hW]; obtain ⟨hb1, ⟨j0, j1, j2⟩, i0, i1, i2⟩ := two_cells w _ _ _ _ _ _ _ hW)
    | (obtain ⟨w1, hW⟩ : ∃ w1, ((w.alloc (.cells #[.int .i64 ((sr l).b : Int), .int .i64 ((sr l).n : Int), .int .i64 ((sr l).h : Int)] 90)).alloc (.cells #[.int .i64 ((sr (l.drop n)).b : Int), .int .i64 ((sr (l.drop n)).n : Int), .int .i64 ((sr (l.drop n)).h : Int)] 90)).drew = w1 := ⟨_, rfl⟩; rw [hW]; obtain ⟨hb1, ⟨i0, i1, i2⟩, j0, j1, j2⟩ := two_cells w _ _ _ _ _ _ _ hW)
  all_goals
    have hP1 := h.below hb1
    have HT1 : Hid (Turn PB tv tv w w1) := Turn.of_below hb1
    have hl1 := Nat.le_trans hlo hb1.size
    clear hW x0 x1 x2 y0 y1 y2 c0 c2 c3 c6 f0 f2 f3 f6 T hsr hb1 hnI hlI h
    obtain ⟨c0, f0⟩ := blk_cell hP1.blk (j := 0) rfl
    obtain ⟨c2, f2⟩ := blk_cell hP1.blk (j := 2) rfl
    obtain ⟨c3, f3⟩ := blk_cell hP1.blk (j := 3) rfl
    have H1 : Hid _ := hP1
    clear hP1
    have HE : Hid (openP p l n = if fitsP p l n then (wrAll p (l.take n), l.drop n) else ({ p with br := p.br + 1 }, l)) := by show _ = _; rfl
    have HF : Hid (fitsP p l n = !(decide ((sr (l.drop n)).h < (sr l).h) || decide (p.wd - p.col < ((sr l).b : Int) - ((sr (l.drop n)).b : Int) + ((sr (l.drop n)).n : Int)))) := by show _ = _; rfl
    generalize sr l = A at i0 i1 i2 hb HF
    generalize sr (l.drop n) = D at j0 j1 j2 hbn HF
    obtain ⟨ab, an, ah⟩ := A
    obtain ⟨bb, bn, bh⟩ := D
    simp only at i0 i1 i2 j0 j1 j2 hb hbn HF ⊢
    by_cases hd : bh < ah
    · have hd1 : (bh : Int) < (ah : Int) := by omega
      have HE' : Hid (openP p l n = ({ p with br := p.br + 1 }, l)) := by show _ = _; rw [HE.out, HF.out]; simp [hd]
      clear hd
      clear HE HF
      go_wp2
      first | go_quiet (fail) | go_big_quiet (fail)
      go_wp2
      first | go_end0 | refine bodyPost_ret (results_none rfl _ _ _) rfl ?_
      rw [HE'.out]
      have hPd := H1.out.below (below_dN (Below.refl _ w1) nq)
      have hs := hPd.set 3 (.int .i64 ((p.br : Int) + 1)) (p' := { p with br := p.br + 1 }) (rv' := rv) (fv' := _) (l' := l) (by simp) rfl hPd.th hPd.sr
      exact ⟨⟨_, rfl⟩, tv, _, _, hs.1, (HT1.out.trans (Turn.of_below (below_dN (Below.refl _ w1) nq))).trans hs.2⟩
    · have hd1 : decide (bh < ah) = false := by simp; omega
      by_cases hd2 : p.wd - p.col < (ab : Int) - (bb : Int) + (bn : Int)
      · have HE' : Hid (openP p l n = ({ p with br := p.br + 1 }, l)) := by show _ = _; rw [HE.out, HF.out]; simp [hd2]
        clear hd
        clear HE HF
        go_wp2
        first | go_quiet (fail) | go_big_quiet (fail)
        go_wp2
        first | go_end0 | refine bodyPost_ret (results_none rfl _ _ _) rfl ?_
        rw [HE'.out]
        have hPd := H1.out.below (below_dN (Below.refl _ w1) nq)
        have hs := hPd.set 3 (.int .i64 ((p.br : Int) + 1)) (p' := { p with br := p.br + 1 }) (rv' := rv) (fv' := _) (l' := l) (by simp) rfl hPd.th hPd.sr
        exact ⟨⟨_, rfl⟩, tv, _, _, hs.1, (HT1.out.trans (Turn.of_below (below_dN (Below.refl _ w1) nq))).trans hs.2⟩
      · have hd3 : decide (p.wd - p.col < (ab : Int) - (bb : Int) + (bn : Int)) = false := by simp; omega
        have HE' : Hid (openP p l n = (wrAll p (l.take n), l.drop n)) := by show _ = _; rw [HE.out, HF.out]; simp [hd2]; omega
        have HC : Hid _ := fun q => cut_all lo PB tb sb p l tv rv _ n (w1.drewN q) (H1.out.below (below_dN (Below.refl _ w1) q)) hn
        have hlen : (l.take n).length = n := by rw [List.length_take]; omega
        have HL : Hid _ := hlen
        clear HE HF hd hd2 hlen
        go_wp2
        first | go_quiet (fail) | go_big_quiet (fail)
        go_wp2_with (go_at_call 46; refine (HC.out nq).mono ?_)
        rintro e w3 ⟨⟨v, rv', fv', rfl, hth, hP3⟩, hT3⟩
        have hl3 : lo ≤ w3.heap.size := Nat.le_trans hl1 hT3.size
        have HTh : Hid _ := hth
        obtain ⟨a, c, e, hc3, hcl⟩ := hth
        rw [HL.out] at e hc3
        subst e
        clear c0 c2 c3 f0 f2 f3 i0 i1 i2 j0 j1 j2 hd1 hd3 hcl
        have HP3 : Hid _ := hP3
        have HT3 : Hid _ := hT3
        clear hP3 hT3 HC H1
        go_wp2
        go_loopw [57] (fun iv W => ∃ (k : Nat) (tvk : Value), k ≤ n ∧ iv = .int .i64 k ∧ PgAt lo PB tb sb (wrAll p (l.take k)) (l.drop n) tvk rv' fv' W ∧ ThAt W tb (.slice a n c) (l.take n) ∧ Turn PB tv tvk w3 W ∧ lo ≤ W.heap.size) (fun iv _ => n - (intOf iv).toNat)
        case atStart => exact ⟨0, tv, by omega, rfl, by rw [List.take_zero]; exact HP3.out, HTh.out, Turn.refl _ _ _, hl3⟩
        case round =>
          obtain ⟨k, tvk, hkn, rfl, hPk, hthk, hTk, hlk⟩ := hrel
          by_cases hlt : k < n
          · obtain ⟨t, ht'⟩ : ∃ t, l[k]? = some t := ⟨l[k], by simp⟩
            have hkI : (k : Int) < n := by omega
            have hk := wrAll_ok p (l.take k) ht hc
            obtain ⟨a', c9, e9, _, hcl⟩ := id hthk
            rw [HL.out] at e9
            cases e9
            obtain ⟨o9, rfl, hcell⟩ := hcl k t (by rw [List.getElem?_take_of_lt hlt]; exact ht')
            clear hcl
            obtain x | ⟨x, i⟩ | i | m := t
            · have hm := flat_text x
              have hF : Hid (Calls Try.prog 69 #[.string x] wr fun e w' => e = .returned (.string (Th.flatS (.text x))) ∧ Below wr.heap.size wr w') := flat_any (.text x) wr
              have hz : Hid _ := hfl (.text x) (List.mem_of_getElem? ht')
              have hC : Hid _ := fun W hb => write_any lo PB tb sb (wrAll p (l.take k)) (l.drop n) tvk rv' fv' (Th.flatS (.text x)) W (PgAt.below hPk hb) hk.1 hk.2.1 (by have := hk.2.2; have := hk.1; omega) hz.out (Nat.le_trans hlk hb.size)
              have hS : Hid _ := wrAll_snoc p l k (.text x) ht'
              have HPk : Hid _ := hPk
              have HTk : Hid _ := hTk
              have HLk : Hid _ := hlk
              have HThk : Hid _ := hthk
              clear hPk hTk ht' hk hlk hthk hfl
              simp only [Th.val] at hcell
              go_wp2_with (first | (go_at_call 69; refine (hF.out).mono ?_; rintro e w5 ⟨rfl, hb5⟩; have HB5 : Hid (Below wr.heap.size wr w5) := hb5; clear hb5) | (go_at_call 72; refine (hC.out _ HB5.out).mono ?_))
              rintro e w6 ⟨⟨r6, rfl⟩, tv6, hP6, hT6⟩
              have HP6 : Hid _ := hP6
              have HT6 : Hid _ := hT6
              clear hP6 hT6
              go_wp2
              refine ⟨⟨k + 1, tv6, by omega, by go_num, by rw [hS.out]; exact HP6.out, ?_, HTk.out.trans ((Turn.of_below HB5.out).trans HT6.out), ?_⟩, by simp [intOf]; omega⟩
              · exact ThAt.keep HThk.out (((Turn.of_below HB5.out).trans HT6.out).keep tb HPk.out.lt1 HPk.out.n4 HPk.out.n2)
              · exact Nat.le_trans HLk.out (Nat.le_trans HB5.out.size HT6.out.size)
            · have hm := flat_line x i
              have hF : Hid (Calls Try.prog 73 #[.agg #[.string x, .int .i64 i]] wr fun e w' => e = .returned (.string (Th.flatS (.line x i))) ∧ Below wr.heap.size wr w') := flat_any (.line x i) wr
              have hz : Hid _ := hfl (.line x i) (List.mem_of_getElem? ht')
              have hC : Hid _ := fun W hb => write_any lo PB tb sb (wrAll p (l.take k)) (l.drop n) tvk rv' fv' (Th.flatS (.line x i)) W (PgAt.below hPk hb) hk.1 hk.2.1 (by have := hk.2.2; have := hk.1; omega) hz.out (Nat.le_trans hlk hb.size)
              have hS : Hid _ := wrAll_snoc p l k (.line x i) ht'
              have HPk : Hid _ := hPk
              have HTk : Hid _ := hTk
              have HLk : Hid _ := hlk
              have HThk : Hid _ := hthk
              clear hPk hTk ht' hk hlk hthk hfl
              simp only [Th.val] at hcell
              go_wp2_with (first | (go_at_call 73; refine (hF.out).mono ?_; rintro e w5 ⟨rfl, hb5⟩; have HB5 : Hid (Below wr.heap.size wr w5) := hb5; clear hb5) | (go_at_call 72; refine (hC.out _ HB5.out).mono ?_))
              rintro e w6 ⟨⟨r6, rfl⟩, tv6, hP6, hT6⟩
              have HP6 : Hid _ := hP6
              have HT6 : Hid _ := hT6
              clear hP6 hT6
              go_wp2
              refine ⟨⟨k + 1, tv6, by omega, by go_num, by rw [hS.out]; exact HP6.out, ?_, HTk.out.trans ((Turn.of_below HB5.out).trans HT6.out), ?_⟩, by simp [intOf]; omega⟩
              · exact ThAt.keep HThk.out (((Turn.of_below HB5.out).trans HT6.out).keep tb HPk.out.lt1 HPk.out.n4 HPk.out.n2)
              · exact Nat.le_trans HLk.out (Nat.le_trans HB5.out.size HT6.out.size)
            · have hm := flat_hard i
              have hF : Hid (Calls Try.prog 86 #[.agg #[.int .i64 i]] wr fun e w' => e = .returned (.string (Th.flatS (.hard i))) ∧ Below wr.heap.size wr w') := flat_any (.hard i) wr
              have hz : Hid _ := hfl (.hard i) (List.mem_of_getElem? ht')
              have hC : Hid _ := fun W hb => write_any lo PB tb sb (wrAll p (l.take k)) (l.drop n) tvk rv' fv' (Th.flatS (.hard i)) W (PgAt.below hPk hb) hk.1 hk.2.1 (by have := hk.2.2; have := hk.1; omega) hz.out (Nat.le_trans hlk hb.size)
              have hS : Hid _ := wrAll_snoc p l k (.hard i) ht'
              have HPk : Hid _ := hPk
              have HTk : Hid _ := hTk
              have HLk : Hid _ := hlk
              have HThk : Hid _ := hthk
              clear hPk hTk ht' hk hlk hthk hfl
              simp only [Th.val] at hcell
              go_wp2_with (first | (go_at_call 86; refine (hF.out).mono ?_; rintro e w5 ⟨rfl, hb5⟩; have HB5 : Hid (Below wr.heap.size wr w5) := hb5; clear hb5) | (go_at_call 72; refine (hC.out _ HB5.out).mono ?_))
              rintro e w6 ⟨⟨r6, rfl⟩, tv6, hP6, hT6⟩
              have HP6 : Hid _ := hP6
              have HT6 : Hid _ := hT6
              clear hP6 hT6
              go_wp2
              refine ⟨⟨k + 1, tv6, by omega, by go_num, by rw [hS.out]; exact HP6.out, ?_, HTk.out.trans ((Turn.of_below HB5.out).trans HT6.out), ?_⟩, by simp [intOf]; omega⟩
              · exact ThAt.keep HThk.out (((Turn.of_below HB5.out).trans HT6.out).keep tb HPk.out.lt1 HPk.out.n4 HPk.out.n2)
              · exact Nat.le_trans HLk.out (Nat.le_trans HB5.out.size HT6.out.size)
            · have hm := flat_group m
              have hF : Hid (Calls Try.prog 89 #[.agg #[.int .i64 (m : Int)]] wr fun e w' => e = .returned (.string (Th.flatS (.group m))) ∧ Below wr.heap.size wr w') := flat_any (.group m) wr
              have hz : Hid _ := hfl (.group m) (List.mem_of_getElem? ht')
              have hC : Hid _ := fun W hb => write_any lo PB tb sb (wrAll p (l.take k)) (l.drop n) tvk rv' fv' (Th.flatS (.group m)) W (PgAt.below hPk hb) hk.1 hk.2.1 (by have := hk.2.2; have := hk.1; omega) hz.out (Nat.le_trans hlk hb.size)
              have hS : Hid _ := wrAll_snoc p l k (.group m) ht'
              have HPk : Hid _ := hPk
              have HTk : Hid _ := hTk
              have HLk : Hid _ := hlk
              have HThk : Hid _ := hthk
              clear hPk hTk ht' hk hlk hthk hfl
              simp only [Th.val] at hcell
              go_wp2_with (first | (go_at_call 89; refine (hF.out).mono ?_; rintro e w5 ⟨rfl, hb5⟩; have HB5 : Hid (Below wr.heap.size wr w5) := hb5; clear hb5) | (go_at_call 72; refine (hC.out _ HB5.out).mono ?_))
              rintro e w6 ⟨⟨r6, rfl⟩, tv6, hP6, hT6⟩
              have HP6 : Hid _ := hP6
              have HT6 : Hid _ := hT6
              clear hP6 hT6
              go_wp2
              refine ⟨⟨k + 1, tv6, by omega, by go_num, by rw [hS.out]; exact HP6.out, ?_, HTk.out.trans ((Turn.of_below HB5.out).trans HT6.out), ?_⟩, by simp [intOf]; omega⟩
              · exact ThAt.keep HThk.out (((Turn.of_below HB5.out).trans HT6.out).keep tb HPk.out.lt1 HPk.out.n4 HPk.out.n2)
              · exact Nat.le_trans HLk.out (Nat.le_trans HB5.out.size HT6.out.size)
          · obtain rfl : k = n := by omega
            have HPk : Hid _ := hPk
            have HTk : Hid _ := hTk
            clear hPk hTk hthk
            go_wp2
            first | go_end0 | refine bodyPost_ret (results_none rfl _ _ _) rfl ?_
            rw [HE'.out]
            exact ⟨⟨_, rfl⟩, tvk, rv', fv', HPk.out, (HT1.out.trans (Turn.of_below (below_dN (Below.refl _ w1) nq))).trans (HT3.out.trans HTk.out)⟩
end Go.Proofs.Ytbmejfcbladofaa
