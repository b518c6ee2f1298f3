/- A document nested deeper: the walk. -/
import Derived.Test.YtbmejfcbladofaaN0
import Derived.Test.YtbmejfcbladofaaS1
import Derived.Deep.RegionHeld3
namespace Go.Proofs.Ytbmejfcbladofaa
open Go.RowKit

theorem and7 (n : Int) : ∃ q : Nat, q ≤ 7 ∧ bits BinOp.and IntKind.i64 n 7 = (q : Int) := by
  refine ⟨(BitVec.ofInt 64 n &&& BitVec.ofInt 64 7).toNat, ?_, ?_⟩
  · rw [BitVec.toNat_and]
    exact Nat.and_le_right
  · show IntKind.i64.wrap ((BitVec.ofInt 64 n &&& BitVec.ofInt 64 7).toNat : Int) = _
    have h : (BitVec.ofInt 64 n &&& BitVec.ofInt 64 7).toNat ≤ 7 := by rw [BitVec.toNat_and]; exact Nat.and_le_right
    rw [IntKind.wrap_i64]
    omega
theorem nest_m (n : Int) : ∃ m : Nat, 1 ≤ m ∧ m ≤ 8 ∧ wrap64 (1 + bits BinOp.and IntKind.i64 n 7) = (m : Int) := by
  obtain ⟨q, hq, e⟩ := and7 n
  exact ⟨q + 1, by omega, by omega, by rw [e]; unfold wrap64; omega⟩
theorem layC_cases (d : Dc) (wd : Int) : layC d wd = 0 ∨ layC d wd = 2 ∨ layC d wd = 140 := by
  unfold layC
  split
  · split
    · exact .inr (.inl rfl)
    · exact .inl rfl
  · exact .inr (.inr rfl)
theorem putP_len {p : Pg} {l : List Th} {t : Th} (h : p.tx.length ≤ 65536) : (putP p l t).1.tx.length ≤ 65536 := by
  have ha : ∀ (l : List Th) (p : Pg), p.tx.length ≤ 65536 → (wrAll p l).tx.length ≤ 65536 := by
    intro l
    induction l with
    | nil => intro p h; exact h
    | cons t l ih => intro p h; exact ih _ (wrP_len p _ h)
  cases t with
  | text s => exact wrP_len p s h
  | line s i => exact wrP_len p (brkS i.toNat) h
  | hard i => exact wrP_len p (brkS i.toNat) h
  | group m =>
    show (openP p l m).1.tx.length ≤ 65536
    unfold openP
    split
    · exact ha _ _ h
    · exact h
theorem fillN_len (n : Nat) : ∀ (p : Pg) (l : List Th), p.tx.length ≤ 65536 → (fillN n p l).1.tx.length ≤ 65536 := by
  induction n with
  | zero => intro p l h; exact h
  | succ n ih =>
    intro p l h
    cases l with
    | nil => exact h
    | cons t l =>
      rw [fillN]
      split
      · exact h
      · exact ih _ _ (putP_len h)
theorem layT_size (d : Dc) (wd : Int) : (layT d wd).size ≤ 65536 := by
  unfold layT
  split
  · exact fillN_len _ _ _ (by simp)
  · exact Nat.zero_le _
/-- The byte at a place of a text (0 behind its end). -/
def bt (x : ByteArray) (i : Nat) : Nat := (x.data.getD i 0).toNat
theorem bt_eq (x : ByteArray) (i : Nat) (h : i < x.size) : x[i].toNat = bt x i := by
  unfold bt; rw [Array.getD_eq_getD_getElem?, Array.getElem?_eq_getElem h]; rfl
theorem bt_lt (x : ByteArray) (i : Nat) : bt x i < 256 := UInt8.toNat_lt _
theorem bt_take (x : ByteArray) (i : Nat) (h : i < x.size) : ∃ u : UInt8, bt x i = u.toNat ∧ x.data.toList.take (i + 1) = x.data.toList.take i ++ [u] := by
  refine ⟨x.data.toList[i], ?_, ?_⟩
  · unfold bt; rw [Array.getD_eq_getD_getElem?, Array.getElem?_eq_getElem h]; rfl
  · rw [List.take_succ_eq_append_getElem]
theorem cells_new (w : World) (l : List Value) (t : TypeId) : ∀ j u, l[j]? = some u → (w.alloc (.cells l.toArray t)).cell? ((⟨w.heap.size, 0, none⟩ : Addr).add j) = some u := by
  intro j u hu
  have e : (⟨w.heap.size, 0, none⟩ : Addr).add j = ⟨w.heap.size, j, none⟩ := by simp [Addr.add]; omega
  rw [e]
  exact cell_new j (by rw [List.getElem?_toArray]; exact hu)
theorem row_below {W W' : World} {lo : Nat} {e : TypeId} {z : Nat} {v : Value} {n : Nat} {xs : List Value} (h : W.ownsRow lo e z v n xs) (hb : Below W.heap.size W W') : W'.ownsRow lo e z v n xs := by
  refine ⟨h.1, ?_⟩
  rcases h.2 with h0 | ⟨g, cap, cur, hv, hbg, hg, rest⟩
  · exact .inl h0
  · exact .inr ⟨g, cap, cur, hv, hbg, (hb.block g (Array.getElem?_eq_some_iff.1 hg).1).trans hg, rest⟩
set_option maxRecDepth 100000 in
set_option maxHeartbeats 4000000 in
theorem same_hard (w : World) : Calls Try.prog 18 #[.agg #[.int .i64 3, .string ⟨#[]⟩, .int .i64 0, .slice none 0 0], .agg #[.int .i64 3, .string ⟨#[]⟩, .int .i64 0, .slice none 0 0]] w fun e w' => e = .returned (.bool true) ∧ Below w.heap.size w w' := by
  have hB : Below w.heap.size w ((w.alloc (.cells #[.int .i64 3, .string ⟨#[]⟩, .int .i64 0, .slice none 0 0] 24)).alloc (.cells #[.int .i64 3, .string ⟨#[]⟩, .int .i64 0, .slice none 0 0] 24)) := ((Below.refl _ _).alloc (Nat.le_refl _) _).alloc (by simp) _
  go_enter Try.func18, Try.ntmps18
  go_wp2
  refine wp_loop_rounds 2 ?_
  rw [rounds_succ]
  go_wp2
  go_ret
  exact ⟨rfl, hB⟩
/-- What stands while the last line is reckoned. -/
structure Tn (w : World) (lo h : Nat) (v : Value) (tx : List UInt8) (W : World) : Prop where
  p : Bx W (h + 1 + 1) 6 ⟨#[]⟩ 0 (.slice (some ⟨h + 1, 0, none⟩) 2 2)
  q : Bx W (h + 1) 3 ⟨#[]⟩ 0 (.slice none 0 0)
  r : Bx W h 3 ⟨#[]⟩ 0 (.slice none 0 0)
  row : W.ownsRow lo 5 1 v tx.length (bytesU tx)
  lt : h + 1 + 1 < W.heap.size
  bel : Below w.heap.size w W
theorem Tn.nx {w W W' : World} {lo h : Nat} {v : Value} {tx : List UInt8} (hb : Below W.heap.size W W') (t : Tn w lo h v tx W) : Tn w lo h v tx W' :=
  ⟨t.p.keep hb t.lt, t.q.keep hb (by have := t.lt; omega), t.r.keep hb (by have := t.lt; omega), row_below t.row hb, Nat.lt_of_lt_of_le t.lt hb.size, t.bel.trans (hb.mono t.bel.size)⟩
theorem Tn.drew {w W : World} {lo h : Nat} {v : Value} {tx : List UInt8} (t : Tn w lo h v tx W) : Tn w lo h v tx W.drew := ⟨⟨t.p.c0, t.p.c1, t.p.c2, t.p.c3⟩, ⟨t.q.c0, t.q.c1, t.q.c2, t.q.c3⟩, ⟨t.r.c0, t.r.c1, t.r.c2, t.r.c3⟩, t.row, t.lt, t.bel.drew⟩
theorem Tn.facts {w W : World} {lo h : Nat} {v : Value} {tx : List UInt8} (t : Tn w lo h v tx W) : W.cell? ⟨h + 1 + 1, 3, none⟩ = some (.slice (some ⟨h + 1, 0, none⟩) 2 2) ∧ W.cell? ⟨h + 1, 0, none⟩ = some (.int .i64 3) ∧ W.cell? ⟨h + 1, 1, none⟩ = some (.string ⟨#[]⟩) ∧ W.cell? ⟨h + 1, 2, none⟩ = some (.int .i64 0) ∧ W.cell? ⟨h + 1, 3, none⟩ = some (.slice none 0 0) ∧ W.cell? ⟨h, 0, none⟩ = some (.int .i64 3) ∧ W.cell? ⟨h, 1, none⟩ = some (.string ⟨#[]⟩) ∧ W.cell? ⟨h, 2, none⟩ = some (.int .i64 0) ∧ W.cell? ⟨h, 3, none⟩ = some (.slice none 0 0) ∧ (convert 40 9 v).run Try.prog W = .ok (.string ⟨tx.toArray⟩) W :=
  ⟨t.p.c3, t.q.c0, t.q.c1, t.q.c2, t.q.c3, t.r.c0, t.r.c1, t.r.c2, t.r.c3, conv_row t.row⟩
set_option maxRecDepth 100000 in
set_option maxHeartbeats 4000000 in
theorem nest_walk (d : Dc) (sa : Option Addr) (sc f : Nat) (nn wd : Int) (w : World) (hk : DAt w w.heap.size f sa d.kids) (hsc : d.kids.length ≤ sc) (ht : TxD d) (_ : -9223372036854775808 ≤ nn) (_ : nn ≤ 9223372036854775807) (hl : -9223372036854775808 ≤ wd) (hwd : wd ≤ 9223372036854775807) :
    Calls Try.prog 8 #[.agg #[.int .i64 d.kind, .string d.text, .int .i64 d.n, .slice sa d.kids.length sc], .int .i64 nn, .int .i64 wd] w fun e w' => e = .returned (.bool true) ∧ Below w.heap.size w w' := by
  obtain ⟨m, hm1, hm8, hm⟩ := nest_m nn
  obtain ⟨w1, hw1⟩ : ∃ w1, w.alloc (.cells #[.int .i64 d.kind, .string d.text, .int .i64 d.n, .slice sa d.kids.length sc] 24) = w1 := ⟨_, rfl⟩
  have hB1 : Below w.heap.size w w1 := by rw [← hw1]; exact (Below.refl _ _).alloc (Nat.le_refl _) _
  have s1 : w1.heap.size = w.heap.size + 1 := by rw [← hw1]; simp
  have x1 : Bx w1 w.heap.size d.kind d.text d.n (.slice sa d.kids.length sc) := by rw [← hw1]; exact Bx.new _ _ _ _ _ _
  obtain ⟨a0, a1, a2, a3⟩ := x1
  have HX1 : Hid _ := Bx.mk a0 a1 a2 a3
  have hD : ∀ W, Below w.heap.size w W → DAt W W.heap.size f sa d.kids := fun W hW => (hk.keep hW).mono hW.size
  have HH : Hid _ := fun (_ : Unit) => heavy_any d sa sc f w1 (hD w1 hB1) ht
  have HD : Hid _ := hD
  have HB1 : Hid _ := hB1
  have HS1 : Hid _ := s1
  clear hD hB1 s1 hk
  by_cases hwt : 700 < wt d
  · rw [decide_eq_true hwt] at HH
    clear hwt
    go_enter Try.func8, Try.ntmps8
    go_wp2_with (go_at_call 9; refine (HH.out ()).mono ?_)
    rintro e w2 ⟨rfl, hb2⟩
    have HB2 : Hid (Below w.heap.size w w2) := HB1.out.trans (hb2.mono HB1.out.size)
    clear hb2
    go_wp2_with (go_at_call 10; refine (alive_any _).mono ?_)
    rintro e w3 ⟨rfl, hb3⟩
    have HB3 : Hid (Below w.heap.size w w3) := HB2.out.trans (hb3.mono HB2.out.size)
    clear hb3
    go_wp2
    go_ret
    exact ⟨rfl, HB3.out⟩
  rw [decide_eq_false hwt] at HH
  have HPL : Hid ((pre d 1).length ≤ 700) := Nat.le_trans (pre_wt d 1) (by omega)
  have HWT : Hid (wt d ≤ 700) := by show _ ≤ _; omega
  clear hwt ht
  by_cases hw0 : wd < 0
  · go_enter Try.func8, Try.ntmps8
    go_wp2_with (go_at_call 9; refine (HH.out ()).mono ?_)
    rintro e w2 ⟨rfl, hb2⟩
    have HB2 : Hid (Below w.heap.size w w2) := HB1.out.trans (hb2.mono HB1.out.size)
    clear hb2
    go_wp2_with (go_at_call 10; refine (alive_any _).mono ?_)
    rintro e w3 ⟨rfl, hb3⟩
    have HB3 : Hid (Below w.heap.size w w3) := HB2.out.trans (hb3.mono HB2.out.size)
    clear hb3
    go_wp2
    go_ret
    exact ⟨rfl, HB3.out⟩
  have hw0' : 0 ≤ wd := by omega
  clear hw0
  by_cases hw3 : 300 < wd
  · go_enter Try.func8, Try.ntmps8
    go_wp2_with (go_at_call 9; refine (HH.out ()).mono ?_)
    rintro e w2 ⟨rfl, hb2⟩
    have HB2 : Hid (Below w.heap.size w w2) := HB1.out.trans (hb2.mono HB1.out.size)
    clear hb2
    go_wp2_with (go_at_call 10; refine (alive_any _).mono ?_)
    rintro e w3 ⟨rfl, hb3⟩
    have HB3 : Hid (Below w.heap.size w w3) := HB2.out.trans (hb3.mono HB2.out.size)
    clear hb3
    go_wp2
    go_ret
    exact ⟨rfl, HB3.out⟩
  have hw3' : wd ≤ 300 := by omega
  clear hw3
  go_enter Try.func8, Try.ntmps8
  go_wp2_with (go_at_call 9; refine (HH.out ()).mono ?_)
  rintro e w2 ⟨rfl, hb2⟩
  have x2 := HX1.out.keep hb2 (by rw [HS1.out]; omega)
  obtain ⟨b0, b1, b2, b3⟩ := x2
  have HB2 : Hid (Below w.heap.size w w2) := HB1.out.trans (hb2.mono HB1.out.size)
  have hlt2 : w.heap.size < w2.heap.size := Nat.lt_of_lt_of_le (by rw [HS1.out]; omega) hb2.size
  have hlt3 : w.heap.size < w2.heap.size + 1 := by omega
  have hlt4 : w.heap.size < w2.heap.size + 1 + 1 := by omega
  clear hb2 a0 a1 a2 a3 hw1
  obtain ⟨X, hX⟩ : ∃ X, ((((w2.alloc (.cells #[.int .i64 3, .string ⟨#[]⟩, .int .i64 0, .slice none 0 0] 24)).alloc (.cells #[.int .i64 3, .string ⟨#[]⟩, .int .i64 0, .slice none 0 0, .int .i64 d.kind, .string d.text, .int .i64 d.n, .slice sa d.kids.length sc] 24)).alloc (.cells #[.int .i64 6, .string ⟨#[]⟩, .int .i64 0, .slice (some ⟨w2.heap.size + 1, 0, none⟩) 2 2] 24)).alloc (.cells #[.int .i64 3, .string ⟨#[]⟩, .int .i64 0, .slice none 0 0, .int .i64 d.kind, .string d.text, .int .i64 d.n, .slice sa d.kids.length sc] 24)).alloc (.cells #[.int .i64 4, .string ⟨#[]⟩, .int .i64 (m : Int), .slice (some ⟨w2.heap.size + 1 + 1 + 1, 0, none⟩) 2 2] 24) = X := ⟨_, rfl⟩
  have bX : Below w2.heap.size w2 X := by rw [← hX]; exact (((((Below.refl _ _).alloc (Nat.le_refl _) _).alloc (by simp) _).alloc (by simp; omega) _).alloc (by simp; omega) _).alloc (by simp; omega) _
  have sX : X.heap.size = w2.heap.size + 5 := by rw [← hX]; simp
  have HBX : Hid (Below w.heap.size w X) := HB2.out.trans (bX.mono HB2.out.size)
  have k0 : X.heap[w2.heap.size]? = some (.cells #[.int .i64 3, .string ⟨#[]⟩, .int .i64 0, .slice none 0 0] 24 (0, 0)) := by
    rw [← hX]
    exact (old_blk _ _ (by simp; omega)).trans ((old_blk _ _ (by simp; omega)).trans ((old_blk _ _ (by simp; omega)).trans ((old_blk _ _ (by simp)).trans (blk_new _ _ _))))
  have k1 : X.heap[w2.heap.size + 1]? = some (.cells #[.int .i64 3, .string ⟨#[]⟩, .int .i64 0, .slice none 0 0, .int .i64 d.kind, .string d.text, .int .i64 d.n, .slice sa d.kids.length sc] 24 (0, 0)) := by
    rw [← hX]
    exact (old_blk _ _ (by first | (simp; done) | (simp; omega))).trans ((old_blk _ _ (by first | (simp; done) | (simp; omega))).trans ((old_blk _ _ (by simp)).trans (by simpa only [World.size_alloc] using blk_new (w2.alloc (.cells #[.int .i64 3, .string ⟨#[]⟩, .int .i64 0, .slice none 0 0] 24)) _ _)))
  have k2 : X.heap[w2.heap.size + 1 + 1]? = some (.cells #[.int .i64 6, .string ⟨#[]⟩, .int .i64 0, .slice (some ⟨w2.heap.size + 1, 0, none⟩) 2 2] 24 (0, 0)) := by
    rw [← hX]
    exact (old_blk _ _ (by first | (simp; done) | (simp; omega))).trans ((old_blk _ _ (by simp)).trans (by simpa only [World.size_alloc] using blk_new ((w2.alloc (.cells #[.int .i64 3, .string ⟨#[]⟩, .int .i64 0, .slice none 0 0] 24)).alloc (.cells #[.int .i64 3, .string ⟨#[]⟩, .int .i64 0, .slice none 0 0, .int .i64 d.kind, .string d.text, .int .i64 d.n, .slice sa d.kids.length sc] 24)) _ _))
  have k3 : X.heap[w2.heap.size + 1 + 1 + 1]? = some (.cells #[.int .i64 3, .string ⟨#[]⟩, .int .i64 0, .slice none 0 0, .int .i64 d.kind, .string d.text, .int .i64 d.n, .slice sa d.kids.length sc] 24 (0, 0)) := by
    rw [← hX]
    exact (old_blk _ _ (by simp)).trans (by simpa only [World.size_alloc] using blk_new (((w2.alloc (.cells #[.int .i64 3, .string ⟨#[]⟩, .int .i64 0, .slice none 0 0] 24)).alloc (.cells #[.int .i64 3, .string ⟨#[]⟩, .int .i64 0, .slice none 0 0, .int .i64 d.kind, .string d.text, .int .i64 d.n, .slice sa d.kids.length sc] 24)).alloc (.cells #[.int .i64 6, .string ⟨#[]⟩, .int .i64 0, .slice (some ⟨w2.heap.size + 1, 0, none⟩) 2 2] 24)) _ _)
  have k4 : X.heap[w2.heap.size + 1 + 1 + 1 + 1]? = some (.cells #[.int .i64 4, .string ⟨#[]⟩, .int .i64 (m : Int), .slice (some ⟨w2.heap.size + 1 + 1 + 1, 0, none⟩) 2 2] 24 (0, 0)) := by
    rw [← hX]
    simpa only [World.size_alloc] using blk_new ((((w2.alloc (.cells #[.int .i64 3, .string ⟨#[]⟩, .int .i64 0, .slice none 0 0] 24)).alloc (.cells #[.int .i64 3, .string ⟨#[]⟩, .int .i64 0, .slice none 0 0, .int .i64 d.kind, .string d.text, .int .i64 d.n, .slice sa d.kids.length sc] 24)).alloc (.cells #[.int .i64 6, .string ⟨#[]⟩, .int .i64 0, .slice (some ⟨w2.heap.size + 1, 0, none⟩) 2 2] 24)).alloc (.cells #[.int .i64 3, .string ⟨#[]⟩, .int .i64 0, .slice none 0 0, .int .i64 d.kind, .string d.text, .int .i64 d.n, .slice sa d.kids.length sc] 24)) _ _
  have hDX := HD.out X HBX.out
  have hP : DAt X X.heap.size (f + 1) (some ⟨w2.heap.size + 1, 0, none⟩) (plainD d).kids := dat_two (d := hardD) (x := d) k1 (by omega) (Nat.le_refl _) DAt.nil hsc hDX
  have hQ : DAt X X.heap.size (f + 1) (some ⟨w2.heap.size + 1 + 1 + 1, 0, none⟩) (deepD m d).kids := dat_two (d := hardD) (x := d) k3 (by omega) (Nat.le_refl _) DAt.nil hsc hDX
  have bx : ∀ {b : Nat} {k : Int} {n : Int} {v : Value}, X.heap[b]? = some (.cells #[.int .i64 k, .string ⟨#[]⟩, .int .i64 n, v] 24 (0, 0)) → Bx X b k ⟨#[]⟩ n v := fun h => ⟨(blk_cell h (j := 0) rfl).1, (blk_cell h (j := 1) rfl).1, (blk_cell h (j := 2) rfl).1, (blk_cell h (j := 3) rfl).1⟩
  have HX0 : Hid _ := bx k0
  have HX2 : Hid _ := bx k2
  have HX4 : Hid _ := bx k4
  have HK1 : Hid _ := k1
  have HSX : Hid _ := sX
  have HP : Hid _ := fun (W : World) (hW : Below X.heap.size X W) => DAt.mono hW.size (DAt.keep hW hP)
  have HQ : Hid _ := fun (W : World) (hW : Below X.heap.size X W) => DAt.mono hW.size (DAt.keep hW hQ)
  have hl1 : (pre (plainD d) 1).length ≤ 1000000000000 := Nat.le_trans (pre_wt _ 1) (by rw [(plain_wt d m).1]; have := HWT.out; omega)
  have hl2 : (pre (deepD m d) 1).length ≤ 1000000000000 := Nat.le_trans (pre_wt _ 1) (by rw [(plain_wt d m).2]; have := HWT.out; omega)
  have HR15 : Hid (Calls Try.prog 15 #[.agg #[.int .i64 4, .string ⟨#[]⟩, .int .i64 (m : Int), .slice (some ⟨w2.heap.size + 1 + 1 + 1, 0, none⟩) 2 2]] X fun e w' => e = .returned (.bool (rightD (deepD m d))) ∧ Below X.heap.size X w') := right_any (deepD m d) _ 2 (f + 1) X hQ (Nat.le_refl 2) hl2
  have HRP : Hid (∀ W, Below X.heap.size X W → Calls Try.prog 11 #[.agg #[.int .i64 6, .string ⟨#[]⟩, .int .i64 0, .slice (some ⟨w2.heap.size + 1, 0, none⟩) 2 2], .int .i64 wd] W fun e w' => e = .returned (.tuple #[.string (layT (plainD d) wd), .int .i64 (layC (plainD d) wd)]) ∧ Below W.heap.size W w') := fun W hW => render_any (plainD d) _ 2 (f + 1) wd W (HP.out W hW) (Nat.le_refl 2) hl1 (fun h => okL_right h (by rw [(plain_wt d m).1]; have := HWT.out; omega)) hwd
  have HRQ : Hid (∀ W, Below X.heap.size X W → Calls Try.prog 11 #[.agg #[.int .i64 4, .string ⟨#[]⟩, .int .i64 (m : Int), .slice (some ⟨w2.heap.size + 1 + 1 + 1, 0, none⟩) 2 2], .int .i64 (wd + m)] W fun e w' => e = .returned (.tuple #[.string (layT (deepD m d) (wd + m)), .int .i64 (layC (deepD m d) (wd + m))]) ∧ Below W.heap.size W w') := fun W hW => render_any (deepD m d) _ 2 (f + 1) (wd + m) W (HQ.out W hW) (Nat.le_refl 2) hl2 (fun h => okL_right h (by rw [(plain_wt d m).2]; have := HWT.out; omega)) (by omega)
  have HXX : Hid _ := hX
  rw [← hX] at HR15
  clear hX bX sX k0 k1 k2 k3 k4 hDX hP hQ bx hl1 hl2
  go_wp2_with (go_at_call 15; refine (HR15.out).mono ?_)
  rintro e w3 ⟨rfl, hb3⟩
  rw [HXX.out] at hb3
  clear HXX b0 b1 b2 b3 hlt2 hlt3 hlt4
  have HBX3 : Hid _ := hb3
  have HB3 : Hid (Below w.heap.size w w3) := HBX.out.trans (hb3.mono HBX.out.size)
  clear hb3
  cases hr : rightD (deepD m d) with
  | false =>
    clear hr
    go_wp2_with (go_at_call 10; refine (alive_any _).mono ?_)
    rintro e w4 ⟨rfl, hb4⟩
    have HB4 : Hid (Below w.heap.size w w4) := HB3.out.trans (hb4.mono HB3.out.size)
    clear hb4
    go_wp2
    go_ret
    exact ⟨rfl, HB4.out⟩
  | true =>
    have HRR : Hid _ := hr
    clear hr
    have hsx := HSX.out
    have x3 := HX2.out.keep HBX3.out (by omega)
    obtain ⟨b0, b1, b2, b3⟩ := x3
    clear hsx
    go_wp2_with (go_at_call 11; refine (HRP.out w3 HBX3.out).mono ?_)
    rintro e w4 ⟨rfl, hb4⟩
    have HBX4 : Hid (Below X.heap.size X w4) := HBX3.out.trans (hb4.mono HBX3.out.size)
    have HB4 : Hid (Below w.heap.size w w4) := HBX.out.trans (HBX4.out.mono HBX.out.size)
    have hsx := HSX.out
    have x4 := HX4.out.keep HBX4.out (by omega)
    obtain ⟨c0, c1, c2, c3⟩ := x4
    clear hsx b0 b1 b2 b3 hb4
    go_wp2_with (go_at_call 11; refine (HRQ.out w4 HBX4.out).mono ?_)
    rintro e w5 ⟨rfl, hb5⟩
    have HBX5 : Hid (Below X.heap.size X w5) := HBX4.out.trans (hb5.mono HBX4.out.size)
    have HB5 : Hid (Below w.heap.size w w5) := HBX.out.trans (HBX5.out.mono HBX.out.size)
    clear c0 c1 c2 c3 hb5
    have hns : ∀ W, Below w.heap.size w W → Calls Try.prog 10 #[] W fun e w' => e = .returned (.bool true) ∧ Below w.heap.size w w' := fun W hW => (alive_any W).mono (by rintro e w' ⟨rfl, hb⟩; exact ⟨rfl, hW.trans (hb.mono hW.size)⟩)
    have HAL : Hid _ := hns
    clear hns
    have HN : Hid (layC (plainD d) wd = 0 → layC (deepD m d) (wd + m) = 0 → layT (deepD m d) (wd + m) = ⟨(ins m (layT (plainD d) wd).data.toList).toArray⟩) := fun h1 h2 => nest_lay HRR.out hw0' hm8 h1 h2
    have HZ : Hid _ := layT_size (plainD d) wd
    have hC1 := layC_cases (plainD d) wd
    have hC2 := layC_cases (deepD m d) (wd + m)
    generalize layC (plainD d) wd = q1 at *
    generalize layC (deepD m d) (wd + m) = q2 at *
    generalize layT (plainD d) wd = S at *
    generalize layT (deepD m d) (wd + m) = T at *
    clear HRP HRQ HR15 HH HD
    by_cases hq1 : q1 = 0
    · subst hq1
      clear hC1
      by_cases hq2 : q2 = 0
      · subst hq2
        clear hC2
        have hT := HN.out rfl rfl
        have HT : Hid _ := hT
        clear hT HN
        obtain ⟨i0, hinf, hz0, hz1, hz2⟩ := info_parts info5
        have hS : S.size ≤ 65536 := HZ.out
        clear HZ
        have H5 : Hid (Below w5.heap.size w5 w5) := Below.refl _ _
        go_wp2
        go_loopw [14, 15] (fun v iv W => ∃ (k : Nat) (l : List UInt8), k ≤ S.size ∧ iv = .int .i64 k ∧ l = ins m (S.data.toList.take k) ∧ l.length ≤ 9 * k ∧ W.ownsRow w5.heap.size 5 1 v l.length (bytesU l) ∧ Below w5.heap.size w5 W) (fun _ iv _ => S.size - (intOf iv).toNat)
        case atStart => exact ⟨0, [], Nat.zero_le _, rfl, rfl, Nat.zero_le _, World.ownsRow_nil _ _ _ _, H5.out⟩
        case round =>
          obtain ⟨k, l, hk, rfl, hl, hl9, hrow, hB⟩ := hrel
          have HL : Hid _ := hl
          clear hl
          by_cases hlt : k < S.size
          · have hlt' : (k : Int) < S.size := by omega
            have hbt := bt_eq S k hlt
            obtain ⟨u, hu, htk⟩ := bt_take S k hlt
            have HU : Hid _ := hu
            have HTK : Hid _ := htk
            have hc256 := bt_lt S k
            generalize bt S k = c at *
            clear hu htk
            go_wp2_with (at_builtin; refine wpList_append_own _ rfl _ _ 40 rfl w5.heap.size 5 i0 (.int .u8 0) 1 1 Try.underlying40 hinf hz0 hz1 hz2 rfl (by decide) _ _ _ rfl (hrow.alloc _) ⟨wr.heap.size, 0, none⟩ 1 1 [.int .u8 ((c : Nat) : Int)] rfl rfl ?cb1 ?cb2 ?cb3 ?cb4 ?cb5 ?_)
            try case cb1 => exact cells_new _ _ _
            case cb2 => first | rfl | (intro u hu; simp at hu; subst hu; rfl) | simp
            case cb3 => unfold maxLen; omega
            case cb4 => omega
            case cb5 => first | omega | (have := hB.size; simp; omega)
            intro v' w6 hown' hgrow _
            have hB6 := (hB.alloc hB.size (.cells #[.int .u8 ((c : Nat) : Int)] 5)).grown hgrow (by have := hB.size; simp; omega) (fun j hj => by have := (hrow.lt j hj).1; omega)
            obtain ⟨g', cap', rfl⟩ := ownsRow_succ hown'
            have HW6 : Hid (w6.ownsRow w5.heap.size 5 1 (.slice (some ⟨g', 0, none⟩) (l.length + 1) cap') (l ++ [u]).length (bytesU (l ++ [u]))) := by
              show World.ownsRow _ _ _ _ _ _ _
              rw [bytesU_app, List.length_append]
              have : bytesU [u] = [.int .u8 ((c : Nat) : Int)] := by simp [bytesU, HU.out]
              rw [this]; exact hown'
            have HB6 : Hid _ := hB6
            have HEND : Hid (∀ (j : Nat), (j = m ∧ c = 10 ∨ j = 0 ∧ c ≠ 10) → l ++ [u] ++ List.replicate j 32 = ins m (S.data.toList.take (k + 1))) := fun j hj => by
              rw [HTK.out, ins_app, ← HL.out]
              have hu10 : c = 10 ↔ u = 10 := by
                have := HU.out
                constructor
                · intro h; rw [h] at this; exact UInt8.toNat_inj.1 this.symm
                · intro h; rw [h] at this; exact this
              rcases hj with ⟨rfl, h⟩ | ⟨rfl, h⟩
              · simp [ins, insB, hu10.1 h]
              · have : ¬ u = 10 := fun e => h (hu10.2 e)
                simp [ins, insB, this]
            clear hown' hgrow hB6 hrow hB HL HU HTK H5
            obtain ⟨wo, hwo⟩ : ∃ wo : World, wo = wr := ⟨_, rfl⟩
            clear hwo
            go_wp2
            go_loopw [14, 16] (fun v kv W => ∃ (j : Nat) (l' : List UInt8), j ≤ m ∧ kv = .int .i64 j ∧ l' = l ++ [u] ++ List.replicate j 32 ∧ l'.length = l.length + 1 + j ∧ (j = 0 ∨ c = 10) ∧ W.ownsRow w5.heap.size 5 1 v l'.length (bytesU l') ∧ Below w5.heap.size w5 W) (fun _ kv _ => m - (intOf kv).toNat)
            case atStart => exact ⟨0, l ++ [u], Nat.zero_le _, rfl, by simp, by simp, .inl rfl, HW6.out, HB6.out⟩
            case round =>
              obtain ⟨j, l', hj, rfl, hl', hll, hj0, hrow, hB⟩ := hrel
              have HL' : Hid _ := hl'
              have HJ : Hid _ := hj0
              have HLL : Hid _ := hll
              have hlb : l'.length ≤ 1000000 := by omega
              clear hl' hj0 HW6 HB6 hll
              by_cases hc : c = 10
              · have HC10 : Hid _ := hc
                have hc' : ((c : Int) == 10) = true := by simp; omega
                clear hc
                by_cases hjm : j < m
                · have hjm' : (j : Int) < m := by omega
                  go_wp2_with (at_builtin; refine wpList_append_own _ rfl _ _ 40 rfl w5.heap.size 5 i0 (.int .u8 0) 1 1 Try.underlying40 hinf hz0 hz1 hz2 rfl (by decide) _ _ _ rfl (hrow.alloc _) ⟨wr.heap.size, 0, none⟩ 1 1 [.int .u8 32] rfl rfl ?cd1 ?cd2 ?cd3 ?cd4 ?cd5 ?_)
                  try case cd1 => exact cells_new _ _ _
                  case cd2 => first | rfl | (intro u hu; simp at hu; subst hu; rfl) | simp
                  case cd3 => unfold maxLen; omega
                  case cd4 => omega
                  case cd5 => first | omega | (have := hB.size; simp; omega)
                  intro v' w7 hown' hgrow _
                  have hB7 := (hB.alloc hB.size (.cells #[.int .u8 32] 5)).grown hgrow (by have := hB.size; simp; omega) (fun j hj => by have := (hrow.lt j hj).1; omega)
                  obtain ⟨g7, cap7, rfl⟩ := ownsRow_succ hown'
                  have HW7 : Hid (w7.ownsRow w5.heap.size 5 1 (.slice (some ⟨g7, 0, none⟩) (l'.length + 1) cap7) (l' ++ [32]).length (bytesU (l' ++ [32]))) := by
                    show World.ownsRow _ _ _ _ _ _ _
                    rw [bytesU_app, List.length_append]
                    exact hown'
                  have HB7 : Hid _ := hB7
                  clear hown' hgrow hB7 hrow hB
                  go_wp2
                  go_roundw
                  case rel =>
                    have hR : ∃ (j' : Nat) (l2 : List UInt8), j' ≤ m ∧ Value.int .i64 ((j : Int) + 1) = .int .i64 j' ∧ l2 = l ++ [u] ++ List.replicate j' 32 ∧ l2.length = l.length + 1 + j' ∧ (j' = 0 ∨ c = 10) ∧ w7.ownsRow w5.heap.size 5 1 (.slice (some ⟨g7, 0, none⟩) (l'.length + 1) cap7) l2.length (bytesU l2) ∧ Below w5.heap.size w5 w7 := ⟨j + 1, l' ++ [32], by omega, by go_num, by rw [HL'.out, List.replicate_succ']; simp, by have := HLL.out; simp; omega, .inr HC10.out, HW7.out, HB7.out⟩
                    first | exact hR | ((repeat apply Exists.intro); exact ⟨hR, rfl⟩)
                  case measure => simp [intOf]; omega
                · obtain rfl : j = m := by omega
                  have HE : Hid (l' = ins j (S.data.toList.take (k + 1))) := by show _ = _; rw [HL'.out]; exact HEND.out j (.inl ⟨rfl, HC10.out⟩)
                  clear HEND HL' HJ
                  go_wp2
                  go_roundw
                  case rel => exact ⟨k + 1, l', by omega, by go_num, HE.out, by have := HLL.out; omega, hrow, hB⟩
                  case measure => simp [intOf]; omega
              · obtain rfl : j = 0 := by
                  rcases HJ.out with h | h
                  · exact h
                  · exact absurd h hc
                have HE : Hid (l' = ins m (S.data.toList.take (k + 1))) := by show _ = _; rw [HL'.out]; exact HEND.out 0 (.inr ⟨rfl, hc⟩)
                have hc' : ((c : Int) == 10) = false := by simp; omega
                have hm0 : (0 : Int) < m := by omega
                clear HEND HL' HJ
                go_wp2
                go_roundw
                case rel => exact ⟨k + 1, l', by omega, by go_num, HE.out, by have := HLL.out; omega, hrow, hB⟩
                case measure => simp [intOf]; omega
          · obtain rfl : k = S.size := by omega
            have HE : Hid (T = ⟨l.toArray⟩) := by
              show _ = _
              rw [HT.out, HL.out, List.take_of_length_le (by simp)]
            obtain ⟨va, vc, rfl⟩ := row_slice hrow
            have hsx := HSX.out
            have hB' : Below X.heap.size X wr := HBX5.out.trans (hB.mono HBX5.out.size)
            have T0 : Tn w w5.heap.size w2.heap.size (.slice va l.length vc) l wr := by
              have hq := HX0.out
              have e1 : ∀ q, wr.cell? ⟨w2.heap.size + 1, q, none⟩ = X.cell? ⟨w2.heap.size + 1, q, none⟩ := fun q => hB'.cell (p := ⟨w2.heap.size + 1, q, none⟩) (by show w2.heap.size + 1 < _; omega)
              exact ⟨HX2.out.keep hB' (by omega), ⟨(e1 _).trans (blk_cell HK1.out (j := 0) rfl).1, (e1 _).trans (blk_cell HK1.out (j := 1) rfl).1, (e1 _).trans (blk_cell HK1.out (j := 2) rfl).1, (e1 _).trans (blk_cell HK1.out (j := 3) rfl).1⟩, hq.keep hB' (by omega), hrow, by have := hB'.size; omega, HB5.out.trans (hB.mono HB5.out.size)⟩
            have HS18 : Hid _ := fun W => same_hard W
            have HALV : Hid _ := fun W => alive_any W
            rw [HE.out]
            clear hrow hB hB' hsx HT HL H5 HE HAL
            go_wp2
            have T := T0
            obtain ⟨W0, hW0⟩ : ∃ W0, wr = W0 := ⟨_, rfl⟩
            rw [hW0] at T T0 ⊢
            clear hW0
            go_region_held3 (fun W' => W'.cell? ⟨w2.heap.size + 1 + 1, 3, none⟩ = some (.slice (some ⟨w2.heap.size + 1, 0, none⟩) 2 2) ∧ W'.cell? ⟨w2.heap.size + 1, 0, none⟩ = some (.int .i64 3) ∧ W'.cell? ⟨w2.heap.size + 1, 1, none⟩ = some (.string ⟨#[]⟩) ∧ W'.cell? ⟨w2.heap.size + 1, 2, none⟩ = some (.int .i64 0) ∧ W'.cell? ⟨w2.heap.size + 1, 3, none⟩ = some (.slice none 0 0) ∧ W'.cell? ⟨w2.heap.size, 0, none⟩ = some (.int .i64 3) ∧ W'.cell? ⟨w2.heap.size, 1, none⟩ = some (.string ⟨#[]⟩) ∧ W'.cell? ⟨w2.heap.size, 2, none⟩ = some (.int .i64 0) ∧ W'.cell? ⟨w2.heap.size, 3, none⟩ = some (.slice none 0 0) ∧ (convert 40 9 (.slice va l.length vc)).run Try.prog W' = .ok (.string ⟨l.toArray⟩) W') (first | exact T.facts | exact T.drew.facts) (first | (go_at_call 10; refine (HALV.out _).mono ?_; rintro e w8 ⟨rfl, hb8⟩; replace T : Tn w w5.heap.size w2.heap.size (.slice va l.length vc) l w8 := (by first | exact Tn.nx hb8 T | exact Tn.nx hb8 T.drew); clear hb8) | (go_at_call 18; refine (HS18.out _).mono ?_; rintro e w9 ⟨rfl, hb9⟩; replace T : Tn w w5.heap.size w2.heap.size (.slice va l.length vc) l w9 := (by first | exact Tn.nx hb9 T | exact Tn.nx hb9 T.drew); clear hb9))
            all_goals go_wp2
            all_goals go_ret
            all_goals exact ⟨by simp, T.bel⟩
      · have HH2 : Hid _ := hC2
        clear hC2 HN HZ
        rcases HH2.out with rfl | rfl | rfl
        · exact absurd rfl hq2
        all_goals
          clear hq2 HH2
          go_wp2_with (go_at_call 10; refine (HAL.out w5 HB5.out).mono ?_)
          rintro e w6 ⟨rfl, hb6⟩
          have HB6 : Hid _ := hb6
          clear hb6
          go_wp2
          go_ret
          exact ⟨rfl, HB6.out⟩
    · have HH1 : Hid _ := hC1
      clear hC1 hC2 HN HZ
      rcases HH1.out with rfl | rfl | rfl
      · exact absurd rfl hq1
      all_goals
        clear hq1 HH1
        go_wp2_with (go_at_call 10; refine (HAL.out w5 HB5.out).mono ?_)
        rintro e w6 ⟨rfl, hb6⟩
        have HB6 : Hid _ := hb6
        clear hb6
        go_wp2
        go_ret
        exact ⟨rfl, HB6.out⟩
end Go.Proofs.Ytbmejfcbladofaa
