/- Which trees are of a symbol: trees.isOf, walked. -/
import Derived.Test.YtlnlkbkmnkjbhaaDoorGi
namespace Go.Proofs.YtlnlkbkmnkjbhaaDoor
open Go.RowKit

theorem zip_snd {α β : Type} : ∀ (a : List α) (b : List β), a.length = b.length → (a.zip b).map Prod.snd = b
  | [], [], _ => rfl
  | [], _ :: _, h => by simp at h
  | _ :: _, [], h => by simp at h
  | x :: a, y :: b, h => by simp at h; simp [zip_snd a b h]
set_option maxRecDepth 100000 in
set_option maxHeartbeats 8000000 in
theorem isOf_any (G : Gm) (ga : Option Addr) (gc : Nat) (s : Ks) (d : Tr) (sa : Option Addr) (sc f : Nat) (w : World) (hR : RAt w w.heap.size ga G.rules) (hs : s.set.ok) (hk : TAt w w.heap.size f sa d.kids) (hlen : sz d ≤ 1000000000) :
    Calls Tryd.prog 40 #[.agg #[.int .i64 G.nts, .int .i64 G.start, .slice ga G.rules.length gc], .agg #[.int .i64 s.nt, .int .u64 s.set.a, .int .u64 s.set.b, .int .u64 s.set.c, .int .u64 s.set.d], .agg #[.int .i64 d.rule, .int .u8 (d.byte.toNat : Int), .slice sa d.kids.length sc]] w fun e w' => e = .returned (.bool (isS G s d)) ∧ Below w.heap.size w w' := by
  obtain ⟨i0, hi0, hz0, hz1, hz2⟩ := info_parts (show (Tryd.prog.info? 100).map (fun i => (i.zero, i.size, i.bytes)) = some (some (.agg #[.int .i64 0, .int .u64 0, .int .u64 0, .int .u64 0, .int .u64 0, .int .i64 0, .int .u8 0, .slice none 0 0]), 8, 80) by kernel_rfl)
  obtain ⟨w1, hw1⟩ : ∃ w1, w.alloc (.cells #[.int .i64 G.nts, .int .i64 G.start, .slice ga G.rules.length gc] 24) = w1 := ⟨_, rfl⟩
  obtain ⟨w2, hw2⟩ : ∃ w2, w1.alloc (.cells #[.int .i64 s.nt, .int .u64 s.set.a, .int .u64 s.set.b, .int .u64 s.set.c, .int .u64 s.set.d] 71) = w2 := ⟨_, rfl⟩
  obtain ⟨w3, hw3⟩ : ∃ w3, w2.alloc (.cells #[.int .i64 d.rule, .int .u8 (d.byte.toNat : Int), .slice sa d.kids.length sc] 27) = w3 := ⟨_, rfl⟩
  obtain ⟨w4, hw4⟩ : ∃ w4, w3.alloc (.cells #[.int .i64 s.nt, .int .u64 s.set.a, .int .u64 s.set.b, .int .u64 s.set.c, .int .u64 s.set.d, .int .i64 d.rule, .int .u8 (d.byte.toNat : Int), .slice sa d.kids.length sc] 100) = w4 := ⟨_, rfl⟩
  have s1 : w1.heap.size = w.heap.size + 1 := by rw [← hw1]; simp
  have s2 : w2.heap.size = w.heap.size + 2 := by rw [← hw2]; simp [s1]
  have s3 : w3.heap.size = w.heap.size + 3 := by rw [← hw3]; simp [s2]
  have s4 : w4.heap.size = w.heap.size + 4 := by rw [← hw4]; simp [s3]
  have hB1 : Below w.heap.size w w1 := by rw [← hw1]; exact (Below.refl _ _).alloc (Nat.le_refl _) _
  have hB2 : Below w1.heap.size w1 w2 := by rw [← hw2]; exact (Below.refl _ _).alloc (Nat.le_refl _) _
  have hB3 : Below w2.heap.size w2 w3 := by rw [← hw3]; exact (Below.refl _ _).alloc (Nat.le_refl _) _
  have hB4 : Below w3.heap.size w3 w4 := by rw [← hw4]; exact (Below.refl _ _).alloc (Nat.le_refl _) _
  have hB14 : Below w1.heap.size w1 w4 := hB2.trans ((hB3.trans (hB4.mono hB3.size)).mono hB2.size)
  have hBw : Below w.heap.size w w4 := hB1.trans (hB14.mono hB1.size)
  have gg : ∀ j v, (#[.int .i64 G.nts, .int .i64 G.start, .slice ga G.rules.length gc] : Array Value)[j]? = some v → w4.cell? ⟨w.heap.size, j, none⟩ = some v := fun j v hv => (hB14.cell (p := ⟨w.heap.size, j, none⟩) (by show w.heap.size < _; omega)).trans (by rw [← hw1]; exact cell_new j hv)
  have sk : ∀ j v, (#[.int .i64 s.nt, .int .u64 s.set.a, .int .u64 s.set.b, .int .u64 s.set.c, .int .u64 s.set.d] : Array Value)[j]? = some v → w3.cell? ⟨w.heap.size + 1, j, none⟩ = some v := fun j v hv => (hB3.cell (p := ⟨w.heap.size + 1, j, none⟩) (by show w.heap.size + 1 < _; omega)).trans (by rw [← hw2, ← s1]; exact cell_new j hv)
  have dk : ∀ j v, (#[.int .i64 d.rule, .int .u8 (d.byte.toNat : Int), .slice sa d.kids.length sc] : Array Value)[j]? = some v → w3.cell? ⟨w.heap.size + 2, j, none⟩ = some v := fun j v hv => by rw [← hw3, ← s2]; exact cell_new j hv
  have hblk : w4.heap[w.heap.size + 3]? = some (.cells #[.int .i64 s.nt, .int .u64 s.set.a, .int .u64 s.set.b, .int .u64 s.set.c, .int .u64 s.set.d, .int .i64 d.rule, .int .u8 (d.byte.toNat : Int), .slice sa d.kids.length sc] 100 (0, 0)) := by rw [← hw4, ← s3]; exact World.alloc_heap_new _ _
  have hOI : OI w4 (w.heap.size + 3) f G s d (.slice (some ⟨w.heap.size + 3, 0, none⟩) 1 1) w4 [(s, d)] (clm s d sa sc) (sz d) := by
    refine ⟨⟨⟨rfl, .inr ⟨_, 1, _, rfl, Nat.le_refl _, hblk, Nat.le_refl _, by unfold maxLen; omega, rfl, rfl⟩⟩, fun j p hj => ?_⟩, Below.refl _ _, by simp, by simp [ctot, szL], by simp [ctot, szL]⟩
    match j, hj with
    | 0, hj => cases hj; exact ⟨hs, sa, sc, (hk.keep hBw).mono (by omega), fun r u hu => by simpa using hu⟩
  have HOI : Hid _ := hOI
  have HBw : Hid _ := hBw
  have HS4 : Hid _ := s4
  have HLE : Hid _ := hlen
  have HRR : Hid (∀ W, Below (w.heap.size + 3) w4 W → RAt W W.heap.size ga G.rules) := fun W h => ((hR.keep (hBw.trans (h.mono (by omega)))).mono (by have := h.size; omega))
  have HRW : Hid _ := hR
  have HGG : Hid (∀ W, Below (w.heap.size + 3) w4 W → W.cell? ⟨w.heap.size, 0, none⟩ = some (.int .i64 G.nts) ∧ W.cell? ⟨w.heap.size, 1, none⟩ = some (.int .i64 G.start) ∧ W.cell? ⟨w.heap.size, 2, none⟩ = some (.slice ga G.rules.length gc)) := fun W h => by
    have k : ∀ q, W.cell? ⟨w.heap.size, q, none⟩ = w4.cell? ⟨w.heap.size, q, none⟩ := fun q => h.cell (p := ⟨w.heap.size, q, none⟩) (by show w.heap.size < _; omega)
    exact ⟨(k 0).trans (gg 0 _ rfl), (k 1).trans (gg 1 _ rfl), (k 2).trans (gg 2 _ rfl)⟩
  clear hOI hBw s4 hlen hR gg hblk hB14 hB1 hB2 hB3 hB4 hk hs
  have q0 := sk 0 _ rfl
  have q1 := sk 1 _ rfl
  have q2 := sk 2 _ rfl
  have q3 := sk 3 _ rfl
  have q4 := sk 4 _ rfl
  have q5 := dk 0 _ rfl
  have q6 := dk 1 _ rfl
  have q7 := dk 2 _ rfl
  clear sk dk
  go_enter Tryd.func40, Tryd.ntmps40
  go_wp2
  go_loopw [7] (fun wv wr => ∃ k, OE w4 (w.heap.size + 3) f G s d wv wr k) (fun wv wr => least (OE w4 (w.heap.size + 3) f G s d wv wr))
  case atStart => exact ⟨_, _, _, HOI.out⟩
  case round =>
    clear q0 q1 q2 q3 q4 q5 q6 q7
    obtain ⟨k1, hk1⟩ := hrel
    obtain ⟨ps, cs, hP⟩ := least_spec hk1
    clear hk1
    generalize hkk : least (OE w4 (w.heap.size + 3) f G s d _ _) = k at hP
    have HKK : Hid _ := hkk
    clear hkk
    have hBr : Below w.heap.size w wr := HBw.out.trans (hP.bel.mono (by omega))
    rcases List.eq_nil_or_concat ps with rfl | ⟨P, p, hPP⟩
    · obtain ⟨va, vc, rfl⟩ := row_slice hP.ws.row
      have HE : Hid (isS G s d = true) := by show _ = _; rw [hP.eq]; rfl
      have HB : Hid _ := hBr
      clear hP hBr
      go_wp2
      go_ret
      exact ⟨by rw [HE.out]; rfl, HB.out⟩
    · rw [List.concat_eq_append] at hPP
      subst hPP
      obtain ⟨g, cap, xa, xc, rfl, hgi, hgs, hcap, tt, hpok, hxk, hws⟩ := hP.ws.top
      have t0 : wr.cell? ⟨g, P.length * 8, none⟩ = some (.int .i64 p.1.nt) := tt 0 _ rfl
      have t1 : wr.cell? ⟨g, P.length * 8 + 1, none⟩ = some (.int .u64 p.1.set.a) := tt 1 _ rfl
      have t2 : wr.cell? ⟨g, P.length * 8 + 2, none⟩ = some (.int .u64 p.1.set.b) := tt 2 _ rfl
      have t3 : wr.cell? ⟨g, P.length * 8 + 3, none⟩ = some (.int .u64 p.1.set.c) := tt 3 _ rfl
      have t4 : wr.cell? ⟨g, P.length * 8 + 4, none⟩ = some (.int .u64 p.1.set.d) := tt 4 _ rfl
      have t5 : wr.cell? ⟨g, P.length * 8 + 5, none⟩ = some (.int .i64 p.2.rule) := tt 5 _ rfl
      have t6 : wr.cell? ⟨g, P.length * 8 + 6, none⟩ = some (.int .u8 (p.2.byte.toNat : Int)) := tt 6 _ rfl
      have t7 : wr.cell? ⟨g, P.length * 8 + 7, none⟩ = some (.slice xa p.2.kids.length xc) := tt 7 _ rfl
      have hszp : ctot (P ++ [p]) = ctot P + sz p.2 := by rw [ctot_app]; simp [ctot, szL]
      have hPl : P.length + 1 ≤ 1000000000 := by
        have h1 := len_ctot (P ++ [p])
        have h2 := hP.le
        have h3 := HLE.out
        simp at h1
        omega
      have hbnd : P.length + p.2.kids.length ≤ 1000000000 := by
        have h1 := len_ctot P
        have h2 := hP.le
        have h3 := HLE.out
        have h4 := len_szL p.2.kids
        have h5 := sz_eq p.2
        omega
      have hsb : IntKind.i64.wrap (((P.length + 1 : Nat) : Int) - 1) = (P.length : Int) := by rw [IntKind.wrap_i64]; omega
      have hlt1 : (P.length : Int) < ((P.length + 1 : Nat) : Int) := by omega
      have hz9 : (0 : Int) < ((P.length : Int) + 1) := by omega
      obtain ⟨V, hV⟩ : ∃ V, wr.alloc (.cells #[.int .i64 p.1.nt, .int .u64 p.1.set.a, .int .u64 p.1.set.b, .int .u64 p.1.set.c, .int .u64 p.1.set.d, .int .i64 p.2.rule, .int .u8 (p.2.byte.toNat : Int), .slice xa p.2.kids.length xc] 100) = V := ⟨_, rfl⟩
      have hBV : Below wr.heap.size wr V := by rw [← hV]; exact (Below.refl _ _).alloc (Nat.le_refl _) _
      have sV : V.heap.size = wr.heap.size + 1 := by rw [← hV]; simp
      have hbs := hP.bel.size
      have hs4 := HS4.out
      have hBV3 : Below (w.heap.size + 3) w4 V := hP.bel.trans (hBV.mono (by omega))
      have hBwV : Below w.heap.size w V := hBr.trans (hBV.mono hBr.size)
      have hws2 : Cwt w4 V (w.heap.size + 3) (w.heap.size + 3) f (.slice (some ⟨g, 0, none⟩) P.length cap) P (cs.take (P.length * 8)) := hws.move (fun g' hg' => by simp [Value.ownBlock] at hg'; subst hg'; exact hBV.block g hgs)
      obtain ⟨v0, v1, v2⟩ := HGG.out V hBV3
      have b0 : ∀ j v, (#[.int .i64 p.1.nt, .int .u64 p.1.set.a, .int .u64 p.1.set.b, .int .u64 p.1.set.c, .int .u64 p.1.set.d, .int .i64 p.2.rule, .int .u8 (p.2.byte.toNat : Int), .slice xa p.2.kids.length xc] : Array Value)[j]? = some v → V.cell? ⟨wr.heap.size, j, none⟩ = some v := fun j v hv => by rw [← hV]; exact cell_new j hv
      have y0 : V.cell? ⟨wr.heap.size, 0, none⟩ = some (.int .i64 p.1.nt) := b0 0 _ rfl
      have y1 : V.cell? ⟨wr.heap.size, 1, none⟩ = some (.int .u64 p.1.set.a) := b0 1 _ rfl
      have y2 : V.cell? ⟨wr.heap.size, 2, none⟩ = some (.int .u64 p.1.set.b) := b0 2 _ rfl
      have y3 : V.cell? ⟨wr.heap.size, 3, none⟩ = some (.int .u64 p.1.set.c) := b0 3 _ rfl
      have y4 : V.cell? ⟨wr.heap.size, 4, none⟩ = some (.int .u64 p.1.set.d) := b0 4 _ rfl
      have y5 : V.cell? ⟨wr.heap.size, 5, none⟩ = some (.int .i64 p.2.rule) := b0 5 _ rfl
      have y6 : V.cell? ⟨wr.heap.size, 6, none⟩ = some (.int .u8 (p.2.byte.toNat : Int)) := b0 6 _ rfl
      have y7 : V.cell? ⟨wr.heap.size, 7, none⟩ = some (.slice xa p.2.kids.length xc) := b0 7 _ rfl
      have HP : Hid _ := hP
      have HW2 : Hid _ := hws2
      have HBV3 : Hid _ := hBV3
      have HBwV : Hid _ := hBwV
      have HXK : Hid _ := hxk
      have HB0 : Hid _ := b0
      have HGW : Hid (g < wr.heap.size) := hgs
      have hEQ := isS_eq G p.1 p.2
      by_cases hn : p.1.nt < 0
      · have HC : Hid _ := fun (_ : Unit) => isBy_any p.1.set p.2 xa xc V hpok
        rw [if_pos hn] at hEQ
        have HEQ : Hid _ := hEQ
        clear hP hws hBr hxk hws2 hBV3 hBwV b0 hBV hEQ hpok tt hbs
        cases hby : isBy p.1.set p.2 with
        | false =>
          rw [hby] at HC HEQ
          have HE : Hid (isS G s d = false) := HP.out.bad HEQ.out
          clear hby
          go_wp2_with (go_at_call 64; refine (HC.out ()).mono ?_; rintro e w5 ⟨rfl, hb5⟩)
          go_ret
          exact ⟨by rw [HE.out]; rfl, below_of HBwV.out hb5⟩
        | true =>
          rw [hby] at HC HEQ
          clear hby
          go_wp2_with (go_at_call 64; refine (HC.out ()).mono ?_; rintro e w5 ⟨rfl, hb5⟩)
          have hws5 : Cwt w4 w5 (w.heap.size + 3) (w.heap.size + 3) f (.slice (some ⟨g, 0, none⟩) P.length cap) (P ++ []) (cs.take (P.length * 8)) := by
            rw [List.append_nil]
            exact HW2.out.move (fun g' hg' => by simp [Value.ownBlock] at hg'; subst hg'; exact hb5.block g (by omega))
          obtain ⟨k', hk', hOE⟩ := HP.out.step (qs := []) hws5 HEQ.out (by show szL [] < _; rw [szL, sz_eq]; omega) (HBV3.out.trans (hb5.mono (by omega)))
          exact ⟨⟨_, hOE⟩, by rw [HKK.out]; exact Nat.lt_of_le_of_lt (least_le hOE) hk'⟩
      · have hn' : decide (p.1.nt < 0) = false := by simp; omega
        rw [if_neg hn] at hEQ
        have HC : Hid _ := fun (_ : Unit) => isNd_any G ga gc p.1.nt p.2 xa xc V (HRR.out V hBV3)
        have HEQ : Hid _ := hEQ
        cases hnd : isNd G p.1.nt p.2.rule p.2.byte p.2.kids.length with
        | false =>
          rw [hnd] at HC HEQ
          have HE : Hid (isS G s d = false) := HP.out.bad (by rw [HEQ.out]; rfl)
          clear hP hws hBr hxk hws2 hBV3 hBwV b0 hBV hEQ hpok tt hbs hnd
          go_wp2_with (go_at_call 65; refine (HC.out ()).mono ?_; rintro e w5 ⟨rfl, hb5⟩)
          go_ret
          exact ⟨by rw [HE.out]; rfl, below_of HBwV.out hb5⟩
        | true =>
          have hnd2 := hnd
          unfold isNd at hnd2
          simp only [Bool.and_eq_true, decide_eq_true_eq, beq_iff_eq] at hnd2
          obtain ⟨⟨⟨⟨r0, r1⟩, r2⟩, r3⟩, r4⟩ := hnd2
          obtain ⟨r, hr⟩ : ∃ r, G.rules[p.2.rule.toNat]? = some r := ⟨G.rules[p.2.rule.toNat]'(by omega), by simp⟩
          have hro : ruleOf G p.2.rule = r := by unfold ruleOf; rw [List.getD_eq_getElem?_getD, hr]; rfl
          rw [hro] at r4
          rw [hnd] at HC HEQ
          rw [hro, Bool.true_and, allS_zip] at HEQ
          obtain ⟨b, o, ka, kc, rfl, hb, hK, c0, c1⟩ := HRW.out.cells _ r hr
          obtain ⟨m, hm⟩ : ∃ m : Nat, p.2.rule = (m : Int) := ⟨p.2.rule.toNat, by omega⟩
          have hmm : p.2.rule.toNat = m := by omega
          rw [hmm] at c1
          rw [hm] at y5 t5 hV HC
          have hml : (m : Int) < (G.rules.length : Int) := by omega
          have c1V := (hBwV.cell (p := ⟨b, o + m * 2 + 1, none⟩) hb).trans c1
          have hbV : b < V.heap.size := by have := hBwV.size; omega
          have HKA : Hid _ := hK
          have HR4 : Hid _ := r4
          have HZ : Hid (ctot (r.rhs.zip p.2.kids) < sz p.2) := by
            show ctot _ < _
            unfold ctot
            rw [zip_snd _ _ r4, sz_eq]; omega
          have hrl : r.rhs.length ≤ 1000000000 := by omega
          have hw8 : w.heap.size < V.heap.size := by omega
          have hw9 : wr.heap.size < V.heap.size := by omega
          clear hP hws hBr hxk hws2 hBV3 hBwV b0 hBV hEQ hpok tt hbs hnd r0 r1 r2 r3 r4 hr hro hK c0 c1 hm hmm
          go_wp2_with (go_at_call 65; refine (HC.out ()).mono ?_; rintro e w5 ⟨rfl, hb5⟩; have f2 := (hb5.cell (p := ⟨w.heap.size, 2, none⟩) hw8).trans v2; have f5 := (hb5.cell (p := ⟨wr.heap.size, 5, none⟩) hw9).trans y5; have c1' := (hb5.cell (p := ⟨b, o + m * 2 + 1, none⟩) hbV).trans c1V; have HB5 : Hid _ := hb5; clear hb5)
          have hcw5 : Cwt w4 w5 (w.heap.size + 3) (w.heap.size + 3) f (.slice (some ⟨g, 0, none⟩) P.length cap) (P ++ []) (cs.take (P.length * 8)) := by
            rw [List.append_nil]
            exact HW2.out.move (fun g' hg' => by simp [Value.ownBlock] at hg'; subst hg'; exact HB5.out.block g (by omega))
          have HW5 : Hid _ := hcw5
          have HBB5 : Hid (Below (w.heap.size + 3) w4 w5) := HBV3.out.trans (HB5.out.mono (by omega))
          have f7 := (HB5.out.cell (p := ⟨wr.heap.size, 7, none⟩) hw9).trans y7
          have HS5 : Hid (wr.heap.size < w5.heap.size) := Nat.lt_of_lt_of_le hw9 HB5.out.size
          have HB4 : Hid (w.heap.size + 4 ≤ wr.heap.size) := by have := HP.out.bel.size; show _ ≤ _; omega
          have HG8 : Hid ((Value.slice (some ⟨g, 0, none⟩) P.length cap).ownBlock ≠ some wr.heap.size) := fun e => by simp [Value.ownBlock] at e; omega
          have HF7 : Hid _ := f7
          clear hcw5 f2 f5 f7 c1' c1V v0 v1 v2 y0 y1 y2 y3 y4 y5 y6 y7 t0 t1 t2 t3 t4 t5 t6 t7 HC
          obtain ⟨wq, hwq⟩ : ∃ wq, wq = wr := ⟨_, rfl⟩
          subst hwq
          go_loopw [7, 57] (fun wv i W => ∃ (j : Nat) (qs : List (Ks × Tr)) (cs' : List Value), j ≤ r.rhs.length ∧ i = .int .i64 (j : Int) ∧ Cwt w4 W (w.heap.size + 3) (w.heap.size + 3) f wv (P ++ qs) cs' ∧ qs = (r.rhs.zip p.2.kids).take j ∧ Below (w.heap.size + 3) w4 W ∧ W.cell? ⟨wq.heap.size, 7, none⟩ = some (.slice xa p.2.kids.length xc) ∧ wq.heap.size < W.heap.size ∧ wv.ownBlock ≠ some wq.heap.size) (fun _ i _ => r.rhs.length - (intOf i).toNat)
          case atStart => exact ⟨0, [], _, by omega, rfl, HW5.out, rfl, HBB5.out, HF7.out, HS5.out, HG8.out⟩
          case round =>
            obtain ⟨j, qs, cs', hj, rfl, hcw, hqs, hB, hf7, hs8, hne8⟩ := hrel
            have hql : qs.length = j := by rw [hqs]; have := HR4.out; simp; omega
            have HCW : Hid _ := hcw
            have HQS : Hid _ := hqs
            have HBB : Hid _ := hB
            have HNE : Hid _ := hne8
            have hrow := hcw.row
            have hbs5 := hB.size
            have hs44 := HS4.out
            by_cases hlt : j < r.rhs.length
            · have hlt' : j < p.2.kids.length := by have := HR4.out; omega
              obtain ⟨x, hx⟩ : ∃ x, r.rhs[j]? = some x := ⟨r.rhs[j], by simp [hlt]⟩
              obtain ⟨y, hy⟩ : ∃ y, p.2.kids[j]? = some y := ⟨p.2.kids[j], by simp [hlt']⟩
              obtain ⟨kb, ko, rfl, hkb, hxok, k0, k1, k2, k3, k4⟩ := HKA.out.cells j x hx
              have hBw5 : Below w.heap.size w wr := HBw.out.trans (hB.mono (by omega))
              have kk : ∀ q, wr.cell? ⟨kb, q, none⟩ = w.cell? ⟨kb, q, none⟩ := fun q => hBw5.cell (p := ⟨kb, q, none⟩) hkb
              have k0' := (kk _).trans k0
              have k1' := (kk _).trans k1
              have k2' := (kk _).trans k2
              have k3' := (kk _).trans k3
              have k4' := (kk _).trans k4
              obtain ⟨b2, o2, hxa, hb2, ya, yc, z0, z1, z2, hyc, hyk⟩ := (show TAt w4 (w.heap.size + 3) f xa p.2.kids from HXK.out).one hy
              subst hxa
              have zz : ∀ q, wr.cell? ⟨b2, q, none⟩ = w4.cell? ⟨b2, q, none⟩ := fun q => hB.cell (p := ⟨b2, q, none⟩) hb2
              have z0' := (zz _).trans z0
              have z1' := (zz _).trans z1
              have z2' := (zz _).trans z2
              have hb2w : b2 < wr.heap.size := by omega
              have hjI : (j : Int) < (r.rhs.length : Int) := by omega
              have hjI2 : (j : Int) < (p.2.kids.length : Int) := by omega
              have HQ1 : Hid (qs ++ [(x, y)] = (r.rhs.zip p.2.kids).take (j + 1)) := by
                show _ = _
                rw [List.take_add_one, ← hqs, (List.getElem?_zip_eq_some (z := (x, y))).2 ⟨hx, hy⟩]; rfl
              have HPU : Hid (x.set.ok ∧ TAt w4 (w.heap.size + 3) f ya y.kids) := ⟨hxok, hyk⟩
              have hPq : (P ++ qs).length + 1 ≤ 1000000000 := by simp; omega
              obtain ⟨L, HLn⟩ : ∃ L, Hid ((P ++ qs).length = L) := ⟨_, rfl⟩
              rw [HLn.out] at hrow hPq
              obtain ⟨va, vc, rfl⟩ := row_slice hrow
              have HN : Hid (∀ i u, [Value.int .i64 x.nt, .int .u64 x.set.a, .int .u64 x.set.b, .int .u64 x.set.c, .int .u64 x.set.d, .int .i64 y.rule, .int .u8 (y.byte.toNat : Int), .slice ya y.kids.length yc][i]? = some u → ((wr.alloc (.cells #[.int .i64 x.nt, .int .u64 x.set.a, .int .u64 x.set.b, .int .u64 x.set.c, .int .u64 x.set.d] 71)).alloc (.cells #[.int .i64 x.nt, .int .u64 x.set.a, .int .u64 x.set.b, .int .u64 x.set.c, .int .u64 x.set.d, .int .i64 y.rule, .int .u8 (y.byte.toNat : Int), .slice ya y.kids.length yc] 100)).drew.cell? ((⟨wr.heap.size + 1, 0, none⟩ : Addr).add i) = some u) := fun i u hu => by
                have hadd : (⟨wr.heap.size + 1, 0, none⟩ : Addr).add i = ⟨wr.heap.size + 1, i, none⟩ := by unfold Addr.add; split <;> simp_all
                rw [hadd]
                have := cell_new (w := wr.alloc (.cells #[.int .i64 x.nt, .int .u64 x.set.a, .int .u64 x.set.b, .int .u64 x.set.c, .int .u64 x.set.d] 71)) (cs := #[.int .i64 x.nt, .int .u64 x.set.a, .int .u64 x.set.b, .int .u64 x.set.c, .int .u64 x.set.d, .int .i64 y.rule, .int .u8 (y.byte.toNat : Int), .slice ya y.kids.length yc]) (t := 100) (v := u) i (by simpa using hu)
                rw [World.size_alloc] at this
                exact this
              have hb2w1 : b2 < wr.heap.size + 1 := by omega
              have hs81 : wq.heap.size < wr.heap.size + 1 := by omega
              clear hx hy hql hqs hcw k0 k1 k2 k3 k4 z0 z1 z2 zz kk hyk hxok hBw5 HKA HW5 HBB5 HF7 hne8
              go_wp2
              go_region_law (refine step_append_lies _ (by rfl) _ _ _ (by rfl) (w.heap.size + 3) 100 i0 _ 8 80 Tryd.underlying101 hi0 hz0 hz1 hz2 rfl (by omega) (.slice va L vc) L cs' (by rfl) (by first | exact ((hrow.alloc _).alloc _).drew | exact ((hrow.alloc _).drew.alloc _)) ⟨wr.heap.size + 1, 0, none⟩ 1 1 [.int .i64 x.nt, .int .u64 x.set.a, .int .u64 x.set.b, .int .u64 x.set.c, .int .u64 x.set.d, .int .i64 y.rule, .int .u8 (y.byte.toNat : Int), .slice ya y.kids.length yc] (by rfl) (by rfl) HN.out (by intro u hu; simp at hu; rcases hu with rfl | rfl | rfl | rfl | rfl | rfl | rfl | rfl <;> rfl) (by omega) (by unfold maxLen; omega) (by omega) (by simp; omega) (wr.heap.size + 2) (by simp) ?_; intro g1 cap1 w6 hown1 hgrow hat hlt5)
              all_goals (
                have hA : Below wr.heap.size wr ((wr.alloc (.cells #[.int .i64 x.nt, .int .u64 x.set.a, .int .u64 x.set.b, .int .u64 x.set.c, .int .u64 x.set.d] 71)).alloc (.cells #[.int .i64 x.nt, .int .u64 x.set.a, .int .u64 x.set.b, .int .u64 x.set.c, .int .u64 x.set.d, .int .i64 y.rule, .int .u8 (y.byte.toNat : Int), .slice ya y.kids.length yc] 100)).drew := (((Below.refl _ wr).alloc (Nat.le_refl _) _).alloc (by simp) _).drew
                have hB6 : Below (w.heap.size + 3) w4 w6 := (HBB.out.trans (hA.mono (by omega))).grown hgrow (by have := hA.size; omega) (fun q hq => (hrow.lt q hq).1)
                have hcw6 : Cwt w4 w6 (w.heap.size + 3) (w.heap.size + 3) f (.slice (some ⟨g1, 0, none⟩) (L + 1) cap1) (P ++ qs ++ [(x, y)]) _ := HCW.out.push (s := x) (d := y) (sa := ya) (sc := yc) HPU.out.1 HPU.out.2 (by rw [HLn.out]; exact hown1)
                rw [List.append_assoc] at hcw6
                have hk8 : w6.heap[wq.heap.size]? = wr.heap[wq.heap.size]? := (hgrow.block wq.heap.size (by have := hA.size; omega) (fun e => HNE.out e.symm)).trans (hA.block wq.heap.size hs8)
                have HF : Hid (w6.cell? ⟨wq.heap.size, 7, none⟩ = some (.slice (some ⟨b2, o2, none⟩) p.2.kids.length xc)) := (World.cell?_of_block (a := ⟨wq.heap.size, 7, none⟩) hk8).trans hf7
                have HS : Hid (wq.heap.size < w6.heap.size) := by have := hgrow.size; have := hA.size; show _ < _; omega
                have HG1 : Hid ((Value.slice (some ⟨g1, 0, none⟩) (L + 1) cap1).ownBlock ≠ some wq.heap.size) := fun e => by
                  simp [Value.ownBlock] at e
                  rcases hat with h | h
                  · exact HNE.out (by rw [h, e])
                  · omega
                have HB6 : Hid _ := hB6
                have HW6 : Hid _ := hcw6
                clear hB6 hcw6 hown1 hgrow hat hlt5 hA hk8
                go_wp2
                exact ⟨⟨j + 1, _, _, by omega, by go_num, HW6.out, HQ1.out, HB6.out, HF.out, HS.out, HG1.out⟩, by simp [intOf]; omega⟩)
            · have hjn : j = r.rhs.length := by omega
              have HF : Hid _ := HP.out.step HCW.out (by rw [HQS.out, hjn, List.take_of_length_le (by simp; have := HR4.out; omega)]; exact HEQ.out) (by rw [hqs, hjn, List.take_of_length_le (by simp; have := HR4.out; omega)]; exact HZ.out) HBB.out
              obtain ⟨va, vc, rfl⟩ := row_slice hrow
              subst hjn
              clear hrow hql hqs hcw hf7
              go_wp2
              obtain ⟨k', hk', hOE⟩ := HF.out
              exact ⟨⟨_, hOE⟩, by rw [HKK.out]; exact Nat.lt_of_le_of_lt (least_le hOE) hk'⟩
end Go.Proofs.YtlnlkbkmnkjbhaaDoor
