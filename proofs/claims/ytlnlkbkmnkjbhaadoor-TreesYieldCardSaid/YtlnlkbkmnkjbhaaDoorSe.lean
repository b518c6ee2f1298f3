/- The document's own spans; lists of spans that are the same. -/
import Derived.Test.YtlnlkbkmnkjbhaaDoorSb
import Derived.BigQuiet
namespace Go.Proofs.YtlnlkbkmnkjbhaaDoor
open Go.RowKit

theorem spnL_append (q : Bool) : ∀ (a b : List Tr) (p : Nat), spnL (a ++ b) p q = spnL a p q ++ spnL b (if q then p else p + (ylL a).length) q
  | [], b, p => by cases q <;> simp [spnL, ylL]
  | d :: a, b, p => by
    rw [List.cons_append, spnL, spnL, spnL_append q a b, List.append_assoc]
    cases q <;> simp [ylL, Nat.add_assoc]
theorem spnL_take {l : List Tr} {k : Nat} {x : Tr} (h : l[k]? = some x) (p : Nat) (q : Bool) : spnL (l.take (k + 1)) p q = spnL (l.take k) p q ++ spn x (if q then p else p + (ylL (l.take k)).length) q := by
  rw [List.take_add_one, h, spnL_append]
  simp [spnL]
set_option maxRecDepth 100000 in
set_option maxHeartbeats 8000000 in
theorem refSpn_any (f : Nat) : ∀ (N : Nat) (d : Tr) (sa : Option Addr) (sc p : Nat) (q : Bool) (w : World), sz d ≤ N → TAt w w.heap.size f sa d.kids → p + sz d ≤ 1000000000000 →
    Calls Tryd.prog 47 #[.agg #[.int .i64 d.rule, .int .u8 (d.byte.toNat : Int), .slice sa d.kids.length sc], .int .i64 (p : Int), .bool q] w fun e w' => (∃ v, e = .returned v ∧ w'.ownsRow w.heap.size 58 2 v (spn d p q).length (rcs (spn d p q))) ∧ Below w.heap.size w w' := by
  intro N
  induction N with
  | zero => intro d sa sc p q w hN; rw [sz_eq] at hN; omega
  | succ N ih =>
  intro d sa sc p q w hN hk hlim
  obtain ⟨i0, hinf, hz0, hz1, hz2⟩ := info_parts info58
  have hlen := hk.len
  have hsz := sz_eq d
  obtain ⟨w1, hw1⟩ : ∃ w1, w.alloc (.cells #[.int .i64 d.rule, .int .u8 (d.byte.toNat : Int), .slice sa d.kids.length sc] 27) = w1 := ⟨_, rfl⟩
  have hB1 : Below w.heap.size w w1 := by rw [← hw1]; exact (Below.refl _ _).alloc (Nat.le_refl _) _
  have s1 : w1.heap.size = w.heap.size + 1 := by rw [← hw1]; simp
  have a0 : w1.cell? ⟨w.heap.size, 0, none⟩ = some (.int .i64 d.rule) := by rw [← hw1]; exact cell_new 0 rfl
  have a1 : w1.cell? ⟨w.heap.size, 1, none⟩ = some (.int .u8 (d.byte.toNat : Int)) := by rw [← hw1]; exact cell_new 1 rfl
  have a2 : w1.cell? ⟨w.heap.size, 2, none⟩ = some (.slice sa d.kids.length sc) := by rw [← hw1]; exact cell_new 2 rfl
  have HB1 : Hid _ := hB1
  have HS1 : Hid _ := s1
  cases q
  · by_cases hr : d.rule = -1
    · skip
      have hre : (d.rule == -1) = true := by simpa using hr
      have HSP : Hid (spn d p false = (p, (p + (yl d).length)) :: spnL d.kids (p + (yl d).length) true) := by show _ = _; rw [spn_eq]; simp [hr]
      have HI : Hid _ := ih
      have HK : Hid _ := hk
      have HN : Hid _ := hN
      have HL : Hid _ := hlim
      have HZ : Hid _ := hsz
      have hyle := yl_le d
      have hy1 : (yl d).length = 1 := by rw [yl_leaf hr]; rfl
      have HY1 : Hid _ := hy1
      clear hy1
      have hpb : p ≤ 2000000000000 := by omega
      have hyb : (yl d).length ≤ 2000000000000 := by omega
      have hpe : p + (yl d).length ≤ 2000000000000 := by omega
      have HCY : Hid _ := fun (_ : Unit) => refYield_any f (N + 1) d sa sc w1 hN ((hk.keep hB1).mono hB1.size) (by omega)
      clear hr ih hk hN hlim hsz hyle s1
      go_enter Tryd.func47, Tryd.ntmps47
      go_wp2_with (go_at_call 24; refine (HCY.out ()).mono ?_)
      rintro e w2 ⟨⟨v2, rfl, hrow2⟩, hb2⟩
      obtain ⟨va2, vc2, hva2⟩ := row_slice hrow2
      subst hva2
      have HB2 : Hid (Below w1.heap.size w1 w2) := hb2
      have b0 := (hb2.cell (p := ⟨w.heap.size, 0, none⟩) (by have := HS1.out; show w.heap.size < _; omega)).trans a0
      clear hrow2 hb2
      have HCE : Hid (∀ (j : Nat) u, ([.int .i64 (p : Int), .int .i64 ((p + (yl d).length) : Nat)] : List Value)[j]? = some u → (w2.alloc (.cells #[.int .i64 (p : Int), .int .i64 ((p + (yl d).length) : Nat)] 58)).cell? ((⟨w2.heap.size, 0, none⟩ : Addr).add j) = some u) := fun j u hu => by
        have e : (⟨w2.heap.size, 0, none⟩ : Addr).add j = ⟨w2.heap.size, j, none⟩ := by simp [Addr.add]; omega
        rw [e]
        exact cell_new (w := w2) (t := 58) j (by rw [List.getElem?_toArray]; exact hu)
      have HNL : Hid _ := fun (_ : Unit) => World.ownsRow_nil (w2.alloc (.cells #[.int .i64 (p : Int), .int .i64 ((p + (yl d).length) : Nat)] 58)) w1.heap.size 58 2
      have HB5 : Hid (Below w1.heap.size w1 (w2.alloc (.cells #[.int .i64 (p : Int), .int .i64 ((p + (yl d).length) : Nat)] 58))) := HB2.out.alloc HB2.out.size _
      have hwe : IntKind.i64.wrap ((p : Int) + ((yl d).length : Int)) = ((p + (yl d).length) : Nat) := by rw [IntKind.wrap_i64]; omega
      go_wp2_with (at_builtin; refine wpList_append_own _ rfl _ _ 38 rfl w1.heap.size 58 i0 _ 2 16 Tryd.underlying38 hinf hz0 hz1 hz2 rfl (by decide) _ _ _ rfl (HNL.out ()) ⟨_, 0, none⟩ 1 1 [.int .i64 (p : Int), .int .i64 ((p + (yl d).length) : Nat)] rfl rfl HCE.out (by intro u hu; simp at hu; rcases hu with rfl | rfl <;> rfl) (by unfold maxLen; omega) (by omega) HB5.out.size ?_)
      intro v' w3 hown hgrow _
      have HO : Hid (w3.ownsRow w1.heap.size 58 2 v' 1 (rcs [(p, (p + (yl d).length))])) := by show World.ownsRow _ _ _ _ _ _ _; simpa [rcs] using hown
      have HB3 : Hid (Below w1.heap.size w1 w3) := HB5.out.grown hgrow HB5.out.size (fun j hj => by cases hj)
      obtain ⟨va3, vc3, hv3⟩ := row_slice hown
      subst hv3
      have d0 := (HB3.out.cell (p := ⟨w.heap.size, 0, none⟩) (by have := HS1.out; show w.heap.size < _; omega)).trans a0
      have d2 := (HB3.out.cell (p := ⟨w.heap.size, 2, none⟩) (by have := HS1.out; show w.heap.size < _; omega)).trans a2
      clear hown hgrow b0
      go_wp2
      go_loopw [8, 9, 11] (fun v t i W => ∃ (k : Nat) (l : List (Nat × Nat)), k ≤ d.kids.length ∧ i = .int .i64 (k : Int) ∧ t = .int .i64 ((p + (yl d).length) : Nat) ∧ l = (p, (p + (yl d).length)) :: spnL (d.kids.take k) (p + (yl d).length) true ∧ W.ownsRow w1.heap.size 58 2 v l.length (rcs l) ∧ Below w1.heap.size w1 W) (fun _ _ i _ => d.kids.length - (intOf i).toNat)
      case atStart => exact ⟨0, [(p, (p + (yl d).length))], by omega, rfl, by first | rfl | simp, by simp [spnL], HO.out, HB3.out⟩
      case round =>
        obtain ⟨k, l, hkl, rfl, rfl, hl, hrow, hB⟩ := hrel
        have hs1 := HS1.out
        have c2 := (hB.cell (p := ⟨w.heap.size, 2, none⟩) (by have := HS1.out; show w.heap.size < _; omega)).trans a2
        have HBw : Hid (Below w.heap.size w wr) := HB1.out.trans (hB.mono (by omega))
        have HB : Hid _ := hB
        have HLL : Hid _ := hl
        have hll : l.length ≤ 1000000000000 := by
          rw [hl, List.length_cons, spnL_len]; have := szL_take_le d.kids k; have := HL.out; have := HZ.out; omega
        have hyk := ylL_le (d.kids.take k)
        have hzk := szL_take_le d.kids k
        have hkI : (k : Int) ≤ 4000000000000 := by omega
        have HA2 : Hid _ := a2
        clear hB hs1 hl a0 a1 a2 d0 d2 HO
        by_cases hlt : k < d.kids.length
        · obtain ⟨x, hx⟩ : ∃ x, d.kids[k]? = some x := ⟨d.kids[k], by simp [hlt]⟩
          obtain ⟨b, o, hsa, hb, xa, xc, c0, c1, c3, hxc, hxk⟩ := ((HK.out.keep HBw.out).mono HBw.out.size).one hx
          have hzx := szL_take hx
          have hle := szL_take_le d.kids (k + 1)
          have hat : (p + (yl d).length) + sz x ≤ 1000000000000 := by have := HL.out; have := HZ.out; have := HY1.out; omega
          have HE : Hid (l ++ spn x (p + (yl d).length) true = (p, (p + (yl d).length)) :: spnL (d.kids.take (k + 1)) (p + (yl d).length) true) := by show _ = _; rw [spnL_take hx, HLL.out]; simp
          obtain ⟨t, ht⟩ : ∃ t, (p + (yl d).length) = t := ⟨_, rfl⟩
          rw [ht] at hat HE
          rw [ht]
          clear ht
          have HC : Hid _ := fun (_ : Unit) => HI.out x xa xc t true wr (by have := HN.out; have := HZ.out; omega) hxk hat
          have hzs := sz_eq x
          have hlx : (spn x t true).length ≤ 1000000000000 := by rw [spn_len]; omega
          have HRK : Hid (∀ W, Below wr.heap.size wr W → W.ownsRow w1.heap.size 58 2 _ l.length (rcs l)) := fun W hW => row_below hrow hW
          have HLT : Hid (∀ b, (_ : Value).ownBlock = some b → w1.heap.size ≤ b ∧ b < wr.heap.size) := fun b hb => hrow.lt b hb
          obtain ⟨va, vc, hva⟩ := row_slice hrow
          subst hva
          subst hsa
          clear hzx hle hx hxk hrow hzs hyk hzk
          go_wp2_with (go_at_call 47; refine (HC.out ()).mono ?_)
          rintro e w4 ⟨⟨v4, rfl, hrow4⟩, hb4⟩
          have hrw := HRK.out w4 hb4
          have HB4 : Hid (Below w1.heap.size w1 w4) := HB.out.trans (hb4.mono HB.out.size)
          have HB4' : Hid _ := hb4
          obtain ⟨va4, vc4, hva4⟩ := row_slice hrow4
          subst hva4
          clear hb4
          go_wp2_with (at_builtin; refine wpList_app_rows rfl _ _ 38 58 2 16 _ rfl Tryd.underlying38 info58 rfl (by decide) w1.heap.size _ _ _ rfl hrw wr.heap.size _ _ _ rfl hrow4 (rcs_one _) ?cb0 ?cb1 ?cb2 ?_)
          case cb0 => unfold maxLen; omega
          case cb1 => omega
          case cb2 => exact HB4.out.size
          intro v' w5 hown' hgrow'
          have HW5 : Hid (w5.ownsRow w1.heap.size 58 2 v' (l ++ spn x t true).length (rcs (l ++ spn x t true))) := by
            show World.ownsRow _ _ _ _ _ _ _
            rw [rcs_append, List.length_append]; exact hown'
          have HB6 : Hid (Below w1.heap.size w1 w5) := HB4.out.grown hgrow' HB4.out.size (fun j hj => (HLT.out j hj).1)
          obtain ⟨va5, vc5, hva5⟩ := row_slice hown'
          subst hva5
          clear hown' hgrow' hrw hrow4
          go_wp2
          go_roundw
          case rel => exact ⟨k + 1, l ++ spn x t true, by omega, by go_num, rfl, HE.out, by simpa using HW5.out, HB6.out⟩
          case measure => simp [intOf]; omega
        · obtain rfl : k = d.kids.length := by omega
          have HE : Hid (l = spn d p false) := by show _ = _; rw [HSP.out, HLL.out, List.take_length]
          have hs1 := HS1.out
          have HRW : Hid (wr.ownsRow w.heap.size 58 2 _ l.length (rcs l)) := row_base hrow (by omega)
          obtain ⟨va, vc, hva⟩ := row_slice hrow
          subst hva
          clear hrow
          go_wp2
          go_ret
          exact ⟨⟨_, rfl, by rw [← HE.out]; exact HRW.out⟩, HBw.out⟩
    · skip
      have hre : (d.rule == -1) = false := by simpa using hr
      have HSP : Hid (spn d p false = (p, (p + (yl d).length)) :: spnL d.kids p false) := by show _ = _; rw [spn_eq]; simp [hr]
      have HI : Hid _ := ih
      have HK : Hid _ := hk
      have HN : Hid _ := hN
      have HL : Hid _ := hlim
      have HZ : Hid _ := hsz
      have hyle := yl_le d
      have HYN : Hid _ := yl_node hr
      have hpb : p ≤ 2000000000000 := by omega
      have hyb : (yl d).length ≤ 2000000000000 := by omega
      have hpe : p + (yl d).length ≤ 2000000000000 := by omega
      have HCY : Hid _ := fun (_ : Unit) => refYield_any f (N + 1) d sa sc w1 hN ((hk.keep hB1).mono hB1.size) (by omega)
      clear hr ih hk hN hlim hsz hyle s1
      go_enter Tryd.func47, Tryd.ntmps47
      go_wp2_with (go_at_call 24; refine (HCY.out ()).mono ?_)
      rintro e w2 ⟨⟨v2, rfl, hrow2⟩, hb2⟩
      obtain ⟨va2, vc2, hva2⟩ := row_slice hrow2
      subst hva2
      have HB2 : Hid (Below w1.heap.size w1 w2) := hb2
      have b0 := (hb2.cell (p := ⟨w.heap.size, 0, none⟩) (by have := HS1.out; show w.heap.size < _; omega)).trans a0
      clear hrow2 hb2
      have HCE : Hid (∀ (j : Nat) u, ([.int .i64 (p : Int), .int .i64 ((p + (yl d).length) : Nat)] : List Value)[j]? = some u → (w2.alloc (.cells #[.int .i64 (p : Int), .int .i64 ((p + (yl d).length) : Nat)] 58)).cell? ((⟨w2.heap.size, 0, none⟩ : Addr).add j) = some u) := fun j u hu => by
        have e : (⟨w2.heap.size, 0, none⟩ : Addr).add j = ⟨w2.heap.size, j, none⟩ := by simp [Addr.add]; omega
        rw [e]
        exact cell_new (w := w2) (t := 58) j (by rw [List.getElem?_toArray]; exact hu)
      have HNL : Hid _ := fun (_ : Unit) => World.ownsRow_nil (w2.alloc (.cells #[.int .i64 (p : Int), .int .i64 ((p + (yl d).length) : Nat)] 58)) w1.heap.size 58 2
      have HB5 : Hid (Below w1.heap.size w1 (w2.alloc (.cells #[.int .i64 (p : Int), .int .i64 ((p + (yl d).length) : Nat)] 58))) := HB2.out.alloc HB2.out.size _
      have hwe : IntKind.i64.wrap ((p : Int) + ((yl d).length : Int)) = ((p + (yl d).length) : Nat) := by rw [IntKind.wrap_i64]; omega
      go_wp2_with (at_builtin; refine wpList_append_own _ rfl _ _ 38 rfl w1.heap.size 58 i0 _ 2 16 Tryd.underlying38 hinf hz0 hz1 hz2 rfl (by decide) _ _ _ rfl (HNL.out ()) ⟨_, 0, none⟩ 1 1 [.int .i64 (p : Int), .int .i64 ((p + (yl d).length) : Nat)] rfl rfl HCE.out (by intro u hu; simp at hu; rcases hu with rfl | rfl <;> rfl) (by unfold maxLen; omega) (by omega) HB5.out.size ?_)
      intro v' w3 hown hgrow _
      have HO : Hid (w3.ownsRow w1.heap.size 58 2 v' 1 (rcs [(p, (p + (yl d).length))])) := by show World.ownsRow _ _ _ _ _ _ _; simpa [rcs] using hown
      have HB3 : Hid (Below w1.heap.size w1 w3) := HB5.out.grown hgrow HB5.out.size (fun j hj => by cases hj)
      obtain ⟨va3, vc3, hv3⟩ := row_slice hown
      subst hv3
      have d0 := (HB3.out.cell (p := ⟨w.heap.size, 0, none⟩) (by have := HS1.out; show w.heap.size < _; omega)).trans a0
      have d2 := (HB3.out.cell (p := ⟨w.heap.size, 2, none⟩) (by have := HS1.out; show w.heap.size < _; omega)).trans a2
      clear hown hgrow b0
      go_wp2
      go_loopw [8, 9, 11] (fun v t i W => ∃ (k : Nat) (l : List (Nat × Nat)), k ≤ d.kids.length ∧ i = .int .i64 (k : Int) ∧ t = .int .i64 ((p + (ylL (d.kids.take k)).length) : Nat) ∧ l = (p, (p + (yl d).length)) :: spnL (d.kids.take k) p false ∧ W.ownsRow w1.heap.size 58 2 v l.length (rcs l) ∧ Below w1.heap.size w1 W) (fun _ _ i _ => d.kids.length - (intOf i).toNat)
      case atStart => exact ⟨0, [(p, (p + (yl d).length))], by omega, rfl, by simp [ylL], by simp [spnL], HO.out, HB3.out⟩
      case round =>
        obtain ⟨k, l, hkl, rfl, rfl, hl, hrow, hB⟩ := hrel
        have hs1 := HS1.out
        have c2 := (hB.cell (p := ⟨w.heap.size, 2, none⟩) (by have := HS1.out; show w.heap.size < _; omega)).trans a2
        have HBw : Hid (Below w.heap.size w wr) := HB1.out.trans (hB.mono (by omega))
        have HB : Hid _ := hB
        have HLL : Hid _ := hl
        have hll : l.length ≤ 1000000000000 := by
          rw [hl, List.length_cons, spnL_len]; have := szL_take_le d.kids k; have := HL.out; have := HZ.out; omega
        have hyk := ylL_le (d.kids.take k)
        have hzk := szL_take_le d.kids k
        have hkI : (k : Int) ≤ 4000000000000 := by omega
        have HA2 : Hid _ := a2
        clear hB hs1 hl a0 a1 a2 d0 d2 HO
        by_cases hlt : k < d.kids.length
        · obtain ⟨x, hx⟩ : ∃ x, d.kids[k]? = some x := ⟨d.kids[k], by simp [hlt]⟩
          obtain ⟨b, o, hsa, hb, xa, xc, c0, c1, c3, hxc, hxk⟩ := ((HK.out.keep HBw.out).mono HBw.out.size).one hx
          have hzx := szL_take hx
          have hle := szL_take_le d.kids (k + 1)
          have hat : (p + (ylL (d.kids.take k)).length) + sz x ≤ 1000000000000 := by have := HL.out; have := HZ.out; omega
          have HE : Hid (l ++ spn x (p + (ylL (d.kids.take k)).length) false = (p, (p + (yl d).length)) :: spnL (d.kids.take (k + 1)) p false) := by show _ = _; rw [spnL_take hx, HLL.out]; simp
          have HA : Hid ((p + (ylL (d.kids.take k)).length) + (yl x).length = p + (ylL (d.kids.take (k + 1))).length) := by show _ = _; rw [ylL_take hx, List.length_append, Nat.add_assoc]
          obtain ⟨t, ht⟩ : ∃ t, (p + (ylL (d.kids.take k)).length) = t := ⟨_, rfl⟩
          rw [ht] at hat HE HA
          rw [ht]
          clear ht
          have HC : Hid _ := fun (_ : Unit) => HI.out x xa xc t false wr (by have := HN.out; have := HZ.out; omega) hxk hat
          have HX : Hid _ := hx
          have hzs := sz_eq x
          have hlx : (spn x t false).length ≤ 1000000000000 := by rw [spn_len]; omega
          have hyx : (yl x).length ≤ sz x := yl_le x
          have HRK : Hid (∀ W, Below wr.heap.size wr W → W.ownsRow w1.heap.size 58 2 _ l.length (rcs l)) := fun W hW => row_below hrow hW
          have HLT : Hid (∀ b, (_ : Value).ownBlock = some b → w1.heap.size ≤ b ∧ b < wr.heap.size) := fun b hb => hrow.lt b hb
          obtain ⟨va, vc, hva⟩ := row_slice hrow
          subst hva
          subst hsa
          clear hzx hle hx hxk hrow hzs hyk hzk
          go_wp2_with (go_at_call 47; refine (HC.out ()).mono ?_)
          rintro e w4 ⟨⟨v4, rfl, hrow4⟩, hb4⟩
          have hrw := HRK.out w4 hb4
          have HB4 : Hid (Below w1.heap.size w1 w4) := HB.out.trans (hb4.mono HB.out.size)
          have HB4' : Hid _ := hb4
          obtain ⟨va4, vc4, hva4⟩ := row_slice hrow4
          subst hva4
          clear hb4
          go_wp2_with (at_builtin; refine wpList_app_rows rfl _ _ 38 58 2 16 _ rfl Tryd.underlying38 info58 rfl (by decide) w1.heap.size _ _ _ rfl hrw wr.heap.size _ _ _ rfl hrow4 (rcs_one _) ?cb0 ?cb1 ?cb2 ?_)
          case cb0 => unfold maxLen; omega
          case cb1 => omega
          case cb2 => exact HB4.out.size
          intro v' w5 hown' hgrow'
          have HW5 : Hid (w5.ownsRow w1.heap.size 58 2 v' (l ++ spn x t false).length (rcs (l ++ spn x t false))) := by
            show World.ownsRow _ _ _ _ _ _ _
            rw [rcs_append, List.length_append]; exact hown'
          have HB6 : Hid (Below w1.heap.size w1 w5) := HB4.out.grown hgrow' HB4.out.size (fun j hj => (HLT.out j hj).1)
          obtain ⟨va5, vc5, hva5⟩ := row_slice hown'
          subst hva5
          clear hown' hgrow' hrw hrow4
          have HBw5 : Hid (Below w.heap.size w w5) := HB1.out.trans (HB6.out.mono (by have := HS1.out; omega))
          obtain ⟨b', o', hsa', hb', xa', xc', c0', c1', c3', hxc', hxk'⟩ := ((HK.out.keep HBw5.out).mono HBw5.out.size).one HX.out
          obtain ⟨hbb, hoo⟩ : b = b' ∧ o = o' := by simpa using hsa'
          subst hbb
          subst hoo
          have c2' := (HB6.out.cell (p := ⟨w.heap.size, 2, none⟩) (by have := HS1.out; show w.heap.size < _; omega)).trans HA2.out
          have HYC : Hid _ := fun (_ : Unit) => refYield_any f (sz x) x xa' xc' w5 (Nat.le_refl _) hxk' (by omega)
          have htI : (t : Int) ≤ 1000000000000 := by omega
          have hyI : ((yl x).length : Int) ≤ 1000000000000 := by omega
          clear hsa' hxk' c0 c1 c2 c3
          go_wp2_with (go_at_call 24; refine (HYC.out ()).mono ?_)
          rintro e w6 ⟨⟨v6, rfl, hrow6⟩, hb6⟩
          obtain ⟨va6, vc6, hva6⟩ := row_slice hrow6
          subst hva6
          have HW6 : Hid (w6.ownsRow w1.heap.size 58 2 _ (l ++ spn x t false).length (rcs (l ++ spn x t false))) := row_below HW5.out hb6
          have HB7 : Hid (Below w1.heap.size w1 w6) := HB6.out.trans (hb6.mono HB6.out.size)
          clear hrow6 hb6
          go_wp2
          go_roundw
          case rel => exact ⟨k + 1, l ++ spn x t false, by omega, by go_num, by rw [← HA.out]; go_num, HE.out, by simpa using HW6.out, HB7.out⟩
          case measure => simp [intOf]; omega
        · obtain rfl : k = d.kids.length := by omega
          have HE : Hid (l = spn d p false) := by show _ = _; rw [HSP.out, HLL.out, List.take_length]
          have hs1 := HS1.out
          have HRW : Hid (wr.ownsRow w.heap.size 58 2 _ l.length (rcs l)) := row_base hrow (by omega)
          obtain ⟨va, vc, hva⟩ := row_slice hrow
          subst hva
          clear hrow
          go_wp2
          go_ret
          exact ⟨⟨_, rfl, by rw [← HE.out]; exact HRW.out⟩, HBw.out⟩
  · by_cases hr : d.rule = -1
    · skip
      have hre : (d.rule == -1) = true := by simpa using hr
      have HSP : Hid (spn d p true = (p, p) :: spnL d.kids p true) := by show _ = _; rw [spn_eq]; simp [hr]
      have HI : Hid _ := ih
      have HK : Hid _ := hk
      have HN : Hid _ := hN
      have HL : Hid _ := hlim
      have HZ : Hid _ := hsz
      have hyle := yl_le d
      have hpb : p ≤ 2000000000000 := by omega
      have hyb : (yl d).length ≤ 2000000000000 := by omega
      have hpe : p + (yl d).length ≤ 2000000000000 := by omega
      clear hr ih hk hN hlim hsz hyle s1
      go_enter Tryd.func47, Tryd.ntmps47
      have HB2 : Hid (Below w1.heap.size w1 w1) := Below.refl _ _
      have b0 := a0
      have HCE : Hid (∀ (j : Nat) u, ([.int .i64 (p : Int), .int .i64 (p : Nat)] : List Value)[j]? = some u → (w1.alloc (.cells #[.int .i64 (p : Int), .int .i64 (p : Nat)] 58)).cell? ((⟨w1.heap.size, 0, none⟩ : Addr).add j) = some u) := fun j u hu => by
        have e : (⟨w1.heap.size, 0, none⟩ : Addr).add j = ⟨w1.heap.size, j, none⟩ := by simp [Addr.add]; omega
        rw [e]
        exact cell_new (w := w1) (t := 58) j (by rw [List.getElem?_toArray]; exact hu)
      have HNL : Hid _ := fun (_ : Unit) => World.ownsRow_nil (w1.alloc (.cells #[.int .i64 (p : Int), .int .i64 (p : Nat)] 58)) w1.heap.size 58 2
      have HB5 : Hid (Below w1.heap.size w1 (w1.alloc (.cells #[.int .i64 (p : Int), .int .i64 (p : Nat)] 58))) := HB2.out.alloc HB2.out.size _
      go_wp2_with (at_builtin; refine wpList_append_own _ rfl _ _ 38 rfl w1.heap.size 58 i0 _ 2 16 Tryd.underlying38 hinf hz0 hz1 hz2 rfl (by decide) _ _ _ rfl (HNL.out ()) ⟨_, 0, none⟩ 1 1 [.int .i64 (p : Int), .int .i64 (p : Nat)] rfl rfl HCE.out (by intro u hu; simp at hu; rcases hu with rfl | rfl <;> rfl) (by unfold maxLen; omega) (by omega) HB5.out.size ?_)
      intro v' w3 hown hgrow _
      have HO : Hid (w3.ownsRow w1.heap.size 58 2 v' 1 (rcs [(p, p)])) := by show World.ownsRow _ _ _ _ _ _ _; simpa [rcs] using hown
      have HB3 : Hid (Below w1.heap.size w1 w3) := HB5.out.grown hgrow HB5.out.size (fun j hj => by cases hj)
      obtain ⟨va3, vc3, hv3⟩ := row_slice hown
      subst hv3
      have d0 := (HB3.out.cell (p := ⟨w.heap.size, 0, none⟩) (by have := HS1.out; show w.heap.size < _; omega)).trans a0
      have d2 := (HB3.out.cell (p := ⟨w.heap.size, 2, none⟩) (by have := HS1.out; show w.heap.size < _; omega)).trans a2
      clear hown hgrow b0
      go_wp2
      go_loopw [8, 9, 11] (fun v t i W => ∃ (k : Nat) (l : List (Nat × Nat)), k ≤ d.kids.length ∧ i = .int .i64 (k : Int) ∧ t = .int .i64 (p : Nat) ∧ l = (p, p) :: spnL (d.kids.take k) p true ∧ W.ownsRow w1.heap.size 58 2 v l.length (rcs l) ∧ Below w1.heap.size w1 W) (fun _ _ i _ => d.kids.length - (intOf i).toNat)
      case atStart => exact ⟨0, [(p, p)], by omega, rfl, by first | rfl | simp, by simp [spnL], HO.out, HB3.out⟩
      case round =>
        obtain ⟨k, l, hkl, rfl, rfl, hl, hrow, hB⟩ := hrel
        have hs1 := HS1.out
        have c2 := (hB.cell (p := ⟨w.heap.size, 2, none⟩) (by have := HS1.out; show w.heap.size < _; omega)).trans a2
        have HBw : Hid (Below w.heap.size w wr) := HB1.out.trans (hB.mono (by omega))
        have HB : Hid _ := hB
        have HLL : Hid _ := hl
        have hll : l.length ≤ 1000000000000 := by
          rw [hl, List.length_cons, spnL_len]; have := szL_take_le d.kids k; have := HL.out; have := HZ.out; omega
        have hyk := ylL_le (d.kids.take k)
        have hzk := szL_take_le d.kids k
        have hkI : (k : Int) ≤ 4000000000000 := by omega
        have HA2 : Hid _ := a2
        clear hB hs1 hl a0 a1 a2 d0 d2 HO
        by_cases hlt : k < d.kids.length
        · obtain ⟨x, hx⟩ : ∃ x, d.kids[k]? = some x := ⟨d.kids[k], by simp [hlt]⟩
          obtain ⟨b, o, hsa, hb, xa, xc, c0, c1, c3, hxc, hxk⟩ := ((HK.out.keep HBw.out).mono HBw.out.size).one hx
          have hzx := szL_take hx
          have hle := szL_take_le d.kids (k + 1)
          have hat : p + sz x ≤ 1000000000000 := by have := HL.out; have := HZ.out; omega
          have HE : Hid (l ++ spn x p true = (p, p) :: spnL (d.kids.take (k + 1)) p true) := by show _ = _; rw [spnL_take hx, HLL.out]; simp
          obtain ⟨t, ht⟩ : ∃ t, p = t := ⟨_, rfl⟩
          rw [ht] at hat HE
          rw [ht]
          clear ht
          have HC : Hid _ := fun (_ : Unit) => HI.out x xa xc t true wr (by have := HN.out; have := HZ.out; omega) hxk hat
          have hzs := sz_eq x
          have hlx : (spn x t true).length ≤ 1000000000000 := by rw [spn_len]; omega
          have HRK : Hid (∀ W, Below wr.heap.size wr W → W.ownsRow w1.heap.size 58 2 _ l.length (rcs l)) := fun W hW => row_below hrow hW
          have HLT : Hid (∀ b, (_ : Value).ownBlock = some b → w1.heap.size ≤ b ∧ b < wr.heap.size) := fun b hb => hrow.lt b hb
          obtain ⟨va, vc, hva⟩ := row_slice hrow
          subst hva
          subst hsa
          clear hzx hle hx hxk hrow hzs hyk hzk
          go_wp2_with (go_at_call 47; refine (HC.out ()).mono ?_)
          rintro e w4 ⟨⟨v4, rfl, hrow4⟩, hb4⟩
          have hrw := HRK.out w4 hb4
          have HB4 : Hid (Below w1.heap.size w1 w4) := HB.out.trans (hb4.mono HB.out.size)
          have HB4' : Hid _ := hb4
          obtain ⟨va4, vc4, hva4⟩ := row_slice hrow4
          subst hva4
          clear hb4
          go_wp2_with (at_builtin; refine wpList_app_rows rfl _ _ 38 58 2 16 _ rfl Tryd.underlying38 info58 rfl (by decide) w1.heap.size _ _ _ rfl hrw wr.heap.size _ _ _ rfl hrow4 (rcs_one _) ?cb0 ?cb1 ?cb2 ?_)
          case cb0 => unfold maxLen; omega
          case cb1 => omega
          case cb2 => exact HB4.out.size
          intro v' w5 hown' hgrow'
          have HW5 : Hid (w5.ownsRow w1.heap.size 58 2 v' (l ++ spn x t true).length (rcs (l ++ spn x t true))) := by
            show World.ownsRow _ _ _ _ _ _ _
            rw [rcs_append, List.length_append]; exact hown'
          have HB6 : Hid (Below w1.heap.size w1 w5) := HB4.out.grown hgrow' HB4.out.size (fun j hj => (HLT.out j hj).1)
          obtain ⟨va5, vc5, hva5⟩ := row_slice hown'
          subst hva5
          clear hown' hgrow' hrw hrow4
          go_wp2
          go_roundw
          case rel => exact ⟨k + 1, l ++ spn x t true, by omega, by go_num, rfl, HE.out, by simpa using HW5.out, HB6.out⟩
          case measure => simp [intOf]; omega
        · obtain rfl : k = d.kids.length := by omega
          have HE : Hid (l = spn d p true) := by show _ = _; rw [HSP.out, HLL.out, List.take_length]
          have hs1 := HS1.out
          have HRW : Hid (wr.ownsRow w.heap.size 58 2 _ l.length (rcs l)) := row_base hrow (by omega)
          obtain ⟨va, vc, hva⟩ := row_slice hrow
          subst hva
          clear hrow
          go_wp2
          go_ret
          exact ⟨⟨_, rfl, by rw [← HE.out]; exact HRW.out⟩, HBw.out⟩
    · skip
      have hre : (d.rule == -1) = false := by simpa using hr
      have HSP : Hid (spn d p true = (p, p) :: spnL d.kids p true) := by show _ = _; rw [spn_eq]; simp [hr]
      have HI : Hid _ := ih
      have HK : Hid _ := hk
      have HN : Hid _ := hN
      have HL : Hid _ := hlim
      have HZ : Hid _ := hsz
      have hyle := yl_le d
      have hpb : p ≤ 2000000000000 := by omega
      have hyb : (yl d).length ≤ 2000000000000 := by omega
      have hpe : p + (yl d).length ≤ 2000000000000 := by omega
      clear hr ih hk hN hlim hsz hyle s1
      go_enter Tryd.func47, Tryd.ntmps47
      have HB2 : Hid (Below w1.heap.size w1 w1) := Below.refl _ _
      have b0 := a0
      have HCE : Hid (∀ (j : Nat) u, ([.int .i64 (p : Int), .int .i64 (p : Nat)] : List Value)[j]? = some u → (w1.alloc (.cells #[.int .i64 (p : Int), .int .i64 (p : Nat)] 58)).cell? ((⟨w1.heap.size, 0, none⟩ : Addr).add j) = some u) := fun j u hu => by
        have e : (⟨w1.heap.size, 0, none⟩ : Addr).add j = ⟨w1.heap.size, j, none⟩ := by simp [Addr.add]; omega
        rw [e]
        exact cell_new (w := w1) (t := 58) j (by rw [List.getElem?_toArray]; exact hu)
      have HNL : Hid _ := fun (_ : Unit) => World.ownsRow_nil (w1.alloc (.cells #[.int .i64 (p : Int), .int .i64 (p : Nat)] 58)) w1.heap.size 58 2
      have HB5 : Hid (Below w1.heap.size w1 (w1.alloc (.cells #[.int .i64 (p : Int), .int .i64 (p : Nat)] 58))) := HB2.out.alloc HB2.out.size _
      go_wp2_with (at_builtin; refine wpList_append_own _ rfl _ _ 38 rfl w1.heap.size 58 i0 _ 2 16 Tryd.underlying38 hinf hz0 hz1 hz2 rfl (by decide) _ _ _ rfl (HNL.out ()) ⟨_, 0, none⟩ 1 1 [.int .i64 (p : Int), .int .i64 (p : Nat)] rfl rfl HCE.out (by intro u hu; simp at hu; rcases hu with rfl | rfl <;> rfl) (by unfold maxLen; omega) (by omega) HB5.out.size ?_)
      intro v' w3 hown hgrow _
      have HO : Hid (w3.ownsRow w1.heap.size 58 2 v' 1 (rcs [(p, p)])) := by show World.ownsRow _ _ _ _ _ _ _; simpa [rcs] using hown
      have HB3 : Hid (Below w1.heap.size w1 w3) := HB5.out.grown hgrow HB5.out.size (fun j hj => by cases hj)
      obtain ⟨va3, vc3, hv3⟩ := row_slice hown
      subst hv3
      have d0 := (HB3.out.cell (p := ⟨w.heap.size, 0, none⟩) (by have := HS1.out; show w.heap.size < _; omega)).trans a0
      have d2 := (HB3.out.cell (p := ⟨w.heap.size, 2, none⟩) (by have := HS1.out; show w.heap.size < _; omega)).trans a2
      clear hown hgrow b0
      go_wp2
      go_loopw [8, 9, 11] (fun v t i W => ∃ (k : Nat) (l : List (Nat × Nat)), k ≤ d.kids.length ∧ i = .int .i64 (k : Int) ∧ t = .int .i64 (p : Nat) ∧ l = (p, p) :: spnL (d.kids.take k) p true ∧ W.ownsRow w1.heap.size 58 2 v l.length (rcs l) ∧ Below w1.heap.size w1 W) (fun _ _ i _ => d.kids.length - (intOf i).toNat)
      case atStart => exact ⟨0, [(p, p)], by omega, rfl, by first | rfl | simp, by simp [spnL], HO.out, HB3.out⟩
      case round =>
        obtain ⟨k, l, hkl, rfl, rfl, hl, hrow, hB⟩ := hrel
        have hs1 := HS1.out
        have c2 := (hB.cell (p := ⟨w.heap.size, 2, none⟩) (by have := HS1.out; show w.heap.size < _; omega)).trans a2
        have HBw : Hid (Below w.heap.size w wr) := HB1.out.trans (hB.mono (by omega))
        have HB : Hid _ := hB
        have HLL : Hid _ := hl
        have hll : l.length ≤ 1000000000000 := by
          rw [hl, List.length_cons, spnL_len]; have := szL_take_le d.kids k; have := HL.out; have := HZ.out; omega
        have hyk := ylL_le (d.kids.take k)
        have hzk := szL_take_le d.kids k
        have hkI : (k : Int) ≤ 4000000000000 := by omega
        have HA2 : Hid _ := a2
        clear hB hs1 hl a0 a1 a2 d0 d2 HO
        by_cases hlt : k < d.kids.length
        · obtain ⟨x, hx⟩ : ∃ x, d.kids[k]? = some x := ⟨d.kids[k], by simp [hlt]⟩
          obtain ⟨b, o, hsa, hb, xa, xc, c0, c1, c3, hxc, hxk⟩ := ((HK.out.keep HBw.out).mono HBw.out.size).one hx
          have hzx := szL_take hx
          have hle := szL_take_le d.kids (k + 1)
          have hat : p + sz x ≤ 1000000000000 := by have := HL.out; have := HZ.out; omega
          have HE : Hid (l ++ spn x p true = (p, p) :: spnL (d.kids.take (k + 1)) p true) := by show _ = _; rw [spnL_take hx, HLL.out]; simp
          obtain ⟨t, ht⟩ : ∃ t, p = t := ⟨_, rfl⟩
          rw [ht] at hat HE
          rw [ht]
          clear ht
          have HC : Hid _ := fun (_ : Unit) => HI.out x xa xc t true wr (by have := HN.out; have := HZ.out; omega) hxk hat
          have hzs := sz_eq x
          have hlx : (spn x t true).length ≤ 1000000000000 := by rw [spn_len]; omega
          have HRK : Hid (∀ W, Below wr.heap.size wr W → W.ownsRow w1.heap.size 58 2 _ l.length (rcs l)) := fun W hW => row_below hrow hW
          have HLT : Hid (∀ b, (_ : Value).ownBlock = some b → w1.heap.size ≤ b ∧ b < wr.heap.size) := fun b hb => hrow.lt b hb
          obtain ⟨va, vc, hva⟩ := row_slice hrow
          subst hva
          subst hsa
          clear hzx hle hx hxk hrow hzs hyk hzk
          go_wp2_with (go_at_call 47; refine (HC.out ()).mono ?_)
          rintro e w4 ⟨⟨v4, rfl, hrow4⟩, hb4⟩
          have hrw := HRK.out w4 hb4
          have HB4 : Hid (Below w1.heap.size w1 w4) := HB.out.trans (hb4.mono HB.out.size)
          have HB4' : Hid _ := hb4
          obtain ⟨va4, vc4, hva4⟩ := row_slice hrow4
          subst hva4
          clear hb4
          go_wp2_with (at_builtin; refine wpList_app_rows rfl _ _ 38 58 2 16 _ rfl Tryd.underlying38 info58 rfl (by decide) w1.heap.size _ _ _ rfl hrw wr.heap.size _ _ _ rfl hrow4 (rcs_one _) ?cb0 ?cb1 ?cb2 ?_)
          case cb0 => unfold maxLen; omega
          case cb1 => omega
          case cb2 => exact HB4.out.size
          intro v' w5 hown' hgrow'
          have HW5 : Hid (w5.ownsRow w1.heap.size 58 2 v' (l ++ spn x t true).length (rcs (l ++ spn x t true))) := by
            show World.ownsRow _ _ _ _ _ _ _
            rw [rcs_append, List.length_append]; exact hown'
          have HB6 : Hid (Below w1.heap.size w1 w5) := HB4.out.grown hgrow' HB4.out.size (fun j hj => (HLT.out j hj).1)
          obtain ⟨va5, vc5, hva5⟩ := row_slice hown'
          subst hva5
          clear hown' hgrow' hrw hrow4
          go_wp2
          go_roundw
          case rel => exact ⟨k + 1, l ++ spn x t true, by omega, by go_num, rfl, HE.out, by simpa using HW5.out, HB6.out⟩
          case measure => simp [intOf]; omega
        · obtain rfl : k = d.kids.length := by omega
          have HE : Hid (l = spn d p true) := by show _ = _; rw [HSP.out, HLL.out, List.take_length]
          have hs1 := HS1.out
          have HRW : Hid (wr.ownsRow w.heap.size 58 2 _ l.length (rcs l)) := row_base hrow (by omega)
          obtain ⟨va, vc, hva⟩ := row_slice hrow
          subst hva
          clear hrow
          go_wp2
          go_ret
          exact ⟨⟨_, rfl, by rw [← HE.out]; exact HRW.out⟩, HBw.out⟩
end Go.Proofs.YtlnlkbkmnkjbhaaDoor
