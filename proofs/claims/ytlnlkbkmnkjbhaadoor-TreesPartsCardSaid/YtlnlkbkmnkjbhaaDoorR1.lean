/- A row of the call's own behind another one. -/
import Derived.Test.YtlnlkbkmnkjbhaaDoorY1
import Derived.Laws.AppendOwnNone
namespace Go.Proofs.YtlnlkbkmnkjbhaaDoor
open Go.RowKit

theorem own_cell {w : World} {B : Nat} {e : TypeId} {k : Nat} {g n cap : Nat} {xs : List Value} (h : w.ownsRow B e k (.slice (some ⟨g, 0, none⟩) n cap) n xs) {j : Nat} {u : Value} (hj : xs[j]? = some u) : w.cell? ⟨g, j, none⟩ = some u ∧ w.frozen? ⟨g, j, none⟩ = false := by
  have hlt := (List.getElem?_eq_some_iff.1 hj).1
  exact ⟨(h.cellAt j (by rw [← h.1]; exact hlt)).trans hj, h.frozenAt j⟩
theorem wpList_app_rows {ops : Array Oper} {rest : List Oper} {o : Oper} {a : Act} {Q : Exit → Act → World → Prop} {w : World} (hgd : o.guard = none) (s x : Operand) (t e : TypeId) (k bytes : Nat) (z : Value)
    (ho : o.op = .call { callee := .builtin .append, args := #[s, x], argTypes := #[t, t] }) (ht : Tryd.prog.underlying t = some (.slice e)) (hinfo : (Tryd.prog.info? e).map (fun i => (i.zero, i.size, i.bytes)) = some (some z, k, bytes)) (hzs : z.cells.size = k) (hk0 : 0 < k)
    (lo : Nat) (v : Value) (n : Nat) (xs : List Value) (hs : a.eval s = v) (hown : w.ownsRow lo e k v n xs)
    (lo2 : Nat) (v2 : Value) (m : Nat) (ys : List Value) (hx : a.eval x = v2) (hown2 : w.ownsRow lo2 e k v2 m ys) (h1 : ∀ u ∈ ys, u.oneCell' = true) (h63 : n + m ≤ maxLen) (hby : (n + m) * bytes ≤ 140737488355328) (hbase : lo ≤ w.heap.size)
    (h : ∀ v' w', w'.ownsRow lo e k v' (n + m) (xs ++ ys) → w.grownBy w' v.ownBlock → wpList Tryd.prog ops Q rest (a.put o.dst v') w') : wpList Tryd.prog ops Q (o :: rest) a w := by
  obtain ⟨i0, hinf, hz0, hz1, hz2⟩ := info_parts hinfo
  rcases hown2.2 with ⟨rfl, rfl⟩ | ⟨g, cap, cur, rfl, hbg, hg, hcap, hcm, hcs, hts⟩
  · have hy : ys = [] := by have := hown2.1; simpa using this
    subst hy
    refine wpList_append_own_none hgd s x t ho lo e i0 k ht hinf v n xs hs hown hx ?_
    exact h v w (by simpa using hown) (World.grownBy.refl _ _)
  · refine wpList_append_own w hgd s x t ho lo e i0 _ k bytes ht hinf hz0 hz1 hz2 hzs hk0 v n xs hs hown ⟨g, 0, none⟩ m cap ys hx hown2.1 (fun j u hu => ?_) h1 h63 hby hbase (fun v' w' a b _ => h v' w' a b)
    have e : (⟨g, 0, none⟩ : Addr).add j = ⟨g, j, none⟩ := by simp [Addr.add]; omega
    rw [e]
    exact (own_cell hown2 hu).1
theorem bvs_one (l : List UInt8) : ∀ u ∈ bvs l, u.oneCell' = true := by
  intro u hu
  unfold bvs at hu
  obtain ⟨x, _, rfl⟩ := List.mem_map.1 hu
  rfl
set_option maxRecDepth 100000 in
set_option maxHeartbeats 4000000 in
theorem refYield_any (f : Nat) : ∀ (N : Nat) (d : Tr) (sa : Option Addr) (sc : Nat) (w : World), sz d ≤ N → TAt w w.heap.size f sa d.kids → sz d ≤ 1000000000000 →
    Calls Tryd.prog 24 #[.agg #[.int .i64 d.rule, .int .u8 (d.byte.toNat : Int), .slice sa d.kids.length sc]] w fun e w' => (∃ v, e = .returned v ∧ w'.ownsRow w.heap.size 5 1 v (yl d).length (bvs (yl d))) ∧ Below w.heap.size w w' := by
  intro N
  induction N with
  | zero => intro d sa sc w hN; rw [sz_eq] at hN; omega
  | succ N ih =>
  intro d sa sc w hN hk hlim
  obtain ⟨i0, hinf, hz0, hz1, hz2⟩ := info_parts info5
  have hlen := hk.len
  have hsz := sz_eq d
  obtain ⟨w1, hw1⟩ : ∃ w1, w.alloc (.cells #[.int .i64 d.rule, .int .u8 (d.byte.toNat : Int), .slice sa d.kids.length sc] 27) = w1 := ⟨_, rfl⟩
  have hB1 : Below w.heap.size w w1 := by rw [← hw1]; exact (Below.refl _ _).alloc (Nat.le_refl _) _
  have s1 : w1.heap.size = w.heap.size + 1 := by rw [← hw1]; simp
  have a0 : w1.cell? ⟨w.heap.size, 0, none⟩ = some (.int .i64 d.rule) := by rw [← hw1]; exact cell_new 0 rfl
  have a1 : w1.cell? ⟨w.heap.size, 1, none⟩ = some (.int .u8 (d.byte.toNat : Int)) := by rw [← hw1]; exact cell_new 1 rfl
  have a2 : w1.cell? ⟨w.heap.size, 2, none⟩ = some (.slice sa d.kids.length sc) := by rw [← hw1]; exact cell_new 2 rfl
  have HB1 : Hid _ := hB1
  have HS1 : Hid _ := s1
  by_cases hr : d.rule = -1
  · have hre : (d.rule == -1) = true := by simpa using hr
    have hyl := yl_leaf hr
    have HY : Hid _ := hyl
    have hnil := World.ownsRow_nil (w1.alloc (.cells #[.int .u8 (d.byte.toNat : Int)] 5)) w1.heap.size 5 1
    have hb5 : Below w1.heap.size w1 (w1.alloc (.cells #[.int .u8 (d.byte.toNat : Int)] 5)) := (Below.refl _ _).alloc (Nat.le_refl _) _
    have HCE : Hid (∀ (j : Nat) u, ([.int .u8 (d.byte.toNat : Int)] : List Value)[j]? = some u → (w1.alloc (.cells #[.int .u8 (d.byte.toNat : Int)] 5)).cell? ((⟨w1.heap.size, 0, none⟩ : Addr).add j) = some u) := fun j u hu => by
      have e : (⟨w1.heap.size, 0, none⟩ : Addr).add j = ⟨w1.heap.size, j, none⟩ := by simp [Addr.add]; omega
      rw [e]
      exact cell_new (w := w1) (t := 5) j (by rw [List.getElem?_toArray]; exact hu)
    have HNL : Hid _ := fun (_ : Unit) => hnil
    have HB5 : Hid _ := hb5
    clear hr hyl hnil hb5 hk ih hN hlim hsz hlen hB1 s1
    go_enter Tryd.func24, Tryd.ntmps24
    go_wp2_with (at_builtin; refine wpList_append_own _ rfl _ _ 40 rfl w1.heap.size 5 i0 _ 1 1 Tryd.underlying40 hinf hz0 hz1 hz2 rfl (by decide) _ _ _ rfl (HNL.out ()) ⟨_, 0, none⟩ 1 1 [.int .u8 (d.byte.toNat : Int)] rfl rfl HCE.out (by intro u hu; simp at hu; subst hu; rfl) (by unfold maxLen; omega) (by omega) HB5.out.size ?_)
    intro v' w' hown hgrow _
    have HO : Hid (w'.ownsRow w.heap.size 5 1 v' 1 [.int .u8 (d.byte.toNat : Int)]) := row_base hown (by have := HS1.out; omega)
    have HBw : Hid (Below w.heap.size w w') := by
      have h1 : Below w1.heap.size w1 w' := HB5.out.grown hgrow HB5.out.size (fun j hj => by cases hj)
      exact HB1.out.trans (h1.mono HB1.out.size)
    obtain ⟨va, vc, rfl⟩ := row_slice hown
    clear hown hgrow
    go_wp2
    go_ret
    refine ⟨⟨_, rfl, ?_⟩, HBw.out⟩
    rw [HY.out]; exact HO.out
  · have hre : (d.rule == -1) = false := by simpa using hr
    have HYN : Hid _ := yl_node hr
    have HI : Hid _ := ih
    have HK : Hid _ := hk
    have HN : Hid _ := hN
    have HL : Hid _ := hlim
    have HZ : Hid _ := hsz
    clear hr ih hk hN hlim hsz hB1 s1
    go_enter Tryd.func24, Tryd.ntmps24
    go_wp2
    go_loopw [3, 4] (fun v i W => ∃ (k : Nat) (l : List UInt8), k ≤ d.kids.length ∧ i = .int .i64 k ∧ l = ylL (d.kids.take k) ∧ W.ownsRow w1.heap.size 5 1 v l.length (bvs l) ∧ Below w1.heap.size w1 W) (fun _ i _ => d.kids.length - (intOf i).toNat)
    case atStart => exact ⟨0, [], by omega, rfl, by simp [ylL], World.ownsRow_nil _ _ _ _, Below.refl _ _⟩
    case round =>
      obtain ⟨k, l, hkl, rfl, hl, hrow, hB⟩ := hrel
      have hs1 := HS1.out
      have b2 := (hB.cell (p := ⟨w.heap.size, 2, none⟩) (by show w.heap.size < _; omega)).trans a2
      have HBw : Hid (Below w.heap.size w wr) := HB1.out.trans (hB.mono (by omega))
      have HB : Hid _ := hB
      have HLL : Hid _ := hl
      have hll : l.length ≤ 1000000000000 := by
        rw [hl]; have := ylL_le (d.kids.take k); have := szL_take_le d.kids k; have := HL.out; have := HZ.out; omega
      clear hB hs1 hl a0 a1 a2
      by_cases hlt : k < d.kids.length
      · obtain ⟨x, hx⟩ : ∃ x, d.kids[k]? = some x := ⟨d.kids[k], by simp [hlt]⟩
        obtain ⟨b, o, hsa, hb, xa, xc, c0, c1, c2, hxc, hxk⟩ := ((HK.out.keep HBw.out).mono HBw.out.size).one hx
        have hzx := szL_take hx
        have hle := szL_take_le d.kids (k + 1)
        have hxl : sz x ≤ 1000000000000 := by have := HL.out; have := HZ.out; omega
        have HC : Hid _ := fun (_ : Unit) => HI.out x xa xc wr (by have := HN.out; have := HZ.out; omega) hxk hxl
        have HE : Hid (l ++ yl x = ylL (d.kids.take (k + 1))) := by show _ = _; rw [ylL_take hx, HLL.out]
        have hlx : (yl x).length ≤ 1000000000000 := Nat.le_trans (yl_le x) hxl
        have HRK : Hid (∀ W, Below wr.heap.size wr W → W.ownsRow w1.heap.size 5 1 _ l.length (bvs l)) := fun W hW => row_below hrow hW
        have HLT : Hid (∀ b, (_ : Value).ownBlock = some b → w1.heap.size ≤ b) := fun b hb => (hrow.lt b hb).1
        obtain ⟨va, vc, hva⟩ := row_slice hrow
        subst hva
        subst hsa
        clear hzx hle hx hxk hrow
        go_wp2_with (go_at_call 24; refine (HC.out ()).mono ?_)
        rintro e w2 ⟨⟨v2, rfl, hrow2⟩, hb2⟩
        have hrw := HRK.out w2 hb2
        have HB2 : Hid (Below w1.heap.size w1 w2) := HB.out.trans (hb2.mono HB.out.size)
        obtain ⟨va2, vc2, hva2⟩ := row_slice hrow2
        subst hva2
        clear hb2
        go_wp2_with (at_builtin; refine wpList_app_rows rfl _ _ 40 5 1 1 _ rfl Tryd.underlying40 info5 rfl (by decide) w1.heap.size _ _ _ rfl hrw wr.heap.size _ _ _ rfl hrow2 (bvs_one _) ?cb0 ?cb1 ?cb2 ?_)
        case cb0 => unfold maxLen; omega
        case cb1 => omega
        case cb2 => exact HB2.out.size
        intro v' w3 hown' hgrow
        have HW3 : Hid (w3.ownsRow w1.heap.size 5 1 v' (l ++ yl x).length (bvs (l ++ yl x))) := by
          show World.ownsRow _ _ _ _ _ _ _
          rw [bvs_append, List.length_append]; exact hown'
        have HB3 : Hid (Below w1.heap.size w1 w3) := HB2.out.grown hgrow HB2.out.size (fun j hj => HLT.out j hj)
        obtain ⟨va3, vc3, hva3⟩ := row_slice hown'
        subst hva3
        clear hown' hgrow hrw hrow2
        go_wp2
        go_roundw
        case rel => exact ⟨k + 1, l ++ yl x, by omega, by go_num, HE.out, by simpa using HW3.out, HB3.out⟩
        case measure => simp [intOf]; omega
      · obtain rfl : k = d.kids.length := by omega
        have HE : Hid (l = yl d) := by show _ = _; rw [HYN.out, HLL.out, List.take_length]
        have hs1 := HS1.out
        have HRW : Hid (wr.ownsRow w.heap.size 5 1 _ l.length (bvs l)) := row_base hrow (by omega)
        obtain ⟨va, vc, hva⟩ := row_slice hrow
        subst hva
        clear hrow
        go_wp2
        go_ret
        exact ⟨⟨_, rfl, by rw [← HE.out]; exact HRW.out⟩, HBw.out⟩
end Go.Proofs.YtlnlkbkmnkjbhaaDoor
