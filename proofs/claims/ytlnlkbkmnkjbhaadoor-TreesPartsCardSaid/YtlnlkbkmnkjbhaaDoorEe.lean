/- Two trees compared: both ways, plain and walked. -/
import Derived.Test.YtlnlkbkmnkjbhaaDoorX1
import Derived.BigRegion
import Derived.Deep.RegionWith
import Derived.BigQuiet
import Derived.Deep.QuietTactic
import Derived.Deep.AppendLies
import Derived.Deep.RegionLaw
namespace Go.Proofs.YtlnlkbkmnkjbhaaDoor
open Go.RowKit

/-- Are two trees the same? -/
noncomputable def eqT (a b : Tr) : Bool := @decide (a = b) (Classical.propDecidable _)
theorem eqT_true {a b : Tr} (h : a = b) : eqT a b = true := @decide_eq_true _ (Classical.propDecidable _) h
theorem eqT_false {a b : Tr} (h : ¬ a = b) : eqT a b = false := @decide_eq_false _ (Classical.propDecidable _) h
theorem of_eqT {a b : Tr} (h : eqT a b = true) : a = b := @of_decide_eq_true _ (Classical.propDecidable _) h
theorem not_eqT {a b : Tr} (h : eqT a b = false) : ¬ a = b := @of_decide_eq_false _ (Classical.propDecidable _) h
theorem Tr.ext' {a b : Tr} (h1 : a.rule = b.rule) (h2 : a.byte = b.byte) (h3 : a.kids = b.kids) : a = b := by
  cases a; cases b; simp only [Tr.rule, Tr.byte, Tr.kids] at h1 h2 h3; rw [h1, h2, h3]
set_option maxRecDepth 100000 in
set_option maxHeartbeats 8000000 in
theorem sameRef_any (f f' : Nat) : ∀ (N : Nat) (a b : Tr) (sa sb : Option Addr) (sc sd : Nat) (w : World), sz a ≤ N → TAt w w.heap.size f sa a.kids → TAt w w.heap.size f' sb b.kids →
    Calls Tryd.prog 43 #[.agg #[.int .i64 a.rule, .int .u8 (a.byte.toNat : Int), .slice sa a.kids.length sc], .agg #[.int .i64 b.rule, .int .u8 (b.byte.toNat : Int), .slice sb b.kids.length sd]] w fun e w' => e = .returned (.bool (eqT a b)) ∧ Below w.heap.size w w' := by
  intro N
  induction N with
  | zero => intro a b sa sb sc sd w hN; rw [sz_eq] at hN; omega
  | succ N ih =>
  intro a b sa sb sc sd w hN hka hkb
  have hlena := hka.len
  have hlenb := hkb.len
  have hsz := sz_eq a
  obtain ⟨w1, hw1⟩ : ∃ w1, w.alloc (.cells #[.int .i64 a.rule, .int .u8 (a.byte.toNat : Int), .slice sa a.kids.length sc] 27) = w1 := ⟨_, rfl⟩
  have s1 : w1.heap.size = w.heap.size + 1 := by rw [← hw1]; simp
  have hB1 : Below w.heap.size w w1 := by rw [← hw1]; exact (Below.refl _ _).alloc (Nat.le_refl _) _
  have a0 : w1.cell? ⟨w.heap.size, 0, none⟩ = some (.int .i64 a.rule) := by rw [← hw1]; exact cell_new 0 rfl
  have a1 : w1.cell? ⟨w.heap.size, 1, none⟩ = some (.int .u8 (a.byte.toNat : Int)) := by rw [← hw1]; exact cell_new 1 rfl
  have a2 : w1.cell? ⟨w.heap.size, 2, none⟩ = some (.slice sa a.kids.length sc) := by rw [← hw1]; exact cell_new 2 rfl
  obtain ⟨w2, hw2⟩ : ∃ w2, w1.alloc (.cells #[.int .i64 b.rule, .int .u8 (b.byte.toNat : Int), .slice sb b.kids.length sd] 27) = w2 := ⟨_, rfl⟩
  have s2 : w2.heap.size = w.heap.size + 2 := by rw [← hw2]; simp [s1]
  have hB2' : Below w1.heap.size w1 w2 := by rw [← hw2]; exact (Below.refl _ _).alloc (Nat.le_refl _) _
  have e0 := (hB2'.cell (p := ⟨w.heap.size, 0, none⟩) (by show w.heap.size < _; omega)).trans a0
  have e1 := (hB2'.cell (p := ⟨w.heap.size, 1, none⟩) (by show w.heap.size < _; omega)).trans a1
  have e2 := (hB2'.cell (p := ⟨w.heap.size, 2, none⟩) (by show w.heap.size < _; omega)).trans a2
  have g0 : w2.cell? ⟨w.heap.size + 1, 0, none⟩ = some (.int .i64 b.rule) := by rw [← hw2, ← s1]; exact cell_new 0 rfl
  have g1 : w2.cell? ⟨w.heap.size + 1, 1, none⟩ = some (.int .u8 (b.byte.toNat : Int)) := by rw [← hw2, ← s1]; exact cell_new 1 rfl
  have g2 : w2.cell? ⟨w.heap.size + 1, 2, none⟩ = some (.slice sb b.kids.length sd) := by rw [← hw2, ← s1]; exact cell_new 2 rfl
  have hB2 : Below w.heap.size w w2 := hB1.trans (hB2'.mono (by omega))
  have HZ : Hid _ := hsz
  have HI : Hid _ := ih
  have HKA : Hid _ := hka
  have HKB : Hid _ := hkb
  have HN : Hid _ := hN
  have HB2 : Hid _ := hB2
  have HS2 : Hid _ := s2
  clear hsz ih hka hkb hN hB1 hB2 hB2' s2 a0 a1 a2
  by_cases h1 : a.rule = b.rule
  · by_cases h2 : a.byte = b.byte
    · by_cases h3 : a.kids.length = b.kids.length
      · have HE : Hid (a.kids = b.kids → eqT a b = true) := fun h => eqT_true (Tr.ext' h1 h2 h)
        have HF : Hid (¬ a.kids = b.kids → eqT a b = false) := fun h => eqT_false (fun e => h (by rw [e]))
        have H3 : Hid _ := h3
        have q1 : (a.rule != b.rule) = false := by simp [h1]
        have q2 : ((a.byte.toNat : Int) != (b.byte.toNat : Int)) = false := by simp [h2]
        have q3 : ((a.kids.length : Int) != (b.kids.length : Int)) = false := by simp [h3]
        clear h1 h2 h3
        go_enter Tryd.func43, Tryd.ntmps43
        go_wp2
        go_loopw [5] (fun i W => ∃ k : Nat, k ≤ a.kids.length ∧ i = .int .i64 k ∧ a.kids.take k = b.kids.take k ∧ Below w2.heap.size w2 W) (fun i _ => a.kids.length - (intOf i).toNat)
        case atStart => exact ⟨0, by omega, rfl, by simp, Below.refl _ _⟩
        case round =>
          obtain ⟨k, hk, rfl, htk, hB⟩ := hrel
          have hs2 := HS2.out
          have b2 := (hB.cell (p := ⟨w.heap.size, 2, none⟩) (by show w.heap.size < _; omega)).trans e2
          have d2 := (hB.cell (p := ⟨w.heap.size + 1, 2, none⟩) (by show w.heap.size + 1 < _; omega)).trans g2
          have HBw : Hid (Below w.heap.size w wr) := HB2.out.trans (hB.mono (by omega))
          have HB : Hid _ := hB
          have HT : Hid _ := htk
          clear hB hs2 htk e0 e1 e2 g0 g1 g2
          by_cases hlt : k < a.kids.length
          · have hltb : k < b.kids.length := by have := H3.out; omega
            obtain ⟨x, hx⟩ : ∃ x, a.kids[k]? = some x := ⟨a.kids[k], by simp [hlt]⟩
            obtain ⟨y, hy⟩ : ∃ y, b.kids[k]? = some y := ⟨b.kids[k], by simp [hltb]⟩
            obtain ⟨bx, ox, hsa, hbx, xa, xc, c0, c1, c2, hxc, hxk⟩ := ((HKA.out.keep HBw.out).mono HBw.out.size).one hx
            obtain ⟨by', oy, hsb, hby, ya, yc, p0, p1, p2, hyc, hyk⟩ := ((HKB.out.keep HBw.out).mono HBw.out.size).one hy
            have hzx := szL_take hx
            have hle := szL_take_le a.kids (k + 1)
            have hxN : sz x ≤ N := by have := HN.out; have := HZ.out; omega
            have hC : ∀ W, Below wr.heap.size wr W → Calls Tryd.prog 43 #[.agg #[.int .i64 x.rule, .int .u8 (x.byte.toNat : Int), .slice xa x.kids.length xc], .agg #[.int .i64 y.rule, .int .u8 (y.byte.toNat : Int), .slice ya y.kids.length yc]] W fun e w' => e = .returned (.bool (eqT x y)) ∧ Below W.heap.size W w' := fun W hW => HI.out x y xa ya xc yc W hxN ((hxk.keep hW).mono hW.size) ((hyk.keep hW).mono hW.size)
            have HC : Hid _ := fun (_ : Unit) => hC wr.drew ⟨rfl, rfl, rfl, Nat.le_refl _, fun _ _ => rfl⟩
            clear hC
            have HX : Hid (x = y → a.kids.take (k + 1) = b.kids.take (k + 1)) := fun e => by
              rw [List.take_add_one, List.take_add_one, hx, hy, HT.out, e]
            have HY : Hid (¬ x = y → ¬ a.kids = b.kids) := fun e h => by
              rw [h, hy] at hx; exact e (Option.some.inj hx).symm
            subst hsa
            subst hsb
            clear hzx hle hx hy hxk hyk hxN HI
            cases hxy : eqT x y with
            | true =>
              have HX' : Hid _ := HX.out (of_eqT hxy)
              rw [hxy] at HC
              clear hxy HX HY HE HF
              go_wp2
              go_region_with (go_at_call 43; refine (HC.out ()).mono ?_; rintro e w3 ⟨rfl, hb3⟩)
              all_goals (
                have hb4 : Below w2.heap.size wr wr.drew := ⟨rfl, rfl, rfl, Nat.le_refl _, fun _ _ => rfl⟩
                have HB3 : Hid (Below w2.heap.size w2 w3) := HB.out.trans (hb4.trans (hb3.mono HB.out.size))
                clear hb4 hb3
                go_wp2
                exact ⟨⟨k + 1, by omega, by go_num, HX'.out, HB3.out⟩, by simp [intOf]; omega⟩)
            | false =>
              have HY' : Hid _ := HF.out (HY.out (not_eqT hxy))
              rw [hxy] at HC
              clear hxy HX HY HE HF
              go_wp2
              go_region_with (go_at_call 43; refine (HC.out ()).mono ?_; rintro e w3 ⟨rfl, hb3⟩)
              all_goals (
                have hb4 : Below w.heap.size wr wr.drew := ⟨rfl, rfl, rfl, Nat.le_refl _, fun _ _ => rfl⟩
                have HB3 : Hid (Below w.heap.size w w3) := HBw.out.trans (hb4.trans (hb3.mono HBw.out.size))
                clear hb4 hb3
                go_wp2
                go_ret
                exact ⟨by rw [HY'.out]; rfl, HB3.out⟩)
          · obtain rfl : k = a.kids.length := by omega
            go_wp2
            go_ret
            refine ⟨?_, HBw.out⟩
            have h := HT.out
            rw [List.take_length, H3.out, List.take_length] at h
            rw [HE.out h]; rfl
      · have HF : Hid (eqT a b = false) := eqT_false (fun e => h3 (by rw [e]))
        have q1 : (a.rule != b.rule) = false := by simp [h1]
        have q2 : ((a.byte.toNat : Int) != (b.byte.toNat : Int)) = false := by simp [h2]
        have q3 : ((a.kids.length : Int) != (b.kids.length : Int)) = true := by simp; omega
        have q3' : ¬ (a.kids.length : Int) = (b.kids.length : Int) := by omega
        clear h1 h2 h3
        go_enter Tryd.func43, Tryd.ntmps43
        go_wp2
        go_ret
        exact ⟨by rw [HF.out]; rfl, HB2.out⟩
    · have HF : Hid (eqT a b = false) := eqT_false (fun e => h2 (by rw [e]))
      have h2' : ¬ (a.byte.toNat : Int) = (b.byte.toNat : Int) := fun e => h2 (UInt8.toNat_inj.1 (by omega))
      have q1 : (a.rule != b.rule) = false := by simp [h1]
      have q2 : ((a.byte.toNat : Int) != (b.byte.toNat : Int)) = true := by simpa using h2'
      clear h1 h2
      go_enter Tryd.func43, Tryd.ntmps43
      go_wp2
      go_ret
      exact ⟨by rw [HF.out]; rfl, HB2.out⟩
  · have HF : Hid (eqT a b = false) := eqT_false (fun e => h1 (by rw [e]))
    have q1 : (a.rule != b.rule) = true := by simpa using h1
    go_enter Tryd.func43, Tryd.ntmps43
    go_wp2
    go_ret
    exact ⟨by rw [HF.out]; rfl, HB2.out⟩
set_option maxRecDepth 100000 in
set_option maxHeartbeats 4000000 in
theorem refSame_any (f f' : Nat) (a b : Tr) (sa sb : Option Addr) (sc sd : Nat) (w : World) (hka : TAt w w.heap.size f sa a.kids) (hkb : TAt w w.heap.size f' sb b.kids) :
    Calls Tryd.prog 19 #[.agg #[.int .i64 a.rule, .int .u8 (a.byte.toNat : Int), .slice sa a.kids.length sc], .agg #[.int .i64 b.rule, .int .u8 (b.byte.toNat : Int), .slice sb b.kids.length sd]] w fun e w' => e = .returned (.bool (eqT a b)) ∧ Below w.heap.size w w' := by
  have hC := fun (W : World) (hW : Below w.heap.size w W) => sameRef_any f f' (sz a) a b sa sb sc sd W (Nat.le_refl _) ((hka.keep hW).mono hW.size) ((hkb.keep hW).mono hW.size)
  obtain ⟨w1, hw1⟩ : ∃ w1, w.alloc (.cells #[.int .i64 a.rule, .int .u8 (a.byte.toNat : Int), .slice sa a.kids.length sc] 27) = w1 := ⟨_, rfl⟩
  have s1 : w1.heap.size = w.heap.size + 1 := by rw [← hw1]; simp
  have hB1 : Below w.heap.size w w1 := by rw [← hw1]; exact (Below.refl _ _).alloc (Nat.le_refl _) _
  have a0 : w1.cell? ⟨w.heap.size, 0, none⟩ = some (.int .i64 a.rule) := by rw [← hw1]; exact cell_new 0 rfl
  have a1 : w1.cell? ⟨w.heap.size, 1, none⟩ = some (.int .u8 (a.byte.toNat : Int)) := by rw [← hw1]; exact cell_new 1 rfl
  have a2 : w1.cell? ⟨w.heap.size, 2, none⟩ = some (.slice sa a.kids.length sc) := by rw [← hw1]; exact cell_new 2 rfl
  obtain ⟨w2, hw2⟩ : ∃ w2, w1.alloc (.cells #[.int .i64 b.rule, .int .u8 (b.byte.toNat : Int), .slice sb b.kids.length sd] 27) = w2 := ⟨_, rfl⟩
  have hB2' : Below w1.heap.size w1 w2 := by rw [← hw2]; exact (Below.refl _ _).alloc (Nat.le_refl _) _
  have e0 := (hB2'.cell (p := ⟨w.heap.size, 0, none⟩) (by show w.heap.size < _; omega)).trans a0
  have e1 := (hB2'.cell (p := ⟨w.heap.size, 1, none⟩) (by show w.heap.size < _; omega)).trans a1
  have e2 := (hB2'.cell (p := ⟨w.heap.size, 2, none⟩) (by show w.heap.size < _; omega)).trans a2
  have g0 : w2.cell? ⟨w.heap.size + 1, 0, none⟩ = some (.int .i64 b.rule) := by rw [← hw2, ← s1]; exact cell_new 0 rfl
  have g1 : w2.cell? ⟨w.heap.size + 1, 1, none⟩ = some (.int .u8 (b.byte.toNat : Int)) := by rw [← hw2, ← s1]; exact cell_new 1 rfl
  have g2 : w2.cell? ⟨w.heap.size + 1, 2, none⟩ = some (.slice sb b.kids.length sd) := by rw [← hw2, ← s1]; exact cell_new 2 rfl
  have HB2 : Hid (Below w.heap.size w w2) := hB1.trans (hB2'.mono (by omega))
  have HC : Hid _ := fun (_ : Unit) => hC w2 HB2.out
  clear hC hka hkb hB1 hB2' a0 a1 a2
  go_enter Tryd.func19, Tryd.ntmps19
  go_wp2_with (go_at_call 43; refine (HC.out ()).mono ?_; rintro e w3 ⟨rfl, hb3⟩)
  go_ret
  exact ⟨rfl, HB2.out.trans (hb3.mono HB2.out.size)⟩
set_option maxRecDepth 100000 in
set_option maxHeartbeats 4000000 in
theorem alike_any (a b : Tr) (B B' f f' ba oa bb ob : Nat) (w : World) (ha : TreeAt w B f ba oa a) (hb : TreeAt w B' f' bb ob b) :
    Calls Tryd.prog 49 #[.pointer (some ⟨ba, oa, none⟩), .pointer (some ⟨bb, ob, none⟩)] w fun e w' => e = .returned (.bool (decide (a.rule = b.rule) && decide (a.byte = b.byte))) ∧ Below w.heap.size w w' := by
  obtain ⟨_, sa, sc, c0, c1, _, _, _⟩ := ha
  obtain ⟨_, sb, sd, d0, d1, _, _, _⟩ := hb
  by_cases h1 : a.rule = b.rule
  · have q1 : (a.rule == b.rule) = true := by simp [h1]
    have h2 : (decide (a.rule = b.rule) && decide (a.byte = b.byte)) = (((a.byte.toNat : Int)) == (b.byte.toNat : Int)) := by
      rw [h1]; simp
      by_cases h : a.byte = b.byte
      · simp [h]
      · have h' : ¬ (a.byte.toNat : Int) = (b.byte.toNat : Int) := fun e => h (UInt8.toNat_inj.1 (by omega))
        simp [h]; intro e; exact h' (by omega)
    rw [h2]
    clear h1 h2
    go_enter Tryd.func49, Tryd.ntmps49
    go_wp2
    go_quiet (fail)
    go_wp2
    go_ret
    exact ⟨rfl, ⟨rfl, rfl, rfl, Nat.le_refl _, fun _ _ => rfl⟩⟩
  · have q1 : (a.rule == b.rule) = false := by simpa using h1
    have h2 : (decide (a.rule = b.rule) && decide (a.byte = b.byte)) = false := by simp [h1]
    rw [h2]
    clear h2
    go_enter Tryd.func49, Tryd.ntmps49
    go_wp2
    go_quiet (fail)
    go_wp2
    go_ret
    exact ⟨rfl, ⟨rfl, rfl, rfl, Nat.le_refl _, fun _ _ => rfl⟩⟩
/-- Two trees, and where they lie. -/
structure Pr where
  ba : Nat
  oa : Nat
  bb : Nat
  ob : Nat
  x : Tr
  y : Tr
/-- Pairs in memory; the trees lie where they lay in W0. -/
structure WS (W0 W : World) (hi n₀ f : Nat) (wv : Value) (ps : List Pr) (cs : List Value) : Prop where
  row : W.ownsRow hi 111 2 wv ps.length cs
  at' : ∀ j p, ps[j]? = some p → TreeAt W0 n₀ f p.ba p.oa p.x ∧ TreeAt W0 n₀ f p.bb p.ob p.y ∧ cs[j * 2]? = some (.pointer (some ⟨p.ba, p.oa, none⟩)) ∧ cs[j * 2 + 1]? = some (.pointer (some ⟨p.bb, p.ob, none⟩))
section
variable {W0 W W' : World} {hi n₀ f : Nat} {wv : Value} {ps : List Pr} {cs : List Value}
theorem WS.move (h : WS W0 W hi n₀ f wv ps cs) (hk : ∀ g, wv.ownBlock = some g → W'.heap[g]? = W.heap[g]?) : WS W0 W' hi n₀ f wv ps cs := by
  refine ⟨⟨h.row.1, ?_⟩, h.at'⟩
  rcases h.row.2 with h0 | ⟨g, cap, cur, rfl, hbg, hg, rest⟩
  · exact .inl h0
  · exact .inr ⟨g, cap, cur, rfl, hbg, (hk g rfl).trans hg, rest⟩
theorem WS.push (h : WS W0 W hi n₀ f wv ps cs) {v' : Value} {p : Pr} (h1 : TreeAt W0 n₀ f p.ba p.oa p.x) (h2 : TreeAt W0 n₀ f p.bb p.ob p.y) (hr : W'.ownsRow hi 111 2 v' (ps.length + 1) (cs ++ [.pointer (some ⟨p.ba, p.oa, none⟩), .pointer (some ⟨p.bb, p.ob, none⟩)])) : WS W0 W' hi n₀ f v' (ps ++ [p]) (cs ++ [.pointer (some ⟨p.ba, p.oa, none⟩), .pointer (some ⟨p.bb, p.ob, none⟩)]) := by
  have hcl := h.row.1
  refine ⟨by rw [List.length_append]; exact hr, fun j q hj => ?_⟩
  by_cases hlt : j < ps.length
  · rw [List.getElem?_append_left hlt] at hj
    obtain ⟨t1, t2, t3, t4⟩ := h.at' j q hj
    exact ⟨t1, t2, by rw [List.getElem?_append_left (by omega)]; exact t3, by rw [List.getElem?_append_left (by omega)]; exact t4⟩
  · have := (List.getElem?_eq_some_iff.1 hj).1
    simp at this
    obtain rfl : j = ps.length := by omega
    simp at hj
    subst hj
    refine ⟨h1, h2, ?_, ?_⟩
    · rw [List.getElem?_append_right (by omega), hcl, Nat.sub_self]; rfl
    · rw [List.getElem?_append_right (by omega), hcl, show ps.length * 2 + 1 - ps.length * 2 = 1 by omega]; rfl
/-- The last pair, and the row without it. -/
theorem WS.top {p : Pr} (h : WS W0 W hi n₀ f wv (ps ++ [p]) cs) : ∃ g cap, wv = .slice (some ⟨g, 0, none⟩) (ps.length + 1) cap ∧ hi ≤ g ∧ g < W.heap.size ∧ ps.length + 1 ≤ cap ∧ W.cell? ⟨g, ps.length * 2, none⟩ = some (.pointer (some ⟨p.ba, p.oa, none⟩)) ∧ W.cell? ⟨g, ps.length * 2 + 1, none⟩ = some (.pointer (some ⟨p.bb, p.ob, none⟩)) ∧ TreeAt W0 n₀ f p.ba p.oa p.x ∧ TreeAt W0 n₀ f p.bb p.ob p.y ∧ WS W0 W hi n₀ f (.slice (some ⟨g, 0, none⟩) ps.length cap) ps (cs.take (ps.length * 2)) := by
  have hr := h.row
  rw [List.length_append] at hr
  have hr' : W.ownsRow hi 111 2 wv (ps.length + 1) cs := hr
  obtain ⟨g, cap, rfl, hbg, hg, hcap⟩ := row_at hr' (by omega)
  have hcl : cs.length = (ps.length + 1) * 2 := hr'.1
  obtain ⟨t1, t2, t3, t4⟩ := h.at' ps.length p (by simp)
  refine ⟨g, cap, rfl, hbg, hg, hcap, (hr'.cellAt (ps.length * 2) (by omega)).trans t3, (hr'.cellAt (ps.length * 2 + 1) (by omega)).trans t4, t1, t2, row_init hr', fun j q hj => ?_⟩
  have hlt := (List.getElem?_eq_some_iff.1 hj).1
  obtain ⟨u1, u2, u3, u4⟩ := h.at' j q (by rw [List.getElem?_append_left hlt]; exact hj)
  exact ⟨u1, u2, by rw [List.getElem?_take_of_lt (by omega)]; exact u3, by rw [List.getElem?_take_of_lt (by omega)]; exact u4⟩
end
/-- How many parts the first ones of pairs have. -/
def tot (ps : List Pr) : Nat := szL (ps.map Pr.x)
theorem szL_app (l m : List Tr) : szL (l ++ m) = szL l + szL m := by
  induction l with
  | nil => simp [szL]
  | cons x l ih => rw [List.cons_append, szL, szL, ih]; omega
theorem tot_app (ps qs : List Pr) : tot (ps ++ qs) = tot ps + tot qs := by unfold tot; rw [List.map_append, szL_app]
theorem len_tot (ps : List Pr) : ps.length ≤ tot ps := by
  induction ps with
  | nil => simp
  | cons p ps ih => unfold tot at ih ⊢; rw [List.map_cons, szL, List.length_cons, sz_eq]; omega
theorem all_same (ps : List Pr) : (∀ p ∈ ps, p.x = p.y) ↔ ps.map Pr.x = ps.map Pr.y := List.map_inj_left.symm
/-- What is so when the next pair is looked at. -/
structure KI (W0 : World) (n₀ f : Nat) (a b : Tr) (wv : Value) (wr : World) (ps : List Pr) (cs : List Value) (k : Nat) : Prop where
  ws : WS W0 wr n₀ n₀ f wv ps cs
  bel : Below n₀ W0 wr
  eq : (∀ p ∈ ps, p.x = p.y) ↔ a = b
  le : tot ps ≤ sz a
  num : tot ps = k
def KE (W0 : World) (n₀ f : Nat) (a b : Tr) (wv : Value) (wr : World) (k : Nat) : Prop := ∃ ps cs, KI W0 n₀ f a b wv wr ps cs k
theorem len_szL (l : List Tr) : l.length ≤ szL l := by
  induction l with
  | nil => simp
  | cons x l ih => rw [szL, List.length_cons, sz_eq]; omega
theorem KI.step {W0 W wr0 : World} {n₀ f : Nat} {a b : Tr} {wv0 wv : Value} {P qs : List Pr} {p : Pr} {cs0 cs' : List Value} {k : Nat} (h : KI W0 n₀ f a b wv0 wr0 (P ++ [p]) cs0 k) (hr : p.x.rule = p.y.rule ∧ p.x.byte = p.y.byte)
    (hws : WS W0 W n₀ n₀ f wv (P ++ qs) cs') (hqx : qs.map Pr.x = p.x.kids) (hqy : qs.map Pr.y = p.y.kids) (hB : Below n₀ W0 W) : ∃ k', k' < k ∧ KE W0 n₀ f a b wv W k' := by
  have h1 : tot (P ++ [p]) = tot P + (1 + szL p.x.kids) := by rw [tot_app]; simp [tot, szL, sz_eq p.x]
  have h2 : tot (P ++ qs) = tot P + szL p.x.kids := by rw [tot_app]; unfold tot; rw [hqx]
  have h3 := h.num
  have h4 := h.le
  refine ⟨tot (P ++ qs), by omega, P ++ qs, cs', hws, hB, ?_, by omega, rfl⟩
  rw [← h.eq]
  have hq : (∀ q ∈ qs, q.x = q.y) ↔ p.x = p.y := by
    rw [all_same, hqx, hqy]
    exact ⟨fun e => Tr.ext' hr.1 hr.2 e, fun e => by rw [e]⟩
  constructor
  · intro hA q hm
    rcases List.mem_append.1 hm with hm | hm
    · exact hA q (List.mem_append_left _ hm)
    · simp at hm; subst hm; exact hq.1 (fun q hm => hA q (List.mem_append_right _ hm))
  · intro hA q hm
    rcases List.mem_append.1 hm with hm | hm
    · exact hA q (List.mem_append_left _ hm)
    · exact hq.2 (hA p (by simp)) q hm
set_option maxRecDepth 100000 in
set_option maxHeartbeats 8000000 in
theorem kinSame_any (a b : Tr) (sa sb : Option Addr) (sc sd f : Nat) (w : World) (hka : TAt w w.heap.size f sa a.kids) (hkb : TAt w w.heap.size f sb b.kids) (hsc : a.kids.length ≤ sc) (hsd : b.kids.length ≤ sd) (hlen : sz a ≤ 1000000000000) :
    Calls Tryd.prog 48 #[.agg #[.int .i64 a.rule, .int .u8 (a.byte.toNat : Int), .slice sa a.kids.length sc], .agg #[.int .i64 b.rule, .int .u8 (b.byte.toNat : Int), .slice sb b.kids.length sd], .func (.func 45) #[] #[], .func (.func 49) #[] #[]] w fun e w' => e = .returned (.bool (eqT a b)) ∧ Below w.heap.size w w' := by
  obtain ⟨w1, hw1⟩ : ∃ w1, w.alloc (.cells #[.int .i64 a.rule, .int .u8 (a.byte.toNat : Int), .slice sa a.kids.length sc] 27) = w1 := ⟨_, rfl⟩
  have s1 : w1.heap.size = w.heap.size + 1 := by rw [← hw1]; simp
  have hB1 : Below w.heap.size w w1 := by rw [← hw1]; exact (Below.refl _ _).alloc (Nat.le_refl _) _
  have hta : TreeAt w1 (w.heap.size + 1) f w.heap.size 0 a := ⟨by omega, sa, sc, by rw [← hw1]; exact cell_new 0 rfl, by rw [← hw1]; exact cell_new 1 rfl, by rw [← hw1]; exact cell_new 2 rfl, hsc, (hka.keep hB1).mono (by omega)⟩
  obtain ⟨w2, hw2⟩ : ∃ w2, w1.alloc (.cells #[.int .i64 b.rule, .int .u8 (b.byte.toNat : Int), .slice sb b.kids.length sd] 27) = w2 := ⟨_, rfl⟩
  have s2 : w2.heap.size = w.heap.size + 1 + 1 := by rw [← hw2]; simp [s1]
  have hB2' : Below w1.heap.size w1 w2 := by rw [← hw2]; exact (Below.refl _ _).alloc (Nat.le_refl _) _
  have hB2 : Below w.heap.size w w2 := hB1.trans (hB2'.mono (by omega))
  have htb : TreeAt w2 (w.heap.size + 1 + 1) f (w.heap.size + 1) 0 b := ⟨by omega, sb, sd, by rw [← hw2, ← s1]; exact cell_new 0 rfl, by rw [← hw2, ← s1]; exact cell_new 1 rfl, by rw [← hw2, ← s1]; exact cell_new 2 rfl, hsd, (hkb.keep hB2).mono (by omega)⟩
  have hta2 : TreeAt w2 (w.heap.size + 1 + 1) f w.heap.size 0 a := (hta.keep (by rw [← s1]; exact hB2')).mono (by omega)
  obtain ⟨w3, hw3⟩ : ∃ w3, w2.alloc (.cells #[.pointer (some ⟨w.heap.size, 0, none⟩), .pointer (some ⟨w.heap.size + 1, 0, none⟩)] 111) = w3 := ⟨_, rfl⟩
  have s3 : w3.heap.size = w.heap.size + 3 := by rw [← hw3]; simp [s2]
  have hB3' : Below w2.heap.size w2 w3 := by rw [← hw3]; exact (Below.refl _ _).alloc (Nat.le_refl _) _
  have hB3 : Below w.heap.size w w3 := hB2.trans (hB3'.mono (by omega))
  have hkeep : Below (w.heap.size + 1 + 1) w2 w3 := by rw [← s2]; exact hB3'
  have hblk : w3.heap[w.heap.size + 1 + 1]? = some (.cells #[.pointer (some ⟨w.heap.size, 0, none⟩), .pointer (some ⟨w.heap.size + 1, 0, none⟩)] 111 (0, 0)) := by rw [← hw3, ← s2]; exact World.alloc_heap_new _ _
  have hKI : KI w3 (w.heap.size + 1 + 1) f a b (.slice (some ⟨w.heap.size + 1 + 1, 0, none⟩) 1 1) w3 [⟨w.heap.size, 0, w.heap.size + 1, 0, a, b⟩] [.pointer (some ⟨w.heap.size, 0, none⟩), .pointer (some ⟨w.heap.size + 1, 0, none⟩)] (sz a) := by
    refine ⟨⟨⟨rfl, .inr ⟨_, 1, _, rfl, Nat.le_refl _, hblk, Nat.le_refl _, by unfold maxLen; omega, rfl, rfl⟩⟩, fun j p hj => ?_⟩, Below.refl _ _, by simp, by simp [tot, szL], by simp [tot, szL]⟩
    match j, hj with
    | 0, hj => cases hj; exact ⟨hta2.keep hkeep, htb.keep hkeep, rfl, rfl⟩
  have HKI : Hid _ := hKI
  have HB3 : Hid _ := hB3
  have HS3 : Hid _ := s3
  have HLE : Hid _ := hlen
  clear hKI hB3 s3 hta hta2 htb hkeep hblk hB3' hB2 hB2' hB1 hka hkb hsc hsd hlen
  obtain ⟨i0, hi0, hz0, hz1, hz2⟩ := info_parts (show (Tryd.prog.info? 111).map (fun i => (i.zero, i.size, i.bytes)) = some (some (.agg #[.pointer none, .pointer none]), 2, 16) by kernel_rfl)
  go_enter Tryd.func48, Tryd.ntmps48
  go_wp2
  go_loopw [9] (fun wv wr => ∃ k, KE w3 (w.heap.size + 1 + 1) f a b wv wr k) (fun wv wr => least (KE w3 (w.heap.size + 1 + 1) f a b wv wr))
  case atStart => exact ⟨_, _, _, HKI.out⟩
  case round =>
    obtain ⟨k1, hk1⟩ := hrel
    obtain ⟨ps, cs, hP⟩ := least_spec hk1
    clear hk1
    generalize hkk : least (KE w3 (w.heap.size + 1 + 1) f a b _ _) = k at hP
    have HKK : Hid _ := hkk
    clear hkk
    have hBr : Below w.heap.size w wr := HB3.out.trans (hP.bel.mono (by omega))
    rcases List.eq_nil_or_concat ps with rfl | ⟨P, p, hPP⟩
    · obtain ⟨va, vc, rfl⟩ := row_slice hP.ws.row
      have HE : Hid (eqT a b = true) := eqT_true (hP.eq.1 (by simp))
      have HB : Hid _ := hBr
      clear hP hBr
      go_wp2
      go_ret
      exact ⟨by rw [HE.out]; rfl, HB.out⟩
    · rw [List.concat_eq_append] at hPP
      subst hPP
      obtain ⟨g, cap, rfl, hgi, hgs, hcap, t0, t1, htx, hty, hws⟩ := hP.ws.top
      have hPl : P.length + 1 ≤ 1000000000000 := by
        have h1 := len_tot (P ++ [p])
        have h2 := hP.le
        have h3 := HLE.out
        simp at h1
        omega
      have hbnd : P.length + p.x.kids.length ≤ 1000000000000 := by
        have h1 := len_tot P
        have h2 := hP.le
        have h3 := HLE.out
        have h4 := len_szL p.x.kids
        have h5 : tot (P ++ [p]) = tot P + (1 + szL p.x.kids) := by rw [tot_app]; simp [tot, szL, sz_eq p.x]
        omega
      have hsz := HS3.out
      have hbs := hP.bel.size
      have hsb : IntKind.i64.wrap (((P.length + 1 : Nat) : Int) - 1) = (P.length : Int) := by rw [IntKind.wrap_i64]; omega
      have hlt1 : (P.length : Int) < ((P.length + 1 : Nat) : Int) := by omega
      have htx' := htx
      have hty' := hty
      obtain ⟨hbx, xa, xc, _, _, c2', hxc, hxk⟩ := htx'
      obtain ⟨hby, ya, yc, _, _, d2', hyc, hyk⟩ := hty'
      have c2 := (hP.bel.cell (p := ⟨p.ba, p.oa + 2, none⟩) hbx).trans c2'
      have d2 := (hP.bel.cell (p := ⟨p.bb, p.ob + 2, none⟩) hby).trans d2'
      clear c2' d2'
      have hpa : p.ba < wr.heap.size := by omega
      have hpb : p.bb < wr.heap.size := by omega
      have HO : Hid _ := fun b o w => ofTree_any b o w
      have HP : Hid _ := hP
      have HWS : Hid _ := hws
      have HTX : Hid _ := htx
      have HTY : Hid _ := hty
      have HBr : Hid _ := hBr
      have HXK : Hid _ := hxk
      have HYK : Hid _ := hyk
      have hz9 : (0 : Int) < ((P.length : Int) + 1) := by omega
      clear hP hws htx hty hBr hxk hyk hbs
      go_wp2
      go_quiet (first | (go_at_call 45; exact Calls.quiet_of_same (HO.out _ _ _)))
      obtain ⟨V, hV⟩ : ∃ V, (wr.alloc (.cells #[.pointer (some ⟨p.ba, p.oa, none⟩), .pointer (some ⟨p.bb, p.ob, none⟩)] 111)).drewN nq = V := ⟨_, rfl⟩
      have v0 : V.cell? ⟨wr.heap.size, 0, none⟩ = some (.pointer (some ⟨p.ba, p.oa, none⟩)) := by rw [← hV]; exact cell_new (w := wr) (t := 111) 0 rfl
      have v1 : V.cell? ⟨wr.heap.size, 1, none⟩ = some (.pointer (some ⟨p.bb, p.ob, none⟩)) := by rw [← hV]; exact cell_new (w := wr) (t := 111) 1 rfl
      have hBV : Below wr.heap.size wr V := by
        rw [← hV]
        have h := (Below.refl wr.heap.size wr).alloc (Nat.le_refl _) (.cells #[.pointer (some ⟨p.ba, p.oa, none⟩), .pointer (some ⟨p.bb, p.ob, none⟩)] 111)
        exact ⟨h.os, h.tape, h.output, h.size, h.block⟩
      have sV : wr.heap.size < V.heap.size := by rw [← hV]; show wr.heap.size < (wr.alloc _).heap.size; simp
      rw [hV]
      clear hV t0 t1
      have hws2 : WS w3 V (w.heap.size + 1 + 1) (w.heap.size + 1 + 1) f (.slice (some ⟨g, 0, none⟩) P.length cap) P (cs.take (P.length * 2)) := HWS.out.move (fun g' hg' => by simp [Value.ownBlock] at hg'; subst hg'; exact hBV.block g hgs)
      have hB3V : Below (w.heap.size + 1 + 1) w3 V := HP.out.bel.trans (hBV.mono (by omega))
      have hBwV : Below w.heap.size w V := HBr.out.trans (hBV.mono HBr.out.size)
      have HA : Hid _ := fun (_ : Unit) => alike_any p.x p.y _ _ f f p.ba p.oa p.bb p.ob V ((show TreeAt w3 (w.heap.size + 1 + 1) f p.ba p.oa p.x from HTX.out).keep hB3V) ((show TreeAt w3 (w.heap.size + 1 + 1) f p.bb p.ob p.y from HTY.out).keep hB3V)
      have HW2 : Hid _ := hws2
      have HBV3 : Hid _ := hB3V
      have HBwV : Hid _ := hBwV
      clear hws2 hB3V hBwV hBV
      by_cases hr : p.x.rule = p.y.rule ∧ p.x.byte = p.y.byte
      · have e1 : (decide (p.x.rule = p.y.rule) && decide (p.x.byte = p.y.byte)) = true := by simp [hr.1, hr.2]
        rw [e1] at HA
        clear e1
        by_cases hl : p.x.kids.length = p.y.kids.length
        · have q3 : ((p.x.kids.length : Int) != (p.y.kids.length : Int)) = false := by simp [hl]
          have HL : Hid _ := hl
          have HR : Hid _ := hr
          clear hl hr
          go_wp2_with (go_at_call 49; refine (HA.out ()).mono ?_; rintro e w4 ⟨rfl, hb4⟩)
          have HW4 : Hid (WS w3 w4 (w.heap.size + 1 + 1) (w.heap.size + 1 + 1) f (.slice (some ⟨g, 0, none⟩) P.length cap) P (cs.take (P.length * 2))) := HW2.out.move (fun g' hg' => by simp [Value.ownBlock] at hg'; subst hg'; exact hb4.block g (by omega))
          have HB4 : Hid (Below (w.heap.size + 1 + 1) w3 w4) := HBV3.out.trans (hb4.mono (by omega))
          clear hb4
          go_loopw [9, 58] (fun wv i W => ∃ (k : Nat) (qs : List Pr) (cs' : List Value), k ≤ p.x.kids.length ∧ i = .int .i64 k ∧ WS w3 W (w.heap.size + 1 + 1) (w.heap.size + 1 + 1) f wv (P ++ qs) cs' ∧ qs.map Pr.x = p.x.kids.take k ∧ qs.map Pr.y = p.y.kids.take k ∧ Below (w.heap.size + 1 + 1) w3 W) (fun _ i _ => p.x.kids.length - (intOf i).toNat)
          case atStart => exact ⟨0, [], _, by omega, rfl, by simpa using HW4.out, by simp, by simp, HB4.out⟩
          case round =>
            obtain ⟨j, qs, cs', hj, rfl, hws, hqx, hqy, hB⟩ := hrel
            have hql : qs.length = j := by
              have := congrArg List.length hqx
              simp at this; omega
            have HW5 : Hid _ := hws
            have HQX : Hid _ := hqx
            have HQY : Hid _ := hqy
            have HB5 : Hid _ := hB
            have hrow := hws.row
            have hbs5 := hB.size
            clear hws hqx hqy hB HA HW4 HB4 HW2 HBV3 HBwV v0 v1
            by_cases hlt : j < p.x.kids.length
            · have hlt' : j < p.y.kids.length := by have := HL.out; omega
              obtain ⟨x, hx⟩ : ∃ x, p.x.kids[j]? = some x := ⟨p.x.kids[j], by simp [hlt]⟩
              obtain ⟨y, hy⟩ : ∃ y, p.y.kids[j]? = some y := ⟨p.y.kids[j], by simp [hlt']⟩
              obtain ⟨bx, ox, hxa, hxt⟩ := (show TAt w3 (w.heap.size + 1 + 1) f xa p.x.kids from HXK.out).one hx
              obtain ⟨by', oy, hya, hyt⟩ := (show TAt w3 (w.heap.size + 1 + 1) f ya p.y.kids from HYK.out).one hy
              subst hxa
              subst hya
              have HX1 : Hid ((qs ++ [(⟨bx, ox + j * 3, by', oy + j * 3, x, y⟩ : Pr)]).map Pr.x = p.x.kids.take (j + 1)) := by
                show List.map _ _ = _
                rw [List.map_append, HQX.out, List.take_add_one, hx]; rfl
              have HY1 : Hid ((qs ++ [(⟨bx, ox + j * 3, by', oy + j * 3, x, y⟩ : Pr)]).map Pr.y = p.y.kids.take (j + 1)) := by
                show List.map _ _ = _
                rw [List.map_append, HQY.out, List.take_add_one, hy]; rfl
              have HXT : Hid _ := fun (_ : Unit) => hxt
              have HYT : Hid _ := fun (_ : Unit) => hyt
              have hPq : (P ++ qs).length + 1 ≤ 1000000000000 := by simp; omega
              have HN : Hid (∀ i u, [Value.pointer (some ⟨bx, ox + j * 3, none⟩), .pointer (some ⟨by', oy + j * 3, none⟩)][i]? = some u → (wr.alloc (.cells #[.pointer (some ⟨bx, ox + j * 3, none⟩), .pointer (some ⟨by', oy + j * 3, none⟩)] 111)).drew.cell? ((⟨wr.heap.size, 0, none⟩ : Addr).add i) = some u) := fun i u hu => by
                have hadd : (⟨wr.heap.size, 0, none⟩ : Addr).add i = ⟨wr.heap.size, i, none⟩ := by unfold Addr.add; split <;> simp_all
                rw [hadd]
                exact cell_new (w := wr) (t := 111) i (by simpa using hu)
              obtain ⟨L, HLn⟩ : ∃ L, Hid ((P ++ qs).length = L) := ⟨_, rfl⟩
              rw [HLn.out] at hrow hPq
              obtain ⟨va, vc, rfl⟩ := row_slice hrow
              clear hx hy hxt hyt hql
              go_wp2
              go_region_law (refine step_append_lies _ (by rfl) _ _ _ (by rfl) (w.heap.size + 1 + 1) 111 i0 _ 2 16 Tryd.underlying112 hi0 hz0 hz1 hz2 rfl (by omega) (.slice va L vc) L cs' (by rfl) (by first | exact (hrow.alloc _).drew | exact (hrow.drew.alloc _)) ⟨wr.heap.size, 0, none⟩ 1 1 [.pointer (some ⟨bx, ox + j * 3, none⟩), .pointer (some ⟨by', oy + j * 3, none⟩)] (by rfl) (by rfl) HN.out (by intro u hu; simp at hu; rcases hu with rfl | rfl <;> rfl) (by omega) (by unfold maxLen; omega) (by omega) (by simp; omega) (wr.heap.size + 1) (by simp) ?_; intro g1 cap1 w5 hown1 hgrow hat hlt5)
              all_goals (
                have hB6 : Below (w.heap.size + 1 + 1) w3 w5 := ((HB5.out.alloc (by omega) (.cells #[.pointer (some ⟨bx, ox + j * 3, none⟩), .pointer (some ⟨by', oy + j * 3, none⟩)] 111)).drew).grown hgrow (by simp; omega) (fun q hq => (hrow.lt q hq).1)
                have hws6 : WS w3 w5 (w.heap.size + 1 + 1) (w.heap.size + 1 + 1) f (.slice (some ⟨g1, 0, none⟩) (L + 1) cap1) (P ++ qs ++ [⟨bx, ox + j * 3, by', oy + j * 3, x, y⟩]) _ := HW5.out.push (p := ⟨bx, ox + j * 3, by', oy + j * 3, x, y⟩) (HXT.out ()) (HYT.out ()) (by rw [HLn.out]; exact hown1)
                rw [List.append_assoc] at hws6
                have HB6 : Hid _ := hB6
                have HW6 : Hid _ := hws6
                clear hB6 hws6 hown1 hgrow hat hlt5
                go_wp2
                exact ⟨⟨j + 1, _, _, by omega, by go_num, HW6.out, HX1.out, HY1.out, HB6.out⟩, by simp [intOf]; omega⟩)
            · have hjn : j = p.x.kids.length := by omega
              have HF : Hid _ := HP.out.step HR.out HW5.out (by rw [HQX.out, hjn, List.take_length]) (by rw [HQY.out, hjn, HL.out, List.take_length]) HB5.out
              obtain ⟨va, vc, rfl⟩ := row_slice hrow
              subst hjn
              clear hrow hql
              go_wp2
              obtain ⟨k', hk', hKE⟩ := HF.out
              exact ⟨⟨_, hKE⟩, by rw [HKK.out]; exact Nat.lt_of_le_of_lt (least_le hKE) hk'⟩
        · have q3 : ((p.x.kids.length : Int) != (p.y.kids.length : Int)) = true := by simp; omega
          have q3' : ¬ (p.x.kids.length : Int) = (p.y.kids.length : Int) := by omega
          have HE : Hid (eqT a b = false) := eqT_false (fun e => by
            have := HP.out.eq.2 e p (by simp)
            exact hl (by rw [this]))
          clear hl hr
          go_wp2_with (go_at_call 49; refine (HA.out ()).mono ?_; rintro e w4 ⟨rfl, hb4⟩)
          go_ret
          exact ⟨by rw [HE.out]; rfl, HBwV.out.trans (hb4.mono HBwV.out.size)⟩
      · have e1 : (decide (p.x.rule = p.y.rule) && decide (p.x.byte = p.y.byte)) = false := by
          rw [Bool.and_eq_false_iff]
          rcases Classical.em (p.x.rule = p.y.rule) with h | h
          · exact .inr (decide_eq_false (fun h' => hr ⟨h, h'⟩))
          · exact .inl (decide_eq_false h)
        rw [e1] at HA
        have HE : Hid (eqT a b = false) := eqT_false (fun e => by
          have := HP.out.eq.2 e p (by simp)
          exact hr ⟨by rw [this], by rw [this]⟩)
        clear e1 hr
        go_wp2_with (go_at_call 49; refine (HA.out ()).mono ?_; rintro e w4 ⟨rfl, hb4⟩)
        go_ret
        exact ⟨by rw [HE.out]; rfl, HBwV.out.trans (hb4.mono HBwV.out.size)⟩
set_option maxRecDepth 100000 in
set_option maxHeartbeats 4000000 in
theorem same_any (a b : Tr) (sa sb : Option Addr) (sc sd f : Nat) (w : World) (hka : TAt w w.heap.size f sa a.kids) (hkb : TAt w w.heap.size f sb b.kids) (hsc : a.kids.length ≤ sc) (hsd : b.kids.length ≤ sd) (hlen : sz a ≤ 1000000000000) :
    Calls Tryd.prog 27 #[.agg #[.int .i64 a.rule, .int .u8 (a.byte.toNat : Int), .slice sa a.kids.length sc], .agg #[.int .i64 b.rule, .int .u8 (b.byte.toNat : Int), .slice sb b.kids.length sd]] w fun e w' => e = .returned (.bool (eqT a b)) ∧ Below w.heap.size w w' := by
  have hC := fun (W : World) (hW : Below w.heap.size w W) => kinSame_any a b sa sb sc sd f W ((hka.keep hW).mono hW.size) ((hkb.keep hW).mono hW.size) hsc hsd hlen
  obtain ⟨w1, hw1⟩ : ∃ w1, w.alloc (.cells #[.int .i64 a.rule, .int .u8 (a.byte.toNat : Int), .slice sa a.kids.length sc] 27) = w1 := ⟨_, rfl⟩
  have s1 : w1.heap.size = w.heap.size + 1 := by rw [← hw1]; simp
  have hB1 : Below w.heap.size w w1 := by rw [← hw1]; exact (Below.refl _ _).alloc (Nat.le_refl _) _
  have a0 : w1.cell? ⟨w.heap.size, 0, none⟩ = some (.int .i64 a.rule) := by rw [← hw1]; exact cell_new 0 rfl
  have a1 : w1.cell? ⟨w.heap.size, 1, none⟩ = some (.int .u8 (a.byte.toNat : Int)) := by rw [← hw1]; exact cell_new 1 rfl
  have a2 : w1.cell? ⟨w.heap.size, 2, none⟩ = some (.slice sa a.kids.length sc) := by rw [← hw1]; exact cell_new 2 rfl
  obtain ⟨w2, hw2⟩ : ∃ w2, w1.alloc (.cells #[.int .i64 b.rule, .int .u8 (b.byte.toNat : Int), .slice sb b.kids.length sd] 27) = w2 := ⟨_, rfl⟩
  have hB2' : Below w1.heap.size w1 w2 := by rw [← hw2]; exact (Below.refl _ _).alloc (Nat.le_refl _) _
  have e0 := (hB2'.cell (p := ⟨w.heap.size, 0, none⟩) (by show w.heap.size < _; omega)).trans a0
  have e1 := (hB2'.cell (p := ⟨w.heap.size, 1, none⟩) (by show w.heap.size < _; omega)).trans a1
  have e2 := (hB2'.cell (p := ⟨w.heap.size, 2, none⟩) (by show w.heap.size < _; omega)).trans a2
  have g0 : w2.cell? ⟨w.heap.size + 1, 0, none⟩ = some (.int .i64 b.rule) := by rw [← hw2, ← s1]; exact cell_new 0 rfl
  have g1 : w2.cell? ⟨w.heap.size + 1, 1, none⟩ = some (.int .u8 (b.byte.toNat : Int)) := by rw [← hw2, ← s1]; exact cell_new 1 rfl
  have g2 : w2.cell? ⟨w.heap.size + 1, 2, none⟩ = some (.slice sb b.kids.length sd) := by rw [← hw2, ← s1]; exact cell_new 2 rfl
  have HB2 : Hid (Below w.heap.size w w2) := hB1.trans (hB2'.mono (by omega))
  have HC : Hid _ := fun (_ : Unit) => hC w2 HB2.out
  clear hC hka hkb hB1 hB2' a0 a1 a2
  go_enter Tryd.func27, Tryd.ntmps27
  go_wp2_with (go_at_call 48; refine (HC.out ()).mono ?_; rintro e w3 ⟨rfl, hb3⟩)
  go_ret
  exact ⟨rfl, HB2.out.trans (hb3.mono HB2.out.size)⟩
end Go.Proofs.YtlnlkbkmnkjbhaaDoor
