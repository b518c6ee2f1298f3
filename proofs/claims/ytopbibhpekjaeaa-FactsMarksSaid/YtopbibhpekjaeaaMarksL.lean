/- The law of marks, walked. -/
import Derived.Test.YtopbibhpekjaeaaE4
import Derived.Test.YtopbibhpekjaeaaH1
import Derived.BigRegion
namespace Go.Proofs.Ytopbibhpekjaeaa
open Go.RowKit

theorem bools_one {a b : List Bool} (hl : a.length = b.length) (h : ∀ m, a.getD m false = true ↔ b.getD m false = true) : a = b := by
  refine List.ext_getElem? fun i => ?_
  by_cases hi : i < a.length
  · have e1 : a[i]? = some (a.getD i false) := by rw [List.getD_eq_getElem?_getD, List.getElem?_eq_getElem hi]; rfl
    have e2 : b[i]? = some (b.getD i false) := by rw [List.getD_eq_getElem?_getD, List.getElem?_eq_getElem (by omega)]; rfl
    rw [e1, e2, Bool.eq_iff_iff.2 (h i)]
  · rw [List.getElem?_eq_none (by omega), List.getElem?_eq_none (by omega)]
theorem MarkIs.one {p : St → Bool} {G : Gm} {a b : List Bool} (hA : MarkIs p G a) (hB : MarkIs p G b) : a = b := by
  rcases hA with ⟨a1, rfl⟩ | ⟨a1, l1, m1⟩
  · rcases hB with ⟨b1, rfl⟩ | ⟨b1, _⟩
    · rfl
    · rw [a1] at b1; cases b1
  · rcases hB with ⟨b1, rfl⟩ | ⟨b1, l2, m2⟩
    · rw [a1] at b1; cases b1
    · exact bools_one (l1.trans l2.symm) fun m => (m1 m).trans (m2 m).symm
theorem ReachIs.one {G : Gm} {a b : List Bool} (hA : ReachIs G a) (hB : ReachIs G b) : a = b := by
  rcases hA with ⟨a1, rfl⟩ | ⟨a1, l1, m1⟩
  · rcases hB with ⟨b1, rfl⟩ | ⟨b1, _⟩
    · rfl
    · rw [a1] at b1; cases b1
  · rcases hB with ⟨b1, rfl⟩ | ⟨b1, l2, m2⟩
    · rw [a1] at b1; cases b1
    · exact bools_one (l1.trans l2.symm) fun m => (m1 m).trans (m2 m).symm
theorem MarkIs.lenR {p : St → Bool} {G : Gm} {a b : List Bool} (hA : MarkIs p G a) (hB : ReachIs G b) : b.length = a.length := by
  rcases hA with ⟨a1, rfl⟩ | ⟨a1, l1, _⟩
  · rcases hB with ⟨_, rfl⟩ | ⟨b1, _⟩
    · rfl
    · rw [a1] at b1; cases b1
  · rcases hB with ⟨b1, _⟩ | ⟨_, l2, _⟩
    · rw [a1] at b1; cases b1
    · omega
theorem MarkIs.lenM {p q : St → Bool} {G : Gm} {a b : List Bool} (hA : MarkIs p G a) (hB : MarkIs q G b) : b.length = a.length := by
  rcases hA with ⟨a1, rfl⟩ | ⟨a1, l1, _⟩
  · rcases hB with ⟨_, rfl⟩ | ⟨b1, _⟩
    · rfl
    · rw [a1] at b1; cases b1
  · rcases hB with ⟨b1, _⟩ | ⟨_, l2, _⟩
    · rw [a1] at b1; cases b1
    · omega
theorem row_other {W : World} {B : Nat} {e : TypeId} {k : Nat} {v : Value} {n : Nat} {xs : List Value} (h : W.ownsRow B e k v n xs) {g o : Nat} (hne : v.ownBlock ≠ some g) (u : Value) : (W.setCell ⟨g, o, none⟩ u).ownsRow B e k v n xs := by
  refine ⟨h.1, ?_⟩
  rcases h.2 with h0 | ⟨q, cap, cur, hv, hbg, hg, rest⟩
  · exact .inl h0
  · exact .inr ⟨q, cap, cur, hv, hbg, (Below.heap_setCell W ⟨g, o, none⟩ u q (fun e => hne (by rw [hv]; show some q = some g; rw [e]))).trans hg, rest⟩
theorem row_flip {W : World} {B L : Nat} {v : Value} {g o : Nat} {b : Bool} (h : ∃ l, W.ownsRow B 4 1 v L (boolsV l)) : ∃ l, (W.setCell ⟨g, o, none⟩ (.bool b)).ownsRow B 4 1 v L (boolsV l) := by
  obtain ⟨l, h⟩ := h
  by_cases hv : v.ownBlock = some g
  · rcases h.2 with ⟨rfl, _⟩ | ⟨q, cap, cur, rfl, _⟩
    · cases hv
    · have hq : q = g := by simpa [Value.ownBlock] using hv
      subst hq
      exact ⟨l.set o b, by rw [boolsV_set]; exact (h.stored o (.bool b)).1⟩
  · exact ⟨l, row_other h hv _⟩
/-- Three lists that may be turned, and one that stays. -/
structure MR (B1 B3 B5 B2 L : Nat) (v1 v3 v5 v2 : Value) (l : List Bool) (V0 W : World) : Prop where
  a : ∃ l, W.ownsRow B1 4 1 v1 L (boolsV l)
  c : ∃ l, W.ownsRow B3 4 1 v3 L (boolsV l)
  x : ∃ l, W.ownsRow B5 4 1 v5 L (boolsV l)
  b : W.ownsRow B2 4 1 v2 L (boolsV l)
  bel : Below V0.heap.size V0 W
theorem MR.drew {B1 B3 B5 B2 L : Nat} {v1 v3 v5 v2 : Value} {l : List Bool} {V0 W : World} (h : MR B1 B3 B5 B2 L v1 v3 v5 v2 l V0 W) : MR B1 B3 B5 B2 L v1 v3 v5 v2 l V0 W.drew := ⟨h.a, h.c, h.x, h.b, h.bel.drew⟩
theorem MR.put {B1 B3 B5 B2 L : Nat} {v1 v3 v5 v2 : Value} {l : List Bool} {V0 W : World} (h : MR B1 B3 B5 B2 L v1 v3 v5 v2 l V0 W) {g : Nat} (hg : V0.heap.size ≤ g) (hb : v2.ownBlock ≠ some g) (o : Nat) (b : Bool) : MR B1 B3 B5 B2 L v1 v3 v5 v2 l V0 (W.setCell ⟨g, o, none⟩ (.bool b)) :=
  ⟨row_flip h.a, row_flip h.c, row_flip h.x, row_other h.b hb _, h.bel.setCell (p := ⟨g, o, none⟩) hg _⟩
theorem GB.belowB {gb : Nat} {G : Gm} {a : Option Addr} {c : Nat} {W W' : World} (h : GB gb G a c W) (_ : gb < W.heap.size) (hb : Below W.heap.size W W') : GB gb G a c W' := h.below hb
theorem sameBools_rows {W : World} {b1 b2 : Nat} {v u : Value} {l : List Bool} (h1 : W.ownsRow b1 4 1 v l.length (boolsV l)) (h2 : W.ownsRow b2 4 1 u l.length (boolsV l)) (hl : l.length ≤ 140737488355328) :
    Calls Try.prog 25 #[v, u] W fun e w' => e = .returned (.bool true) ∧ Below W.heap.size W w' := by
  by_cases h0 : l.length = 0
  · obtain ⟨a, c, rfl⟩ := row_slice h1
    obtain ⟨a', c', rfl⟩ := row_slice h2
    exact sameBools_any _ _ _ _ _ _ hl fun k hk => by omega
  · obtain ⟨g, c, rfl, _, hg⟩ := row_at h1 (by omega)
    obtain ⟨g', c', rfl, _, hg'⟩ := row_at h2 (by omega)
    exact sameBools_any _ _ _ _ _ _ hl fun k hk => ⟨g, 0, g', 0, l.getD k false, rfl, rfl, hg, hg', by rw [Nat.zero_add]; exact getD_cell h1 k hk, by rw [Nat.zero_add]; exact getD_cell h2 k hk⟩
set_option maxRecDepth 100000 in
set_option maxHeartbeats 16000000 in
theorem marks_walk (G : Gm) (a : Option Addr) (c : Nat) (w : World) (hR : RAt w w.heap.size a G.rules) :
    Calls Try.prog 4 #[.agg #[.int .i64 G.nts, .int .i64 G.start, .slice a G.rules.length c]] w fun e w' => e = .returned (.bool true) ∧ Below w.heap.size w w' := by
  obtain ⟨W0, hW0⟩ : ∃ W0, w.alloc (.cells #[.int .i64 G.nts, .int .i64 G.start, .slice a G.rules.length c] 24) = W0 := ⟨_, rfl⟩
  have hs0 : W0.heap.size = w.heap.size + 1 := by rw [← hW0]; simp
  have hB0 : Below w.heap.size w W0 := by rw [← hW0]; exact (Below.refl _ _).alloc (Nat.le_refl _) _
  have gG : GB w.heap.size G a c W0 := ⟨by rw [← hW0]; exact cell_new 0 rfl, by rw [← hW0]; exact cell_new 1 rfl, by rw [← hW0]; exact cell_new 2 rfl, (hR.keep hB0).mono (by omega), by omega⟩
  have HA : Hid _ := fun W => alive_any W
  have H11 : Hid _ := fun (_ : Unit) => heavy_any G a c 300 W0 gG.rat
  have H19 : Hid _ := fun W h => Nullable_row G a c W h
  have H20 : Hid _ := fun W h => refNullable_row G a c W h
  have H21 : Hid _ := fun W h => Productive_row G a c W h
  have H22 : Hid _ := fun W h => refProductive_row G a c W h
  have H23 : Hid _ := fun W h => Reach_row G a c W h
  have H24 : Hid _ := fun W h => refReach_row G a c W h
  have c0 := gG.c0
  have c1 := gG.c1
  have c2 := gG.c2
  go_enter Try.func4, Try.ntmps4
  go_wp2_with (go_at_call 11; refine (H11.out ()).mono ?_)
  rintro e V0 ⟨⟨x, rfl⟩, hb⟩
  have hBw := below_of hB0 hb
  replace gG := gG.below hb
  clear hb hs0 hB0 hW0 H11 c0 c1 c2
  have c0 := gG.c0
  have c1 := gG.c1
  have c2 := gG.c2
  cases x with
  | true =>
    go_wp2_with (go_at_call 12; refine (HA.out _).mono ?_)
    rintro e W2 ⟨rfl, hb2⟩
    go_wp2
    go_ret
    exact ⟨rfl, below_of hBw hb2⟩
  | false =>
    obtain ⟨z, hz⟩ : ∃ z, G.code = z := ⟨_, rfl⟩
    have hBV := Below.refl V0.heap.size V0
    have g0lt := gG.lt
    have gV := gG
    have hBw0 := hBw
    go_wp2_with (go_at_call 19; refine (H19.out _ gG.rat).mono ?_)
    rintro e V1 ⟨⟨v1, l1, he, r1, i1⟩, hb⟩
    rw [hz] at he
    subst he
    replace hBw := below_of hBw hb
    replace gG := gG.below hb
    replace hBV := hBV.trans (hb.mono hBV.size)
    have s1 := hb.size
    have b1 := r1.lt
    clear hb c0 c1 c2
    have c0 := gG.c0
    have c1 := gG.c1
    have c2 := gG.c2
    go_wp2_with (go_at_call 20; refine (H20.out _ gG.rat).mono ?_)
    rintro e V2 ⟨⟨v2, l2, he, r2, i2⟩, hb⟩
    rw [hz] at he
    subst he
    replace hBw := below_of hBw hb
    replace gG := gG.below hb
    replace hBV := hBV.trans (hb.mono hBV.size)
    have s2 := hb.size
    have b2 := r2.lt
    replace r1 := row_below r1 hb
    clear hb c0 c1 c2
    have c0 := gG.c0
    have c1 := gG.c1
    have c2 := gG.c2
    go_wp2_with (go_at_call 21; refine (H21.out _ gG.rat).mono ?_)
    rintro e V3 ⟨⟨v3, l3, he, r3, i3⟩, hb⟩
    rw [hz] at he
    subst he
    replace hBw := below_of hBw hb
    replace gG := gG.below hb
    replace hBV := hBV.trans (hb.mono hBV.size)
    have s3 := hb.size
    have b3 := r3.lt
    replace r1 := row_below r1 hb
    replace r2 := row_below r2 hb
    clear hb c0 c1 c2
    have c0 := gG.c0
    have c1 := gG.c1
    have c2 := gG.c2
    go_wp2_with (go_at_call 22; refine (H22.out _ gG.rat).mono ?_)
    rintro e V4 ⟨⟨v4, l4, he, r4, i4⟩, hb⟩
    rw [hz] at he
    subst he
    replace hBw := below_of hBw hb
    replace gG := gG.below hb
    replace hBV := hBV.trans (hb.mono hBV.size)
    have s4 := hb.size
    have b4 := r4.lt
    replace r1 := row_below r1 hb
    replace r2 := row_below r2 hb
    replace r3 := row_below r3 hb
    clear hb c0 c1 c2
    have c0 := gG.c0
    have c1 := gG.c1
    have c2 := gG.c2
    go_wp2_with (go_at_call 23; refine (H23.out _ gG.rat).mono ?_)
    rintro e V5 ⟨⟨v5, l5, he, r5, i5⟩, hb⟩
    rw [hz] at he
    subst he
    replace hBw := below_of hBw hb
    replace gG := gG.below hb
    replace hBV := hBV.trans (hb.mono hBV.size)
    have s5 := hb.size
    have b5 := r5.lt
    replace r1 := row_below r1 hb
    replace r2 := row_below r2 hb
    replace r3 := row_below r3 hb
    replace r4 := row_below r4 hb
    clear hb c0 c1 c2
    have c0 := gG.c0
    have c1 := gG.c1
    have c2 := gG.c2
    go_wp2_with (go_at_call 24; refine (H24.out _ gG.rat).mono ?_)
    rintro e V6 ⟨⟨v6, l6, he, r6, i6⟩, hb⟩
    rw [hz] at he
    subst he
    replace hBw := below_of hBw hb
    replace gG := gG.below hb
    replace hBV := hBV.trans (hb.mono hBV.size)
    have s6 := hb.size
    have b6 := r6.lt
    replace r1 := row_below r1 hb
    replace r2 := row_below r2 hb
    replace r3 := row_below r3 hb
    replace r4 := row_below r4 hb
    replace r5 := row_below r5 hb
    clear hb c0 c1 c2
    have c0 := gG.c0
    have c1 := gG.c1
    have c2 := gG.c2
    obtain rfl := i1.one i2
    obtain rfl := i3.one i4
    obtain rfl := i5.one i6
    have hl1 := i1.len
    have hl3 := i1.lenM i3
    have hl5 := i1.lenR i5
    have HQ1 : Hid _ := fun (_ : Unit) => sameBools_rows r1 r2 (by omega)
    go_wp2_with (go_at_call 25; refine (HQ1.out ()).mono ?_)
    rintro e V7 ⟨rfl, hb⟩
    replace hBw := below_of hBw hb
    replace gG := gG.below hb
    replace hBV := hBV.trans (hb.mono hBV.size)
    replace r1 := row_below r1 hb
    replace r2 := row_below r2 hb
    replace r3 := row_below r3 hb
    replace r4 := row_below r4 hb
    replace r5 := row_below r5 hb
    replace r6 := row_below r6 hb
    have HQ2 : Hid _ := fun (_ : Unit) => sameBools_rows r3 r4 (by omega)
    clear hb HQ1 c0 c1 c2
    go_wp2_with (go_at_call 25; refine (HQ2.out ()).mono ?_)
    rintro e V8 ⟨rfl, hb⟩
    replace hBw := below_of hBw hb
    replace gG := gG.below hb
    replace hBV := hBV.trans (hb.mono hBV.size)
    replace r1 := row_below r1 hb
    replace r2 := row_below r2 hb
    replace r3 := row_below r3 hb
    replace r5 := row_below r5 hb
    replace r6 := row_below r6 hb
    have HQ3 : Hid _ := fun (_ : Unit) => sameBools_rows r5 r6 (by omega)
    clear hb HQ2
    go_wp2_with (go_at_call 25; refine (HQ3.out ()).mono ?_)
    rintro e V9 ⟨rfl, hb⟩
    replace hBw := below_of hBw hb
    replace gG := gG.below hb
    replace hBV := hBV.trans (hb.mono hBV.size)
    replace r1 := row_below r1 hb
    replace r2 := row_below r2 hb
    replace r3 := row_below r3 hb
    replace r5 := row_below r5 hb
    clear hb HQ3 r4 r6
    obtain ⟨a1, q1, rfl⟩ := row_slice r1
    obtain ⟨a3, q3, rfl⟩ := row_slice r3
    obtain ⟨a5, q5, rfl⟩ := row_slice r5
    have hgb : w.heap.size < V0.heap.size := g0lt
    have hRw := gG.rat
    rw [hl3] at r3
    rw [hl5] at r5
    go_wp2
    go_loopw [15] (fun nv W => ∃ n : Nat, n ≤ l1.length ∧ nv = .int .i64 n ∧ MR V0.heap.size V2.heap.size V4.heap.size V1.heap.size l1.length (.slice a1 l1.length q1) (.slice a3 l1.length q3) (.slice a5 l1.length q5) v2 l1 V0 W) (fun nv _ => l1.length - (intOf nv).toNat)
    case atStart => exact ⟨0, by omega, rfl, ⟨_, r1⟩, ⟨_, r3⟩, ⟨_, r5⟩, r2, hBV⟩
    case round =>
      obtain ⟨n, hn, rfl, hM⟩ := hrel
      have gW : GB w.heap.size G a c wr := gV.belowB hgb hM.bel
      by_cases hlt : n < l1.length
      · have hnI : (n : Int) < l1.length := by omega
        obtain ⟨g1, z1, h1e, hg1, hg1'⟩ := row_at r1 (by omega)
        obtain ⟨rfl, -, rfl⟩ : a1 = some ⟨g1, 0, none⟩ ∧ l1.length = l1.length ∧ q1 = z1 := by simpa using h1e
        obtain ⟨g3, z3, h3e, hg3, hg3'⟩ := row_at r3 (by omega)
        obtain ⟨rfl, -, rfl⟩ : a3 = some ⟨g3, 0, none⟩ ∧ l1.length = l1.length ∧ q3 = z3 := by simpa using h3e
        obtain ⟨g5, z5, h5e, hg5, hg5'⟩ := row_at r5 (by omega)
        obtain ⟨rfl, -, rfl⟩ : a5 = some ⟨g5, 0, none⟩ ∧ l1.length = l1.length ∧ q5 = z5 := by simpa using h5e
        have e1 := (b1 g1 rfl).2
        have e3 := (b3 g3 rfl).2
        have e5 := (b5 g5 rfl).2
        have d13 : ¬ g1 = g3 := by omega
        have d15 : ¬ g1 = g5 := by omega
        have d35 : ¬ g3 = g5 := by omega
        have d31 : ¬ g3 = g1 := by omega
        have d51 : ¬ g5 = g1 := by omega
        have d53 : ¬ g5 = g3 := by omega
        have n1 : v2.ownBlock ≠ some g1 := fun e => by have := (b2 g1 e).1; omega
        have n3 : v2.ownBlock ≠ some g3 := fun e => by have := (b2 g3 e).2; omega
        have n5 : v2.ownBlock ≠ some g5 := fun e => by have := (b2 g5 e).2; omega
        have P1 : Hid (∀ {W : World} (b : Bool), MR V0.heap.size V2.heap.size V4.heap.size V1.heap.size l1.length (.slice (some ⟨g1, 0, none⟩) l1.length q1) (.slice (some ⟨g3, 0, none⟩) l1.length q3) (.slice (some ⟨g5, 0, none⟩) l1.length q5) v2 l1 V0 W → MR V0.heap.size V2.heap.size V4.heap.size V1.heap.size l1.length (.slice (some ⟨g1, 0, none⟩) l1.length q1) (.slice (some ⟨g3, 0, none⟩) l1.length q3) (.slice (some ⟨g5, 0, none⟩) l1.length q5) v2 l1 V0 (W.setCell ⟨g1, n, none⟩ (.bool b))) := fun b h => h.put (by omega) n1 n b
        have P3 : Hid (∀ {W : World} (b : Bool), MR V0.heap.size V2.heap.size V4.heap.size V1.heap.size l1.length (.slice (some ⟨g1, 0, none⟩) l1.length q1) (.slice (some ⟨g3, 0, none⟩) l1.length q3) (.slice (some ⟨g5, 0, none⟩) l1.length q5) v2 l1 V0 W → MR V0.heap.size V2.heap.size V4.heap.size V1.heap.size l1.length (.slice (some ⟨g1, 0, none⟩) l1.length q1) (.slice (some ⟨g3, 0, none⟩) l1.length q3) (.slice (some ⟨g5, 0, none⟩) l1.length q5) v2 l1 V0 (W.setCell ⟨g3, n, none⟩ (.bool b))) := fun b h => h.put (by omega) n3 n b
        have P5 : Hid (∀ {W : World} (b : Bool), MR V0.heap.size V2.heap.size V4.heap.size V1.heap.size l1.length (.slice (some ⟨g1, 0, none⟩) l1.length q1) (.slice (some ⟨g3, 0, none⟩) l1.length q3) (.slice (some ⟨g5, 0, none⟩) l1.length q5) v2 l1 V0 W → MR V0.heap.size V2.heap.size V4.heap.size V1.heap.size l1.length (.slice (some ⟨g1, 0, none⟩) l1.length q1) (.slice (some ⟨g3, 0, none⟩) l1.length q3) (.slice (some ⟨g5, 0, none⟩) l1.length q5) v2 l1 V0 (W.setCell ⟨g5, n, none⟩ (.bool b))) := fun b h => h.put (by omega) n5 n b
        obtain ⟨m1, k1⟩ := hM.a
        obtain ⟨m3, k3⟩ := hM.c
        obtain ⟨m5, k5⟩ := hM.x
        have x1 := getD_cell k1 n hlt
        have x3 := getD_cell k3 n hlt
        have x5 := getD_cell k5 n hlt
        have y1 := k1.frozenAt n
        have y3 := k3.frozenAt n
        have y5 := k5.frozenAt n
        generalize m1.getD n false = p1 at *
        generalize m3.getD n false = p3 at *
        generalize m5.getD n false = p5 at *
        clear r1 r2 r3 r5 hBV hBw gG gV gW hR hRw i1 i3 i5 b1 b2 b3 b4 b5 b6 h1e h3e h5e k1 k3 k5 hg1 hg3 hg5 hg1' hg3' hg5' e1 e3 e5 n1 n3 n5 s1 s2 s3 s4 s5 s6 hl3 hl5 hgb hBw0 g0lt H19 H20 H21 H22 H23 H24 HA
        go_wp2
        go_region
        all_goals go_wp2
        all_goals exact ⟨⟨n + 1, by omega, by go_num, (P5.out _ (P3.out _ (P1.out _ hM))).drew⟩, by simp [intOf]; omega⟩
      · obtain rfl : n = l1.length := by omega
        have c0 := gW.c0
        have c1 := gW.c1
        have c2 := gW.c2
        have hBx : Below w.heap.size w wr := hBw0.trans (hM.bel.mono hBw0.size)
        clear r1 r3 r5 b1 b3 b4 b5 b6 gG gV hBw hBV
        go_wp2_with (go_at_call 19; refine (H19.out _ gW.rat).mono ?_)
        rintro e V10 ⟨⟨v10, l10, he, r10, i10⟩, hb⟩
        rw [hz] at he
        subst he
        obtain rfl := i10.one i1
        replace hBx := below_of hBx hb
        have k2 := row_below hM.b hb
        clear hb c0 c1 c2
        go_wp2_with (go_at_call 12; refine (HA.out _).mono ?_)
        rintro e V11 ⟨rfl, hb⟩
        replace hBx := below_of hBx hb
        replace r10 := row_below r10 hb
        replace k2 := row_below k2 hb
        have HQ4 : Hid _ := fun (_ : Unit) => sameBools_rows r10 k2 (by omega)
        clear hb
        go_wp2_with (go_at_call 25; refine (HQ4.out ()).mono ?_)
        rintro e V12 ⟨rfl, hb⟩
        go_wp2
        go_ret
        exact ⟨rfl, below_of hBx hb⟩
end Go.Proofs.Ytopbibhpekjaeaa
