/- The law of shortest texts, productive rules and cycles, walked. -/
import Derived.Test.YtopbibhpekjaeaaR7
import Derived.Test.YtopbibhpekjaeaaR8
import Derived.Test.YtopbibhpekjaeaaR11
import Derived.Test.YtopbibhpekjaeaaH1
namespace Go.Proofs.Ytopbibhpekjaeaa
open Go.RowKit

theorem bools_one {a b : List Bool} (hl : a.length = b.length) (h : ∀ m, a.getD m false = true ↔ b.getD m false = true) : a = b := by
  refine List.ext_getElem? fun i => ?_
  by_cases hi : i < a.length
  · have e1 : a[i]? = some (a.getD i false) := by rw [List.getD_eq_getElem?_getD, List.getElem?_eq_getElem hi]; rfl
    have e2 : b[i]? = some (b.getD i false) := by rw [List.getD_eq_getElem?_getD, List.getElem?_eq_getElem (by omega)]; rfl
    rw [e1, e2, Bool.eq_iff_iff.2 (h i)]
  · rw [List.getElem?_eq_none (by omega), List.getElem?_eq_none (by omega)]
theorem TrimIs.one {G : Gm} {a b : List Nat} (hA : TrimIs G a) (hB : TrimIs G b) : a = b := by
  rcases hA with ⟨a1, rfl⟩ | ⟨a1, s1, l1, m1, rfl⟩
  · rcases hB with ⟨b1, rfl⟩ | ⟨b1, _⟩
    · rfl
    · rw [a1] at b1; cases b1
  · rcases hB with ⟨b1, rfl⟩ | ⟨b1, s2, l2, m2, rfl⟩
    · rw [a1] at b1; cases b1
    · rw [bools_one (l1.trans l2.symm) fun m => (m1 m).trans (m2 m).symm]
theorem MarkIs.one {p : St → Bool} {G : Gm} {a b : List Bool} (hA : MarkIs p G a) (hB : MarkIs p G b) : a = b := by
  rcases hA with ⟨a1, rfl⟩ | ⟨a1, l1, m1⟩
  · rcases hB with ⟨b1, rfl⟩ | ⟨b1, _⟩
    · rfl
    · rw [a1] at b1; cases b1
  · rcases hB with ⟨b1, rfl⟩ | ⟨b1, l2, m2⟩
    · rw [a1] at b1; cases b1
    · exact bools_one (l1.trans l2.symm) fun m => (m1 m).trans (m2 m).symm
theorem intsV_Z (l : List Nat) : intsV l = intsZ (l.map fun (n : Nat) => (n : Int)) := by unfold intsV intsZ; rw [List.map_map]; rfl
theorem sameNats_rows {W : World} {b1 b2 : Nat} {v u : Value} {l : List Nat} (h1 : W.ownsRow b1 3 1 v l.length (intsV l)) (h2 : W.ownsRow b2 3 1 u l.length (intsV l)) (hl : l.length ≤ 140737488355328) :
    Calls Try.prog 35 #[v, u] W fun e w' => e = .returned (.bool true) ∧ Below W.heap.size W w' := by
  rw [intsV_Z] at h1 h2
  have e : l.length = (l.map fun (n : Nat) => (n : Int)).length := by simp
  rw [e] at h1 h2 hl
  exact sameInts_rows h1 h2 hl
set_option maxRecDepth 100000 in
set_option maxHeartbeats 16000000 in
theorem short_walk (G : Gm) (a : Option Addr) (c : Nat) (w : World) (hR : RAt w w.heap.size a G.rules) :
    Calls Try.prog 6 #[.agg #[.int .i64 G.nts, .int .i64 G.start, .slice a G.rules.length c]] w fun e w' => e = .returned (.bool true) ∧ Below w.heap.size w w' := by
  obtain ⟨W0, hW0⟩ : ∃ W0, w.alloc (.cells #[.int .i64 G.nts, .int .i64 G.start, .slice a G.rules.length c] 24) = W0 := ⟨_, rfl⟩
  have hs0 : W0.heap.size = w.heap.size + 1 := by rw [← hW0]; simp
  have hB0 : Below w.heap.size w W0 := by rw [← hW0]; exact (Below.refl _ _).alloc (Nat.le_refl _) _
  have gG : GB w.heap.size G a c W0 := ⟨by rw [← hW0]; exact cell_new 0 rfl, by rw [← hW0]; exact cell_new 1 rfl, by rw [← hW0]; exact cell_new 2 rfl, (hR.keep hB0).mono (by omega), by omega⟩
  have hlen := hR.len
  have HA : Hid _ := fun W => alive_any W
  have H11 : Hid _ := fun (_ : Unit) => heavy_any G a c 300 W0 gG.rat
  have H29 : Hid _ := fun W h => Shortest_row G a c W h
  have H30 : Hid _ := fun W h => refShortest_row G a c W h
  have H31 : Hid _ := fun W h => Trim_row G a c W h
  have H32 : Hid _ := fun W h => refTrim_row G a c W h
  have H33 : Hid _ := fun W h => Cyclic_row G a c W h
  have H34 : Hid _ := fun W h => refCyclic_row G a c W h
  have c0 := gG.c0
  have c1 := gG.c1
  have c2 := gG.c2
  go_enter Try.func6, Try.ntmps6
  go_wp2_with (go_at_call 11; refine (H11.out ()).mono ?_)
  rintro e V0 ⟨⟨x, rfl⟩, hb⟩
  have hBw := below_of hB0 hb
  replace gG := gG.below hb
  clear hb hs0 hB0 hW0 H11 c0 c1 c2
  have c0 := gG.c0
  have c1 := gG.c1
  have c2 := gG.c2
  cases x with
  | true =>
    go_wp2_with (go_at_call 12; refine (HA.out _).mono ?_)
    rintro e W2 ⟨rfl, hb2⟩
    go_wp2
    go_ret
    exact ⟨rfl, below_of hBw hb2⟩
  | false =>
    obtain ⟨z, hz⟩ : ∃ z, G.code = z := ⟨_, rfl⟩
    go_wp2_with (go_at_call 29; refine (H29.out _ gG.rat).mono ?_)
    rintro e V1 ⟨⟨v1, l1, he, r1, i1⟩, hb⟩
    rw [hz] at he
    subst he
    replace hBw := below_of hBw hb
    replace gG := gG.below hb
    clear hb c0 c1 c2
    have c0 := gG.c0
    have c1 := gG.c1
    have c2 := gG.c2
    go_wp2_with (go_at_call 30; refine (H30.out _ gG.rat).mono ?_)
    rintro e V2 ⟨⟨v2, l2, he, r2, i2⟩, hb⟩
    rw [hz] at he
    subst he
    replace hBw := below_of hBw hb
    replace gG := gG.below hb
    replace r1 := row_below r1 hb
    clear hb c0 c1 c2
    have c0 := gG.c0
    have c1 := gG.c1
    have c2 := gG.c2
    go_wp2_with (go_at_call 31; refine (H31.out _ gG.rat).mono ?_)
    rintro e V3 ⟨⟨v3, l3, he, r3, i3⟩, hb⟩
    rw [hz] at he
    subst he
    replace hBw := below_of hBw hb
    replace gG := gG.below hb
    replace r1 := row_below r1 hb
    replace r2 := row_below r2 hb
    clear hb c0 c1 c2
    have c0 := gG.c0
    have c1 := gG.c1
    have c2 := gG.c2
    go_wp2_with (go_at_call 32; refine (H32.out _ gG.rat).mono ?_)
    rintro e V4 ⟨⟨v4, l4, he, r4, i4⟩, hb⟩
    rw [hz] at he
    subst he
    replace hBw := below_of hBw hb
    replace gG := gG.below hb
    replace r1 := row_below r1 hb
    replace r2 := row_below r2 hb
    replace r3 := row_below r3 hb
    clear hb c0 c1 c2
    have c0 := gG.c0
    have c1 := gG.c1
    have c2 := gG.c2
    go_wp2_with (go_at_call 33; refine (H33.out _ gG.rat).mono ?_)
    rintro e V5 ⟨⟨x5, he, i5⟩, hb⟩
    rw [hz] at he
    subst he
    replace hBw := below_of hBw hb
    replace gG := gG.below hb
    replace r1 := row_below r1 hb
    replace r2 := row_below r2 hb
    replace r3 := row_below r3 hb
    replace r4 := row_below r4 hb
    clear hb c0 c1 c2
    have c0 := gG.c0
    have c1 := gG.c1
    have c2 := gG.c2
    go_wp2_with (go_at_call 34; refine (H34.out _ gG.rat).mono ?_)
    rintro e V6 ⟨⟨x6, he, i6⟩, hb⟩
    rw [hz] at he
    subst he
    replace hBw := below_of hBw hb
    replace gG := gG.below hb
    replace r1 := row_below r1 hb
    replace r2 := row_below r2 hb
    replace r3 := row_below r3 hb
    replace r4 := row_below r4 hb
    clear hb c0 c1 c2
    have c0 := gG.c0
    have c1 := gG.c1
    have c2 := gG.c2
    obtain rfl := i1.one i2 rfl rfl (fun _ _ => Iff.rfl)
    obtain rfl := i3.one i4
    obtain rfl := i5.one i6 rfl rfl Iff.rfl
    have hl1 := i1.len
    have hl3 := i3.len
    go_wp2_with (go_at_call 12; refine (HA.out _).mono ?_)
    rintro e V7 ⟨rfl, hb⟩
    replace hBw := below_of hBw hb
    replace r1 := row_below r1 hb
    replace r2 := row_below r2 hb
    replace r3 := row_below r3 hb
    replace r4 := row_below r4 hb
    have HQ : Hid _ := fun (_ : Unit) => sameInts_rows r1 r2 (by omega)
    clear hb
    go_wp2_with (go_at_call 35; refine (HQ.out ()).mono ?_)
    rintro e V8 ⟨rfl, hb⟩
    replace hBw := below_of hBw hb
    replace r3 := row_below r3 hb
    replace r4 := row_below r4 hb
    have HP : Hid _ := fun (_ : Unit) => sameNats_rows r3 r4 (by omega)
    clear hb HQ
    go_wp2_with (go_at_call 35; refine (HP.out ()).mono ?_)
    rintro e V9 ⟨rfl, hb⟩
    go_wp2
    go_ret
    exact ⟨rfl, below_of hBw hb⟩
end Go.Proofs.Ytopbibhpekjaeaa
