/- The law of right grammars, walked. -/
import Derived.Test.YtopbibhpekjaeaaX3
import Derived.Test.YtopbibhpekjaeaaZ1
import Derived.Test.YtopbibhpekjaeaaZ2
import Derived.Test.YtopbibhpekjaeaaP3
import Derived.Test.YtopbibhpekjaeaaH1
import Derived.Test.YtopbibhpekjaeaaR3
namespace Go.Proofs.Ytopbibhpekjaeaa
open Go.RowKit

/-- A grammar and its copy, each in its box. -/
structure TG (gb xb : Nat) (G : Gm) (a a' : Option Addr) (c c' : Nat) (W : World) : Prop where
  g : GB gb G a c W
  x : GB xb G a' c' W
section
variable {gb xb : Nat} {G : Gm} {a a' : Option Addr} {c c' : Nat} {W W' : World}
theorem TG.below (h : TG gb xb G a a' c c' W) (hb : Below W.heap.size W W') : TG gb xb G a a' c c' W' := ⟨h.g.below hb, h.x.below hb⟩
theorem TG.drew (h : TG gb xb G a a' c c' W) : TG gb xb G a a' c c' W.drew := h.below (Below.refl _ _).drew
theorem TG.facts (h : TG gb xb G a a' c c' W) : W.cell? ⟨gb, 0, none⟩ = some (.int .i64 G.nts) ∧ W.cell? ⟨gb, 1, none⟩ = some (.int .i64 G.start) ∧ W.cell? ⟨gb, 2, none⟩ = some (.slice a G.rules.length c) ∧ W.cell? ⟨xb, 0, none⟩ = some (.int .i64 G.nts) ∧ W.cell? ⟨xb, 1, none⟩ = some (.int .i64 G.start) ∧ W.cell? ⟨xb, 2, none⟩ = some (.slice a' G.rules.length c') := ⟨h.g.c0, h.g.c1, h.g.c2, h.x.c0, h.x.c1, h.x.c2⟩
end
set_option maxRecDepth 100000 in
set_option maxHeartbeats 16000000 in
theorem right_walk (G : Gm) (a : Option Addr) (c : Nat) (w : World) (hR : RAt w w.heap.size a G.rules) :
    Calls Try.prog 3 #[.agg #[.int .i64 G.nts, .int .i64 G.start, .slice a G.rules.length c]] w fun e w' => e = .returned (.bool true) ∧ Below w.heap.size w w' := by
  obtain ⟨W0, hW0⟩ : ∃ W0, w.alloc (.cells #[.int .i64 G.nts, .int .i64 G.start, .slice a G.rules.length c] 24) = W0 := ⟨_, rfl⟩
  have hs0 : W0.heap.size = w.heap.size + 1 := by rw [← hW0]; simp
  have hB0 : Below w.heap.size w W0 := by rw [← hW0]; exact (Below.refl _ _).alloc (Nat.le_refl _) _
  have g0 : GB w.heap.size G a c W0 := ⟨by rw [← hW0]; exact cell_new 0 rfl, by rw [← hW0]; exact cell_new 1 rfl, by rw [← hW0]; exact cell_new 2 rfl, (hR.keep hB0).mono (by omega), by omega⟩
  have c0 := g0.c0
  have c1 := g0.c1
  have c2 := g0.c2
  have HA : Hid _ := fun W => alive_any W
  have H11 : Hid _ := fun (_ : Unit) => heavy_any G a c 20000 W0 g0.rat
  have H13 : Hid _ := fun a c W h => right_any G a c W h
  have H14 : Hid _ := fun W h => copyGram_any G a c W h
  have H15 : Hid _ := fun a c W h => refRight_any G a c W h
  have H16 : Hid _ := fun a c W h => sizeW_any G a c W h
  have H17 : Hid _ := fun a c W h => sizeR_any G a c W h
  have H18 : Hid _ := fun a b ca cb W h1 h2 => sameGram_any G.nts G.start G.rules a b ca cb W h1 h2
  have HOk : Hid (4096 < G.nts → (if G.okB then (0 : Int) else 3) = 3) := fun h => by
    cases hok : G.okB with
    | false => rfl
    | true => have := okB_nts hok; omega
  obtain ⟨z, hz⟩ : ∃ z : Int, (if G.okB then (0 : Int) else 3) = z := ⟨_, rfl⟩
  rw [hz] at HOk H13 H15
  obtain ⟨s, hs⟩ : ∃ s : Int, wrap64 (szs G.rules) = s := ⟨_, rfl⟩
  rw [hs] at H16 H17
  clear hz hs
  go_enter Try.func3, Try.ntmps3
  go_wp2_with (go_at_call 11; refine (H11.out ()).mono ?_)
  rintro e W1 ⟨⟨x, rfl⟩, hb1⟩
  have B1 := below_of hB0 hb1
  have g1 := g0.below hb1
  clear hb1 hB0 hs0 hW0 H11 c0 c1 c2 g0
  have c0 := g1.c0
  have c1 := g1.c1
  have c2 := g1.c2
  cases x with
  | true =>
    go_wp2_with (go_at_call 12; refine (HA.out _).mono ?_)
    rintro e W2 ⟨rfl, hb2⟩
    have B2 := below_of B1 hb2
    have g2 := g1.below hb2
    clear hb2 c0 c1 c2 g1
    have c0 := g2.c0
    have c1 := g2.c1
    have c2 := g2.c2
    by_cases hN : G.nts ≤ 4096
    · go_wp2
      go_ret
      exact ⟨rfl, B2⟩
    · have hN' : decide (G.nts ≤ 4096) = false := by simp; omega
      obtain rfl := HOk.out (by omega)
      go_wp2_with (go_at_call 13; refine (H13.out _ _ _ g2.rat).mono ?_)
      rintro e W3 ⟨rfl, hb3⟩
      go_wp2
      go_ret
      exact ⟨rfl, below_of B2 hb3⟩
  | false =>
    go_wp2_with (go_at_call 14; refine (H14.out _ g1.rat).mono ?_)
    rintro e W2 ⟨⟨lv, xs, rfl, hrow, hrx⟩, hb2⟩
    obtain ⟨a', c', rfl, hRx⟩ := hrx.rat hrow hR.len
    have B2 := below_of B1 hb2
    have hBx : Below W2.heap.size W2 (W2.alloc (.cells #[.int .i64 G.nts, .int .i64 G.start, .slice a' G.rules.length c'] 24)) := (Below.refl _ _).alloc (Nat.le_refl _) _
    have T : TG w.heap.size W2.heap.size G a a' c c' (W2.alloc (.cells #[.int .i64 G.nts, .int .i64 G.start, .slice a' G.rules.length c'] 24)) := ⟨(g1.below hb2).below hBx, cell_new 0 rfl, cell_new 1 rfl, cell_new 2 rfl, (hRx.keep hBx).mono hBx.size, by simp⟩
    have B3 := below_of B2 hBx
    clear hb2 hrow hrx hRx B1 B2 hBx hR g1 c0 c1 c2 H14 HOk
    go_wp2
    go_region_held3 (fun W => W.cell? ⟨w.heap.size, 0, none⟩ = some (.int .i64 G.nts) ∧ W.cell? ⟨w.heap.size, 1, none⟩ = some (.int .i64 G.start) ∧ W.cell? ⟨w.heap.size, 2, none⟩ = some (.slice a G.rules.length c) ∧ W.cell? ⟨W2.heap.size, 0, none⟩ = some (.int .i64 G.nts) ∧ W.cell? ⟨W2.heap.size, 1, none⟩ = some (.int .i64 G.start) ∧ W.cell? ⟨W2.heap.size, 2, none⟩ = some (.slice a' G.rules.length c')) (first | exact T.facts | exact T.drew.facts) (first
      | (go_at_call 12; refine (HA.out _).mono ?_; rintro e w1 ⟨rfl, hb⟩; replace B3 : Below w.heap.size w w1 := (by first | exact below_of B3 hb | exact below_of B3.drew hb); replace T : TG w.heap.size W2.heap.size G a a' c c' w1 := (by first | exact T.below hb | exact T.drew.below hb); clear hb)
      | (go_at_call 13; refine (H13.out _ _ _ T.x.rat).mono ?_; rintro e w1 ⟨rfl, hb⟩; replace B3 : Below w.heap.size w w1 := (by first | exact below_of B3 hb | exact below_of B3.drew hb); replace T : TG w.heap.size W2.heap.size G a a' c c' w1 := (by first | exact T.below hb | exact T.drew.below hb); clear hb)
      | (go_at_call 15; refine (H15.out _ _ _ T.g.rat).mono ?_; rintro e w1 ⟨rfl, hb⟩; replace B3 : Below w.heap.size w w1 := (by first | exact below_of B3 hb | exact below_of B3.drew hb); replace T : TG w.heap.size W2.heap.size G a a' c c' w1 := (by first | exact T.below hb | exact T.drew.below hb); clear hb)
      | (go_at_call 16; refine (H16.out _ _ _ T.x.rat).mono ?_; rintro e w1 ⟨rfl, hb⟩; replace B3 : Below w.heap.size w w1 := (by first | exact below_of B3 hb | exact below_of B3.drew hb); replace T : TG w.heap.size W2.heap.size G a a' c c' w1 := (by first | exact T.below hb | exact T.drew.below hb); clear hb)
      | (go_at_call 17; refine (H17.out _ _ _ T.g.rat).mono ?_; rintro e w1 ⟨rfl, hb⟩; replace B3 : Below w.heap.size w w1 := (by first | exact below_of B3 hb | exact below_of B3.drew hb); replace T : TG w.heap.size W2.heap.size G a a' c c' w1 := (by first | exact T.below hb | exact T.drew.below hb); clear hb)
      | (go_at_call 18; refine (H18.out _ _ _ _ _ T.x.rat T.g.rat).mono ?_; rintro e w1 ⟨rfl, hb⟩; replace B3 : Below w.heap.size w w1 := (by first | exact below_of B3 hb | exact below_of B3.drew hb); replace T : TG w.heap.size W2.heap.size G a a' c c' w1 := (by first | exact T.below hb | exact T.drew.below hb); clear hb))
    go_wp2
    go_ret
    exact ⟨rfl, B3⟩
end Go.Proofs.Ytopbibhpekjaeaa
