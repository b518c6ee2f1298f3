/- The law of first bytes, walked. -/
import Derived.Test.YtopbibhpekjaeaaR14
import Derived.Test.YtopbibhpekjaeaaH1
namespace Go.Proofs.Ytopbibhpekjaeaa
open Go.RowKit

set_option maxRecDepth 100000 in
set_option maxHeartbeats 16000000 in
theorem firstl_walk (G : Gm) (a : Option Addr) (c : Nat) (w : World) (hR : RAt w w.heap.size a G.rules) :
    Calls Try.prog 5 #[.agg #[.int .i64 G.nts, .int .i64 G.start, .slice a G.rules.length c]] w fun e w' => e = .returned (.bool true) ∧ Below w.heap.size w w' := by
  obtain ⟨W0, hW0⟩ : ∃ W0, w.alloc (.cells #[.int .i64 G.nts, .int .i64 G.start, .slice a G.rules.length c] 24) = W0 := ⟨_, rfl⟩
  have hs0 : W0.heap.size = w.heap.size + 1 := by rw [← hW0]; simp
  have hB0 : Below w.heap.size w W0 := by rw [← hW0]; exact (Below.refl _ _).alloc (Nat.le_refl _) _
  have gG : GB w.heap.size G a c W0 := ⟨by rw [← hW0]; exact cell_new 0 rfl, by rw [← hW0]; exact cell_new 1 rfl, by rw [← hW0]; exact cell_new 2 rfl, (hR.keep hB0).mono (by omega), by omega⟩
  have HA : Hid _ := fun W => alive_any W
  have H11 : Hid _ := fun (_ : Unit) => heavy_any G a c 300 W0 gG.rat
  have H26 : Hid _ := fun W h => First_row G a c W h
  have H27 : Hid _ := fun W h => refFirst_row G a c W h
  have c0 := gG.c0
  have c1 := gG.c1
  have c2 := gG.c2
  go_enter Try.func5, Try.ntmps5
  go_wp2_with (go_at_call 11; refine (H11.out ()).mono ?_)
  rintro e V0 ⟨⟨x, rfl⟩, hb⟩
  have hBw := below_of hB0 hb
  replace gG := gG.below hb
  clear hb hs0 hB0 hW0 H11 c0 c1 c2
  have c0 := gG.c0
  have c1 := gG.c1
  have c2 := gG.c2
  cases x with
  | true =>
    go_wp2_with (go_at_call 12; refine (HA.out _).mono ?_)
    rintro e W2 ⟨rfl, hb2⟩
    go_wp2
    go_ret
    exact ⟨rfl, below_of hBw hb2⟩
  | false =>
    obtain ⟨z, hz⟩ : ∃ z, G.code = z := ⟨_, rfl⟩
    go_wp2_with (go_at_call 26; refine (H26.out _ gG.rat).mono ?_)
    rintro e V1 ⟨⟨v1, l1, he, r1, i1⟩, hb⟩
    rw [hz] at he
    subst he
    replace hBw := below_of hBw hb
    replace gG := gG.below hb
    clear hb c0 c1 c2
    have c0 := gG.c0
    have c1 := gG.c1
    have c2 := gG.c2
    go_wp2_with (go_at_call 27; refine (H27.out _ gG.rat).mono ?_)
    rintro e V2 ⟨⟨v2, l2, he, r2, i2⟩, hb⟩
    rw [hz] at he
    subst he
    replace hBw := below_of hBw hb
    replace gG := gG.below hb
    replace r1 := row_below r1 hb
    clear hb c0 c1 c2
    have c0 := gG.c0
    have c1 := gG.c1
    have c2 := gG.c2
    obtain rfl := i1.one i2 rfl rfl (fun _ _ => Iff.rfl)
    have hl1 := i1.len
    go_wp2_with (go_at_call 12; refine (HA.out _).mono ?_)
    rintro e V7 ⟨rfl, hb⟩
    replace hBw := below_of hBw hb
    replace r1 := row_below r1 hb
    replace r2 := row_below r2 hb
    have HQ : Hid _ := fun (_ : Unit) => sameSets_rows r1 r2 (by omega)
    clear hb
    go_wp2_with (go_at_call 28; refine (HQ.out ()).mono ?_)
    rintro e V8 ⟨rfl, hb⟩
    go_wp2
    go_ret
    exact ⟨rfl, below_of hBw hb⟩
end Go.Proofs.Ytopbibhpekjaeaa
