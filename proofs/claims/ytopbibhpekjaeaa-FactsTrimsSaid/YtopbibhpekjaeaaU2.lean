/- A draw changes nothing of a grammar in its box. -/
import Derived.Test.YtopbibhpekjaeaaU1
import Derived.Deep.Draws
namespace Go.Proofs.Ytopbibhpekjaeaa
open Go.RowKit
theorem XI.drewN {w : World} {nts start : Int} {W1 : World} {ps : List Rl} {lv : Value} {xs : List Value} {W : World} (h : XI w nts start W1 ps lv xs W) (n : Nat) : XI w nts start W1 ps lv xs (W.drewN n) :=
  ⟨h.row, h.rw, h.c0, h.c1, h.c2, h.fz, h.bel.trans ⟨rfl, rfl, rfl, Nat.le_refl _, fun _ _ => rfl⟩, h.lt⟩
end Go.Proofs.Ytopbibhpekjaeaa
