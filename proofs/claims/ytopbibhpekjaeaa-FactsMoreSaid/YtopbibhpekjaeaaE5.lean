/- What is told of what is reached. -/
import Derived.Test.YtopbibhpekjaeaaE0
import Derived.Test.YtopbibhpekjaeaaP3
namespace Go.Proofs.Ytopbibhpekjaeaa

def ReachIs (G : Gm) (l : List Bool) : Prop := (G.okB = false ∧ l = []) ∨ (G.okB = true ∧ l.length = G.nts.toNat ∧ ∀ m, l.getD m false = true ↔ Rch G.rules G.start.toNat m)
end Go.Proofs.Ytopbibhpekjaeaa
