/- What is read is right; plain. -/
import Derived.Test.YtcpakcffiopfjaaGreatDoorE1
import Derived.Test.YtcpakcffiopfjaaGreatDoorE2
import Derived.Test.YtcpakcffiopfjaaGreatDoorC6
namespace Go.Proofs.YtcpakcffiopfjaaGreatDoor
open Go.RowKit
set_option linter.unusedVariables false
set_option linter.unusedSimpArgs false
set_option maxRecDepth 100000
set_option maxHeartbeats 16000000
set_option linter.unusedVariables false
set_option linter.unusedSimpArgs false
set_option maxRecDepth 100000
set_option maxHeartbeats 16000000
def FL (L:List Wd):Prop:=∀d∈L,Fine d
theorem FL.tail {L:List Wd} (h:FL L):FL L.tail:=fun d hd=>h d (List.mem_of_mem_tail hd)
theorem FL.head {L:List Wd} (h:FL L) {k:Nat} (hk:(wd L).kind=k) (h0:k≠0):Fine (wd L):=by
 cases L with
 | nil=>exact absurd hk.symm h0
 | cons x L=>exact h x (by simp)
theorem size_nil:(⟨#[]⟩:ByteArray).size≤32:=by decide
structure RightD (d:Df):Prop where
 s:nmN d.start=true
 l:nmN d.layout=true
 n:d.prods.length≤200
 p:∀x∈d.prods,prodB x=true
 c:∀x∈d.chains,chainB x=true
 f:∀x∈d.follows,nm x.sort=true
 r:∀x∈d.rejects,nm x.sort=true∧nm x.by'=true
 b:∀x∈d.boxes,boxB x=true
theorem right_iff (d:Df):rightB d=true↔RightD d:=by
 unfold rightB
 simp only[Bool.and_eq_true,List.all_eq_true,decide_eq_true_eq]
 constructor
 ·rintro⟨⟨⟨⟨⟨⟨⟨a,b⟩,c⟩,d⟩,e⟩,f⟩,g⟩,h⟩;exact⟨a,b,c,d,e,f,g,h⟩
 ·rintro⟨a,b,c,d,e,f,g,h⟩;exact⟨⟨⟨⟨⟨⟨⟨a,b⟩,c⟩,d⟩,e⟩,f⟩,g⟩,h⟩
end Go.Proofs.YtcpakcffiopfjaaGreatDoor
