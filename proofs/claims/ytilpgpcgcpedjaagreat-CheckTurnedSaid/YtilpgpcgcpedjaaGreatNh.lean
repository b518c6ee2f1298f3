/- An argument that is a definition: with the sizes of its lists and names. One that is a production. -/
import Derived.Test.YtilpgpcgcpedjaaGreatKg
import Derived.Test.YtilpgpcgcpedjaaGreatD1
namespace Go.Proofs.YtilpgpcgcpedjaaGreat
open Go.RowKit
set_option linter.unusedVariables false
set_option linter.unusedSimpArgs false
set_option maxRecDepth 100000
set_option maxHeartbeats 16000000
theorem NmZ.nmD {d:Df} (h:NmZ d):NmD d:=⟨h.start,h.layout,fun p hp=>⟨(h.prods p hp).1,(h.prods p hp).2.1,(h.prods p hp).2.2⟩,h.chains,h.follows,h.rejects,h.boxes⟩
open Go.ChangeShapes Go.WideShapes Go.ChangeAt Go.RowKit Go.Deep
theorem ownk:ownKnob Tryz.prog.godebug=none:=by kernel_rfl
theorem laidOut:laidOutB Tryz.prog=true:=by kernel_rfl
section
variable {H:Type} {enc:TypeId×Value→H} {w:World} {base:Nat} {spare:Nat→Bool} {held:Bool}
theorem open_do {r:Reach} {b0:Nat} {v:Value} {d:DataW H} {p:List MemPlace} (hv:Value.okWide Tryz.prog w r b0 28 v) (h:DataW.Trod enc Tryz.prog w base spare held 28 v d p) (hw:∀n∈d.weights Tryz.prog 28,n≤reachBytes):∃(D:Df) (vs:List Value),v=.agg vs.toArray∧DO w D vs:=by
 obtain⟨D,vs,e,h,hz,hn⟩:=open_def_sz hv h hw
 exact ⟨D,vs,e,h,hz,hn.nmD⟩
theorem open_pr {r:Reach} {b0:Nat} {v:Value} {d:DataW H} {p:List MemPlace} (hv:Value.okWide Tryz.prog w r b0 44 v) (h:DataW.Trod enc Tryz.prog w base spare held 44 v d p) (hw:∀n∈d.weights Tryz.prog 44,n≤reachBytes):∃(D:Pr) (vs:List Value),v=.agg vs.toArray∧PrV w w.heap.size D vs∧D.syms.length*88≤140737488355328:=by
 simp only[Value.okWide,Tryz.underlying44] at hv
 obtain⟨cs,rfl,hsz,_⟩:=hv
 rw[cells57] at hsz
 obtain⟨fuel,hf⟩:=h
 obtain⟨D,hD,hz,_⟩:=open_prod (cs:=cs.toList) (by simpa using hsz) (by simpa [Value.cells] using hf) hw
 exact ⟨D,cs.toList,by simp,hD,hz⟩
end
end Go.Proofs.YtilpgpcgcpedjaaGreat
