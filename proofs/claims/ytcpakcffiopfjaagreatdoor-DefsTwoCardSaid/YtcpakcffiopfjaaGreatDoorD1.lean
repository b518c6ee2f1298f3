/- An argument that is a definition. -/
import Derived.Test.YtcpakcffiopfjaaGreatDoorA0
import Derived.OpenShut
import Derived.ShutString
import Derived.ChangeOld
import Derived.Below
import Derived.SizedLaws
import Derived.Deep.SlicePairs
namespace Go.Proofs.YtcpakcffiopfjaaGreatDoor
open Go.RowKit
set_option linter.unusedVariables false
set_option linter.unusedSimpArgs false
set_option maxRecDepth 100000
set_option maxHeartbeats 16000000
open Go.ChangeShapes Go.WideShapes Go.ChangeAt Go.RowKit Go.Deep
theorem ownk:ownKnob Tryz.prog.godebug=none:=by kernel_rfl
theorem laidOut:laidOutB Tryz.prog=true:=by kernel_rfl
def ItZ:Nat→It→Prop
 | 0,_=>False
 | f+1,i=>i.items.length*56≤140737488355328∧∀x∈i.items,ItZ f x
theorem ItZ.up:∀ {f:Nat} {i:It},ItZ f i→ItZ (f+1) i
 | 0,_,h=>h.elim
 | _+1,_,h=>⟨h.1,fun x hx=>ItZ.up (h.2 x hx)⟩
theorem ItZ.ups {f g:Nat} {i:It} (h:ItZ f i) (hg:f≤g):ItZ g i:=by
 induction hg with
 | refl=>exact h
 | step _ ih=>exact ih.up
def BoZ (f:Nat) (b:Bo):Prop:=b.items.length*56≤140737488355328∧∀x∈b.items,ItZ f x
structure SzD (f:Nat) (d:Df):Prop where
 p:d.prods.length*72≤140737488355328
 c:d.chains.length*24≤140737488355328
 fo:d.follows.length*48≤140737488355328
 r:d.rejects.length*32≤140737488355328
 b:d.boxes.length*40≤140737488355328
 ps:∀p∈d.prods,p.syms.length*88≤140737488355328
 cs:∀c∈d.chains,c.length*32≤140737488355328∧∀g∈c,g.cons.length*16≤140737488355328
 bs:∀b∈d.boxes,BoZ f b
theorem BoZ.ups {f g:Nat} {b:Bo} (h:BoZ f b) (hg:f≤g):BoZ g b:=⟨h.1,fun x hx=>(h.2 x hx).ups hg⟩
theorem list_of {α:Type} [Inhabited α] {n:Nat} {p:Nat→α→Prop} (h:∀i,i<n→∃x,p i x):∃l:List α,l.length=n∧∀i x,l[i]?=some x→p i x:=by
 obtain⟨f,hf⟩:=choose_lt h
 refine⟨(List.range n).map f,by simp,fun i x hx=>?_⟩
 have hi:i<n:=by have:=(List.getElem?_eq_some_iff.1 hx).1;simpa using this
 have:x=f i:=by
  rw[List.getElem?_map,List.getElem?_range hi] at hx
  simpa using hx.symm
 subst this
 exact hf i hi
section
variable {H:Type} {enc:TypeId×Value→H} {w:World} {base:Nat} {spare:Nat→Bool} {held:Bool}
instance:Inhabited ByteArray:=⟨⟨#[]⟩⟩
theorem ItV.up {w:World} {B:Nat}:∀ {f:Nat} {i:It} {vs:List Value},ItV w B f i vs→ItV w B (f+1) i vs
 | 0,_,_,h=>h.elim
 | f+1,i,vs,h=>by
  obtain⟨v,e,a,c,h1,h2,h3,h4⟩:=h
  refine⟨v,e,a,c,h1,h2,h3,fun j x hj=>?_⟩
  obtain⟨b,o,us,k1,k2,k3,k4⟩:=h4 j x hj
  exact⟨b,o,us,k1,k2,k3.up,k4⟩
theorem ItV.ups {w:World} {B:Nat} {f g:Nat} {i:It} {vs:List Value} (h:ItV w B f i vs) (hg:f≤g):ItV w B g i vs:=by
 induction hg with
 | refl=>exact h
 | step _ ih=>exact ih.up
theorem BoV.ups {w:World} {B:Nat} {f g:Nat} {b:Bo} {vs:List Value} (h:BoV w B f b vs) (hg:f≤g):BoV w B g b vs:=by
 obtain⟨v,e,a,c,h1,h2,h3,h4⟩:=h
 refine⟨v,e,a,c,h1,h2,h3,fun j x hj=>?_⟩
 obtain⟨b,o,us,k1,k2,k3,k4⟩:=h4 j x hj
 exact⟨b,o,us,k1,k2,k3.ups hg,k4⟩
end
end Go.Proofs.YtcpakcffiopfjaaGreatDoor
