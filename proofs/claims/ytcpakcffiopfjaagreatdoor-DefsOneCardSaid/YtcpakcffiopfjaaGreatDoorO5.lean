/- An argument that is a set. -/
import Derived.Test.YtcpakcffiopfjaaGreatDoorO1
namespace Go.Proofs.YtcpakcffiopfjaaGreatDoor
open Go.RowKit
set_option linter.unusedVariables false
set_option linter.unusedSimpArgs false
set_option maxRecDepth 100000
set_option maxHeartbeats 16000000
open Go.ChangeShapes Go.WideShapes Go.ChangeAt Go.RowKit Go.Deep
theorem open_set49 {H:Type} {enc:TypeId×Value→H} {w:World} {base:Nat} {spare:Nat→Bool} {held:Bool} {r:Reach} {b0:Nat} {v:Value} {d:DataW H} {p:List MemPlace}
  (hv:Value.okWide Tryz.prog w r b0 49 v) (h:DataW.Trod enc Tryz.prog w base spare held 49 v d p) :
  ∃s:St,s.ok∧v=.agg #[.int .u64 s.a,.int .u64 s.b,.int .u64 s.c,.int .u64 s.d]:=by
 simp only[Value.okWide,Tryz.underlying49] at hv
 obtain⟨cs,rfl,hsz,_⟩:=hv
 rw[cells49] at hsz
 obtain⟨fuel,hf⟩:=h
 match cs,hsz with
 | ⟨[c0,c1,c2,c3]⟩,_=>
  have hf':DataW.trod enc Tryz.prog w base spare held fuel 49 [c0,c1,c2,c3]=some (d,p):=by simpa [Value.cells] using hf
  obtain⟨s,hs,e0,e1,e2,e3⟩:=open_set4 hf'
  exact⟨s,hs,by rw[e0,e1,e2,e3]⟩
end Go.Proofs.YtcpakcffiopfjaaGreatDoor
