/- What is read of a definition's words: productions, groups, items; plain. What is read of a definition's words: items, statements, the whole; plain. -/
import Derived.Test.YtcpakcffiopfjaaGreatDoorE1
import Derived.Test.YtcpakcffiopfjaaGreatDoorB1
namespace Go.Proofs.YtcpakcffiopfjaaGreatDoor
open Go.RowKit
set_option linter.unusedVariables false
set_option linter.unusedSimpArgs false
set_option maxRecDepth 100000
set_option maxHeartbeats 16000000
set_option linter.unusedVariables false
set_option linter.unusedSimpArgs false
set_option maxRecDepth 100000
set_option maxHeartbeats 16000000
theorem nm_head {s:ByteArray} (h:nm s=true):∃c l,s.data.toList=c::l∧great c.toNat=true:=by
 unfold nm nameB at h
 cases hl:s.data.toList with
 | nil=>rw[hl] at h;simp at h
 | cons c l=>
  rw[hl] at h
  simp only[List.getD_cons_zero,Bool.and_eq_true] at h
  exact⟨c,l,rfl,h.1.2⟩
structure EndW (b:Wd):Prop where
 text:b.text=[59]
 kind:b.kind=6
structure StepK (s:List Tk) (d d':Df):Prop where
 head:∀A,Says A s→∃a A',A=a::A'∧a.kind≠7
 run:∀A b R,Says A s→EndW b→stmtR d (A++b::R)=.ok d' (b::R)
inductive StepsK:List (List Tk)→Df→Df→Prop
 | nil (d:Df):StepsK [] d d
 | cons {s:List Tk} {ss:List (List Tk)} {d d1 d2:Df} (h:StepK s d d1) (t:StepsK ss d1 d2):StepsK (s::ss) d d2
theorem StepsK.app {ss ts:List (List Tk)} {d d1 d2:Df} (h:StepsK ss d d1) (t:StepsK ts d1 d2):StepsK (ss++ts) d d2:=by
 induction h with
 | nil d=>exact t
 | cons h _ ih=>exact .cons h (ih t)
def Ends (ss:List (List Tk)):List Tk:=ss.flatMap fun s=>s++[sgT [59]]
theorem StepsK.run {ss:List (List Tk)} {d d':Df} (h:StepsK ss d d'):∀(f:Nat) (A R:List Wd),Says A (Ends ss)→stmtsR (f+ss.length) d (A++R)=stmtsR f d' R:=by
 induction h with
 | nil d=>intro f A R hA;rw[hA.nil];rfl
 | @cons s ss d d1 d2 h t ih=>
  intro f A R hA
  unfold Ends at hA
  rw[List.flatMap_cons,List.append_assoc] at hA
  obtain⟨A1,A2,rfl,hA1,hA2⟩:=hA.app
  rw[List.singleton_append] at hA2
  obtain⟨b,A2,rfl,hb,hA2⟩:=hA2.cons
  have he:EndW b:=⟨(cw_fields hb).2.1,(cw_fields hb).1⟩
  obtain⟨a,A',e,hk⟩:=h.head A1 hA1
  have hr:=h.run A1 b (A2++R) hA1 he
  rw[List.length_cons,←Nat.add_assoc,List.append_assoc,List.cons_append,stmtsR]
  rw[if_neg (by rw[e,List.cons_append,wd_cons];exact hk),hr]
  simp only[PR.bind]
  rw[want_back hb]
  exact ih f A2 R hA2
end Go.Proofs.YtcpakcffiopfjaaGreatDoor
