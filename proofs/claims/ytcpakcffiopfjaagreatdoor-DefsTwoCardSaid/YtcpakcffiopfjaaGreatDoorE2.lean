/- What is read of a definition's words: productions, groups, items; plain. What is read of a definition's words: items, statements, the whole; plain. -/
import Derived.Test.YtcpakcffiopfjaaGreatDoorE1
import Derived.Test.YtcpakcffiopfjaaGreatDoorB1
namespace Go.Proofs.YtcpakcffiopfjaaGreatDoor
open Go.RowKit
set_option linter.unusedVariables false
set_option linter.unusedSimpArgs false
set_option maxRecDepth 100000
set_option maxHeartbeats 16000000
theorem nm_head {s:ByteArray} (h:nm s=true):∃c l,s.data.toList=c::l∧great c.toNat=true:=by
 unfold nm nameB at h
 cases hl:s.data.toList with
 | nil=>rw[hl] at h;simp at h
 | cons c l=>
  rw[hl] at h
  simp only[List.getD_cons_zero,Bool.and_eq_true] at h
  exact⟨c,l,rfl,h.1.2⟩
theorem nm_ne {s:ByteArray} (h:nm s=true):em s=false:=by
 obtain⟨c,l,e,_⟩:=nm_head h
 cases he:em s
 ·rfl
 ·rw[em_iff.1 he] at e;cases e
end Go.Proofs.YtcpakcffiopfjaaGreatDoor
