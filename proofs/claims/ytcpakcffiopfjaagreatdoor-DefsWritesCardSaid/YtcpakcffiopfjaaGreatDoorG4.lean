/- One follow restriction more, written behind a definition's text; plain. One follow restriction more is read as just that: the law's walk. -/
import Derived.Test.YtcpakcffiopfjaaGreatDoorE3
import Derived.Test.YtcpakcffiopfjaaGreatDoorG2
import Derived.Test.YtcpakcffiopfjaaGreatDoorA0
import Derived.Test.YtcpakcffiopfjaaGreatDoorA1
namespace Go.Proofs.YtcpakcffiopfjaaGreatDoor
open Go.RowKit
set_option linter.unusedVariables false
set_option linter.unusedSimpArgs false
set_option maxRecDepth 100000
set_option maxHeartbeats 16000000
set_option linter.unusedVariables false
set_option linter.unusedSimpArgs false
set_option maxRecDepth 100000
set_option maxHeartbeats 16000000
theorem great_bare {c:UInt8} (h:great c.toNat=true):bareA [c]=false∧bareB [c]=false:=by
 have:∀n:Fin 256,great n.val=true→bareA [UInt8.ofNat n.val]=false∧bareB [UInt8.ofNat n.val]=false:=by decide +kernel
 have h2:=this ⟨c.toNat,c.toNat_lt⟩ h
 simpa using h2
theorem nm_bare {n:ByteArray} (h:nm n=true):bareA n.data.toList=false∧bareB n.data.toList=false∧n.data.toList.isEmpty=false:=by
 obtain⟨c,l,e,hg⟩:=nm_head h
 rw[e]
 cases l with
 | nil=>exact⟨(great_bare hg).1,(great_bare hg).2,rfl⟩
 | cons x l=>exact⟨rfl,rfl,rfl⟩
theorem print_two (s:St):∃c1 c2 l,printL s=c1::c2::l:=by
 have h1:∃q,printL s=91::q:=⟨_,rfl⟩
 obtain⟨q,e⟩:=h1
 cases q with
 | nil=>
  have h2:(printL s).getLast?=some 93:=by unfold printL;simp
  rw[e] at h2;simp at h2
 | cons c2 l=>exact⟨91,c2,l,e⟩
end Go.Proofs.YtcpakcffiopfjaaGreatDoor
