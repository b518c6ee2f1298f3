/- How great a definition is. How great a definition is: what is not too great has few lists. Definitions that have texts are the same just if these are: the law's walk. -/
import Derived.Test.YtcpakcffiopfjaaGreatDoorB3
import Derived.Test.YtcpakcffiopfjaaGreatDoorF5
import Derived.Test.YtcpakcffiopfjaaGreatDoorA0
import Derived.Test.YtcpakcffiopfjaaGreatDoorA1
import Derived.Test.YtcpakcffiopfjaaGreatDoorE2
import Derived.Test.YtcpakcffiopfjaaGreatDoorLg
import Derived.Test.YtcpakcffiopfjaaGreatDoorD1
namespace Go.Proofs.YtcpakcffiopfjaaGreatDoor
open Go.RowKit
set_option linter.unusedVariables false
set_option linter.unusedSimpArgs false
set_option maxRecDepth 100000
set_option maxHeartbeats 16000000
theorem DfV.ups {w:World} {B f g:Nat} {d:Df} {vs:List Value} (h:DfV w B f d vs) (hg:f≤g):DfV w B g d vs:=by
 obtain⟨v2,v3,v4,v5,v6,e,h2,h3,h4,h5,a,c,e6,q1,q2,hr⟩:=h
 refine⟨v2,v3,v4,v5,v6,e,h2,h3,h4,h5,a,c,e6,q1,q2,fun j x hj=>?_⟩
 obtain⟨b,o,us,e1,hlt,hv,hc⟩:=hr j x hj
 exact⟨b,o,us,e1,hlt,BoV.ups hv hg,hc⟩
end Go.Proofs.YtcpakcffiopfjaaGreatDoor
