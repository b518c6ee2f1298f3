/- A fault that is told has a code; how many lists a text has; plain. A definition's text is read as the definition; what is read has a text that is read so: the law's walk. -/
import Derived.Test.YtcpakcffiopfjaaGreatDoorE1
import Derived.Test.YtcpakcffiopfjaaGreatDoorG1
import Derived.Test.YtcpakcffiopfjaaGreatDoorB3
import Derived.Test.YtcpakcffiopfjaaGreatDoorA1
namespace Go.Proofs.YtcpakcffiopfjaaGreatDoor
open Go.RowKit
set_option linter.unusedVariables false
set_option linter.unusedSimpArgs false
set_option maxRecDepth 100000
set_option maxHeartbeats 16000000
theorem rsame_two {w:World} {a b:Df} {us vs:List Value} (ha:DA w a us) (hb:DA w b vs):Calls Tryz.prog 15 #[.agg ⟨us⟩,.agg ⟨vs⟩] w fun e w'=>e=.returned (.bool (eqD a b))∧Below w.heap.size w w':=by
 obtain⟨f,hf⟩:=ha.at'
 obtain⟨g,hg⟩:=hb.at'
 obtain⟨a2,a3,a4,a5,a6,rfl,x2,x3,x4,x5,x6⟩:=hf.ups (Nat.le_add_right f g)
 obtain⟨b2,b3,b4,b5,b6,rfl,y2,y3,y4,y5,y6⟩:=hg.ups (Nat.le_add_left g f)
 exact rsameDf_any a b (f+g) a2 a3 a4 a5 a6 b2 b3 b4 b5 b6 w x2 x3 x4 x5 x6 y2 y3 y4 y5 y6
theorem right_da {w:World} {d:Df} {vs:List Value} (h:DA w d vs):Calls Tryz.prog 16 #[.agg ⟨vs⟩] w fun e w'=>e=.returned (.bool (rightB d))∧Below w.heap.size w w':=by
 obtain⟨f,a2,a3,a4,a5,a6,rfl,x2,x3,x4,x5,x6⟩:=h.at'
 exact right_any d f a2 a3 a4 a5 a6 w x2 x3 x4 x5 x6
end Go.Proofs.YtcpakcffiopfjaaGreatDoor
