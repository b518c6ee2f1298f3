/- A fault that is told has a code; how many lists a text has; plain. A definition's text is read as the definition; what is read has a text that is read so: the law's walk. -/
import Derived.Test.YtcpakcffiopfjaaGreatDoorE1
import Derived.Test.YtcpakcffiopfjaaGreatDoorG1
import Derived.Test.YtcpakcffiopfjaaGreatDoorB3
import Derived.Test.YtcpakcffiopfjaaGreatDoorA1
namespace Go.Proofs.YtcpakcffiopfjaaGreatDoor
open Go.RowKit
set_option linter.unusedVariables false
set_option linter.unusedSimpArgs false
set_option maxRecDepth 100000
set_option maxHeartbeats 16000000
set_option linter.unusedVariables false
set_option linter.unusedSimpArgs false
set_option maxRecDepth 100000
set_option maxHeartbeats 16000000
def NZ {α:Type} (r:PR α):Prop:=∀p c,r=.bad p c→c≠0
section
variable {α β:Type}
theorem NZ.ok (a:α) (L:List Wd):NZ (.ok a L):=fun p c h=>by cases h
theorem NZ.bad {p c:Nat} (h:c≠0):NZ (.bad p c:PR α):=fun _ _ e=>by cases e;exact h
theorem NZ.bind {r:PR α} {g:α→List Wd→PR β} (h:NZ r) (hg:∀a L,r=.ok a L→NZ (g a L)):NZ (r.bind g):=by
 cases r with
 | ok a L=>exact hg a L rfl
 | bad p c=>exact .bad (h p c rfl)
theorem NZ.ite {c:Prop} [Decidable c] {r s:PR α} (h:c→NZ r) (k:¬c→NZ s):NZ (if c then r else s):=by
 by_cases hc:c
 ·rw[if_pos hc];exact h hc
 ·rw[if_neg hc];exact k hc
end
theorem rsame_two {w:World} {a b:Df} {us vs:List Value} (ha:DA w a us) (hb:DA w b vs):Calls Tryz.prog 15 #[.agg ⟨us⟩,.agg ⟨vs⟩] w fun e w'=>e=.returned (.bool (eqD a b))∧Below w.heap.size w w':=by
 obtain⟨f,hf⟩:=ha.at'
 obtain⟨g,hg⟩:=hb.at'
 obtain⟨a2,a3,a4,a5,a6,rfl,x2,x3,x4,x5,x6⟩:=hf.ups (Nat.le_add_right f g)
 obtain⟨b2,b3,b4,b5,b6,rfl,y2,y3,y4,y5,y6⟩:=hg.ups (Nat.le_add_left g f)
 exact rsameDf_any a b (f+g) a2 a3 a4 a5 a6 b2 b3 b4 b5 b6 w x2 x3 x4 x5 x6 y2 y3 y4 y5 y6
end Go.Proofs.YtcpakcffiopfjaaGreatDoor
