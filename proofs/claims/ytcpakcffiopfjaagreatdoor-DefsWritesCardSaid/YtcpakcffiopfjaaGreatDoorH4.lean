/- Which definitions are right, and which are the same, is told: the law's walk. -/
import Derived.Test.YtcpakcffiopfjaaGreatDoorH3
import Derived.Test.YtcpakcffiopfjaaGreatDoorB4
import Derived.Test.YtcpakcffiopfjaaGreatDoorG2
import Derived.Deep.RegionHeld3
namespace Go.Proofs.YtcpakcffiopfjaaGreatDoor
open Go.RowKit
set_option linter.unusedVariables false
set_option linter.unusedSimpArgs false
set_option maxRecDepth 100000
set_option maxHeartbeats 16000000
set_option linter.unusedVariables false
set_option linter.unusedSimpArgs false
set_option maxRecDepth 100000
set_option maxHeartbeats 16000000
structure HT (w W:World) (us vs:Array Value):Prop where
 bel:Below w.heap.size w W
 a:Blk W w.heap.size 28 us
 b:Blk W (w.heap.size+1) 28 vs
theorem HT.nx {w W W':World} {us vs:Array Value} (hb:Below W.heap.size W W') (h:HT w W us vs):HT w W' us vs:=⟨below_tr h.bel hb,h.a.after hb,h.b.after hb⟩
theorem HT.drew {w W:World} {us vs:Array Value} (h:HT w W us vs):HT w W.drew us vs:=h.nx (below_dr _)
theorem HT.cells {w W:World} {x0 x1 x2 x3 x4 x5 x6 y0 y1 y2 y3 y4 y5 y6:Value} (h:HT w W #[x0,x1,x2,x3,x4,x5,x6] #[y0,y1,y2,y3,y4,y5,y6]):
  (W.cell? ⟨w.heap.size,0,none⟩=some x0∧W.cell? ⟨w.heap.size,1,none⟩=some x1∧W.cell? ⟨w.heap.size,2,none⟩=some x2∧W.cell? ⟨w.heap.size,3,none⟩=some x3∧W.cell? ⟨w.heap.size,4,none⟩=some x4∧W.cell? ⟨w.heap.size,5,none⟩=some x5∧W.cell? ⟨w.heap.size,6,none⟩=some x6)∧W.cell? ⟨w.heap.size+1,0,none⟩=some y0∧W.cell? ⟨w.heap.size+1,1,none⟩=some y1∧W.cell? ⟨w.heap.size+1,2,none⟩=some y2∧W.cell? ⟨w.heap.size+1,3,none⟩=some y3∧W.cell? ⟨w.heap.size+1,4,none⟩=some y4∧W.cell? ⟨w.heap.size+1,5,none⟩=some y5∧W.cell? ⟨w.heap.size+1,6,none⟩=some y6:=⟨h.a.c7,h.b.c7⟩
theorem rright_da {w:World} {d:Df} {vs:List Value} (h:DA w d vs):Calls Tryz.prog 17 #[.agg ⟨vs⟩] w fun e w'=>e=.returned (.bool (rightB d))∧Below w.heap.size w w':=by
 obtain⟨f,a2,a3,a4,a5,a6,rfl,x2,x3,x4,x5,x6⟩:=h.at'
 exact rright_any d f a2 a3 a4 a5 a6 w x2 x3 x4 x5 x6
end Go.Proofs.YtcpakcffiopfjaaGreatDoor
