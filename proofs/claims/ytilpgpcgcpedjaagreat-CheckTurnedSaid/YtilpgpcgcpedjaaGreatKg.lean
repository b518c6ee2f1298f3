/- A definition's sorts: the program's list. A definition that may be read, with the sizes of its lists and names. -/
import Derived.Test.YtilpgpcgcpedjaaGreatKf
import Derived.Test.YtilpgpcgcpedjaaGreatKe
namespace Go.Proofs.YtilpgpcgcpedjaaGreat
open Go.RowKit
set_option linter.unusedVariables false
set_option linter.unusedSimpArgs false
set_option maxRecDepth 100000
set_option maxHeartbeats 16000000
structure NmD (d:Df):Prop where
 start:d.start.size≤maxLen
 layout:d.layout.size≤maxLen
 prods:∀p∈d.prods,NmP p
 chains:∀c∈d.chains,∀g∈c,∀s∈g.cons,s.size≤maxLen
 follows:∀f∈d.follows,f.sort.size≤maxLen
 rejects:∀r∈d.rejects,r.sort.size≤maxLen∧r.by'.size≤maxLen
 boxes:∀b∈d.boxes,b.cons.size≤maxLen
structure DO (w:World) (d:Df) (vs:List Value):Prop where
 da:DA w d vs
 sz:∃f,SzD f d
 nm:NmD d
theorem DO.nx {w w':World} {d:Df} {vs:List Value} (hb:Below w.heap.size w w') (h:DO w d vs):DO w' d vs:=⟨h.da.nx hb,h.sz,h.nm⟩
theorem DO.form {w:World} {d:Df} {vs:List Value} (h:DO w d vs):∃a2 p2 a3 p3 a4 p4 a5 p5 a6 p6,vs=[.string d.start,.string d.layout,.slice a2 d.prods.length p2,.slice a3 d.chains.length p3,.slice a4 d.follows.length p4,.slice a5 d.rejects.length p5,.slice a6 d.boxes.length p6]∧Row w w.heap.size 5 (PrV w w.heap.size) a2 d.prods∧Row w w.heap.size 1 (ChV w w.heap.size) a3 d.chains∧Row w w.heap.size 5 FoV a4 d.follows∧Row w w.heap.size 2 ReV a5 d.rejects∧∃f,Row w w.heap.size 2 (BoV w w.heap.size f) a6 d.boxes:=by
 obtain⟨f,v2,v3,v4,v5,v6,rfl,⟨a2,p2,rfl,_,_,r2⟩,⟨a3,p3,rfl,_,_,r3⟩,⟨a4,p4,rfl,_,_,r4⟩,⟨a5,p5,rfl,_,_,r5⟩,⟨a6,p6,rfl,_,_,r6⟩⟩:=h.da.at'
 exact ⟨a2,p2,a3,p3,a4,p4,a5,p5,a6,p6,rfl,r2,r3,r4,r5,f,r6⟩
theorem enter59 (args:Array Value) (W:World):(callFunc 59 args).run Tryz.prog W=.ok (.enter 59 args) W:=by kernel_rfl
theorem yes_any (s:ByteArray) (w:World):Calls Tryz.prog 59 #[.string s] w fun e w'=>e=.returned (.bool true)∧Below w.heap.size w w':=by
 go_enter Tryz.func59,Tryz.ntmps59
 go_wp2
 go_ret
 exact ⟨rfl,Below.refl _ _⟩
theorem sthat_all (l:List Pr):sthat (fun _=>true) l=srt l:=by simp[sthat]
theorem sorts_any (d:Df) (vs:List Value) (w:World) (h:DO w d vs):
  Calls Tryz.prog 17 #[.agg ⟨vs⟩] w fun e w'=>(∃va vc,e=.returned (.slice va (srt d.prods).length vc)∧NamesAt w' w.heap.size (srt d.prods) (.slice va (srt d.prods).length vc))∧Below w.heap.size w w':=by
 obtain⟨a2,p2,a3,p3,a4,p4,a5,p5,a6,p6,rfl,r2,_⟩:=h.form
 obtain⟨f,hf⟩:=h.sz
 have HN:=hHi h.nm.prods
 have HZ:=hHi hf.p
 have HR:=hHi r2
 obtain⟨w1,hw1⟩:∃qW,w.alloc (.cells #[.string d.start,.string d.layout,.slice a2 d.prods.length p2,.slice a3 d.chains.length p3,.slice a4 d.follows.length p4,.slice a5 d.rejects.length p5,.slice a6 d.boxes.length p6] 28)=qW:=⟨_,rfl⟩
 have HX1:=kN hw1
 have HB1:=kB hw1
 have HS:=hU (sortsThat_any 59 #[] #[] (fun _=>true) d a2 p2 (.slice a3 d.chains.length p3) (.slice a4 d.follows.length p4) (.slice a5 d.rejects.length p5) (.slice a6 d.boxes.length p6) w1 (r2.keep HB1.out HB1.out.size (fun _ _ _ h=>h.keep HB1.out HB1.out.size)) hf.p h.nm.prods enter59 (fun s W _ hb=>yes_any s W))
 clear r2 hf h
 go_enter Tryz.func17,Tryz.ntmps17
 obtain⟨d0,d1,d2,d3,d4,d5,d6⟩:=HX1.out.c7
 go_wp2_with fail
 refine hMo HS ?_
 rintro e w2 ⟨⟨va,vc,rfl,hn⟩,hb⟩
 have HNA:=hHi hn
 have HB2:=hHi hb
 rw[sthat_all] at HNA ⊢
 clear hn hb HS d0 d1 d2 d3 d4 d5 d6
 go_wp2
 go_ret
 exact ⟨⟨va,vc,rfl,⟨row_mono HNA.out.row HB1.out.size⟩⟩,below_tr HB1.out HB2.out⟩
end Go.Proofs.YtilpgpcgcpedjaaGreat
