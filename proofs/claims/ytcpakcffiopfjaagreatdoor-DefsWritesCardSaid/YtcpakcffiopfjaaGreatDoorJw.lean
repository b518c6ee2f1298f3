/- Each definition has just its text, or is none: the law's walk. -/
import Derived.Test.YtcpakcffiopfjaaGreatDoorJp
import Derived.Deep.RegionHeld3
namespace Go.Proofs.YtcpakcffiopfjaaGreatDoor
open Go.RowKit
set_option linter.unusedVariables false
set_option linter.unusedSimpArgs false
set_option maxRecDepth 100000
set_option maxHeartbeats 16000000
structure WT (w v W:World) (us vs:Array Value):Prop where
 bel:Below w.heap.size w W
 low:Below v.heap.size v W
 a:Blk W w.heap.size 28 us
 b:Blk W v.heap.size 28 vs
theorem WT.nx {w v W W':World} {us vs:Array Value} (hb:Below W.heap.size W W') (h:WT w v W us vs):WT w v W' us vs:=⟨below_tr h.bel hb,below_tr h.low hb,h.a.after hb,h.b.after hb⟩
theorem WT.drew {w v W:World} {us vs:Array Value} (h:WT w v W us vs):WT w v W.drew us vs:=h.nx (below_dr _)
theorem WT.cells {w v W:World} {x0 x1 x2 x3 x4 x5 x6 y0 y1 y2 y3 y4 y5 y6:Value} (h:WT w v W #[x0,x1,x2,x3,x4,x5,x6] #[y0,y1,y2,y3,y4,y5,y6]):
  (W.cell? ⟨w.heap.size,0,none⟩=some x0∧W.cell? ⟨w.heap.size,1,none⟩=some x1∧W.cell? ⟨w.heap.size,2,none⟩=some x2∧W.cell? ⟨w.heap.size,3,none⟩=some x3∧W.cell? ⟨w.heap.size,4,none⟩=some x4∧W.cell? ⟨w.heap.size,5,none⟩=some x5∧W.cell? ⟨w.heap.size,6,none⟩=some x6)∧W.cell? ⟨v.heap.size,0,none⟩=some y0∧W.cell? ⟨v.heap.size,1,none⟩=some y1∧W.cell? ⟨v.heap.size,2,none⟩=some y2∧W.cell? ⟨v.heap.size,3,none⟩=some y3∧W.cell? ⟨v.heap.size,4,none⟩=some y4∧W.cell? ⟨v.heap.size,5,none⟩=some y5∧W.cell? ⟨v.heap.size,6,none⟩=some y6:=⟨h.a.c7,h.b.c7⟩
theorem da_sl {w:World} {d:Df} {vs:List Value} (h:DA w d vs):∃c2 l2 k2 c3 l3 k3 c4 l4 k4 c5 l5 k5 c6 l6 k6,vs=[.string d.start,.string d.layout,.slice c2 l2 k2,.slice c3 l3 k3,.slice c4 l4 k4,.slice c5 l5 k5,.slice c6 l6 k6]:=by
 obtain⟨f,v2,v3,v4,v5,v6,rfl,⟨a2,p2,rfl,_⟩,⟨a3,p3,rfl,_⟩,⟨a4,p4,rfl,_⟩,⟨a5,p5,rfl,_⟩,⟨a6,p6,rfl,_⟩⟩:=h.at'
 exact⟨a2,_,p2,a3,_,p3,a4,_,p4,a5,_,p5,a6,_,p6,rfl⟩
theorem defsWrites_walk (d:Df) (us:List Value) (w:World) (hd:DA w d us) (hsz:∃f,SzD f d) (hTab:Tab w.heap.size w) :
  Calls Tryz.prog 3 #[.agg us.toArray] w fun e w'=>e=.returned (.bool true)∧Below w.heap.size w w':=by
 have HTB:Hid (Tab w.heap.size w):=hTab
 have HDA:Hid (DA w d us):=hd
 obtain⟨f,hsz⟩:=hsz
 obtain⟨a2,a3,a4,a5,a6,rfl⟩:=da_form hd
 have HAL:Hid (∀W,Below w.heap.size w W→Calls Tryz.prog 11 #[] W fun e w'=>e=.returned (.bool true)∧Below W.heap.size W w'):=fun W h=>alive_any W (HTB.out.nx h)
 obtain⟨la,hla⟩:∃x,lists d=x:=⟨_,rfl⟩
 obtain⟨S,hS⟩:∃x,strB (prtD d).1=x:=⟨_,rfl⟩
 obtain⟨E,hE⟩:∃x,((prtD d).2:Int)=x:=⟨_,rfl⟩
 have HHA:Hid (∀W,Below w.heap.size w W→Calls Tryz.prog 10 #[.agg #[.string d.start,.string d.layout,a2,a3,a4,a5,a6]] W fun e w'=>∃q:Bool,e=.returned (.bool q)∧(q=false→la≤3000)∧Below W.heap.size W w'):=fun W h=>by
  rw[←hla];exact heavy_any d _ W (HDA.out.nx h)
 have HPR:Hid (∀W,Below w.heap.size w W→la≤3000→Calls Tryz.prog 14 #[.agg #[.string d.start,.string d.layout,a2,a3,a4,a5,a6]] W fun e w'=>e=.returned (.tuple #[.string S,.int .i64 E])∧Below W.heap.size W w'):=fun W h hl=>by
  rw[←hS,←hE];exact rprint_d d _ W (HDA.out.nx h) (few_of (by rw[hla];exact hl))
 have HCP:Hid (∀W,Below w.heap.size w W→la≤3000→Calls Tryz.prog 12 #[.agg #[.string d.start,.string d.layout,a2,a3,a4,a5,a6]] W fun e w'=>∃c2 l2 k2 c3 l3 k3 c4 l4 k4 c5 l5 k5 c6 l6 k6,e=.returned (.agg #[.string d.start,.string d.layout,.slice c2 l2 k2,.slice c3 l3 k3,.slice c4 l4 k4,.slice c5 l5 k5,.slice c6 l6 k6])∧(∀W2,Below w'.heap.size w' W2→Calls Tryz.prog 13 #[.agg #[.string d.start,.string d.layout,.slice c2 l2 k2,.slice c3 l3 k3,.slice c4 l4 k4,.slice c5 l5 k5,.slice c6 l6 k6]] W2 fun e w3=>e=.returned (.tuple #[.string S,.int .i64 E])∧Below W2.heap.size W2 w3)∧(∀W2,Below w'.heap.size w' W2→Calls Tryz.prog 15 #[.agg #[.string d.start,.string d.layout,.slice c2 l2 k2,.slice c3 l3 k3,.slice c4 l4 k4,.slice c5 l5 k5,.slice c6 l6 k6],.agg #[.string d.start,.string d.layout,a2,a3,a4,a5,a6]] W2 fun e w3=>e=.returned (.bool true)∧Below W2.heap.size W2 w3)∧Below W.heap.size W w'):=fun W h hl=>by
  have hf:Few d:=few_of (by rw[hla];exact hl)
  have hl2:lists d≤3000:=by rw[hla];exact hl
  unfold lists at hl2
  refine (rcopy_any d _ W f (HDA.out.nx h) hsz (by omega) (by omega) (by omega) (by omega) (by omega)).mono ?_
  rintro e w' ⟨cs,rfl,hc,hb⟩
  obtain⟨c2,l2,k2,c3,l3,k3,c4,l4,k4,c5,l5,k5,c6,l6,k6,rfl⟩:=da_sl hc
  refine⟨c2,l2,k2,c3,l3,k3,c4,l4,k4,c5,l5,k5,c6,l6,k6,rfl,fun W2 h2=>?_,fun W2 h2=>?_,hb⟩
  ·rw[←hS,←hE]
   exact dprint_any d _ W2 (hc.nx h2) (HTB.out.nx ((below_tr h hb).trans (h2.mono (below_tr h hb).size))) hf
  ·have h3:=rsame_two (w:=W2) (hc.nx h2) (HDA.out.nx ((below_tr h hb).trans (h2.mono (below_tr h hb).size)))
   rw[eqD_self] at h3
   exact h3
 clear hla hS hE hd HDA hTab HTB hsz
 generalize d.start=s0 at *
 generalize d.layout=s1 at *
 show Calls Tryz.prog 3 #[.agg #[.string s0,.string s1,a2,a3,a4,a5,a6]] w _
 obtain⟨W0,hW0⟩:∃W0,w.alloc (.cells #[.string s0,.string s1,a2,a3,a4,a5,a6] 28)=W0:=⟨_,rfl⟩
 have HB0:=kB hW0
 have HX0:=kN hW0
 obtain⟨ca0,ca1,ca2,ca3,ca4,ca5,ca6⟩:=HX0.out.c7
 go_enter Tryz.func3,Tryz.ntmps3
 go_wp2_with fail
 clear ca0 ca1 ca2 ca3 ca4 ca5 ca6
 refine (HHA.out W0 HB0.out).mono ?_
 rintro e w1 ⟨qa,rfl,hqa,hb⟩
 have HX1:=kA HX0 (hHi hb)
 have HB1:=hHi (below_tr HB0.out hb)
 have HQA:=hHi hqa
 clear hqa hW0 hb HX0
 cases qa with
 | true=>
  go_wp2_with fail
  refine (HAL.out w1 HB1.out).mono ?_
  rintro e wz ⟨rfl,hb⟩
  have HBz:=hHi (below_tr HB1.out hb)
  clear hb
  go_wp2
  go_ret
  exact⟨rfl,HBz.out⟩
 | false=>
  have hl:Hid (la≤3000):=HQA.out (by trivial)
  obtain⟨ca0,ca1,ca2,ca3,ca4,ca5,ca6⟩:=HX1.out.c7
  go_wp2_with fail
  clear ca0 ca1 ca2 ca3 ca4 ca5 ca6
  refine (HCP.out w1 HB1.out hl.out).mono ?_
  rintro e w2 ⟨c2,l2,k2,c3,l3,k3,c4,l4,k4,c5,l5,k5,c6,l6,k6,rfl,hp,hs,hb⟩
  have HP:=hHi hp
  have HS:=hHi hs
  have HX2:=kA HX1 (hHi hb)
  have HB2:=hHi (below_tr HB1.out hb)
  clear hp hs hb HX1 HCP
  obtain⟨W2,hW2⟩:∃W2,w2.alloc (.cells #[.string s0,.string s1,.slice c2 l2 k2,.slice c3 l3 k3,.slice c4 l4 k4,.slice c5 l5 k5,.slice c6 l6 k6] 28)=W2:=⟨_,rfl⟩
  have T2:Hid (WT w w2 W2 #[.string s0,.string s1,a2,a3,a4,a5,a6] #[.string s0,.string s1,.slice c2 l2 k2,.slice c3 l3 k3,.slice c4 l4 k4,.slice c5 l5 k5,.slice c6 l6 k6]):=⟨below_tr HB2.out (kB hW2).out,(kB hW2).out,HX2.out.after (kB hW2).out,(kN hW2).out⟩
  obtain⟨⟨ca0,ca1,ca2,ca3,ca4,ca5,ca6⟩,cb0,cb1,cb2,cb3,cb4,cb5,cb6⟩:=T2.out.cells
  go_wp2_with fail
  clear ca0 ca1 ca2 ca3 ca4 ca5 ca6 cb0 cb1 cb2 cb3 cb4 cb5 cb6
  refine (HP.out W2 T2.out.low).mono ?_
  rintro e w3 ⟨rfl,hb⟩
  have T3:=hHi (T2.out.nx hb)
  clear hb T2 hW2
  obtain⟨⟨ca0,ca1,ca2,ca3,ca4,ca5,ca6⟩,cb0,cb1,cb2,cb3,cb4,cb5,cb6⟩:=T3.out.cells
  go_wp2_with fail
  clear ca0 ca1 ca2 ca3 ca4 ca5 ca6 cb0 cb1 cb2 cb3 cb4 cb5 cb6
  refine (HPR.out w3 T3.out.bel hl.out).mono ?_
  rintro e w4 ⟨rfl,hb⟩
  have T4:=hHi (T3.out.nx hb)
  clear hb T3 HP HPR HHA HQA HX2 HB1 HB2 HB0
  have T:WT w w2 w4 #[.string s0,.string s1,a2,a3,a4,a5,a6] #[.string s0,.string s1,.slice c2 l2 k2,.slice c3 l3 k3,.slice c4 l4 k4,.slice c5 l5 k5,.slice c6 l6 k6]:=T4.out
  clear T4
  go_wp2_with fail
  refine (HAL.out w4 T.bel).mono ?_
  rintro e w5 ⟨rfl,hb⟩
  have T5:=hHi (T.nx hb)
  clear hb T
  obtain⟨⟨ca0,ca1,ca2,ca3,ca4,ca5,ca6⟩,cb0,cb1,cb2,cb3,cb4,cb5,cb6⟩:=T5.out.cells
  go_wp2_with fail
  clear ca0 ca1 ca2 ca3 ca4 ca5 ca6 cb0 cb1 cb2 cb3 cb4 cb5 cb6
  refine (HS.out w5 T5.out.low).mono ?_
  rintro e w6 ⟨rfl,hb⟩
  have T6:=hHi (T5.out.nx hb)
  clear hb T5
  go_wp2
  go_ret
  exact⟨by simp,T6.out.bel⟩
end Go.Proofs.YtcpakcffiopfjaaGreatDoor
