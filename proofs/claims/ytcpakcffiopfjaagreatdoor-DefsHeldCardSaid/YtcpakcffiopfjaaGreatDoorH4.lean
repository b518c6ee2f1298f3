/- Which definitions are right, and which are the same, is told: the law's walk. -/
import Derived.Test.YtcpakcffiopfjaaGreatDoorH3
import Derived.Test.YtcpakcffiopfjaaGreatDoorB4
import Derived.Test.YtcpakcffiopfjaaGreatDoorG2
import Derived.Deep.RegionHeld3
namespace Go.Proofs.YtcpakcffiopfjaaGreatDoor
open Go.RowKit
set_option linter.unusedVariables false
set_option linter.unusedSimpArgs false
set_option maxRecDepth 100000
set_option maxHeartbeats 16000000
structure HT (w W:World) (us vs:Array Value):Prop where
 bel:Below w.heap.size w W
 a:Blk W w.heap.size 28 us
 b:Blk W (w.heap.size+1) 28 vs
theorem HT.nx {w W W':World} {us vs:Array Value} (hb:Below W.heap.size W W') (h:HT w W us vs):HT w W' us vs:=⟨below_tr h.bel hb,h.a.after hb,h.b.after hb⟩
theorem HT.drew {w W:World} {us vs:Array Value} (h:HT w W us vs):HT w W.drew us vs:=h.nx (below_dr _)
theorem HT.cells {w W:World} {x0 x1 x2 x3 x4 x5 x6 y0 y1 y2 y3 y4 y5 y6:Value} (h:HT w W #[x0,x1,x2,x3,x4,x5,x6] #[y0,y1,y2,y3,y4,y5,y6]):
  (W.cell? ⟨w.heap.size,0,none⟩=some x0∧W.cell? ⟨w.heap.size,1,none⟩=some x1∧W.cell? ⟨w.heap.size,2,none⟩=some x2∧W.cell? ⟨w.heap.size,3,none⟩=some x3∧W.cell? ⟨w.heap.size,4,none⟩=some x4∧W.cell? ⟨w.heap.size,5,none⟩=some x5∧W.cell? ⟨w.heap.size,6,none⟩=some x6)∧W.cell? ⟨w.heap.size+1,0,none⟩=some y0∧W.cell? ⟨w.heap.size+1,1,none⟩=some y1∧W.cell? ⟨w.heap.size+1,2,none⟩=some y2∧W.cell? ⟨w.heap.size+1,3,none⟩=some y3∧W.cell? ⟨w.heap.size+1,4,none⟩=some y4∧W.cell? ⟨w.heap.size+1,5,none⟩=some y5∧W.cell? ⟨w.heap.size+1,6,none⟩=some y6:=⟨h.a.c7,h.b.c7⟩
theorem rright_da {w:World} {d:Df} {vs:List Value} (h:DA w d vs):Calls Tryz.prog 17 #[.agg ⟨vs⟩] w fun e w'=>e=.returned (.bool (rightB d))∧Below w.heap.size w w':=by
 obtain⟨f,a2,a3,a4,a5,a6,rfl,x2,x3,x4,x5,x6⟩:=h.at'
 exact rright_any d f a2 a3 a4 a5 a6 w x2 x3 x4 x5 x6
theorem defsHeld_walk (a:Df) (us:List Value) (b:Df) (vs:List Value) (w:World) (ha:DA w a us) (hsz:∃f,SzD f a) (hb:DA w b vs) (hTab:Tab w.heap.size w) :
  Calls Tryz.prog 4 #[.agg us.toArray,.agg vs.toArray] w fun e w'=>e=.returned (.bool true)∧Below w.heap.size w w':=by
 have HTB:Hid (Tab w.heap.size w):=hTab
 have HDA:Hid (DA w a us):=ha
 have HDB:Hid (DA w b vs):=hb
 obtain⟨f,hsz⟩:=hsz
 obtain⟨a2,a3,a4,a5,a6,rfl⟩:=da_form ha
 obtain⟨b2,b3,b4,b5,b6,rfl⟩:=da_form hb
 have HAL:Hid (∀W,Below w.heap.size w W→Calls Tryz.prog 11 #[] W fun e w'=>e=.returned (.bool true)∧Below W.heap.size W w'):=fun W h=>alive_any W (HTB.out.nx h)
 obtain⟨la,hla⟩:∃x,lists a=x:=⟨_,rfl⟩
 obtain⟨E,hE⟩:∃x,eqD a b=x:=⟨_,rfl⟩
 obtain⟨R,hR⟩:∃x,rightB a=x:=⟨_,rfl⟩
 have HHA:Hid (∀W,Below w.heap.size w W→Calls Tryz.prog 10 #[.agg #[.string a.start,.string a.layout,a2,a3,a4,a5,a6]] W fun e w'=>∃q:Bool,e=.returned (.bool q)∧(q=false→la≤3000)∧Below W.heap.size W w'):=fun W h=>by
  rw[←hla];exact heavy_any a _ W (HDA.out.nx h)
 have HHB:Hid (∀W,Below w.heap.size w W→Calls Tryz.prog 10 #[.agg #[.string b.start,.string b.layout,b2,b3,b4,b5,b6]] W fun e w'=>∃q:Bool,e=.returned (.bool q)∧Below W.heap.size W w'):=fun W h=>(heavy_any b _ W (HDB.out.nx h)).mono fun e w' ⟨q,h1,_,h2⟩=>⟨q,h1,h2⟩
 have HR1:Hid (∀W,Below w.heap.size w W→Calls Tryz.prog 16 #[.agg #[.string a.start,.string a.layout,a2,a3,a4,a5,a6]] W fun e w'=>e=.returned (.bool R)∧Below W.heap.size W w'):=fun W h=>by rw[←hR];exact right_da (HDA.out.nx h)
 have HR2:Hid (∀W,Below w.heap.size w W→Calls Tryz.prog 17 #[.agg #[.string a.start,.string a.layout,a2,a3,a4,a5,a6]] W fun e w'=>e=.returned (.bool R)∧Below W.heap.size W w'):=fun W h=>by rw[←hR];exact rright_da (HDA.out.nx h)
 have HSM:Hid (∀W,Below w.heap.size w W→Calls Tryz.prog 18 #[.agg #[.string a.start,.string a.layout,a2,a3,a4,a5,a6],.agg #[.string b.start,.string b.layout,b2,b3,b4,b5,b6]] W fun e w'=>e=.returned (.bool E)∧Below W.heap.size W w'):=fun W h=>by rw[←hE];exact same_two (HDA.out.nx h) (HDB.out.nx h)
 have HSR:Hid (∀W,Below w.heap.size w W→Calls Tryz.prog 15 #[.agg #[.string a.start,.string a.layout,a2,a3,a4,a5,a6],.agg #[.string b.start,.string b.layout,b2,b3,b4,b5,b6]] W fun e w'=>e=.returned (.bool E)∧Below W.heap.size W w'):=fun W h=>by rw[←hE];exact rsame_two (HDA.out.nx h) (HDB.out.nx h)
 have HCP:Hid (∀W,Below w.heap.size w W→la≤3000→Calls Tryz.prog 12 #[.agg #[.string a.start,.string a.layout,a2,a3,a4,a5,a6]] W fun e w'=>∃c:Value,e=.returned c∧(∀W2,Below w'.heap.size w' W2→Calls Tryz.prog 18 #[.agg #[.string a.start,.string a.layout,a2,a3,a4,a5,a6],c] W2 fun e w3=>e=.returned (.bool true)∧Below W2.heap.size W2 w3)∧Below W.heap.size W w'):=fun W h hl=>by
  have hl2:lists a≤3000:=by rw[hla];exact hl
  unfold lists at hl2
  refine (rcopy_any a _ W f (HDA.out.nx h) hsz (by omega) (by omega) (by omega) (by omega) (by omega)).mono ?_
  rintro e w' ⟨cs,rfl,hd,hb⟩
  refine⟨_,rfl,fun W2 h2=>?_,hb⟩
  have h3:=same_two (w:=W2) (HDA.out.nx ((below_tr h hb).trans (h2.mono (below_tr h hb).size))) (hd.nx h2)
  rw[eqD_self] at h3
  exact h3
 clear hla hE hR ha hb HDA HDB hTab HTB hsz
 generalize a.start=s0 at *
 generalize a.layout=s1 at *
 generalize b.start=t0 at *
 generalize b.layout=t1 at *
 show Calls Tryz.prog 4 #[.agg #[.string s0,.string s1,a2,a3,a4,a5,a6],.agg #[.string t0,.string t1,b2,b3,b4,b5,b6]] w _
 obtain⟨W0,hW0⟩:∃W0,(w.alloc (.cells #[.string s0,.string s1,a2,a3,a4,a5,a6] 28)).alloc (.cells #[.string t0,.string t1,b2,b3,b4,b5,b6] 28)=W0:=⟨_,rfl⟩
 have T0:Hid (HT w W0 #[.string s0,.string s1,a2,a3,a4,a5,a6] #[.string t0,.string t1,b2,b3,b4,b5,b6]):=by
  show HT _ _ _ _
  rw[←hW0]
  refine⟨((Below.refl _ _).alloc (Nat.le_refl _) _).alloc (by simp) _,(Blk.new w 28 _).alloc _,?_⟩
  have:=Blk.new (w.alloc (.cells #[.string s0,.string s1,a2,a3,a4,a5,a6] 28)) 28 #[.string t0,.string t1,b2,b3,b4,b5,b6]
  simpa using this
 obtain⟨⟨ca0,ca1,ca2,ca3,ca4,ca5,ca6⟩,cb0,cb1,cb2,cb3,cb4,cb5,cb6⟩:=T0.out.cells
 go_enter Tryz.func4,Tryz.ntmps4
 go_wp2_with fail
 clear ca0 ca1 ca2 ca3 ca4 ca5 ca6 cb0 cb1 cb2 cb3 cb4 cb5 cb6
 refine (HHA.out W0 T0.out.bel).mono ?_
 rintro e w1 ⟨qa,rfl,hqa,hb⟩
 have T1:=hHi (T0.out.nx hb)
 have HQA:=hHi hqa
 clear hqa hW0 hb T0
 cases qa with
 | true=>
  go_wp2_with fail
  refine (HAL.out w1 T1.out.bel).mono ?_
  rintro e wz ⟨rfl,hb⟩
  have Tz:=hHi (T1.out.nx hb)
  clear hb
  go_wp2
  go_ret
  exact⟨rfl,Tz.out.bel⟩
 | false=>
  obtain⟨⟨ca0,ca1,ca2,ca3,ca4,ca5,ca6⟩,cb0,cb1,cb2,cb3,cb4,cb5,cb6⟩:=T1.out.cells
  go_wp2_with fail
  clear ca0 ca1 ca2 ca3 ca4 ca5 ca6 cb0 cb1 cb2 cb3 cb4 cb5 cb6
  refine (HHB.out w1 T1.out.bel).mono ?_
  rintro e w2 ⟨qb,rfl,hb⟩
  have T2:=hHi (T1.out.nx hb)
  clear hb T1
  cases qb with
  | true=>
   go_wp2_with fail
   refine (HAL.out w2 T2.out.bel).mono ?_
   rintro e wz ⟨rfl,hb⟩
   have Tz:=hHi (T2.out.nx hb)
   clear hb
   go_wp2
   go_ret
   exact⟨rfl,Tz.out.bel⟩
  | false=>
   have HC:Hid (∀W,Below w.heap.size w W→Calls Tryz.prog 12 #[.agg #[.string s0,.string s1,a2,a3,a4,a5,a6]] W fun e w'=>∃c:Value,e=.returned c∧(∀W2,Below w'.heap.size w' W2→Calls Tryz.prog 18 #[.agg #[.string s0,.string s1,a2,a3,a4,a5,a6],c] W2 fun e w3=>e=.returned (.bool true)∧Below W2.heap.size W2 w3)∧Below W.heap.size W w'):=fun W h=>HCP.out W h (HQA.out (by trivial))
   go_wp2
   have T:HT w w2 #[.string s0,.string s1,a2,a3,a4,a5,a6] #[.string t0,.string t1,b2,b3,b4,b5,b6]:=T2.out
   clear T2 HCP HQA HHA HHB
   have TC:=T.cells
   go_region_held3 (fun W=>(W.cell? ⟨w.heap.size,0,none⟩=some (.string s0)∧W.cell? ⟨w.heap.size,1,none⟩=some (.string s1)∧W.cell? ⟨w.heap.size,2,none⟩=some (a2)∧W.cell? ⟨w.heap.size,3,none⟩=some (a3)∧W.cell? ⟨w.heap.size,4,none⟩=some (a4)∧W.cell? ⟨w.heap.size,5,none⟩=some (a5)∧W.cell? ⟨w.heap.size,6,none⟩=some (a6))∧W.cell? ⟨w.heap.size+1,0,none⟩=some (.string t0)∧W.cell? ⟨w.heap.size+1,1,none⟩=some (.string t1)∧W.cell? ⟨w.heap.size+1,2,none⟩=some (b2)∧W.cell? ⟨w.heap.size+1,3,none⟩=some (b3)∧W.cell? ⟨w.heap.size+1,4,none⟩=some (b4)∧W.cell? ⟨w.heap.size+1,5,none⟩=some (b5)∧W.cell? ⟨w.heap.size+1,6,none⟩=some (b6)) (first | exact T.cells | exact T.drew.cells) (first | (go_at_call 11;refine (HAL.out _ T.bel).mono ?_;rintro e w5 ⟨rfl,hb5⟩;replace T:HT w w5 #[.string s0,.string s1,a2,a3,a4,a5,a6] #[.string t0,.string t1,b2,b3,b4,b5,b6]:=(by first | exact T.nx hb5 | exact T.drew.nx hb5);clear hb5) | (go_at_call 11;refine (HAL.out _ T.drew.bel).mono ?_;rintro e w5 ⟨rfl,hb5⟩;replace T:HT w w5 #[.string s0,.string s1,a2,a3,a4,a5,a6] #[.string t0,.string t1,b2,b3,b4,b5,b6]:=(by first | exact T.nx hb5 | exact T.drew.nx hb5);clear hb5) | (go_at_call 16;refine (HR1.out _ T.bel).mono ?_;rintro e w5 ⟨rfl,hb5⟩;replace T:HT w w5 #[.string s0,.string s1,a2,a3,a4,a5,a6] #[.string t0,.string t1,b2,b3,b4,b5,b6]:=(by first | exact T.nx hb5 | exact T.drew.nx hb5);clear hb5) | (go_at_call 16;refine (HR1.out _ T.drew.bel).mono ?_;rintro e w5 ⟨rfl,hb5⟩;replace T:HT w w5 #[.string s0,.string s1,a2,a3,a4,a5,a6] #[.string t0,.string t1,b2,b3,b4,b5,b6]:=(by first | exact T.nx hb5 | exact T.drew.nx hb5);clear hb5) | (go_at_call 17;refine (HR2.out _ T.bel).mono ?_;rintro e w5 ⟨rfl,hb5⟩;replace T:HT w w5 #[.string s0,.string s1,a2,a3,a4,a5,a6] #[.string t0,.string t1,b2,b3,b4,b5,b6]:=(by first | exact T.nx hb5 | exact T.drew.nx hb5);clear hb5) | (go_at_call 17;refine (HR2.out _ T.drew.bel).mono ?_;rintro e w5 ⟨rfl,hb5⟩;replace T:HT w w5 #[.string s0,.string s1,a2,a3,a4,a5,a6] #[.string t0,.string t1,b2,b3,b4,b5,b6]:=(by first | exact T.nx hb5 | exact T.drew.nx hb5);clear hb5) | (go_at_call 15;refine (HSR.out _ T.bel).mono ?_;rintro e w5 ⟨rfl,hb5⟩;replace T:HT w w5 #[.string s0,.string s1,a2,a3,a4,a5,a6] #[.string t0,.string t1,b2,b3,b4,b5,b6]:=(by first | exact T.nx hb5 | exact T.drew.nx hb5);clear hb5) | (go_at_call 15;refine (HSR.out _ T.drew.bel).mono ?_;rintro e w5 ⟨rfl,hb5⟩;replace T:HT w w5 #[.string s0,.string s1,a2,a3,a4,a5,a6] #[.string t0,.string t1,b2,b3,b4,b5,b6]:=(by first | exact T.nx hb5 | exact T.drew.nx hb5);clear hb5) | (go_at_call 12;refine (HC.out _ T.bel).mono ?_;rintro e w5 ⟨c,rfl,hc5,hb5⟩;replace T:HT w w5 #[.string s0,.string s1,a2,a3,a4,a5,a6] #[.string t0,.string t1,b2,b3,b4,b5,b6]:=(T.nx hb5);replace HC:=hc5;clear hb5) | (go_at_call 18;refine (HC _ (Below.refl _ _)).mono ?_;rintro e w5 ⟨rfl,hb5⟩;replace T:HT w w5 #[.string s0,.string s1,a2,a3,a4,a5,a6] #[.string t0,.string t1,b2,b3,b4,b5,b6]:=(T.nx hb5);clear hb5) | (go_at_call 18;refine (HSM.out _ T.bel).mono ?_;rintro e w5 ⟨rfl,hb5⟩;replace T:HT w w5 #[.string s0,.string s1,a2,a3,a4,a5,a6] #[.string t0,.string t1,b2,b3,b4,b5,b6]:=(by first | exact T.nx hb5 | exact T.drew.nx hb5);clear hb5))
   all_goals go_wp2
   all_goals go_ret
   all_goals exact⟨by simp,T.bel⟩
end Go.Proofs.YtcpakcffiopfjaaGreatDoor
