/- Empty texts, and cycles: the lines. -/
import Derived.Test.YtilpgpcgcpedjaaGreatKu
namespace Go.Proofs.YtilpgpcgcpedjaaGreat
open Go.RowKit
set_option linter.unusedVariables false
set_option linter.unusedSimpArgs false
set_option maxRecDepth 100000
set_option maxHeartbeats 16000000
theorem null_any (d:Df) (a2:Option Addr) (p2:Nat) (a3:Option Addr) (p3:Nat) (a4:Option Addr) (p4:Nat) (a5:Option Addr) (p5:Nat) (a6:Option Addr) (p6 B1 B2:Nat) (w:World) (h:LK w d [.string d.start,.string d.layout,.slice a2 d.prods.length p2,.slice a3 d.chains.length p3,.slice a4 d.follows.length p4,.slice a5 d.rejects.length p5,.slice a6 d.boxes.length p6] B1 B2):
  Calls Tryz.prog 45 #[.agg #[.string d.start,.string d.layout,.slice a2 d.prods.length p2,.slice a3 d.chains.length p3,.slice a4 d.follows.length p4,.slice a5 d.rejects.length p5,.slice a6 d.boxes.length p6,.map (some B1),.map (some B2)]] w fun e w'=>Tl e (line d 8)∧Below w.heap.size w w':=by
 obtain⟨w1,hw1⟩:∃qW,w.alloc (.cells #[.string d.start,.string d.layout,.slice a2 d.prods.length p2,.slice a3 d.chains.length p3,.slice a4 d.follows.length p4,.slice a5 d.rejects.length p5,.slice a6 d.boxes.length p6,.map (some B1),.map (some B2)] 75)=qW:=⟨_,rfl⟩
 have HX1:=kN hw1
 have HB1:=kB hw1
 have HLK1:=hHi (h.nx HB1.out)
 have HNM:=hHi h.df.nm
 have HC:=hU (firstProd_any 96 #[] (nullBad) 47 d a2 p2 a3 p3 a4 p4 a5 p5 a6 p6 (.map (some B1)) (.map (some B2)) w1 (h.df.nx HB1.out) enter96 (fun p v W hp hb hv=>nullC_any p v W hv (Nat.le_trans (symsN_mem hp) HLK1.out.few)))
 clear h
 go_enter Tryz.func45,Tryz.ntmps45
 obtain⟨c0,c1,c2,c3,c4,c5,c6,c7,c8⟩:=HX1.out.c9
 go_wp2_with fail
 refine hMo HC ?_
 rintro e w2 ⟨⟨cd,s,rfl,hcs⟩,hb⟩
 have HB2:=hHi hb
 have HCS:=hHi hcs
 clear hb hcs HC c0 c1 c2 c3 c4 c5 c6 c7 c8
 go_wp2
 go_ret2
 exact ⟨⟨cd,s,rfl,HCS.out⟩,below_tr HB1.out HB2.out⟩
theorem cycC_any (d:Df) (s:ByteArray) (P lo B m:Nat) (f:ByteArray→Option Value) (W:World) (hs:s.size≤maxLen) (hX:W.cell? ⟨P,0,none⟩=some (.map (some B))) (hM:SP W lo B m (leadsAll bareL d.prods) f) (hfew:symsN d.prods≤1000000) (hn:NmD d):
  Calls Tryz.prog 99 #[.string s,.pointer (some ⟨P,0,none⟩)] W fun e w'=>e=.returned (.bool (cycB d s))∧Below W.heap.size W w':=by
 have HRE:=hU (reach_any bareL bareL_len d.prods s W lo B m f hM hfew hs (fun a b h=>bareL_size hn h))
 clear hM hfew hn
 have HCY:Hid (cycB d s=farB d.prods bareL s s):=rfl
 generalize cycB d s=r at HCY ⊢
 go_enter Tryz.func99,Tryz.ntmps99
 go_wp2_with fail
 refine hMo HRE ?_
 rintro e w2 ⟨⟨B',M,rfl,hM,hF,_,_⟩,hb⟩
 have HB2:=hHi hb
 have hlk:=hM.look Tryz.underlying72 (zero3 w2) hs
 rw[metF_get] at hlk
 have HFE:Hid (r=decide (s∈M)):=by
  show _=_
  rw[HCY.out]
  cases hx:farB d.prods bareL s s
  ·exact (decide_eq_false (fun h=>by rw[farB_iff.2 ((hF s).1 h)] at hx;cases hx)).symm
  ·exact (decide_eq_true ((hF s).2 (farB_iff.1 hx))).symm
 clear hb HRE hM hF hX
 by_cases h:s∈M
 ·rw[if_pos h] at hlk
  have HR:Hid (r=true):=by show _=_;rw[HFE.out];exact decide_eq_true h
  clear h
  go_wp2
  go_ret
  exact ⟨by rw[HR.out];rfl,HB2.out⟩
 ·rw[if_neg h] at hlk
  have HR:Hid (r=false):=by show _=_;rw[HFE.out];exact decide_eq_false h
  clear h
  go_wp2
  go_ret
  exact ⟨by rw[HR.out];rfl,HB2.out⟩
theorem cycle_any (d:Df) (a2:Option Addr) (p2:Nat) (a3:Option Addr) (p3:Nat) (a4:Option Addr) (p4:Nat) (a5:Option Addr) (p5:Nat) (a6:Option Addr) (p6 B1 B2:Nat) (w:World) (h:LK w d [.string d.start,.string d.layout,.slice a2 d.prods.length p2,.slice a3 d.chains.length p3,.slice a4 d.follows.length p4,.slice a5 d.rejects.length p5,.slice a6 d.boxes.length p6] B1 B2):
  Calls Tryz.prog 46 #[.agg #[.string d.start,.string d.layout,.slice a2 d.prods.length p2,.slice a3 d.chains.length p3,.slice a4 d.follows.length p4,.slice a5 d.rejects.length p5,.slice a6 d.boxes.length p6,.map (some B1),.map (some B2)]] w fun e w'=>Tl e (line d 9)∧Below w.heap.size w w':=by
 obtain⟨w1,hw1⟩:∃qW,w.alloc (.cells #[.string d.start,.string d.layout,.slice a2 d.prods.length p2,.slice a3 d.chains.length p3,.slice a4 d.follows.length p4,.slice a5 d.rejects.length p5,.slice a6 d.boxes.length p6,.map (some B1),.map (some B2)] 75)=qW:=⟨_,rfl⟩
 have HX1:=kN hw1
 have HB1:=kB hw1
 have HLK:=hHi h
 obtain⟨f,hf⟩:=h.df.sz
 have HR:Hid (Row w1 w1.heap.size 5 (PrV w1 w1.heap.size) a2 d.prods):=by
  obtain⟨b2,q2,b3,q3,b4,q4,b5,q5,b6,q6,e,r2,_⟩:=(h.df.nx HB1.out).form
  simp only[List.cons.injEq,Value.slice.injEq] at e
  obtain⟨_,_,⟨rfl,_,_⟩,_⟩:=e
  exact r2
 have HK:=hU (steps_any 98 bareL bareL_len d a2 p2 (.slice a3 d.chains.length p3) (.slice a4 d.follows.length p4) (.slice a5 d.rejects.length p5) (.slice a6 d.boxes.length p6) w1 HR.out hf.p hf.ps h.few h.df.nm.prods enter98 (fun p vs W hp hz=>bare_any p vs W hp hz))
 clear hf h
 go_enter Tryz.func46,Tryz.ntmps46
 obtain⟨c0,c1,c2,c3,c4,c5,c6,c7,c8⟩:=HX1.out.c9
 go_wp2_with fail
 refine hMo HK ?_
 rintro e w2 ⟨⟨B,m,lo,g,rfl,hM,_,_⟩,hb⟩
 have HB2:=hHi (below_tr HB1.out hb)
 have HX2:=kA HX1 (hHi hb)
 have HM2:=hHi hM
 clear hb hM HK c0 c1 c2 c3 c4 c5 c6 c7 c8
 obtain⟨w3,hw3⟩:∃qW,w2.alloc (.cells #[.map (some B)] 91)=qW:=⟨_,rfl⟩
 have HX3:=kN hw3
 have HB3:=kB hw3
 have HX13:=kA HX2 HB3
 have HM3:Hid (SP w3 lo B m (leadsAll bareL d.prods) g):=HM2.out.nx HB3.out
 have HB13:=hHi (below_tr HB2.out HB3.out)
 have HC:=hU (firstSort_any 99 #[.pointer (some ⟨w2.heap.size,0,none⟩)] (cycB d) 48 d a2 p2 a3 p3 a4 p4 a5 p5 a6 p6 (.map (some B1)) (.map (some B2)) w3 (HLK.out.df.nx HB13.out) enter99 (fun s W hs hb=>cycC_any d s w2.heap.size lo B m g W hs ((HX3.out.after hb).cell 0 rfl) (HM3.out.nx hb) HLK.out.few HLK.out.df.nm))
 obtain⟨c0,c1,c2,c3,c4,c5,c6,c7,c8⟩:=HX13.out.c9
 have p0:=HX3.out.cell 0 rfl
 go_wp2_with fail
 refine hMo HC ?_
 rintro e w4 ⟨⟨cd,s,rfl,hcs⟩,hb⟩
 have HB4:=hHi hb
 have HCS:=hHi hcs
 clear hb hcs HC c0 c1 c2 c3 c4 c5 c6 c7 c8 p0
 go_wp2
 go_ret2
 exact ⟨⟨cd,s,rfl,HCS.out⟩,below_tr HB13.out HB4.out⟩
end Go.Proofs.YtilpgpcgcpedjaaGreat
