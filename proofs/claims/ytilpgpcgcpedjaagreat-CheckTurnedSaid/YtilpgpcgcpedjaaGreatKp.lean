/- The first lines of the looks: a sort that is both, the start, the layout. -/
import Derived.Test.YtilpgpcgcpedjaaGreatKo
namespace Go.Proofs.YtilpgpcgcpedjaaGreat
open Go.RowKit
set_option linter.unusedVariables false
set_option linter.unusedSimpArgs false
set_option maxRecDepth 100000
set_option maxHeartbeats 16000000
def Tl (e:Ending) (o:Option (Int×Nm)):Prop:=∃cd s,e=.returned (.tuple #[.int .i64 cd,.string s])∧(cd,s)=o.getD (0,no)
theorem enter83 (args:Array Value) (W:World):(callFunc 83 args).run Tryz.prog W=.ok (.enter 83 args) W:=by kernel_rfl
theorem enter87 (args:Array Value) (W:World):(callFunc 87 args).run Tryz.prog W=.ok (.enter 87 args) W:=by kernel_rfl
theorem enter91 (args:Array Value) (W:World):(callFunc 91 args).run Tryz.prog W=.ok (.enter 91 args) W:=by kernel_rfl
theorem enter93 (args:Array Value) (W:World):(callFunc 93 args).run Tryz.prog W=.ok (.enter 93 args) W:=by kernel_rfl
theorem enter96 (args:Array Value) (W:World):(callFunc 96 args).run Tryz.prog W=.ok (.enter 96 args) W:=by kernel_rfl
theorem enter97 (args:Array Value) (W:World):(callFunc 97 args).run Tryz.prog W=.ok (.enter 97 args) W:=by kernel_rfl
theorem enter89 (args:Array Value) (W:World):(callFunc 89 args).run Tryz.prog W=.ok (.enter 89 args) W:=by kernel_rfl
theorem enter90 (args:Array Value) (W:World):(callFunc 90 args).run Tryz.prog W=.ok (.enter 90 args) W:=by kernel_rfl
theorem enter99 (args:Array Value) (W:World):(callFunc 99 args).run Tryz.prog W=.ok (.enter 99 args) W:=by kernel_rfl
theorem mixC_any (d:Df) (s:ByteArray) (P B1 n:Nat) (W:World) (hs:s.size≤maxLen) (hX:W.cell? ⟨P,7,none⟩=some (.map (some B1))) (hM:Mp W B1 n (kindF d.prods)):
  Calls Tryz.prog 83 #[.string s,.pointer (some ⟨P,0,none⟩)] W fun e w'=>e=.returned (.bool (lexd d.prods s&&plnd d.prods s))∧Below W.heap.size W w':=by
 have hlk:=hM.look Tryz.underlying70 (zero88 W) hs
 rw[kindF_get] at hlk
 generalize lexd d.prods s=q1 at hlk ⊢
 generalize plnd d.prods s=q2 at hlk ⊢
 obtain⟨w2,hw2⟩:∃qW,W.alloc (.cells #[.bool q1,.bool q2] 88)=qW:=⟨_,rfl⟩
 have HB2:=kB hw2
 have HX2:=kN hw2
 clear hM
 go_enter Tryz.func83,Tryz.ntmps83
 obtain⟨c0,c1⟩:=HX2.out.c2
 cases q1
 ·go_wp2
  go_ret
  exact ⟨rfl,HB2.out⟩
 ·go_wp2
  go_ret
  exact ⟨rfl,HB2.out⟩
theorem mixed_any (d:Df) (a2:Option Addr) (p2:Nat) (a3:Option Addr) (p3:Nat) (a4:Option Addr) (p4:Nat) (a5:Option Addr) (p5:Nat) (a6:Option Addr) (p6 B1 B2:Nat) (w:World) (h:LK w d [.string d.start,.string d.layout,.slice a2 d.prods.length p2,.slice a3 d.chains.length p3,.slice a4 d.follows.length p4,.slice a5 d.rejects.length p5,.slice a6 d.boxes.length p6] B1 B2):
  Calls Tryz.prog 37 #[.agg #[.string d.start,.string d.layout,.slice a2 d.prods.length p2,.slice a3 d.chains.length p3,.slice a4 d.follows.length p4,.slice a5 d.rejects.length p5,.slice a6 d.boxes.length p6,.map (some B1),.map (some B2)]] w fun e w'=>Tl e (line d 0)∧Below w.heap.size w w':=by
 obtain⟨n,hm⟩:=h.m1
 obtain⟨w1,hw1⟩:∃qW,w.alloc (.cells #[.string d.start,.string d.layout,.slice a2 d.prods.length p2,.slice a3 d.chains.length p3,.slice a4 d.follows.length p4,.slice a5 d.rejects.length p5,.slice a6 d.boxes.length p6,.map (some B1),.map (some B2)] 75)=qW:=⟨_,rfl⟩
 have HX1:=kN hw1
 have HB1:=kB hw1
 have HM1:=Mp.below (hHi hm) HB1
 have HC:=hU (firstSort_any 83 #[.pointer (some ⟨w.heap.size,0,none⟩)] (fun s=>lexd d.prods s&&plnd d.prods s) 42 d a2 p2 a3 p3 a4 p4 a5 p5 a6 p6 (.map (some B1)) (.map (some B2)) w1 (h.df.nx HB1.out) enter83 (fun s W hs hb=>mixC_any d s w.heap.size B1 n W hs ((HX1.out.after hb).cell 7 rfl) (Mp.below HM1 hb).out))
 clear h hm
 go_enter Tryz.func37,Tryz.ntmps37
 obtain⟨c0,c1,c2,c3,c4,c5,c6,c7,c8⟩:=HX1.out.c9
 go_wp2_with fail
 refine hMo HC ?_
 rintro e w2 ⟨⟨cd,s,rfl,hcs⟩,hb⟩
 have HB2:=hHi hb
 have HCS:=hHi hcs
 clear hb hcs HC c0 c1 c2 c3 c4 c5 c6 c7 c8
 go_wp2
 go_ret2
 exact ⟨⟨cd,s,rfl,HCS.out⟩,below_tr HB1.out HB2.out⟩
theorem start_any (d:Df) (a2:Option Addr) (p2:Nat) (a3:Option Addr) (p3:Nat) (a4:Option Addr) (p4:Nat) (a5:Option Addr) (p5:Nat) (a6:Option Addr) (p6 B1 B2:Nat) (w:World) (h:LK w d [.string d.start,.string d.layout,.slice a2 d.prods.length p2,.slice a3 d.chains.length p3,.slice a4 d.follows.length p4,.slice a5 d.rejects.length p5,.slice a6 d.boxes.length p6] B1 B2):
  Calls Tryz.prog 38 #[.agg #[.string d.start,.string d.layout,.slice a2 d.prods.length p2,.slice a3 d.chains.length p3,.slice a4 d.follows.length p4,.slice a5 d.rejects.length p5,.slice a6 d.boxes.length p6,.map (some B1),.map (some B2)]] w fun e w'=>Tl e (line d 1)∧Below w.heap.size w w':=by
 obtain⟨n,hm⟩:=h.m1
 have hs:=h.df.nm.start
 have HM:=hHi hm
 have HS1:Hid (∀W,Below w.heap.size w W→Calls Tryz.prog 84 #[.agg #[.string d.start,.string d.layout,.slice a2 d.prods.length p2,.slice a3 d.chains.length p3,.slice a4 d.follows.length p4,.slice a5 d.rejects.length p5,.slice a6 d.boxes.length p6,.map (some B1),.map (some B2)],.string d.start] W fun e w'=>e=.returned (.bool (decide (d.start∈srt d.prods)))∧Below W.heap.size W w'):=fun W hb=>isSort_any d _ _ _ _ _ _ _ _ B1 n d.start W (Mp.below HM (hHi hb)).out hs ⟨_,rfl⟩ ⟨_,rfl⟩
 have HS2:Hid (∀W,Below w.heap.size w W→Calls Tryz.prog 85 #[.agg #[.string d.start,.string d.layout,.slice a2 d.prods.length p2,.slice a3 d.chains.length p3,.slice a4 d.follows.length p4,.slice a5 d.rejects.length p5,.slice a6 d.boxes.length p6,.map (some B1),.map (some B2)],.string d.start] W fun e w'=>e=.returned (.bool (lexd d.prods d.start))∧Below W.heap.size W w'):=fun W hb=>isLex_any d _ _ _ _ _ _ _ _ B1 n d.start W (Mp.below HM (hHi hb)).out hs
 have HLN:Hid (line d 1=if decide (d.start∈srt d.prods)=false∨lexd d.prods d.start=true then some (40,d.start) else none):=rfl
 rw[HLN.out]
 clear h hm HLN
 generalize decide (d.start∈srt d.prods)=q1 at HS1 ⊢
 generalize lexd d.prods d.start=q2 at HS2 ⊢
 obtain⟨w1,hw1⟩:∃qW,w.alloc (.cells #[.string d.start,.string d.layout,.slice a2 d.prods.length p2,.slice a3 d.chains.length p3,.slice a4 d.follows.length p4,.slice a5 d.rejects.length p5,.slice a6 d.boxes.length p6,.map (some B1),.map (some B2)] 75)=qW:=⟨_,rfl⟩
 have HX1:=kN hw1
 have HB1:=kB hw1
 have HC1:=hU (HS1.out w1 HB1.out)
 go_enter Tryz.func38,Tryz.ntmps38
 obtain⟨c0,c1,c2,c3,c4,c5,c6,c7,c8⟩:=HX1.out.c9
 go_wp2_with fail
 refine hMo HC1 ?_
 rintro e w2 ⟨rfl,hb⟩
 have HB2:=hHi (below_tr HB1.out hb)
 have HX2:=kA HX1 (hHi hb)
 clear hb HC1 c0 c1 c2 c3 c4 c5 c6 c7 c8
 obtain⟨c0,c1,c2,c3,c4,c5,c6,c7,c8⟩:=HX2.out.c9
 cases q1 with
 | false=>
  go_wp2
  go_quiet (fail)
  go_wp2
  go_ret2
  exact ⟨⟨40,d.start,rfl,by simp⟩,bel_dn _ HB2.out⟩
 | true=>
  have HC2:=hU (HS2.out w2 HB2.out)
  go_wp2_with fail
  refine hMo HC2 ?_
  rintro e w3 ⟨rfl,hb⟩
  have HB3:=hHi (below_tr HB2.out hb)
  have HX3:=kA HX2 (hHi hb)
  clear hb HC2 c0 c1 c2 c3 c4 c5 c6 c7 c8
  obtain⟨c0,c1,c2,c3,c4,c5,c6,c7,c8⟩:=HX3.out.c9
  cases q2 with
  | true=>
   go_wp2
   go_quiet (fail)
   go_wp2
   go_ret2
   exact ⟨⟨40,d.start,rfl,by simp⟩,bel_dn _ HB3.out⟩
  | false=>
   go_wp2
   go_ret2
   exact ⟨⟨0,no,rfl,by simp⟩,HB3.out⟩
theorem layout_any (d:Df) (a2:Option Addr) (p2:Nat) (a3:Option Addr) (p3:Nat) (a4:Option Addr) (p4:Nat) (a5:Option Addr) (p5:Nat) (a6:Option Addr) (p6 B1 B2:Nat) (w:World) (h:LK w d [.string d.start,.string d.layout,.slice a2 d.prods.length p2,.slice a3 d.chains.length p3,.slice a4 d.follows.length p4,.slice a5 d.rejects.length p5,.slice a6 d.boxes.length p6] B1 B2):
  Calls Tryz.prog 39 #[.agg #[.string d.start,.string d.layout,.slice a2 d.prods.length p2,.slice a3 d.chains.length p3,.slice a4 d.follows.length p4,.slice a5 d.rejects.length p5,.slice a6 d.boxes.length p6,.map (some B1),.map (some B2)]] w fun e w'=>Tl e (line d 2)∧Below w.heap.size w w':=by
 obtain⟨n,hm⟩:=h.m1
 have hs:=h.df.nm.layout
 have HM:=hHi hm
 have HS2:Hid (∀W,Below w.heap.size w W→Calls Tryz.prog 85 #[.agg #[.string d.start,.string d.layout,.slice a2 d.prods.length p2,.slice a3 d.chains.length p3,.slice a4 d.follows.length p4,.slice a5 d.rejects.length p5,.slice a6 d.boxes.length p6,.map (some B1),.map (some B2)],.string d.layout] W fun e w'=>e=.returned (.bool (lexd d.prods d.layout))∧Below W.heap.size W w'):=fun W hb=>isLex_any d _ _ _ _ _ _ _ _ B1 n d.layout W (Mp.below HM (hHi hb)).out hs
 have HLN:Hid (line d 2=if d.layout≠no∧lexd d.prods d.layout=false then some (41,d.layout) else none):=rfl
 generalize line d 2=ln at HLN ⊢
 generalize lexd d.prods d.layout=q2 at HS2 HLN
 clear h hm
 obtain⟨w1,hw1⟩:∃qW,w.alloc (.cells #[.string d.start,.string d.layout,.slice a2 d.prods.length p2,.slice a3 d.chains.length p3,.slice a4 d.follows.length p4,.slice a5 d.rejects.length p5,.slice a6 d.boxes.length p6,.map (some B1),.map (some B2)] 75)=qW:=⟨_,rfl⟩
 have HX1:=kN hw1
 have HB1:=kB hw1
 obtain⟨c0,c1,c2,c3,c4,c5,c6,c7,c8⟩:=HX1.out.c9
 rcases emp_no d.layout with ⟨hne,hd⟩|⟨hne,hd⟩
 ·have HE:Hid (d.layout=no):=hne
  clear hne
  go_enter Tryz.func39,Tryz.ntmps39
  go_wp2
  go_ret2
  exact ⟨⟨0,no,rfl,by rw[HLN.out,if_neg (fun h=>h.1 HE.out)];rfl⟩,HB1.out⟩
 ·have HE:Hid (d.layout≠no):=hne
  clear hne
  have HC2:=hU (HS2.out w1 HB1.out)
  go_enter Tryz.func39,Tryz.ntmps39
  go_wp2_with fail
  refine hMo HC2 ?_
  rintro e w3 ⟨rfl,hb⟩
  have HB3:=hHi (below_tr HB1.out hb)
  have HX3:=kA HX1 (hHi hb)
  clear hb HC2 c0 c1 c2 c3 c4 c5 c6 c7 c8
  obtain⟨c0,c1,c2,c3,c4,c5,c6,c7,c8⟩:=HX3.out.c9
  cases q2 with
  | false=>
   go_wp2
   go_quiet (fail)
   go_wp2
   go_ret2
   exact ⟨⟨41,d.layout,rfl,by rw[HLN.out];simp[HE.out]⟩,bel_dn _ HB3.out⟩
  | true=>
   go_wp2
   go_ret2
   exact ⟨⟨0,no,rfl,by rw[HLN.out];simp⟩,HB3.out⟩
end Go.Proofs.YtilpgpcgcpedjaaGreat
