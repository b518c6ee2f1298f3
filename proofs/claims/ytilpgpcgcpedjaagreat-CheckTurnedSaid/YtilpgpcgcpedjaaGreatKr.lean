/- Kinds of symbols, brackets, lengths, texts that are empty: the lines that tell a production. -/
import Derived.Test.YtilpgpcgcpedjaaGreatKp
namespace Go.Proofs.YtilpgpcgcpedjaaGreat
open Go.RowKit
set_option linter.unusedVariables false
set_option linter.unusedSimpArgs false
set_option maxRecDepth 100000
set_option maxHeartbeats 16000000
theorem tl_beq (x y:ByteArray):(x.toList==y.toList)=decide (x=y):=by rw[Bool.eq_iff_iff];simp[str_iff]
theorem kind1_any (d:Df) (a2:Option Addr) (p2:Nat) (a3:Option Addr) (p3:Nat) (a4:Option Addr) (p4:Nat) (a5:Option Addr) (p5:Nat) (a6:Option Addr) (p6 B1 B2:Nat) (x:Sy) (P:Nat) (W:World) (h:LK W d [.string d.start,.string d.layout,.slice a2 d.prods.length p2,.slice a3 d.chains.length p3,.slice a4 d.follows.length p4,.slice a5 d.rejects.length p5,.slice a6 d.boxes.length p6] B1 B2) (hX:Blk W P 75 #[.string d.start,.string d.layout,.slice a2 d.prods.length p2,.slice a3 d.chains.length p3,.slice a4 d.follows.length p4,.slice a5 d.rejects.length p5,.slice a6 d.boxes.length p6,.map (some B1),.map (some B2)]) (hs:x.name.size≤maxLen):
  Calls Tryz.prog 89 #[.agg #[.int .i64 x.kind,.string x.text,.int .u64 x.set.a,.int .u64 x.set.b,.int .u64 x.set.c,.int .u64 x.set.d,.string x.name,.string x.sep],.pointer (some ⟨P,0,none⟩)] W fun e w'=>e=.returned (.bool (decide (x.name≠no∧lexd d.prods x.name=false∨x.sep≠no)))∧Below W.heap.size W w':=by
 obtain⟨n,hm⟩:=h.m1
 have HM:=hHi hm
 obtain⟨w1,hw1⟩:∃qW,W.alloc (.cells #[.int .i64 x.kind,.string x.text,.int .u64 x.set.a,.int .u64 x.set.b,.int .u64 x.set.c,.int .u64 x.set.d,.string x.name,.string x.sep] 62)=qW:=⟨_,rfl⟩
 have HX1:=kN hw1
 have HB1:=kB hw1
 have HXP:=kA (hHi hX) HB1
 have HSP:Hid (∀W',Below W.heap.size W W'→Calls Tryz.prog 85 #[.agg #[.string d.start,.string d.layout,.slice a2 d.prods.length p2,.slice a3 d.chains.length p3,.slice a4 d.follows.length p4,.slice a5 d.rejects.length p5,.slice a6 d.boxes.length p6,.map (some B1),.map (some B2)],.string x.name] W' fun e w'=>e=.returned (.bool (lexd d.prods x.name))∧Below W'.heap.size W' w'):=fun W' hb=>isLex_any d _ _ _ _ _ _ _ _ B1 n x.name W' (Mp.below HM (hHi hb)).out hs
 obtain⟨r,hr⟩:∃r,decide (x.name≠no∧lexd d.prods x.name=false∨x.sep≠no)=r:=⟨_,rfl⟩
 rw[hr]
 have HR:=hHi hr
 clear hr h hm hX
 go_enter Tryz.func89,Tryz.ntmps89
 obtain⟨e0,e1,e2,e3,e4,e5,e6,e7⟩:=c8 HX1.out
 obtain⟨c0,c1,c2,c3,c4,c5,c6,c7,c8⟩:=HXP.out.c9
 rcases emp_no x.name with ⟨hne,hd⟩|⟨hne,hd⟩
 ·have HE:=hHi hne
  clear hne
  rcases emp_no x.sep with ⟨hs1,hs2⟩|⟨hs1,hs2⟩
  ·have HRR:Hid (r=false):=by show _=_;rw[←HR.out];simp[HE.out,hs1]
   clear hs1
   go_wp2
   go_ret
   exact ⟨by rw[HRR.out];rfl,HB1.out⟩
  ·have HRR:Hid (r=true):=by show _=_;rw[←HR.out];simp[hs1]
   clear hs1
   go_wp2
   go_ret
   exact ⟨by rw[HRR.out];rfl,HB1.out⟩
 ·have HE:=hHi hne
  clear hne
  have HC:=hU (HSP.out w1 HB1.out)
  go_wp2_with fail
  refine hMo HC ?_
  rintro e w2 ⟨rfl,hb⟩
  have HB2:=hHi (below_tr HB1.out hb)
  have HX2:=kA HX1 (hHi hb)
  clear HC hb e0 e1 e2 e3 e4 e5 e6 e7 c0 c1 c2 c3 c4 c5 c6 c7 c8
  obtain⟨e0,e1,e2,e3,e4,e5,e6,e7⟩:=c8 HX2.out
  cases hlx:lexd d.prods x.name
  ·have HRR:Hid (r=true):=by show _=_;rw[←HR.out];simp[HE.out,hlx]
   clear hlx
   go_wp2
   go_ret
   exact ⟨by rw[HRR.out];rfl,HB2.out⟩
  ·rcases emp_no x.sep with ⟨hs1,hs2⟩|⟨hs1,hs2⟩
   ·have HRR:Hid (r=false):=by show _=_;rw[←HR.out];simp[hlx,hs1]
    clear hs1 hlx
    go_wp2
    go_ret
    exact ⟨by rw[HRR.out];rfl,HB2.out⟩
   ·have HRR:Hid (r=true):=by show _=_;rw[←HR.out];simp[hs1]
    clear hs1 hlx
    go_wp2
    go_ret
    exact ⟨by rw[HRR.out];rfl,HB2.out⟩
theorem kind2_any (d:Df) (a2:Option Addr) (p2:Nat) (a3:Option Addr) (p3:Nat) (a4:Option Addr) (p4:Nat) (a5:Option Addr) (p5:Nat) (a6:Option Addr) (p6 B1 B2:Nat) (x:Sy) (P:Nat) (W:World) (hX:Blk W P 75 #[.string d.start,.string d.layout,.slice a2 d.prods.length p2,.slice a3 d.chains.length p3,.slice a4 d.follows.length p4,.slice a5 d.rejects.length p5,.slice a6 d.boxes.length p6,.map (some B1),.map (some B2)]):
  Calls Tryz.prog 90 #[.agg #[.int .i64 x.kind,.string x.text,.int .u64 x.set.a,.int .u64 x.set.b,.int .u64 x.set.c,.int .u64 x.set.d,.string x.name,.string x.sep],.pointer (some ⟨P,0,none⟩)] W fun e w'=>e=.returned (.bool (decide (¬x.kind=1∧(x.name=no∨x.name=d.layout))))∧Below W.heap.size W w':=by
 obtain⟨w1,hw1⟩:∃qW,W.alloc (.cells #[.int .i64 x.kind,.string x.text,.int .u64 x.set.a,.int .u64 x.set.b,.int .u64 x.set.c,.int .u64 x.set.d,.string x.name,.string x.sep] 62)=qW:=⟨_,rfl⟩
 have HX1:=kN hw1
 have HB1:=kB hw1
 have HXP:=kA (hHi hX) HB1
 obtain⟨r,hr⟩:∃r,decide (¬x.kind=1∧(x.name=no∨x.name=d.layout))=r:=⟨_,rfl⟩
 rw[hr]
 have HR:=hHi hr
 clear hr hX
 obtain⟨e0,e1,e2,e3,e4,e5,e6,e7⟩:=c8 HX1.out
 obtain⟨c0,c1,c2,c3,c4,c5,c6,c7,c8⟩:=HXP.out.c9
 obtain⟨kd,hkd⟩:∃z,x.kind=z:=⟨_,rfl⟩
 have HKD:=hHi hkd
 rw[hkd] at e0 hw1
 rw[hkd]
 clear hkd HX1
 go_enter Tryz.func90,Tryz.ntmps90
 by_cases hk1:kd=1
 ·have HRR:Hid (r=false):=by show _=_;rw[←HR.out];simp[HKD.out,hk1]
  subst hk1
  go_wp2
  go_ret
  exact ⟨by rw[HRR.out];rfl,HB1.out⟩
 ·have HK1:=hHi hk1
  rcases emp_no x.name with ⟨hne,hd⟩|⟨hne,hd⟩
  ·have HRR:Hid (r=true):=by show _=_;rw[←HR.out];simp[HKD.out,hk1,hne]
   clear hne
   go_wp2
   go_ret
   exact ⟨by rw[HRR.out];simp[HK1.out],HB1.out⟩
  ·have HRR:Hid (r=decide (x.name=d.layout)):=by show _=_;rw[←HR.out,Bool.eq_iff_iff];simp[HKD.out,hk1,hne]
   clear hne
   go_wp2
   go_ret
   exact ⟨by rw[HRR.out,tl_beq];simp[HK1.out],HB1.out⟩
theorem kindC_any (d:Df) (a2:Option Addr) (p2:Nat) (a3:Option Addr) (p3:Nat) (a4:Option Addr) (p4:Nat) (a5:Option Addr) (p5:Nat) (a6:Option Addr) (p6 B1 B2:Nat) (p:Pr) (v:Value) (P:Nat) (W:World) (h:LK W d [.string d.start,.string d.layout,.slice a2 d.prods.length p2,.slice a3 d.chains.length p3,.slice a4 d.follows.length p4,.slice a5 d.rejects.length p5,.slice a6 d.boxes.length p6] B1 B2) (hX:Blk W P 75 #[.string d.start,.string d.layout,.slice a2 d.prods.length p2,.slice a3 d.chains.length p3,.slice a4 d.follows.length p4,.slice a5 d.rejects.length p5,.slice a6 d.boxes.length p6,.map (some B1),.map (some B2)]) (hv:Sl W W.heap.size 8 SyV p.syms v) (hn:NmP p):
  Calls Tryz.prog 87 #[.agg #[.bool p.lex,.string p.sort,.string p.cons,.bool p.bracket,v],.pointer (some ⟨P,0,none⟩)] W fun e w'=>e=.returned (.bool (kindBad d p))∧Below W.heap.size W w':=by
 obtain⟨w1,hw1⟩:∃qW,W.alloc (.cells #[.bool p.lex,.string p.sort,.string p.cons,.bool p.bracket,v] 44)=qW:=⟨_,rfl⟩
 have HX1:=kN hw1
 have HB1:=kB hw1
 have HXP:=kA (hHi hX) HB1
 have HLK:=hHi (h.nx HB1.out)
 have HSL:Hid (Sl w1 w1.heap.size 8 SyV p.syms v):=hv.keep HB1.out HB1.out.size (fun _ _ _ h=>h)
 have HNM:=hHi hn
 have HC1:=hU (contains_n 89 #[.pointer (some ⟨P,0,none⟩)] (fun s=>decide (s.name≠no∧lexd d.prods s.name=false∨s.sep≠no)) p.syms v w1 HSL.out enter89 (fun x hx _ W' hb=>kind1_any d a2 p2 a3 p3 a4 p4 a5 p5 a6 p6 B1 B2 x P W' (HLK.out.nx hb) (HXP.out.after hb) (HNM.out.nms x hx)))
 have HC2:=hU (contains_n 90 #[.pointer (some ⟨P,0,none⟩)] (fun s=>decide (¬s.kind=1∧(s.name=no∨s.name=d.layout))) p.syms v w1 HSL.out enter90 (fun x hx _ W' hb=>kind2_any d a2 p2 a3 p3 a4 p4 a5 p5 a6 p6 B1 B2 x P W' (HXP.out.after hb)))
 have HKB:Hid (kindBad d p=if p.lex then p.syms.any (fun s=>decide (s.name≠no∧lexd d.prods s.name=false∨s.sep≠no)) else p.syms.any (fun s=>decide (¬s.kind=1∧(s.name=no∨s.name=d.layout)))):=rfl
 generalize kindBad d p=r at HKB ⊢
 generalize p.syms.any (fun s=>decide (s.name≠no∧lexd d.prods s.name=false∨s.sep≠no))=q1 at HC1 HKB
 generalize p.syms.any (fun s=>decide (¬s.kind=1∧(s.name=no∨s.name=d.layout)))=q2 at HC2 HKB
 clear hv h hX hn HSL
 obtain⟨e0,e1,e2,e3,e4⟩:=HX1.out.c5
 go_enter Tryz.func87,Tryz.ntmps87
 cases hl:p.lex
 ·have HKR:Hid (r=q2):=by have h:=HKB.out;rw[hl] at h;exact h
  rw[hl] at e0 hw1
  clear hl
  go_wp2_with fail
  refine hMo HC2 ?_
  rintro e w2 ⟨rfl,hb⟩
  have HB2:=hHi hb
  clear hb HC2 e0 e1 e2 e3 e4
  go_wp2
  go_ret
  exact ⟨by rw[HKR.out];rfl,below_tr HB1.out HB2.out⟩
 ·have HKR:Hid (r=q1):=by have h:=HKB.out;rw[hl] at h;exact h
  rw[hl] at e0 hw1
  clear hl
  go_wp2_with fail
  refine hMo HC1 ?_
  rintro e w2 ⟨rfl,hb⟩
  have HB2:=hHi hb
  clear hb HC1 e0 e1 e2 e3 e4
  go_wp2
  go_ret
  exact ⟨by rw[HKR.out];rfl,below_tr HB1.out HB2.out⟩
theorem kind_any (d:Df) (a2:Option Addr) (p2:Nat) (a3:Option Addr) (p3:Nat) (a4:Option Addr) (p4:Nat) (a5:Option Addr) (p5:Nat) (a6:Option Addr) (p6 B1 B2:Nat) (w:World) (h:LK w d [.string d.start,.string d.layout,.slice a2 d.prods.length p2,.slice a3 d.chains.length p3,.slice a4 d.follows.length p4,.slice a5 d.rejects.length p5,.slice a6 d.boxes.length p6] B1 B2):
  Calls Tryz.prog 41 #[.agg #[.string d.start,.string d.layout,.slice a2 d.prods.length p2,.slice a3 d.chains.length p3,.slice a4 d.follows.length p4,.slice a5 d.rejects.length p5,.slice a6 d.boxes.length p6,.map (some B1),.map (some B2)]] w fun e w'=>Tl e (line d 4)∧Below w.heap.size w w':=by
 obtain⟨w1,hw1⟩:∃qW,w.alloc (.cells #[.string d.start,.string d.layout,.slice a2 d.prods.length p2,.slice a3 d.chains.length p3,.slice a4 d.follows.length p4,.slice a5 d.rejects.length p5,.slice a6 d.boxes.length p6,.map (some B1),.map (some B2)] 75)=qW:=⟨_,rfl⟩
 have HX1:=kN hw1
 have HB1:=kB hw1
 have HLK1:=hHi (h.nx HB1.out)
 have HNM:=hHi h.df.nm
 have HC:=hU (firstProd_any 87 #[.pointer (some ⟨w.heap.size,0,none⟩)] (kindBad d) 44 d a2 p2 a3 p3 a4 p4 a5 p5 a6 p6 (.map (some B1)) (.map (some B2)) w1 (h.df.nx HB1.out) enter87 (fun p v W hp hb hv=>kindC_any d a2 p2 a3 p3 a4 p4 a5 p5 a6 p6 B1 B2 p v w.heap.size W (HLK1.out.nx hb) (HX1.out.after hb) hv (HNM.out.prods p hp)))
 clear h
 go_enter Tryz.func41,Tryz.ntmps41
 obtain⟨c0,c1,c2,c3,c4,c5,c6,c7,c8⟩:=HX1.out.c9
 go_wp2_with fail
 refine hMo HC ?_
 rintro e w2 ⟨⟨cd,s,rfl,hcs⟩,hb⟩
 have HB2:=hHi hb
 have HCS:=hHi hcs
 clear hb hcs HC c0 c1 c2 c3 c4 c5 c6 c7 c8
 go_wp2
 go_ret2
 exact ⟨⟨cd,s,rfl,HCS.out⟩,below_tr HB1.out HB2.out⟩
end Go.Proofs.YtilpgpcgcpedjaaGreat
