/- Brackets, lengths, empty texts, cycles: the lines. -/
import Derived.Test.YtilpgpcgcpedjaaGreatKs
namespace Go.Proofs.YtilpgpcgcpedjaaGreat
open Go.RowKit
set_option linter.unusedVariables false
set_option linter.unusedSimpArgs false
set_option maxRecDepth 100000
set_option maxHeartbeats 16000000
theorem ints_cell {W:World} {lo:Nat} {l:List Nat} {v:Value} (h:IntsAt W lo l v) {j:Nat} {x:Nat} (hj:l[j]?=some x):∃g cap,v=.slice (some ⟨g,0,none⟩) l.length cap∧lo≤g∧g<W.heap.size∧W.cell? ⟨g,j,none⟩=some (.int .i64 (x:Nat)):=by
 obtain⟨_,⟨rfl,h0⟩|⟨g,cap,cur,rfl,hg,hh,hn,hcap,hsz,htk⟩⟩:=h.row
 ·rw[List.length_eq_zero_iff.1 h0] at hj
  cases hj
 ·have hjl:j<l.length:=(List.getElem?_eq_some_iff.1 hj).1
  refine ⟨g,cap,rfl,hg,(Array.getElem?_eq_some_iff.1 hh).1,?_⟩
  rw[h.row.cellAt j (by omega)]
  simp[ivals,hj]
theorem holes_lt {l:List Sy} {i:Nat} (h:i∈holesL l):i<l.length:=by
 unfold holesL at h
 simpa using (List.mem_filter.1 h).1
theorem brOK_none {p:Pr} (h:(holesL p.syms).length≠1):brOK p=false:=by
 unfold brOK
 split
 ·rename_i s hs
  rw[hs] at h
  exact absurd rfl h
 ·rfl
theorem brOK_one {p:Pr} {i:Nat} {x:Sy} (h:holesL p.syms=[i]) (hx:p.syms[i]?=some x):brOK p=decide (x.kind=3∧x.name=p.sort∧0<i∧i+1<p.syms.length):=by
 unfold brOK
 rw[h]
 have e:p.syms[i]! = x:=by simp[List.getElem!_eq_getElem?_getD,hx]
 simp only[e]
theorem isBracket_any (p:Pr) (v:Value) (w:World) (hv:Sl w w.heap.size 8 SyV p.syms v) (hz:p.syms.length≤1000000):
  Calls Tryz.prog 92 #[.agg #[.bool p.lex,.string p.sort,.string p.cons,.bool p.bracket,v]] w fun e w'=>e=.returned (.bool (brOK p))∧Below w.heap.size w w':=by
 obtain⟨w1,hw1⟩:∃qW,w.alloc (.cells #[.bool p.lex,.string p.sort,.string p.cons,.bool p.bracket,v] 44)=qW:=⟨_,rfl⟩
 have HX1:=kN hw1
 have HB1:=kB hw1
 have hv1:Sl w1 w1.heap.size 8 SyV p.syms v:=hv.keep HB1.out HB1.out.size (fun _ _ _ h=>h)
 have HH:=hU (holes_any p [.bool p.lex,.string p.sort,.string p.cons,.bool p.bracket,v] w1 ⟨v,rfl,hv1⟩ (by omega))
 obtain⟨r,hr⟩:∃r,brOK p=r:=⟨_,rfl⟩
 rw[hr]
 have HB0:Hid ((holesL p.syms).length≠1→r=false):=fun h=>hr▸brOK_none h
 have HBI:Hid (∀i x,holesL p.syms=[i]→p.syms[i]?=some x→r=decide (x.kind=3∧x.name=p.sort∧0<i∧i+1<p.syms.length)):=fun i x h1 h2=>hr▸brOK_one h1 h2
 have HLT:Hid (∀i∈holesL p.syms,i<p.syms.length):=fun i h=>holes_lt h
 obtain⟨a1,p1,rfl,hl0,hl1,hr1⟩:=hv
 obtain⟨H,hH⟩:∃H,holesL p.syms=H:=⟨_,rfl⟩
 rw[hH] at HH HB0 HBI HLT
 obtain⟨L,hL⟩:∃L,p.syms=L:=⟨_,rfl⟩
 rw[hL] at hl0 hl1 hr1 hz HBI HLT HH hw1 HX1 ⊢
 obtain⟨N,hN⟩:∃N,L.length=N:=⟨_,rfl⟩
 have HR1:=hHi hr1
 have HN:=hHi hN
 rw[hN] at hl0 hl1 hz HH hw1 HX1 HBI HLT ⊢
 obtain⟨q,hq⟩:∃q,H.length=q:=⟨_,rfl⟩
 rw[hq] at HH HB0
 have HQ:=hHi hq
 clear hr1 hN hv1 hH hL hr hq
 go_enter Tryz.func92,Tryz.ntmps92
 obtain⟨d0,d1,d2,d3,d4⟩:=HX1.out.c5
 go_wp2_with fail
 refine hMo HH ?_
 rintro e w2 ⟨⟨ha,hc,rfl,hI⟩,hb⟩
 have HI:=hHi hI
 have HB2:=hHi (below_tr HB1.out hb)
 have HX2:=kA HX1 (hHi hb)
 clear hb HH hI d0 d1 d2 d3 d4
 obtain⟨d0,d1,d2,d3,d4⟩:=HX2.out.c5
 by_cases hq1:q=1
 ·subst hq1
  obtain⟨i,hi⟩:∃i,H=[i]:=List.length_eq_one_iff.1 HQ.out
  subst hi
  have hil:=HLT.out i (by simp)
  obtain⟨x,hx⟩:∃x,L[i]?=some x:=⟨L[i]'(by rw[HN.out];exact hil),by simp⟩
  have HBX:=hHi (HBI.out i x rfl hx)
  obtain⟨b,o,us,hb,hlb,hus,hc'⟩:=HR1.out i x hx
  obtain⟨hok,rfl⟩:=hus
  subst hb
  have hq_:=hcb HB2.out hlb hc'
  have s0:=hq_ 0 _ rfl
  have s6:=hq_ 6 _ rfl
  rw[Nat.add_zero] at s0
  obtain⟨g,cap,he,hg,hgl,hgc⟩:=ints_cell HI.out (j:=0) rfl
  simp only[Value.slice.injEq] at he
  obtain⟨rfl,hnl,rfl⟩:=he
  have hilI:(i:Int)<N:=by omega
  clear hnl hq_ hc' hx hok HBI HLT HQ
  obtain⟨kd,hkd⟩:∃z,x.kind=z:=⟨_,rfl⟩
  rw[hkd] at s0 HBX
  by_cases hk3:kd=3
  ·by_cases hnm:x.name=p.sort
   ·by_cases hi0:0<i
    ·by_cases hi1:i+1<N
     ·have HRR:Hid (r=true):=by show _=_;rw[HBX.out];simp[hk3,hnm,hi0,hi1]
      have hnb:(x.name.toList==p.sort.toList)=true:=by rw[tl_beq];simp[hnm]
      have hi0':(0:Int)<(i:Int):=by omega
      have hi1':(i:Int)<(N:Int)-1:=by omega
      subst hk3
      clear hnm hi1 HBX
      go_wp2
      go_quiet (fail)
      go_wp2
      go_ret
      exact ⟨by rw[HRR.out];rfl,bel_dn _ HB2.out⟩
     ·have HRR:Hid (r=false):=by show _=_;rw[HBX.out];simp[hi1]
      have hnb:(x.name.toList==p.sort.toList)=true:=by rw[tl_beq];simp[hnm]
      have hi0':(0:Int)<(i:Int):=by omega
      have hi1':¬((i:Int)<(N:Int)-1):=by omega
      subst hk3
      clear hnm hi1 HBX
      go_wp2
      go_quiet (fail)
      go_wp2
      go_ret
      exact ⟨by rw[HRR.out,show false=decide ((i:Int)<(N:Int)-1) from (decide_eq_false (by omega)).symm];rfl,bel_dn _ HB2.out⟩
    ·have HRR:Hid (r=false):=by show _=_;rw[HBX.out];simp[hi0]
     have hnb:(x.name.toList==p.sort.toList)=true:=by rw[tl_beq];simp[hnm]
     have hi0':¬((0:Int)<(i:Int)):=by omega
     subst hk3
     clear hnm HBX
     go_wp2
     go_quiet (fail)
     go_wp2
     go_ret
     exact ⟨by rw[HRR.out];rfl,bel_dn _ HB2.out⟩
   ·have HRR:Hid (r=false):=by show _=_;rw[HBX.out];simp[hnm]
    have hnb:(x.name.toList==p.sort.toList)=false:=by rw[tl_beq];simp[hnm]
    subst hk3
    clear hnm HBX
    go_wp2
    go_quiet (fail)
    go_wp2
    go_ret
    exact ⟨by rw[HRR.out];rfl,bel_dn _ HB2.out⟩
  ·have HRR:Hid (r=false):=by show _=_;rw[HBX.out];simp[hk3]
   have hkb:(kd==3)=false:=by simp[hk3]
   clear HBX
   go_wp2
   go_quiet (fail)
   go_wp2
   go_ret
   exact ⟨by rw[HRR.out];rfl,bel_dn _ HB2.out⟩
 ·have HRR:Hid (r=false):=HB0.out hq1
  have hq2:¬((q:Int)=1):=by omega
  go_wp2
  go_ret
  exact ⟨by rw[HRR.out];rfl,HB2.out⟩
theorem bracketC_any (p:Pr) (v:Value) (w:World) (hv:Sl w w.heap.size 8 SyV p.syms v) (hz:p.syms.length≤1000000):
  Calls Tryz.prog 91 #[.agg #[.bool p.lex,.string p.sort,.string p.cons,.bool p.bracket,v]] w fun e w'=>e=.returned (.bool (p.bracket&&!brOK p))∧Below w.heap.size w w':=by
 obtain⟨w1,hw1⟩:∃qW,w.alloc (.cells #[.bool p.lex,.string p.sort,.string p.cons,.bool p.bracket,v] 44)=qW:=⟨_,rfl⟩
 have HX1:=kN hw1
 have HB1:=kB hw1
 have HC:=hU (isBracket_any p v w1 (hv.keep HB1.out HB1.out.size (fun _ _ _ h=>h)) hz)
 obtain⟨a1,p1,rfl,_⟩:=hv
 generalize brOK p=q at HC ⊢
 obtain⟨d0,d1,d2,d3,d4⟩:=HX1.out.c5
 go_enter Tryz.func91,Tryz.ntmps91
 cases hb:p.bracket
 ·rw[hb] at d3 hw1
  clear hb
  go_wp2
  go_ret
  exact ⟨rfl,HB1.out⟩
 ·rw[hb] at HC d3 hw1
  clear hb
  go_wp2_with fail
  refine hMo HC ?_
  rintro e w2 ⟨rfl,hb2⟩
  have HB2:=hHi (below_tr HB1.out hb2)
  clear hb2 HC d0 d1 d2 d3 d4
  go_wp2
  go_ret
  exact ⟨by simp,HB2.out⟩
theorem longC_any (d:Df) (a2:Option Addr) (p2:Nat) (a3:Option Addr) (p3:Nat) (a4:Option Addr) (p4:Nat) (a5:Option Addr) (p5:Nat) (a6:Option Addr) (p6 B1 B2:Nat) (p:Pr) (v:Value) (P:Nat) (w:World) (hX:Blk w P 75 #[.string d.start,.string d.layout,.slice a2 d.prods.length p2,.slice a3 d.chains.length p3,.slice a4 d.follows.length p4,.slice a5 d.rejects.length p5,.slice a6 d.boxes.length p6,.map (some B1),.map (some B2)]) (hv:Sl w w.heap.size 8 SyV p.syms v) (hz:p.syms.length≤1000000) (ht:∀s∈p.syms,s.text.size≤1000000):
  Calls Tryz.prog 93 #[.agg #[.bool p.lex,.string p.sort,.string p.cons,.bool p.bracket,v],.pointer (some ⟨P,0,none⟩)] w fun e w'=>e=.returned (.bool (longBad d p))∧Below w.heap.size w w':=by
 obtain⟨w1,hw1⟩:∃qW,w.alloc (.cells #[.bool p.lex,.string p.sort,.string p.cons,.bool p.bracket,v] 44)=qW:=⟨_,rfl⟩
 have HX1:=kN hw1
 have HB1:=kB hw1
 have HXP:=kA (hHi hX) HB1
 have HC:=hU (leftOut_any p v w1 (hv.keep HB1.out HB1.out.size (fun _ _ _ h=>h)))
 have HD:Hid (∀W,Below w.heap.size w W→Calls Tryz.prog 95 #[.agg #[.string d.start,.string d.layout,.slice a2 d.prods.length p2,.slice a3 d.chains.length p3,.slice a4 d.follows.length p4,.slice a5 d.rejects.length p5,.slice a6 d.boxes.length p6,.map (some B1),.map (some B2)],.agg #[.bool p.lex,.string p.sort,.string p.cons,.bool p.bracket,v]] W fun e w'=>(∃z:Int,e=.returned (.int .i64 z)∧(80<z↔80<sizeP d p))∧Below W.heap.size W w'):=fun W hb=>ruleSize_any d a2 p2 a3 p3 a4 p4 a5 p5 a6 p6 B1 B2 p v W (hv.keep hb hb.size (fun _ _ _ h=>h)) hz ht
 obtain⟨a1,p1,rfl,_⟩:=hv
 have HLB:Hid (longBad d p=decide (4<omitN p∨80<sizeP d p)):=rfl
 generalize longBad d p=r at HLB ⊢
 generalize omitN p=q at HC HLB
 generalize sizeP d p=sz at HD HLB
 clear hX ht
 obtain⟨d0,d1,d2,d3,d4⟩:=HX1.out.c5
 go_enter Tryz.func93,Tryz.ntmps93
 go_wp2_with fail
 refine hMo HC ?_
 rintro e w2 ⟨rfl,hb2⟩
 have HB2:=hHi (below_tr HB1.out hb2)
 have HX2:=kA HX1 (hHi hb2)
 have HXQ:=kA HXP (hHi hb2)
 clear hb2 HC d0 d1 d2 d3 d4
 obtain⟨d0,d1,d2,d3,d4⟩:=HX2.out.c5
 obtain⟨c0,c1,c2,c3,c4,c5,c6,c7,c8⟩:=HXQ.out.c9
 by_cases h4:4<q
 ·have HR:Hid (r=true):=by show _=_;rw[HLB.out];simp[h4]
  have h4i:(4:Int)<(q:Int):=by omega
  go_wp2
  go_ret
  exact ⟨by rw[HR.out];rfl,HB2.out⟩
 ·have h4i:¬((4:Int)<(q:Int)):=by omega
  have HE:=hU (HD.out w2 HB2.out)
  have HR:Hid (r=decide (80<sz)):=by show _=_;rw[HLB.out];simp[h4]
  go_wp2_with fail
  refine hMo HE ?_
  rintro e w3 ⟨⟨z,rfl,hz80⟩,hb⟩
  have HB3:=hHi (below_tr HB2.out hb)
  have HZ:=hHi hz80
  clear hb HE hz80 d0 d1 d2 d3 d4 c0 c1 c2 c3 c4 c5 c6 c7 c8
  go_wp2
  go_ret
  exact ⟨by rw[HR.out,show decide (80<sz)=(decide ((4:Int)<(q:Int))||decide ((80:Int)<z)) from by rw[decide_eq_false (show ¬((4:Int)<(q:Int)) from by omega),Bool.false_or];exact decide_eq_decide.2 HZ.out.symm];rfl,HB3.out⟩
theorem bracket_any (d:Df) (a2:Option Addr) (p2:Nat) (a3:Option Addr) (p3:Nat) (a4:Option Addr) (p4:Nat) (a5:Option Addr) (p5:Nat) (a6:Option Addr) (p6 B1 B2:Nat) (w:World) (h:LK w d [.string d.start,.string d.layout,.slice a2 d.prods.length p2,.slice a3 d.chains.length p3,.slice a4 d.follows.length p4,.slice a5 d.rejects.length p5,.slice a6 d.boxes.length p6] B1 B2):
  Calls Tryz.prog 43 #[.agg #[.string d.start,.string d.layout,.slice a2 d.prods.length p2,.slice a3 d.chains.length p3,.slice a4 d.follows.length p4,.slice a5 d.rejects.length p5,.slice a6 d.boxes.length p6,.map (some B1),.map (some B2)]] w fun e w'=>Tl e (line d 6)∧Below w.heap.size w w':=by
 obtain⟨w1,hw1⟩:∃qW,w.alloc (.cells #[.string d.start,.string d.layout,.slice a2 d.prods.length p2,.slice a3 d.chains.length p3,.slice a4 d.follows.length p4,.slice a5 d.rejects.length p5,.slice a6 d.boxes.length p6,.map (some B1),.map (some B2)] 75)=qW:=⟨_,rfl⟩
 have HX1:=kN hw1
 have HB1:=kB hw1
 have HLK1:=hHi (h.nx HB1.out)
 have HNM:=hHi h.df.nm
 have HC:=hU (firstProd_any 91 #[] (fun p=>p.bracket&&!brOK p) 46 d a2 p2 a3 p3 a4 p4 a5 p5 a6 p6 (.map (some B1)) (.map (some B2)) w1 (h.df.nx HB1.out) enter91 (fun p v W hp hb hv=>bracketC_any p v W hv (Nat.le_trans (symsN_mem hp) HLK1.out.few)))
 clear h
 go_enter Tryz.func43,Tryz.ntmps43
 obtain⟨c0,c1,c2,c3,c4,c5,c6,c7,c8⟩:=HX1.out.c9
 go_wp2_with fail
 refine hMo HC ?_
 rintro e w2 ⟨⟨cd,s,rfl,hcs⟩,hb⟩
 have HB2:=hHi hb
 have HCS:=hHi hcs
 clear hb hcs HC c0 c1 c2 c3 c4 c5 c6 c7 c8
 go_wp2
 go_ret2
 exact ⟨⟨cd,s,rfl,HCS.out⟩,below_tr HB1.out HB2.out⟩
theorem long_any (d:Df) (a2:Option Addr) (p2:Nat) (a3:Option Addr) (p3:Nat) (a4:Option Addr) (p4:Nat) (a5:Option Addr) (p5:Nat) (a6:Option Addr) (p6 B1 B2:Nat) (w:World) (h:LK w d [.string d.start,.string d.layout,.slice a2 d.prods.length p2,.slice a3 d.chains.length p3,.slice a4 d.follows.length p4,.slice a5 d.rejects.length p5,.slice a6 d.boxes.length p6] B1 B2):
  Calls Tryz.prog 44 #[.agg #[.string d.start,.string d.layout,.slice a2 d.prods.length p2,.slice a3 d.chains.length p3,.slice a4 d.follows.length p4,.slice a5 d.rejects.length p5,.slice a6 d.boxes.length p6,.map (some B1),.map (some B2)]] w fun e w'=>Tl e (line d 7)∧Below w.heap.size w w':=by
 obtain⟨w1,hw1⟩:∃qW,w.alloc (.cells #[.string d.start,.string d.layout,.slice a2 d.prods.length p2,.slice a3 d.chains.length p3,.slice a4 d.follows.length p4,.slice a5 d.rejects.length p5,.slice a6 d.boxes.length p6,.map (some B1),.map (some B2)] 75)=qW:=⟨_,rfl⟩
 have HX1:=kN hw1
 have HB1:=kB hw1
 have HLK1:=hHi (h.nx HB1.out)
 have HNM:=hHi h.df.nm
 have HC:=hU (firstProd_any 93 #[.pointer (some ⟨w.heap.size,0,none⟩)] (longBad d) 2 d a2 p2 a3 p3 a4 p4 a5 p5 a6 p6 (.map (some B1)) (.map (some B2)) w1 (h.df.nx HB1.out) enter93 (fun p v W hp hb hv=>longC_any d a2 p2 a3 p3 a4 p4 a5 p5 a6 p6 B1 B2 p v w.heap.size W (HX1.out.after hb) hv (Nat.le_trans (symsN_mem hp) HLK1.out.few) (HLK1.out.tx p hp)))
 clear h
 go_enter Tryz.func44,Tryz.ntmps44
 obtain⟨c0,c1,c2,c3,c4,c5,c6,c7,c8⟩:=HX1.out.c9
 go_wp2_with fail
 refine hMo HC ?_
 rintro e w2 ⟨⟨cd,s,rfl,hcs⟩,hb⟩
 have HB2:=hHi hb
 have HCS:=hHi hcs
 clear hb hcs HC c0 c1 c2 c3 c4 c5 c6 c7 c8
 go_wp2
 go_ret2
 exact ⟨⟨cd,s,rfl,HCS.out⟩,below_tr HB1.out HB2.out⟩
end Go.Proofs.YtilpgpcgcpedjaaGreat
