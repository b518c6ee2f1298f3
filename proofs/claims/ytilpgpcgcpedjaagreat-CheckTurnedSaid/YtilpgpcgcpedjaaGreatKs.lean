/- Brackets; how many symbols may be left out; how long a rule is. -/
import Derived.Test.YtilpgpcgcpedjaaGreatKr
namespace Go.Proofs.YtilpgpcgcpedjaaGreat
open Go.RowKit
set_option linter.unusedVariables false
set_option linter.unusedSimpArgs false
set_option maxRecDepth 100000
set_option maxHeartbeats 16000000
theorem omitS_snoc (l:List Sy) (x:Sy):((l++[x]).filter omit').length=(l.filter omit').length+if omit' x=true then 1 else 0:=by
 rw[List.filter_append,List.length_append]
 cases h:omit' x<;>simp[h]
theorem leftOut_any (p:Pr) (v:Value) (w:World) (hv:Sl w w.heap.size 8 SyV p.syms v):
  Calls Tryz.prog 94 #[.agg #[.bool p.lex,.string p.sort,.string p.cons,.bool p.bracket,v]] w fun e w'=>e=.returned (.int .i64 (omitN p))∧Below w.heap.size w w':=by
 obtain⟨a1,p1,rfl,hl0,hl1,hr1⟩:=hv
 show Calls _ _ _ _ fun e w'=>e=.returned (.int .i64 ((p.syms.filter omit').length:Nat))∧Below w.heap.size w w'
 obtain⟨L,hL⟩:∃L,p.syms=L:=⟨_,rfl⟩
 rw[hL] at hl0 hl1 hr1 ⊢
 clear hL
 obtain⟨N,hN⟩:∃N,L.length=N:=⟨_,rfl⟩
 have HR1:=hHi hr1
 have HN:=hHi hN
 rw[hN] at hl0 hl1 ⊢
 clear hr1 hN
 obtain⟨w1,hw1⟩:∃qW,w.alloc (.cells #[.bool p.lex,.string p.sort,.string p.cons,.bool p.bracket,.slice a1 N p1] 44)=qW:=⟨_,rfl⟩
 have HX1:=kN hw1
 have HB1:=kB hw1
 obtain⟨d0,d1,d2,d3,d4⟩:=HX1.out.c5
 go_enter Tryz.func94,Tryz.ntmps94
 go_wp2
 go_loopw[3,9] (fun nv iv W=>∃(k c:Nat),k≤N∧c≤k∧nv=.int .i64 c∧iv=.int .i64 k∧((L.take k).filter omit').length=c∧Below w.heap.size w W) (fun _ iv _=>N-(intOf iv).toNat)
 case atStart=>exact ⟨0,0,Nat.zero_le _,Nat.le_refl _,rfl,rfl,rfl,HB1.out⟩
 case round=>
  obtain⟨k,c,hk,hck,rfl,rfl,hc0,hB⟩:=hrel
  have HC0:=hHi hc0
  have HB:=hHi hB
  clear hc0 hB d0 d1 d2 d3 d4
  by_cases hlt:k<N
  case pos=>
   obtain⟨x,hx⟩:∃x,L[k]?=some x:=⟨L[k]'(by rw[HN.out];exact hlt),by simp⟩
   obtain⟨b,o,us,hb,hlb,hus,hc⟩:=HR1.out k x hx
   obtain⟨hok,rfl⟩:=hus
   subst hb
   have HT:Hid (L.take (k+1)=L.take k++[x]):=take_snoc' hx
   have hq_:=hcb HB.out hlb hc
   have s0:=hq_ 0 _ rfl
   have s1:=hq_ 1 _ rfl
   have s2:=hq_ 2 _ rfl
   have s3:=hq_ 3 _ rfl
   have s4:=hq_ 4 _ rfl
   have s5:=hq_ 5 _ rfl
   have s6:=hq_ 6 _ rfl
   have s7:=hq_ 7 _ rfl
   rw[Nat.add_zero] at s0
   have hltI:(k:Int)<N:=by omega
   clear hq_ hc hx hok
   obtain⟨w2,hw2⟩:∃qW,wr.alloc (.cells #[.int .i64 x.kind,.string x.text,.int .u64 x.set.a,.int .u64 x.set.b,.int .u64 x.set.c,.int .u64 x.set.d,.string x.name,.string x.sep] 62)=qW:=⟨_,rfl⟩
   have HN2:=kB hw2
   have HX2:=kN hw2
   have HB2:Hid (Below w.heap.size w w2):=below_tr HB.out HN2.out
   have HK:Hid (((L.take (k+1)).filter omit').length=c+if omit' x=true then 1 else 0):=by show _=_;rw[HT.out,omitS_snoc,HC0.out]
   have HC:=hU (mayOmit_any x w2)
   obtain⟨e0,e1,e2,e3,e4,e5,e6,e7⟩:=c8 HX2.out
   go_wp2_with fail
   refine hMo HC ?_
   rintro e w3 ⟨rfl,hb3⟩
   have HB3:=hHi (below_tr HB2.out hb3)
   clear HC hb3 e0 e1 e2 e3 e4 e5 e6 e7 s0 s1 s2 s3 s4 s5 s6 s7
   cases hom:omit' x
   ·rw[hom,if_neg (by simp),Nat.add_zero] at HK
    clear hom
    go_wp2
    go_roundw
    case rel=>exact ⟨k+1,c,by omega,by omega,rfl,by go_num,HK.out,HB3.out⟩
    case measure=>simp[intOf];omega
   ·rw[hom,if_pos rfl] at HK
    clear hom
    go_wp2
    go_roundw
    case rel=>exact ⟨k+1,c+1,by omega,by omega,by go_num,by go_num,HK.out,HB3.out⟩
    case measure=>simp[intOf];omega
  obtain rfl:k=N:=by omega
  have HE:Hid (((L).filter omit').length=c):=by have h:=HC0.out;rw[List.take_of_length_le (by rw[HN.out];exact Nat.le_refl _)] at h;exact h
  go_wp2
  go_ret
  exact ⟨by rw[HE.out];rfl,HB.out⟩
def litS (l:List Sy):Nat:=((l.filter lit).map fun s=>s.text.size).sum
theorem litS_snoc (l:List Sy) (x:Sy):litS (l++[x])=litS l+if x.kind=1 then x.text.size else 0:=by
 unfold litS
 rw[List.filter_append,List.map_append,List.sum_append]
 by_cases h:x.kind=1
 ·rw[if_pos h]
  simp[lit,h]
 ·rw[if_neg h]
  simp[lit,h]
theorem ruleSize_any (d:Df) (a2:Option Addr) (p2:Nat) (a3:Option Addr) (p3:Nat) (a4:Option Addr) (p4:Nat) (a5:Option Addr) (p5:Nat) (a6:Option Addr) (p6 B1 B2:Nat) (p:Pr) (v:Value) (w:World) (hv:Sl w w.heap.size 8 SyV p.syms v) (hz:p.syms.length≤1000000) (ht:∀s∈p.syms,s.text.size≤1000000):
  Calls Tryz.prog 95 #[.agg #[.string d.start,.string d.layout,.slice a2 d.prods.length p2,.slice a3 d.chains.length p3,.slice a4 d.follows.length p4,.slice a5 d.rejects.length p5,.slice a6 d.boxes.length p6,.map (some B1),.map (some B2)],.agg #[.bool p.lex,.string p.sort,.string p.cons,.bool p.bracket,v]] w fun e w'=>(∃z:Int,e=.returned (.int .i64 z)∧(80<z↔80<sizeP d p))∧Below w.heap.size w w':=by
 obtain⟨w0,hw0⟩:∃qW,w.alloc (.cells #[.string d.start,.string d.layout,.slice a2 d.prods.length p2,.slice a3 d.chains.length p3,.slice a4 d.follows.length p4,.slice a5 d.rejects.length p5,.slice a6 d.boxes.length p6,.map (some B1),.map (some B2)] 75)=qW:=⟨_,rfl⟩
 have HX0:=kN hw0
 have HB0:=kB hw0
 obtain⟨w1,hw1⟩:∃qW,w0.alloc (.cells #[.bool p.lex,.string p.sort,.string p.cons,.bool p.bracket,v] 44)=qW:=⟨_,rfl⟩
 have HX1:=kN hw1
 have HB1:=kB hw1
 have HX01:=kA HX0 HB1
 have HB01:=hHi (below_tr HB0.out HB1.out)
 have hv1:Sl w1 w1.heap.size 8 SyV p.syms v:=hv.keep HB01.out HB01.out.size (fun _ _ _ h=>h)
 have HH:=hU (holes_any p [.bool p.lex,.string p.sort,.string p.cons,.bool p.bracket,v] w1 ⟨v,rfl,hv1⟩ (by omega))
 obtain⟨H,hH⟩:∃H,(holesL p.syms).length=H:=⟨_,rfl⟩
 have hHN:H≤p.syms.length:=by
  rw[←hH,←holesN_eq]
  exact holesN_le _ _
 have hHb:H≤1000000:=by
  rw[←hH,←holesN_eq]
  exact Nat.le_trans (holesN_le _ _) hz
 have HSZ:Hid (sizeP d p=H+litS p.syms+if p.lex=false∧d.layout≠no then p.syms.length-1 else 0):=by show _=_;rw[←hH];rfl
 rw[hH] at HH
 obtain⟨a1,p1,rfl,hl0,hl1,hr1⟩:=hv
 generalize sizeP d p=SZ at HSZ ⊢
 obtain⟨L,hL⟩:∃L,p.syms=L:=⟨_,rfl⟩
 rw[hL] at hl0 hl1 hr1 hz ht HSZ HH hw1 HX1 hHN ⊢
 obtain⟨N,hN⟩:∃N,L.length=N:=⟨_,rfl⟩
 have HR1:=hHi hr1
 have HN:=hHi hN
 have HTX:=hHi ht
 rw[hN] at hl0 hl1 hz HSZ HH hw1 HX1 hHN ⊢
 have HHN:=hHi hHN
 clear hr1 hN ht hv1 hH hL hHN
 go_enter Tryz.func95,Tryz.ntmps95
 obtain⟨d0,d1,d2,d3,d4⟩:=HX1.out.c5
 obtain⟨c0,c1,c2,c3,c4,c5,c6,c7,c8'⟩:=HX01.out.c9
 go_wp2_with fail
 refine hMo HH ?_
 rintro e w2 ⟨⟨ha,hc,rfl,_⟩,hb⟩
 have HB2:=hHi (below_tr HB01.out hb)
 have HX2:=kA HX1 (hHi hb)
 have HX02:=kA HX01 (hHi hb)
 clear hb HH d0 d1 d2 d3 d4 c0 c1 c2 c3 c4 c5 c6 c7 c8'
 obtain⟨d0,d1,d2,d3,d4⟩:=HX2.out.c5
 obtain⟨c0,c1,c2,c3,c4,c5,c6,c7,c8'⟩:=HX02.out.c9
 go_wp2
 go_loopw[5,14] (fun nv iv W=>∃(k c:Nat),k≤N∧c≤H+k*1000000∧nv=.int .i64 c∧iv=.int .i64 k∧H+litS (L.take k)=c∧Below w2.heap.size w2 W) (fun _ iv _=>N-(intOf iv).toNat)
 case atStart=>exact ⟨0,H,Nat.zero_le _,by omega,rfl,rfl,rfl,Below.refl _ _⟩
 case round=>
  obtain⟨k,c,hk,hck,rfl,rfl,hc0,hB'⟩:=hrel
  have hck2:c≤1000001000000:=by omega
  have hk6:k≤1000000:=by omega
  have HC0:=hHi hc0
  have HB':=hHi hB'
  have HB:=hHi (below_tr HB2.out HB'.out)
  clear hc0 hB' d0 d1 d2 d3 d4 c0 c1 c2 c3 c4 c5 c6 c7 c8'
  by_cases hlt:k<N
  case pos=>
   obtain⟨x,hx⟩:∃x,L[k]?=some x:=⟨L[k]'(by rw[HN.out];exact hlt),by simp⟩
   obtain⟨b,o,us,hb,hlb,hus,hc⟩:=HR1.out k x hx
   obtain⟨hok,rfl⟩:=hus
   subst hb
   have HT:Hid (L.take (k+1)=L.take k++[x]):=take_snoc' hx
   have htx:=HTX.out x (List.mem_of_getElem? hx)
   have hq_:=hcb HB.out hlb hc
   have s0:=hq_ 0 _ rfl
   have s1:=hq_ 1 _ rfl
   have s2:=hq_ 2 _ rfl
   have s3:=hq_ 3 _ rfl
   have s4:=hq_ 4 _ rfl
   have s5:=hq_ 5 _ rfl
   have s6:=hq_ 6 _ rfl
   have s7:=hq_ 7 _ rfl
   rw[Nat.add_zero] at s0
   have hltI:(k:Int)<N:=by omega
   clear hq_ hc hx hok
   obtain⟨w3,hw3⟩:∃qW,wr.alloc (.cells #[.int .i64 x.kind,.string x.text,.int .u64 x.set.a,.int .u64 x.set.b,.int .u64 x.set.c,.int .u64 x.set.d,.string x.name,.string x.sep] 62)=qW:=⟨_,rfl⟩
   have HN3:=kB hw3
   have HX3:=kN hw3
   have HB3:Hid (Below w2.heap.size w2 w3):=below_tr HB'.out HN3.out
   have HK:Hid (H+litS (L.take (k+1))=c+if x.kind=1 then x.text.size else 0):=by show _=_;rw[HT.out,litS_snoc];have:=HC0.out;omega
   obtain⟨e0,e1,e2,e3,e4,e5,e6,e7⟩:=c8 HX3.out
   obtain⟨ts,hts⟩:∃n,x.text.size=n:=⟨_,rfl⟩
   obtain⟨kd,hkd⟩:∃z,x.kind=z:=⟨_,rfl⟩
   rw[hkd] at s0 e0 hw3 HK
   rw[hts] at HK htx
   clear hkd HX3
   have hlen:x.text.toList.length=ts:=by rw[←hts,ByteArray.toList_eq];simp
   by_cases hk1:kd=1
   ·rw[if_pos hk1] at HK
    subst hk1
    go_wp2
    go_roundw
    case rel=>exact ⟨k+1,c+ts,by omega,by omega,by go_num,by go_num,HK.out,HB3.out⟩
    case measure=>simp[intOf];omega
   ·rw[if_neg hk1,Nat.add_zero] at HK
    clear hlen
    go_wp2
    go_roundw
    case rel=>exact ⟨k+1,c,by omega,Nat.le_trans hck (Nat.add_le_add_left (Nat.mul_le_mul_right _ (Nat.le_succ k)) H),rfl,by go_num,HK.out,HB3.out⟩
    case measure=>simp[intOf];omega
  obtain rfl:k=N:=by omega
  have HE:Hid (H+litS L=c):=by have h:=HC0.out;rw[List.take_of_length_le (by rw[HN.out];exact Nat.le_refl _)] at h;exact h
  have HX3:=kA HX2 HB'
  have HX03:=kA HX02 HB'
  obtain⟨d0,d1,d2,d3,d4⟩:=HX3.out.c5
  obtain⟨c0,c1,c2,c3,c4,c5,c6,c7,c8'⟩:=HX03.out.c9
  cases hlex:p.lex
  ·rw[hlex] at d0 HSZ
   rcases emp_no d.layout with ⟨hne,hd⟩|⟨hne,hd⟩
   ·have HZ:Hid (SZ=c):=by show _=_;rw[HSZ.out,if_neg (fun h=>h.2 hne),HE.out,Nat.add_zero]
    clear hne
    go_wp2
    go_ret
    exact ⟨⟨c,rfl,by rw[HZ.out];omega⟩,HB.out⟩
   ·have HZ:Hid (SZ=c+(k-1)):=by show _=_;rw[HSZ.out,if_pos ⟨rfl,hne⟩,HE.out]
    clear hne
    go_wp2
    go_ret
    refine ⟨⟨_,rfl,?_⟩,HB.out⟩
    rw[HZ.out]
    have h0:k=0→c=0:=fun h=>by
     have h1:=HHN.out
     have h2:=HE.out
     have h3:L=[]:=List.length_eq_zero_iff.1 (by rw[HN.out];exact h)
     rw[h3] at h2
     simp[litS] at h2
     omega
    omega
  ·rw[hlex] at d0 HSZ
   have HZ:Hid (SZ=c):=by show _=_;rw[HSZ.out,if_neg (fun h=>by cases h.1),HE.out,Nat.add_zero]
   go_wp2
   go_ret
   exact ⟨⟨c,rfl,by rw[HZ.out];omega⟩,HB.out⟩
end Go.Proofs.YtilpgpcgcpedjaaGreat
