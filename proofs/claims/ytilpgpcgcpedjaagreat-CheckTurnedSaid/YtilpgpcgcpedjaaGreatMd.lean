/- Priorities: the line. -/
import Derived.Test.YtilpgpcgcpedjaaGreatMc
namespace Go.Proofs.YtilpgpcgcpedjaaGreat
open Go.RowKit
set_option linter.unusedVariables false
set_option linter.unusedSimpArgs false
set_option maxRecDepth 100000
set_option maxHeartbeats 16000000
def pbad (d:Df) (b:List ByteArray) (s:ByteArray):Bool:=decide (s∈b)||!isCons d s
theorem fw_good {d:Df}:∀{l b:List ByteArray},b.Nodup→(∀s∈b,isCons d s=true)→firstWith (pbad d) b l=none→(b++l).Nodup∧∀s∈b++l,isCons d s=true
 | [],b,h1,h2,_=>by simpa using ⟨h1,h2⟩
 | x::l,b,h1,h2,h=>by
  rw[firstWith] at h
  split at h
  ·cases h
  ·rename_i hx
   simp[pbad] at hx
   have h3:(b++[x]).Nodup:=by
    rw[List.nodup_append]
    refine ⟨h1,by simp,?_⟩
    intro a ha c hc e
    simp at hc
    subst hc
    subst e
    exact hx.1 ha
   have h4:∀s∈b++[x],isCons d s=true:=fun s hs=>by
    rcases List.mem_append.1 hs with hs|hs
    ·exact h2 s hs
    ·simp at hs
     subst hs
     exact hx.2
   have:=fw_good h3 h4 h
   simpa using this
theorem isCons_mem {d:Df} {s:ByteArray} (h:isCons d s=true):s∈d.prods.map consOf:=by
 unfold isCons firstCons at h
 rw[List.findIdx?_isSome,List.any_eq_true] at h
 obtain⟨p,hp,hq⟩:=h
 simp at hq
 exact List.mem_map.2 ⟨p,hp,hq.1⟩
theorem fw_len {d:Df} {l:List ByteArray} (h:firstWith (pbad d) [] l=none):l.length≤d.prods.length:=by
 obtain⟨h1,h2⟩:=fw_good (b:=[]) List.nodup_nil (fun s h=>by cases h) h
 have:=nodup_len l (d.prods.map consOf) (by simpa using h1) (fun s hs=>isCons_mem (h2 s (by simpa using hs)))
 simpa using this
def namesG (c:List Gr):List ByteArray:=c.flatMap (·.cons)
theorem namesG_snoc (c:List Gr) (g:Gr):namesG (c++[g])=namesG c++g.cons:=by simp[namesG]
theorem fs_snoc {α β:Type} {f:α→Option β} {l:List α} {x:α} (hn:l.findSome? f=none) (hf:f x=none):(l++[x]).findSome? f=none:=by
 rw[List.findSome?_append,hn]
 simp[hf]
theorem fs_take {α β:Type} {f:α→Option β} {L:List α} {k:Nat} {x:α} {b:β} (hx:L[k]?=some x) (hn:(L.take k).findSome? f=none) (hf:f x=some b):L.findSome? f=some b:=by
 have e:=(List.take_append_drop k L).symm
 have h2:L.drop k=x::L.drop (k+1):=by
  have h3:=List.getElem?_eq_some_iff.1 hx
  rw[List.drop_eq_getElem_cons h3.1,h3.2]
 rw[e,List.findSome?_append,hn,h2,List.findSome?_cons,hf]
 rfl
theorem fw_mid {α:Type} {f:List α→α→Bool} {A C:List α} {x:α} (hn:firstWith f [] A=none) (hf:f A x=true):firstWith f [] (A++x::C)=some x:=by
 rw[fw_append f A [] (x::C) hn,List.nil_append,firstWith,if_pos hf]
theorem prio_line (d:Df) (a2:Option Addr) (p2:Nat) (a3:Option Addr) (p3:Nat) (a4:Option Addr) (p4:Nat) (a5:Option Addr) (p5:Nat) (a6:Option Addr) (p6 B1 B2:Nat) (w:World) (h:LK w d [.string d.start,.string d.layout,.slice a2 d.prods.length p2,.slice a3 d.chains.length p3,.slice a4 d.follows.length p4,.slice a5 d.rejects.length p5,.slice a6 d.boxes.length p6] B1 B2):
  Calls Tryz.prog 48 #[.agg #[.string d.start,.string d.layout,.slice a2 d.prods.length p2,.slice a3 d.chains.length p3,.slice a4 d.follows.length p4,.slice a5 d.rejects.length p5,.slice a6 d.boxes.length p6,.map (some B1),.map (some B2)]] w fun e w'=>Tl e (line d 11)∧Below w.heap.size w w':=by
 obtain⟨n,hm⟩:=h.m2
 have hmm:=@run_makeMap Tryz.prog
 obtain⟨w1,hw1⟩:∃qW,w.alloc (.cells #[.string d.start,.string d.layout,.slice a2 d.prods.length p2,.slice a3 d.chains.length p3,.slice a4 d.follows.length p4,.slice a5 d.rejects.length p5,.slice a6 d.boxes.length p6,.map (some B1),.map (some B2)] 75)=qW:=⟨_,rfl⟩
 have HX1:=kN hw1
 have HB1:=kB hw1
 have HM:=hHi hm
 have HIC:Hid (∀s,s.size≤maxLen→∀W,Below w.heap.size w W→Calls Tryz.prog 101 #[.agg #[.string d.start,.string d.layout,.slice a2 d.prods.length p2,.slice a3 d.chains.length p3,.slice a4 d.follows.length p4,.slice a5 d.rejects.length p5,.slice a6 d.boxes.length p6,.map (some B1),.map (some B2)],.string s] W fun e w'=>e=.returned (.bool (isCons d s))∧Below W.heap.size W w'):=fun s hs W hb=>isCons_any d _ _ _ _ _ _ _ _ B2 n s W (Mp.below HM (hHi hb)).out hs
 have HR1:Hid (Row w w.heap.size 1 (ChV w w.heap.size) a3 d.chains):=by
  obtain⟨b2,q2,b3,q3,b4,q4,b5,q5,b6,q6,e,_,r3,_⟩:=h.df.form
  simp only[List.cons.injEq,Value.slice.injEq] at e
  obtain⟨_,_,_,⟨rfl,_,_⟩,_⟩:=e
  exact r3
 have HNM:=hHi h.df.nm.chains
 have hcl:=h.cl
 have HPL:Hid (∀l,firstWith (pbad d) [] l=none→l.length≤140737488355328):=fun l hl=>by
  obtain⟨g,hg⟩:=h.df.sz
  have:=hg.p
  have:=fw_len hl
  omega
 have HLN:Hid (line d 11=tell 50 (d.chains.findSome? fun c=>firstWith (pbad d) [] (namesG c))):=rfl
 generalize line d 11=ln at HLN ⊢
 clear h hm HM
 obtain⟨L,hL⟩:∃L,d.chains=L:=⟨_,rfl⟩
 rw[hL] at HR1 HLN HX1 hw1 HIC HNM hcl ⊢
 clear hL
 obtain⟨N,hN⟩:∃N,L.length=N:=⟨_,rfl⟩
 rw[hN] at HX1 hw1 HIC hcl ⊢
 have HN:=hHi hN
 clear hN
 go_enter Tryz.func48,Tryz.ntmps48
 obtain⟨c0,c1,c2,c3,c4,c5,c6,c7,c8⟩:=HX1.out.c9
 go_wp2
 go_loopw[15] (fun iv W=>∃(k:Nat),k≤N∧iv=.int .i64 k∧(L.take k).findSome? (fun c=>firstWith (pbad d) [] (namesG c))=none∧Below w1.heap.size w1 W) (fun iv _=>N-(intOf iv).toNat)
 case atStart=>exact ⟨0,Nat.zero_le _,rfl,rfl,Below.refl _ _⟩
 case round=>
  obtain⟨k,hk,rfl,hf,hB'⟩:=hrel
  have HFN:=hHi hf
  have HB':=hHi hB'
  have HB:=hHi (below_tr HB1.out hB')
  clear hf hB' c0 c1 c2 c3 c4 c5 c6 c7 c8
  by_cases hlt:k<N
  case pos=>
   obtain⟨c,hx⟩:∃x,L[k]?=some x:=⟨L[k]'(by rw[HN.out];exact hlt),by simp⟩
   obtain⟨b,o,us,hb,hlb,hus,hc⟩:=HR1.out k c hx
   obtain⟨v,rfl,ac,pc,rfl,_,hcl2,hrc⟩:=hus
   subst hb
   have HRC:=hHi hrc
   have s0:=hcb HB.out hlb hc 0 _ rfl
   rw[Nat.mul_one,Nat.add_zero] at s0
   have hltI:(k:Int)<N:=by omega
   have HX:=hHi hx
   have HNC:=hHi (HNM.out c (List.mem_of_getElem? hx))
   obtain⟨NC,hNC⟩:∃n,c.length=n:=⟨_,rfl⟩
   rw[hNC] at s0 hcl2
   have HNN:=hHi hNC
   clear hc hx hrc hNC
   obtain⟨w2,hw2⟩:∃qW,wr.alloc (.map #[] 0)=qW:=⟨_,rfl⟩
   have HM2:Hid (Mp w2 wr.heap.size 0 (metF [])):=by
    have e:metF []=fun _=>none:=(by funext s;simp[metF])
    show Mp _ _ _ _
    rw[←hw2,e]
    exact Mp.made wr
   have HN2:=kB hw2
   have HB2:=hHi (below_tr HB'.out HN2.out)
   obtain⟨BM,hBM⟩:∃B,wr.heap.size=B:=⟨_,rfl⟩
   have HBM:Hid (w1.heap.size≤BM):=by show _≤_;rw[←hBM];exact HB'.out.size
   rw[hBM] at HM2
   go_wp2
   go_loopw[22] (fun iv W=>∃(j:Nat),j≤NC∧iv=.int .i64 j∧Mp W BM (namesG (c.take j)).length (metF (namesG (c.take j)))∧firstWith (pbad d) [] (namesG (c.take j))=none∧Below w1.heap.size w1 W) (fun iv _=>NC-(intOf iv).toNat)
   case atStart=>exact ⟨0,Nat.zero_le _,rfl,HM2.out,rfl,HB2.out⟩
   case round=>
    obtain⟨j,hj,rfl,hM,hf,hB'⟩:=hrel
    have HM3:=hHi hM
    have HF3:=hHi hf
    have HB3':=hHi hB'
    have HB3:=hHi (below_tr HB1.out hB')
    clear hf hB' hM s0
    by_cases hlj:j<NC
    case pos=>
     obtain⟨g,hx⟩:∃x,c[j]?=some x:=⟨c[j]'(by rw[HNN.out];exact hlj),by simp⟩
     obtain⟨b2,o2,us,hb,hlb2,hus,hc⟩:=HRC.out j g hx
     obtain⟨v,rfl,ag,pg,rfl,_,hgl2,hrg⟩:=hus
     subst hb
     have HRG:=hHi hrg
     have hq_:=hcb HB3.out hlb2 hc
     have s0:=hq_ 0 _ rfl
     have s1:=hq_ 1 _ rfl
     rw[Nat.add_zero] at s0
     have hlj2:(j:Int)<NC:=by omega
     have HXG:=hHi hx
     have HNG:=hHi (HNC.out g (List.mem_of_getElem? hx))
     obtain⟨NG,hNG⟩:∃n,g.cons.length=n:=⟨_,rfl⟩
     rw[hNG] at s1 hgl2
     have HNNG:=hHi hNG
     have HTG:Hid (namesG (c.take (j+1))=namesG (c.take j)++g.cons):=by show _=_;rw[take_snoc' hx,namesG_snoc]
     obtain⟨A,hA⟩:∃A,namesG (c.take j)=A:=⟨_,rfl⟩
     rw[hA] at HM3 HF3 HTG
     clear hq_ hc hx hrg hNG hA
     obtain⟨w3,hw3⟩:∃qW,wr.alloc (.cells #[.int .i64 g.assoc,.slice ag NG pg] 68)=qW:=⟨_,rfl⟩
     have HN3:=kB hw3
     have HX3:=kN hw3
     have HM3':=Mp.below HM3 HN3
     have HB4:=hHi (below_tr HB3'.out HN3.out)
     obtain⟨e0,e1⟩:=HX3.out.c2
     go_wp2
     go_loopw[29] (fun iv W=>∃(i:Nat),i≤NG∧iv=.int .i64 i∧Mp W BM (A++g.cons.take i).length (metF (A++g.cons.take i))∧firstWith (pbad d) [] (A++g.cons.take i)=none∧Below w1.heap.size w1 W) (fun iv _=>NG-(intOf iv).toNat)
     case atStart=>exact ⟨0,Nat.zero_le _,rfl,by simpa using HM3'.out,by simpa using HF3.out,HB4.out⟩
     case round=>
      obtain⟨i,hi,rfl,hM,hf,hB'⟩:=hrel
      have HM5:=hHi hM
      have HF5:=hHi hf
      have HB5':=hHi hB'
      have HB5:=hHi (below_tr HB1.out hB')
      clear hf hB' hM s0 s1 e0 e1
      by_cases hli:i<NG
      case pos=>
       obtain⟨x,hx⟩:∃x,g.cons[i]?=some x:=⟨g.cons[i]'(by rw[HNNG.out];exact hli),by simp⟩
       obtain⟨b3,o3,us,hb,hlb3,hus,hc⟩:=HRG.out i x hx
       obtain rfl:=hus
       subst hb
       have s0:=hcb HB5.out hlb3 hc 0 _ rfl
       rw[Nat.mul_one,Nat.add_zero] at s0
       have hli2:(i:Int)<NG:=by omega
       have hsz:=HNG.out x (List.mem_of_getElem? hx)
       have HT:Hid (A++g.cons.take (i+1)=(A++g.cons.take i)++[x]):=by show _=_;rw[take_snoc' hx];simp
       have HDR:Hid (A++g.cons=(A++g.cons.take i)++x::g.cons.drop (i+1)):=by
        have h3:=List.getElem?_eq_some_iff.1 hx
        have h4:g.cons.drop i=x::g.cons.drop (i+1):=by rw[List.drop_eq_getElem_cons h3.1,h3.2]
        show _=_
        rw[List.append_assoc,←h4,List.take_append_drop]
       have hab:=HPL.out _ HF5.out
       obtain⟨Y,hY⟩:∃Y,A++g.cons.take i=Y:=⟨_,rfl⟩
       rw[hY] at HM5 HF5 HT HDR hab
       have hlk:=HM5.out.look Tryz.underlying72 (zero3 wr) hsz
       rw[metF_get] at hlk
       obtain⟨ym,hym⟩:∃n,Y.length=n:=⟨_,rfl⟩
       have HYM:=hHi hym
       rw[hym] at HM5 hab
       clear hc hx hY hym
       have HFW:Hid (pbad d Y x=true→L.findSome? (fun c=>firstWith (pbad d) [] (namesG c))=some x):=fun hbad=>by
        refine fs_take HX.out HFN.out ?_
        have e:namesG c=(Y++x::g.cons.drop (i+1))++namesG (c.drop (j+1)):=by
         rw[←HDR.out,←HTG.out]
         unfold namesG
         rw[←List.flatMap_append,List.take_append_drop]
        show firstWith (pbad d) [] (namesG c)=some x
        rw[e,List.append_assoc,List.cons_append]
        exact fw_mid HF5.out hbad
       by_cases hm:x∈Y
       ·rw[if_pos hm] at hlk
        have HFS:=hHi (HFW.out (by simp[pbad,hm]))
        clear hm HFW
        go_wp2_with (first | (at_mapUpdate;refine wpList_mapUpdate_mp rfl _ _ _ 72 rfl 3 Tryz.underlying72 HM5 rfl (by have:=hab;unfold maxLen;omega) x (.int .i64 2) rfl rfl hsz ?_) | go_in)
        intro w4 HM6 HG6
        have HB6:Hid (Below w1.heap.size w1 w4):=HB5'.out.trans (belG HG6.out HBM.out HB5'.out.size)
        have HBB6:=hHi (below_tr HB1.out HB6.out)
        have HX6:=kA HX1 HB6
        have hl2:=HM6.out.look Tryz.underlying72 (zero3 w4) hsz
        rw[upd_same,Option.getD_some] at hl2
        clear s0 hlk
        obtain⟨c0,c1,c2,c3,c4,c5,c6,c7,c8⟩:=HX6.out.c9
        go_wp2
        go_ret2
        exact ⟨⟨50,x,rfl,by rw[HLN.out,HFS.out];rfl⟩,HBB6.out⟩
       ·rw[if_neg hm] at hlk
        have HNM':=hHi hm
        clear hm
        go_wp2_with (first | (at_mapUpdate;refine wpList_mapUpdate_mp rfl _ _ _ 72 rfl 3 Tryz.underlying72 HM5 rfl (by have:=hab;unfold maxLen;omega) x (.int .i64 1) rfl rfl hsz ?_) | go_in)
        intro w4 HM6 HG6
        have HB6:Hid (Below w1.heap.size w1 w4):=HB5'.out.trans (belG HG6.out HBM.out HB5'.out.size)
        have HBB6:=hHi (below_tr HB1.out HB6.out)
        have HX6:=kA HX1 HB6
        have hl2:=HM6.out.look Tryz.underlying72 (zero3 w4) hsz
        rw[upd_same,Option.getD_some] at hl2
        clear s0 hlk
        obtain⟨c0,c1,c2,c3,c4,c5,c6,c7,c8⟩:=HX6.out.c9
        have HC:=hU (HIC.out x hsz w4 HBB6.out)
        obtain⟨ic,hic⟩:∃q,isCons d x=q:=⟨_,rfl⟩
        rw[hic] at HC
        have HI:=hHi hic
        clear hic
        go_wp2_with fail
        refine hMo HC ?_
        rintro e w5 ⟨rfl,hb⟩
        have HM7:=Mp.below HM6 (hHi hb)
        have HB7:=hHi (below_tr HB6.out hb)
        have HBB7:=hHi (below_tr HBB6.out hb)
        clear hb HC c0 c1 c2 c3 c4 c5 c6 c7 c8 hl2
        cases ic
        ·have HFS:=hHi (HFW.out (by simp[pbad,HI.out]))
         go_wp2
         go_ret2
         exact ⟨⟨50,x,rfl,by rw[HLN.out,HFS.out];rfl⟩,HBB7.out⟩
        ·have HFX:Hid (firstWith (pbad d) [] (A++g.cons.take (i+1))=none):=by show _=_;rw[HT.out];exact fw_snoc HF5.out (by simp[pbad,HI.out,HNM'.out])
         have HMX:Hid (Mp w5 BM (A++g.cons.take (i+1)).length (metF (A++g.cons.take (i+1)))):=by show Mp _ _ _ _;rw[HT.out,metF_snoc,List.length_append,HYM.out];exact HM7.out
         clear HFW
         go_wp2
         go_roundw
         case rel=>exact ⟨i+1,by omega,by go_num,HMX.out,HFX.out,HB7.out⟩
         case measure=>simp[intOf];omega
      obtain rfl:i=NG:=by omega
      have HTI:Hid (A++g.cons.take i=namesG (c.take (j+1))):=by show _=_;rw[HTG.out,List.take_of_length_le (by rw[HNNG.out];exact Nat.le_refl _)]
      rw[HTI.out] at HM5 HF5
      go_wp2
      go_roundw
      case rel=>exact ⟨j+1,by omega,by go_num,HM5.out,HF5.out,HB5'.out⟩
      case measure=>simp[intOf];omega
    obtain rfl:j=NC:=by omega
    have HTI:Hid (c.take j=c):=by show _=_;rw[List.take_of_length_le (by rw[HNN.out];exact Nat.le_refl _)]
    rw[HTI.out] at HF3
    have HNX:Hid ((L.take (k+1)).findSome? (fun c=>firstWith (pbad d) [] (namesG c))=none):=by show _=_;rw[take_snoc' HX.out];exact fs_snoc HFN.out HF3.out
    go_wp2
    go_roundw
    case rel=>exact ⟨k+1,by omega,by go_num,HNX.out,HB3'.out⟩
    case measure=>simp[intOf];omega
  obtain rfl:k=N:=by omega
  have HNX:Hid (L.findSome? (fun c=>firstWith (pbad d) [] (namesG c))=none):=by have h:=HFN.out;rw[List.take_of_length_le (by rw[HN.out];exact Nat.le_refl _)] at h;exact h
  go_wp2
  go_ret2
  exact ⟨⟨0,no,rfl,by rw[HLN.out,HNX.out];rfl⟩,HB.out⟩
end Go.Proofs.YtilpgpcgcpedjaaGreat
