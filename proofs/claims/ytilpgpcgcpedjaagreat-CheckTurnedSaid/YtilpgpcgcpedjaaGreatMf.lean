/- Rejects: the line. -/
import Derived.Test.YtilpgpcgcpedjaaGreatMe
namespace Go.Proofs.YtilpgpcgcpedjaaGreat
open Go.RowKit
set_option linter.unusedVariables false
set_option linter.unusedSimpArgs false
set_option maxRecDepth 100000
set_option maxHeartbeats 16000000
def rS (l:List Re):List ByteArray:=l.map (·.sort)
def fS (l:List Fo):List ByteArray:=l.map (·.sort)
theorem rS_snoc (l:List Re) (x:Re):rS (l++[x])=rS l++[x.sort]:=by simp[rS]
theorem fS_snoc (l:List Fo) (x:Fo):fS (l++[x])=fS l++[x.sort]:=by simp[fS]
theorem said_mem (d:Df) (s:ByteArray):said d s=true↔s∈rS d.rejects++fS d.follows:=by
 unfold said rS fS
 simp
theorem meets_eq (d:Df) (s:ByteArray):meets d s=meetB d.prods (rS d.rejects++fS d.follows) s:=by
 rw[Bool.eq_iff_iff]
 unfold meets meetB usesB
 simp only[Bool.or_eq_true,decide_eq_true_eq,farB_iff,said_mem]
noncomputable def rbad (SL:List Pr) (A:List ByteArray) (b:List Re) (r:Re):Bool:=!lexd SL r.sort||!lexd SL r.by'||decide (r.sort=r.by')||b.any (fun q=>decide (q.sort=r.sort))||meetB SL A r.by'
theorem any_cnt (b:List Re) (s:ByteArray):b.any (fun q=>decide (q.sort=s))=decide (cntN (rS b) s≠0):=by
 rw[Bool.eq_iff_iff]
 simp only[List.any_eq_true,decide_eq_true_eq,ne_eq,cntN_zero,Classical.not_not]
 unfold rS
 simp[List.mem_map]
theorem reject_line (d:Df) (a2:Option Addr) (p2:Nat) (a3:Option Addr) (p3:Nat) (a4:Option Addr) (p4:Nat) (a5:Option Addr) (p5:Nat) (a6:Option Addr) (p6 B1 B2:Nat) (w:World) (h:LK w d [.string d.start,.string d.layout,.slice a2 d.prods.length p2,.slice a3 d.chains.length p3,.slice a4 d.follows.length p4,.slice a5 d.rejects.length p5,.slice a6 d.boxes.length p6] B1 B2):
  Calls Tryz.prog 47 #[.agg #[.string d.start,.string d.layout,.slice a2 d.prods.length p2,.slice a3 d.chains.length p3,.slice a4 d.follows.length p4,.slice a5 d.rejects.length p5,.slice a6 d.boxes.length p6,.map (some B1),.map (some B2)]] w fun e w'=>Tl e (line d 10)∧Below w.heap.size w w':=by
 obtain⟨n,hm⟩:=h.m1
 have hmm:=@run_makeMap Tryz.prog
 obtain⟨w1,hw1⟩:∃qW,w.alloc (.cells #[.string d.start,.string d.layout,.slice a2 d.prods.length p2,.slice a3 d.chains.length p3,.slice a4 d.follows.length p4,.slice a5 d.rejects.length p5,.slice a6 d.boxes.length p6,.map (some B1),.map (some B2)] 75)=qW:=⟨_,rfl⟩
 have HX1:=kN hw1
 have HB1:=kB hw1
 have HM:=hHi hm
 have HIL:Hid (∀s,s.size≤maxLen→∀W,Below w.heap.size w W→Calls Tryz.prog 85 #[.agg #[.string d.start,.string d.layout,.slice a2 d.prods.length p2,.slice a3 d.chains.length p3,.slice a4 d.follows.length p4,.slice a5 d.rejects.length p5,.slice a6 d.boxes.length p6,.map (some B1),.map (some B2)],.string s] W fun e w'=>e=.returned (.bool (lexd d.prods s))∧Below W.heap.size W w'):=fun s hs W hb=>isLex_any d _ _ _ _ _ _ _ _ B1 n s W (Mp.below HM (hHi hb)).out hs
 have HRW:Hid (Row w w.heap.size 5 FoV a4 d.follows∧Row w w.heap.size 2 ReV a5 d.rejects):=by
  obtain⟨b2,q2,b3,q3,b4,q4,b5,q5,b6,q6,e,r2,_,r4,r5,_⟩:=h.df.form
  simp only[List.cons.injEq,Value.slice.injEq] at e
  obtain⟨_,_,⟨rfl,_,_⟩,_,⟨rfl,_,_⟩,⟨rfl,_,_⟩,_⟩:=e
  exact ⟨r4,r5⟩
 have HST:Hid (∀W,Below w.heap.size w W→Calls Tryz.prog 64 #[.agg #[.string d.start,.string d.layout,.slice a2 d.prods.length p2,.slice a3 d.chains.length p3,.slice a4 d.follows.length p4,.slice a5 d.rejects.length p5,.slice a6 d.boxes.length p6],.func (.func 65) #[] #[]] W fun e w'=>(∃B m lo f,e=.returned (.map (some B))∧SP w' lo B m (leadsAll leadsN d.prods) f∧W.heap.size≤B∧W.heap.size≤lo)∧Below W.heap.size W w'):=fun W hb=>by
  obtain⟨b2,q2,b3,q3,b4,q4,b5,q5,b6,q6,e,r2,_⟩:=(h.df.nx hb).form
  simp only[List.cons.injEq,Value.slice.injEq] at e
  obtain⟨_,_,⟨rfl,_,_⟩,_⟩:=e
  obtain⟨g,hg⟩:=h.df.sz
  exact steps_any 65 leadsN leadsN_len d a2 p2 _ _ _ _ W r2 hg.p hg.ps h.few h.df.nm.prods enter65 (fun p vs W hp hz=>named_any p vs W hp hz)
 have HMT:Hid (∀s lo0 B0 m0 BS ns f W,SP W lo0 B0 m0 (leadsAll leadsN d.prods) f→Mp W BS ns (cntL (rS d.rejects++fS d.follows))→s.size≤maxLen→Calls Tryz.prog 100 #[.map (some B0),.string s,.map (some BS)] W fun e w'=>e=.returned (.bool (meetB d.prods (rS d.rejects++fS d.follows) s))∧Below W.heap.size W w'):=fun s lo0 B0 m0 BS ns f W h1 h2 h3=>meets_any d.prods _ s W lo0 B0 m0 BS ns f h1 h2 h.few h3 (fun a b hh=>leadsN_size h.df.nm hh)
 have HNR:=hHi h.df.nm.rejects
 have HNF:=hHi h.df.nm.follows
 have hfl:=h.fl
 have hrl:=h.rl
 have HLN:Hid (line d 10=tell 49 ((firstWith (rbad d.prods (rS d.rejects++fS d.follows)) [] d.rejects).map (·.sort))):=by
  have e:rejBad d=rbad d.prods (rS d.rejects++fS d.follows):=by
   funext b r
   unfold rejBad rbad
   rw[meets_eq]
  show tell 49 ((firstWith (rejBad d) [] d.rejects).map (·.sort))=_
  rw[e]
 generalize line d 10=ln at HLN ⊢
 clear h hm HM
 generalize d.prods=SL at HIL HMT HLN HST HX1 hw1 ⊢
 obtain⟨NP,hNP⟩:∃q,SL.length=q:=⟨_,rfl⟩
 rw[hNP] at HX1 hw1 HIL HST ⊢
 clear hNP
 obtain⟨LF,hLF⟩:∃L,d.follows=L:=⟨_,rfl⟩
 obtain⟨LR,hLR⟩:∃L,d.rejects=L:=⟨_,rfl⟩
 rw[hLF,hLR] at HRW HX1 hw1 HIL HLN HST HMT ⊢
 rw[hLF] at hfl HNF
 rw[hLR] at hrl HNR
 clear hLF hLR
 obtain⟨NF,hNF⟩:∃N,LF.length=N:=⟨_,rfl⟩
 obtain⟨NR,hNR⟩:∃N,LR.length=N:=⟨_,rfl⟩
 rw[hNF,hNR] at HX1 hw1 HIL HST ⊢
 rw[hNF] at hfl
 rw[hNR] at hrl
 have HLF:=hHi hNF
 have HLR:=hHi hNR
 clear hNF hNR
 obtain⟨A,hA⟩:∃A,rS LR++fS LF=A:=⟨_,rfl⟩
 rw[hA] at HMT HLN
 have HAA:=hHi hA
 clear hA
 go_enter Tryz.func47,Tryz.ntmps47
 obtain⟨w2,hw2⟩:∃qW,w1.alloc (.map #[] 0)=qW:=⟨_,rfl⟩
 have HM2:Hid (Mp w2 w1.heap.size 0 (cntL [])):=by
  have e:cntL []=fun _=>none:=(by funext s;simp[cntL])
  show Mp _ _ _ _
  rw[←hw2,e]
  exact Mp.made w1
 have HN2:=kB hw2
 have HX2:=kA HX1 HN2
 have HB12:=hHi (below_tr HB1.out HN2.out)
 obtain⟨BS,hBS⟩:∃B,w1.heap.size=B:=⟨_,rfl⟩
 have HBS:Hid (w1.heap.size≤BS):=by show _≤_;rw[hBS];exact Nat.le_refl _
 rw[hBS] at HM2
 obtain⟨c0,c1,c2,c3,c4,c5,c6,c7,c8⟩:=HX2.out.c9
 go_wp2
 go_loopw[18] (fun iv W=>∃(k n:Nat),k≤NR∧n≤k∧iv=.int .i64 k∧Mp W BS n (cntL (rS (LR.take k)))∧Below w1.heap.size w1 W) (fun iv _=>NR-(intOf iv).toNat)
 case atStart=>exact ⟨0,0,Nat.zero_le _,Nat.le_refl _,rfl,HM2.out,HN2.out⟩
 case round=>
  obtain⟨k,m,hk,hmk,rfl,hM,hB'⟩:=hrel
  have HMk:=hHi hM
  have HB':=hHi hB'
  have HB:=hHi (below_tr HB1.out hB')
  clear hM hB' c0 c1 c2 c3 c4 c5 c6 c7 c8
  by_cases hlt:k<NR
  case pos=>
   obtain⟨x,hx⟩:∃x,LR[k]?=some x:=⟨LR[k]'(by rw[HLR.out];exact hlt),by simp⟩
   obtain⟨b,o,us,hb,hlb,hus,hc⟩:=HRW.out.2 k x hx
   obtain rfl:=hus
   subst hb
   have hq_:=hcb HB.out hlb hc
   have s0:=hq_ 0 _ rfl
   have s1:=hq_ 1 _ rfl
   rw[Nat.add_zero] at s0
   have hltI:(k:Int)<NR:=by omega
   have hsz:=(HNR.out x (List.mem_of_getElem? hx)).1
   have HT:Hid (rS (LR.take (k+1))=rS (LR.take k)++[x.sort]):=by show _=_;rw[take_snoc' hx,rS_snoc]
   have hcb:cntN (rS (LR.take k)) x.sort≤1000000:=Nat.le_trans (cntN_le _ _) (by unfold rS;rw[List.length_map,List.length_take];omega)
   clear hq_ hc hx
   obtain⟨w3,hw3⟩:∃qW,wr.alloc (.cells #[.string x.sort,.string x.by'] 56)=qW:=⟨_,rfl⟩
   have HN3:=kB hw3
   have HX3:=kN hw3
   have HM3:=Mp.below HMk HN3
   have HB3:Hid (Below w1.heap.size w1 w3):=below_tr HB'.out HN3.out
   have hlk:=HM3.out.look Tryz.underlying72 (zero3 w3) hsz
   rw[cntL_get] at hlk
   have HKS:=hHi (cntL_snoc (rS (LR.take k)) x.sort)
   rw[←HT.out] at HKS
   generalize cntN (rS (LR.take k)) x.sort=c at hlk HKS hcb
   obtain⟨e0,e1⟩:=HX3.out.c2
   go_wp2_with (first | (at_mapUpdate;refine wpList_mapUpdate_mp rfl _ _ _ 72 rfl 3 Tryz.underlying72 HM3 rfl (by unfold maxLen;omega) x.sort (.int .i64 ((c:Int)+1)) rfl rfl hsz ?_) | go_in)
   intro w4 HM4 HG4
   have HB4:Hid (Below w1.heap.size w1 w4):=HB3.out.trans (belG HG4.out HBS.out HB3.out.size)
   rw[←HKS.out] at HM4
   clear s0 s1 e0 e1 hlk
   go_wp2
   go_roundw
   case rel=>exact ⟨k+1,m+1,by omega,by omega,by go_num,HM4.out,HB4.out⟩
   case measure=>simp[intOf];omega
  obtain rfl:k=NR:=by omega
  have E1:Hid (rS (LR.take k)=rS LR):=by show _=_;rw[List.take_of_length_le (by rw[HLR.out];exact Nat.le_refl _)]
  rw[E1.out] at HMk
  have HXL:=kA HX1 HB'
  obtain⟨c0,c1,c2,c3,c4,c5,c6,c7,c8⟩:=HXL.out.c9
  clear hlt E1
  have hmk1:m≤1000000:=by omega
  go_wp2
  go_loopw[32] (fun iv W=>∃(k n:Nat),k≤NF∧n≤m+k∧iv=.int .i64 k∧Mp W BS n (cntL (rS LR++fS (LF.take k)))∧Below w1.heap.size w1 W) (fun iv _=>NF-(intOf iv).toNat)
  case atStart=>exact ⟨0,m,Nat.zero_le _,Nat.le_refl _,rfl,by simpa [fS] using HMk.out,HB'.out⟩
  case round=>
   obtain⟨k2,m2,hk2,hmk2,rfl,hM,hB'⟩:=hrel
   have HMk2:=hHi hM
   have HB2':=hHi hB'
   have HB2:=hHi (below_tr HB1.out hB')
   clear hM hB' c0 c1 c2 c3 c4 c5 c6 c7 c8
   by_cases hlt:k2<NF
   case pos=>
    obtain⟨x,hx⟩:∃x,LF[k2]?=some x:=⟨LF[k2]'(by rw[HLF.out];exact hlt),by simp⟩
    obtain⟨b,o,us,hb,hlb,hus,hc⟩:=HRW.out.1 k2 x hx
    obtain⟨hok,rfl⟩:=hus
    subst hb
    have hq_:=hcb HB2.out hlb hc
    have s0:=hq_ 0 _ rfl
    have s1:=hq_ 1 _ rfl
    have s2:=hq_ 2 _ rfl
    have s3:=hq_ 3 _ rfl
    have s4:=hq_ 4 _ rfl
    rw[Nat.add_zero] at s0
    have hltI:(k2:Int)<NF:=by omega
    have hsz:=HNF.out x (List.mem_of_getElem? hx)
    have HT:Hid (rS LR++fS (LF.take (k2+1))=(rS LR++fS (LF.take k2))++[x.sort]):=by show _=_;rw[take_snoc' hx,fS_snoc,List.append_assoc]
    have hcb:cntN (rS LR++fS (LF.take k2)) x.sort≤2000000:=Nat.le_trans (cntN_le _ _) (by unfold rS fS;rw[List.length_append,List.length_map,List.length_map,List.length_take,HLR.out];omega)
    clear hq_ hc hx hok
    obtain⟨w3,hw3⟩:∃qW,wr.alloc (.cells #[.string x.sort,.int .u64 x.set.a,.int .u64 x.set.b,.int .u64 x.set.c,.int .u64 x.set.d] 54)=qW:=⟨_,rfl⟩
    have HN3:=kB hw3
    have HX3:=kN hw3
    have HM3:=Mp.below HMk2 HN3
    have HB3:Hid (Below w1.heap.size w1 w3):=below_tr HB2'.out HN3.out
    have hlk:=HM3.out.look Tryz.underlying72 (zero3 w3) hsz
    rw[cntL_get] at hlk
    have HKS:=hHi (cntL_snoc (rS LR++fS (LF.take k2)) x.sort)
    rw[←HT.out] at HKS
    generalize cntN (rS LR++fS (LF.take k2)) x.sort=c at hlk HKS hcb
    obtain⟨e0,e1,e2,e3,e4⟩:=HX3.out.c5
    go_wp2_with (first | (at_mapUpdate;refine wpList_mapUpdate_mp rfl _ _ _ 72 rfl 3 Tryz.underlying72 HM3 rfl (by unfold maxLen;omega) x.sort (.int .i64 ((c:Int)+1)) rfl rfl hsz ?_) | go_in)
    intro w4 HM4 HG4
    have HB4:Hid (Below w1.heap.size w1 w4):=HB3.out.trans (belG HG4.out HBS.out HB3.out.size)
    rw[←HKS.out] at HM4
    clear s0 s1 s2 s3 s4 e0 e1 e2 e3 e4 hlk
    go_wp2
    go_roundw
    case rel=>exact ⟨k2+1,m2+1,by omega,by omega,by go_num,HM4.out,HB4.out⟩
    case measure=>simp[intOf];omega
   obtain rfl:k2=NF:=by omega
   have E2:Hid (rS LR++fS (LF.take k2)=A):=by show _=_;rw[List.take_of_length_le (by rw[HLF.out];exact Nat.le_refl _),HAA.out]
   rw[E2.out] at HMk2
   have HXL2:=kA HX1 HB2'
   obtain⟨c0,c1,c2,c3,c4,c5,c6,c7,c8⟩:=HXL2.out.c9
   have HC:=hU (HST.out _ HB2.out)
   clear hlt E2
   go_wp2_with fail
   refine hMo HC ?_
   rintro e wa ⟨⟨BT,mt,lot,ft,rfl,hSP,_,_⟩,hb⟩
   have HSP:=hHi hSP
   have HMA:=Mp.below HMk2 (hHi hb)
   have HXA:=kA HXL2 (hHi hb)
   have HBA:=hHi (below_tr HB2.out hb)
   clear hSP hb HC c0 c1 c2 c3 c4 c5 c6 c7 c8
   obtain⟨wb,hwb⟩:∃qW,wa.alloc (.map #[] 0)=qW:=⟨_,rfl⟩
   have HMb:Hid (Mp wb wa.heap.size 0 (cntL [])):=by
    have e:cntL []=fun _=>none:=(by funext s;simp[cntL])
    show Mp _ _ _ _
    rw[←hwb,e]
    exact Mp.made wa
   have HNb:=kB hwb
   have HXb:=kA HXA HNb
   obtain⟨BA,hBA⟩:∃B,wa.heap.size=B:=⟨_,rfl⟩
   have HBA2:Hid (wa.heap.size≤BA):=by show _≤_;rw[hBA];exact Nat.le_refl _
   rw[hBA] at HMb
   obtain⟨c0,c1,c2,c3,c4,c5,c6,c7,c8⟩:=HXb.out.c9
   go_wp2
   go_loopw[50] (fun iv W=>∃(k3:Nat),k3≤k∧iv=.int .i64 k3∧Mp W BA k3 (cntL (rS (LR.take k3)))∧firstWith (rbad SL A) [] (LR.take k3)=none∧Below wa.heap.size wa W) (fun iv _=>k-(intOf iv).toNat)
   case atStart=>exact ⟨0,Nat.zero_le _,rfl,HMb.out,rfl,HNb.out⟩
   case round=>
    obtain⟨k3,hk3,rfl,hM,hf,hB'⟩:=hrel
    have HM9:=hHi hM
    have HFN:=hHi hf
    have HB9':=hHi hB'
    have HB9:=hHi (below_tr HBA.out hB')
    clear hM hf hB' c0 c1 c2 c3 c4 c5 c6 c7 c8
    by_cases hlt:k3<k
    case pos=>
     obtain⟨x,hx⟩:∃x,LR[k3]?=some x:=⟨LR[k3]'(by rw[HLR.out];exact hlt),by simp⟩
     obtain⟨b,o,us,hb,hlb,hus,hc⟩:=HRW.out.2 k3 x hx
     obtain rfl:=hus
     subst hb
     have hq_:=hcb HB9.out hlb hc
     have s0:=hq_ 0 _ rfl
     have s1:=hq_ 1 _ rfl
     rw[Nat.add_zero] at s0
     have hltI:(k3:Int)<k:=by omega
     have hsz:=(HNR.out x (List.mem_of_getElem? hx)).1
     have hsy:=(HNR.out x (List.mem_of_getElem? hx)).2
     have HX9:=hHi hx
     have HT:Hid (rS (LR.take (k3+1))=rS (LR.take k3)++[x.sort]):=by show _=_;rw[take_snoc' hx,rS_snoc]
     have HAC:=hHi (any_cnt (LR.take k3) x.sort)
     have hcb:cntN (rS (LR.take k3)) x.sort≤1000000:=Nat.le_trans (cntN_le _ _) (by unfold rS;rw[List.length_map,List.length_take];omega)
     have HFW:Hid (rbad SL A (LR.take k3) x=true→firstWith (rbad SL A) [] LR=some x):=fun hb=>fw_take hx HFN.out hb
     have HFE:Hid (rbad SL A (LR.take k3) x=false→firstWith (rbad SL A) [] (LR.take (k3+1))=none):=fun hb=>by rw[take_snoc' hx];exact fw_snoc HFN.out hb
     have HRB:Hid (rbad SL A (LR.take k3) x=(!lexd SL x.sort||!lexd SL x.by'||decide (x.sort=x.by')||decide (cntN (rS (LR.take k3)) x.sort≠0)||meetB SL A x.by')):=by show _=_;rw[←HAC.out];rfl
     generalize rbad SL A (LR.take k3) x=rb at HFW HFE HRB
     clear hq_ hc hx HAC
     obtain⟨w3,hw3⟩:∃qW,wr.alloc (.cells #[.string x.sort,.string x.by'] 56)=qW:=⟨_,rfl⟩
     have HN3:=kB hw3
     have HX3:=kN hw3
     have HM3:=Mp.below HM9 HN3
     have HB3:Hid (Below wa.heap.size wa w3):=below_tr HB9'.out HN3.out
     have hlk:=HM3.out.look Tryz.underlying72 (zero3 w3) hsz
     rw[cntL_get] at hlk
     have HKS:=hHi (cntL_snoc (rS (LR.take k3)) x.sort)
     rw[←HT.out] at HKS
     generalize cntN (rS (LR.take k3)) x.sort=c at hlk HKS hcb HRB
     obtain⟨e0,e1⟩:=HX3.out.c2
     have HNE:Hid (wr.heap.size≠BA):=by show _≠_;have:=HM9.out.lt;omega
     go_wp2_with (first | (at_mapUpdate;refine wpList_mapUpdate_mp rfl _ _ _ 72 rfl 3 Tryz.underlying72 HM3 rfl (by unfold maxLen;omega) x.sort (.int .i64 ((c:Int)+1)) rfl rfl hsz ?_) | go_in)
     intro w4 HM4 HG4
     have HB4:Hid (Below wa.heap.size wa w4):=HB3.out.trans (belG HG4.out HBA2.out HB3.out.size)
     have hl2:=HM4.out.look Tryz.underlying72 (zero3 w4) hsz
     rw[upd_same,Option.getD_some] at hl2
     have HX4:=kG HX3 HG4 HNE.out
     have HXL4:=kA HXA HB4
     have HBB4:=hHi (below_tr HBA.out HB4.out)
     have HC1:=hU (HIL.out x.sort hsz w4 HBB4.out)
     obtain⟨l1,hl1⟩:∃q,lexd SL x.sort=q:=⟨_,rfl⟩
     rw[hl1] at HC1 HRB
     clear s0 s1 e0 e1 hlk hl1 hl2
     obtain⟨e0,e1⟩:=HX4.out.c2
     obtain⟨c0,c1,c2,c3,c4,c5,c6,c7,c8⟩:=HXL4.out.c9
     go_wp2_with fail
     refine hMo HC1 ?_
     rintro e w5 ⟨rfl,hb⟩
     have HB5:=hHi (below_tr HB4.out hb)
     have HBB5:=hHi (below_tr HBB4.out hb)
     have HX5:=kA HX4 (hHi hb)
     have HM5:=Mp.below HM4 (hHi hb)
     have HXL5:=kA HXL4 (hHi hb)
     clear hb HC1 e0 e1 c0 c1 c2 c3 c4 c5 c6 c7 c8
     obtain⟨e0,e1⟩:=HX5.out.c2
     obtain⟨c0,c1,c2,c3,c4,c5,c6,c7,c8⟩:=HXL5.out.c9
     cases l1 with
     | false=>
      have HFS:=hHi (HFW.out (by rw[HRB.out];rfl))
      go_wp2
      go_quiet (fail)
      go_wp2
      go_ret2
      exact ⟨⟨49,x.sort,rfl,by rw[HLN.out,HFS.out];rfl⟩,bel_dn _ HBB5.out⟩
     | true=>
      have HC2:=hU (HIL.out x.by' hsy w5 HBB5.out)
      obtain⟨l2,hl2⟩:∃q,lexd SL x.by'=q:=⟨_,rfl⟩
      rw[hl2] at HC2 HRB
      clear hl2
      go_wp2_with fail
      refine hMo HC2 ?_
      rintro e w6 ⟨rfl,hb⟩
      have HB6:=hHi (below_tr HB5.out hb)
      have HBB6:=hHi (below_tr HBB5.out hb)
      have HX6:=kA HX5 (hHi hb)
      have HM6:=Mp.below HM5 (hHi hb)
      clear hb HC2 e0 e1 c0 c1 c2 c3 c4 c5 c6 c7 c8
      obtain⟨e0,e1⟩:=HX6.out.c2
      cases l2 with
      | false=>
       have HFS:=hHi (HFW.out (by rw[HRB.out];rfl))
       go_wp2
       go_quiet (fail)
       go_wp2
       go_ret2
       exact ⟨⟨49,x.sort,rfl,by rw[HLN.out,HFS.out];rfl⟩,bel_dn _ HBB6.out⟩
      | true=>
       by_cases hsb:x.sort=x.by'
       ·have hbq:(x.sort.toList==x.by'.toList)=true:=by rw[tl_beq];simp[hsb]
        have HFS:=hHi (HFW.out (by rw[HRB.out];simp[hsb]))
        clear hsb
        go_wp2
        go_quiet (fail)
        go_wp2
        go_ret2
        exact ⟨⟨49,x.sort,rfl,by rw[HLN.out,HFS.out];rfl⟩,bel_dn _ HBB6.out⟩
       ·have hbq:(x.sort.toList==x.by'.toList)=false:=by rw[tl_beq];simp[hsb]
        have HRB2:Hid (rb=(decide (c≠0)||meetB SL A x.by')):=by show _=_;rw[HRB.out];simp[hsb]
        have hl6:=HM6.out.look Tryz.underlying72 (zero3 w6) hsz
        rw[upd_same,Option.getD_some] at hl6
        clear hsb HRB
        by_cases hc0:c=0
        ·have HRB3:Hid (rb=meetB SL A x.by'):=by show _=_;rw[HRB2.out];simp[hc0]
         subst hc0
         have HC3:=hU (HMT.out x.by' lot BT mt BS m2 ft w6 (HSP.out.nx HB6.out) (Mp.below HMA HB6).out hsy)
         obtain⟨q3,hq3⟩:∃q,meetB SL A x.by'=q:=⟨_,rfl⟩
         rw[hq3] at HC3 HRB3
         clear hq3
         go_wp2_with fail
         refine hMo HC3 ?_
         rintro e w7 ⟨rfl,hb⟩
         have HB7:=hHi (below_tr HB6.out hb)
         have HBB7:=hHi (below_tr HBB6.out hb)
         have HX7:=kA HX6 (hHi hb)
         have HM7:=Mp.below HM6 (hHi hb)
         clear hb HC3 e0 e1
         obtain⟨e0,e1⟩:=HX7.out.c2
         cases q3 with
         | true=>
          have HFS:=hHi (HFW.out HRB3.out)
          go_wp2
          go_quiet (fail)
          go_wp2
          go_ret2
          exact ⟨⟨49,x.sort,rfl,by rw[HLN.out,HFS.out];rfl⟩,bel_dn _ HBB7.out⟩
         | false=>
          have HFX:=hHi (HFE.out HRB3.out)
          rw[←HKS.out] at HM7
          go_wp2
          go_roundw
          case rel=>exact ⟨k3+1,by omega,by go_num,HM7.out,HFX.out,HB7.out⟩
          case measure=>simp[intOf];omega
        ·have HFS:=hHi (HFW.out (by rw[HRB2.out];simp[hc0]))
         have hc1:(1:Int)<(c:Int)+1:=by omega
         have hc2:0<c:=by omega
         clear hc0
         go_wp2
         go_quiet (fail)
         go_wp2
         go_ret2
         exact ⟨⟨49,x.sort,rfl,by rw[HLN.out,HFS.out];rfl⟩,bel_dn _ HBB6.out⟩
    obtain rfl:k3=k:=by omega
    have HNX:Hid (firstWith (rbad SL A) [] LR=none):=by have h:=HFN.out;rw[List.take_of_length_le (by rw[HLR.out];exact Nat.le_refl _)] at h;exact h
    go_wp2
    go_ret2
    exact ⟨⟨0,no,rfl,by rw[HLN.out,HNX.out];rfl⟩,HB9.out⟩
end Go.Proofs.YtilpgpcgcpedjaaGreat
