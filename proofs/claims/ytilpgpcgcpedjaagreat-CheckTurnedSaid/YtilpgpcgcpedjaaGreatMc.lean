/- Names that are no sorts: the line. -/
import Derived.Test.YtilpgpcgcpedjaaGreatMb
namespace Go.Proofs.YtilpgpcgcpedjaaGreat
open Go.RowKit
set_option linter.unusedVariables false
set_option linter.unusedSimpArgs false
set_option maxRecDepth 100000
set_option maxHeartbeats 16000000
theorem wpList_app_names {w:World} {ops:Array Oper} {rest:List Oper} {o:Oper} {a:Act} {Q:Exit→Act→World→Prop} {lo lo2:Nat} {v u:Value} {xs ys zs:List ByteArray} {n:Nat} (hz:Hid (zs=xs++ys)) (hn:Hid (zs.length=n)) (hgd:o.guard=none) (s x:Operand) (ho:o.op=.call { callee:=.builtin .append,args:=#[s,x],argTypes:=#[36,36] }) (hs:a.eval s=v) (hx:a.eval x=u) (hown:Hid (NamesAt w lo xs v)) (hres:Hid (NamesAt w lo2 ys u)) (h16:Hid (n*16≤140737488355328)) (hbase:lo≤w.heap.size)
  (h:∀va vc w',Hid (NamesAt w' lo zs (.slice va n vc))→Hid (w.grownBy w' v.ownBlock)→wpList Tryz.prog ops Q rest (a.put o.dst (.slice va n vc)) w'):
  wpList Tryz.prog ops Q (o::rest) a w:=by
 refine wpList_plain hgd fun K' hK' => ?_
 have hl:xs.length+ys.length=n:=by rw[←hn.out,hz.out,List.length_append]
 obtain⟨v',w',hrun,h2,h3,h4⟩:=run_app_names (w:=w) o.type hown.out hres.out (by rw[hl];exact h16.out) hbase
 rw[←hz.out] at h2
 obtain⟨va,vc,e⟩:=own_slice h2.row
 rw[hn.out] at e
 subst e
 unfold Oper.wp execOp
 simp only[ho,resolve,invoke,builtin,Sem.run_bind,Sem.run_pure,Result.andThen_ok,List.map_toArray,List.map_cons,List.map_nil,hs,hx,hrun]
 exact hK' _ _ (h va vc w' h2 h3)
def nP (l:List Pr):List ByteArray:=l.flatMap leadsN
def nF (l:List Fo):List ByteArray:=l.map (·.sort)
def nR (l:List Re):List ByteArray:=l.flatMap fun r=>[r.sort,r.by']
theorem nP_len (l:List Pr):(nP l).length≤symsN l:=univ_len leadsN_len l
theorem nR_len (l:List Re):(nR l).length=2*l.length:=by
 unfold nR
 induction l with
 | nil=>rfl
 | cons r l ih=>rw[List.flatMap_cons,List.length_append,ih,List.length_cons];simp;omega
theorem undef_line (d:Df) (a2:Option Addr) (p2:Nat) (a3:Option Addr) (p3:Nat) (a4:Option Addr) (p4:Nat) (a5:Option Addr) (p5:Nat) (a6:Option Addr) (p6 B1 B2:Nat) (w:World) (h:LK w d [.string d.start,.string d.layout,.slice a2 d.prods.length p2,.slice a3 d.chains.length p3,.slice a4 d.follows.length p4,.slice a5 d.rejects.length p5,.slice a6 d.boxes.length p6] B1 B2):
  Calls Tryz.prog 40 #[.agg #[.string d.start,.string d.layout,.slice a2 d.prods.length p2,.slice a3 d.chains.length p3,.slice a4 d.follows.length p4,.slice a5 d.rejects.length p5,.slice a6 d.boxes.length p6,.map (some B1),.map (some B2)]] w fun e w'=>Tl e (line d 3)∧Below w.heap.size w w':=by
 obtain⟨n,hm⟩:=h.m1
 obtain⟨i0,hi,hz0,hz1,hz2⟩:=info_parts info9
 obtain⟨w1,hw1⟩:∃qW,w.alloc (.cells #[.string d.start,.string d.layout,.slice a2 d.prods.length p2,.slice a3 d.chains.length p3,.slice a4 d.follows.length p4,.slice a5 d.rejects.length p5,.slice a6 d.boxes.length p6,.map (some B1),.map (some B2)] 75)=qW:=⟨_,rfl⟩
 have HX1:=kN hw1
 have HB1:=kB hw1
 have HM:=hHi hm
 have HIS:Hid (∀s,s.size≤maxLen→∀W,Below w.heap.size w W→Calls Tryz.prog 84 #[.agg #[.string d.start,.string d.layout,.slice a2 d.prods.length p2,.slice a3 d.chains.length p3,.slice a4 d.follows.length p4,.slice a5 d.rejects.length p5,.slice a6 d.boxes.length p6,.map (some B1),.map (some B2)],.string s] W fun e w'=>e=.returned (.bool (decide (s∈srt d.prods)))∧Below W.heap.size W w'):=fun s hs W hb=>isSort_any d _ _ _ _ _ _ _ _ B1 n s W (Mp.below HM (hHi hb)).out hs ⟨_,rfl⟩ ⟨_,rfl⟩
 have HRW:Hid (Row w w.heap.size 5 (PrV w w.heap.size) a2 d.prods∧Row w w.heap.size 5 FoV a4 d.follows∧Row w w.heap.size 2 ReV a5 d.rejects):=by
  obtain⟨b2,q2,b3,q3,b4,q4,b5,q5,b6,q6,e,r2,_,r4,r5,_⟩:=h.df.form
  simp only[List.cons.injEq,Value.slice.injEq] at e
  obtain⟨_,_,⟨rfl,_,_⟩,_,⟨rfl,_,_⟩,⟨rfl,_,_⟩,_⟩:=e
  exact ⟨r2,r4,r5⟩
 have HPZ:Hid (∀p∈d.prods,p.syms.length*88≤140737488355328):=by
  obtain⟨g,hg⟩:=h.df.sz
  exact hg.ps
 have HNS:Hid (∀s∈namesAll d,s.size≤maxLen):=fun s hs=>by
  unfold namesAll at hs
  rcases List.mem_append.1 hs with hs|hs
  ·rcases List.mem_append.1 hs with hs|hs
   ·obtain⟨p,hp,hq⟩:=List.mem_flatMap.1 hs
    exact leadsN_size h.df.nm ⟨p,hp,rfl,hq⟩
   ·obtain⟨f,hf,rfl⟩:=List.mem_map.1 hs
    exact h.df.nm.follows f hf
  ·obtain⟨r,hr,hq⟩:=List.mem_flatMap.1 hs
   have:=h.df.nm.rejects r hr
   simp at hq
   rcases hq with rfl|rfl
   ·exact this.1
   ·exact this.2
 have hpl:d.prods.length≤140737488355328:=by
  obtain⟨g,hg⟩:=h.df.sz
  have:=hg.p
  omega
 have hfl:=h.fl
 have hrl:=h.rl
 have HFEW:=hHi h.few
 have HNA:Hid (namesAll d=nP d.prods++nF d.follows++nR d.rejects):=rfl
 have HLN:Hid (line d 3=tell 43 ((namesAll d).find? fun s=>decide (s∉srt d.prods))):=rfl
 generalize line d 3=ln at HLN ⊢
 clear h hm HM
 rw[HNA.out] at HLN HNS
 clear HNA
 generalize hSS:srt d.prods=SS at HIS HLN
 clear hSS
 obtain⟨LP,hLP⟩:∃L,d.prods=L:=⟨_,rfl⟩
 obtain⟨LF,hLF⟩:∃L,d.follows=L:=⟨_,rfl⟩
 obtain⟨LR,hLR⟩:∃L,d.rejects=L:=⟨_,rfl⟩
 rw[hLP,hLF,hLR] at HRW HX1 hw1 HIS HLN HNS ⊢
 rw[hLP] at HPZ HFEW hpl
 rw[hLF] at hfl
 rw[hLR] at hrl
 clear hLP hLF hLR
 obtain⟨NP,hNP⟩:∃N,LP.length=N:=⟨_,rfl⟩
 obtain⟨NF,hNF⟩:∃N,LF.length=N:=⟨_,rfl⟩
 obtain⟨NR,hNR⟩:∃N,LR.length=N:=⟨_,rfl⟩
 rw[hNP,hNF,hNR] at HX1 hw1 HIS ⊢
 rw[hNP] at hpl
 rw[hNF] at hfl
 rw[hNR] at hrl
 have HNP:=hHi hNP
 have HNF:=hHi hNF
 have HNR:=hHi hNR
 clear hNP hNF hNR
 go_enter Tryz.func40,Tryz.ntmps40
 obtain⟨c0,c1,c2,c3,c4,c5,c6,c7,c8⟩:=HX1.out.c9
 go_wp2
 go_loopw[4,17] (fun lv iv W=>∃(k:Nat) (va:Option Addr) (vc:Nat),k≤NP∧lv=.slice va (nP (LP.take k)).length vc∧iv=.int .i64 k∧NamesAt W w1.heap.size (nP (LP.take k)) (.slice va (nP (LP.take k)).length vc)∧Below w1.heap.size w1 W) (fun _ iv _=>NP-(intOf iv).toNat)
 case atStart=>exact ⟨0,none,0,Nat.zero_le _,rfl,rfl,⟨World.ownsRow_nil _ _ _ _⟩,Below.refl _ _⟩
 case round=>
  obtain⟨k,va,vc,hk,rfl,rfl,hN,hB'⟩:=hrel
  have HN:=hHi hN
  have HB':=hHi hB'
  have HB:=hHi (below_tr HB1.out hB')
  clear hN hB' c0 c1 c2 c3 c4 c5 c6 c7 c8
  by_cases hlt:k<NP
  case pos=>
   obtain⟨x,hx⟩:∃x,LP[k]?=some x:=⟨LP[k]'(by rw[HNP.out];exact hlt),by simp⟩
   obtain⟨b,o,us,hb,hlb,hus,hc⟩:=HRW.out.1 k x hx
   have HPV:=hHi hus
   obtain⟨v,rfl,a3',p3',rfl,_⟩:=hus
   subst hb
   have hq_:=hcb HB.out hlb hc
   have s0:=hq_ 0 _ rfl
   have s1:=hq_ 1 _ rfl
   have s2:=hq_ 2 _ rfl
   have s3:=hq_ 3 _ rfl
   have s4:=hq_ 4 _ rfl
   rw[Nat.add_zero] at s0
   have hltI:(k:Int)<NP:=by omega
   have HX:=hHi hx
   have HT:Hid (nP (LP.take (k+1))=nP (LP.take k)++leadsN x):=by show _=_;rw[take_snoc' hx];simp[nP]
   have HLC:Hid ((nP (LP.take (k+1))).length*16≤140737488355328):=by
    show _≤_
    rw[HT.out,List.length_append]
    have h1:=nP_len (LP.take k)
    have h2:=symsN_at hx
    have h3:=leadsN_len x
    have h4:=HFEW.out
    omega
   clear hq_ hc hx
   obtain⟨w3,hw3⟩:∃qW,wr.alloc (.cells #[.bool x.lex,.string x.sort,.string x.cons,.bool x.bracket,.slice a3' x.syms.length p3'] 44)=qW:=⟨_,rfl⟩
   have HN3:=kB hw3
   have HX3:=kN hw3
   have HB3:Hid (Below w1.heap.size w1 w3):=below_tr HB'.out HN3.out
   have HBB3:=hHi (below_tr HB.out HN3.out)
   have HNN3:=hHi (HN.out.after HN3.out)
   have HC:=hU (named_any x [.bool x.lex,.string x.sort,.string x.cons,.bool x.bracket,.slice a3' x.syms.length p3'] w3 (HPV.out.keep HBB3.out HBB3.out.size) (HPZ.out x (List.mem_of_getElem? HX.out)))
   obtain⟨e0,e1,e2,e3,e4⟩:=HX3.out.c5
   go_wp2_with fail
   refine hMo HC ?_
   rintro e w4 ⟨⟨xa,xc,rfl,hn4⟩,hb⟩
   have HRS:=hHi hn4
   have HB4:=hHi (below_tr HB3.out hb)
   have HNN4:=hHi (HNN3.out.after hb)
   have HOB:Hid (∀b,(Value.slice va (nP (LP.take k)).length vc).ownBlock=some b→w1.heap.size≤b):=fun b hb=>(HNN4.out.row.lt b hb).1
   have hlo:=HB4.out.size
   obtain⟨nl,hnl⟩:∃nl,(nP (LP.take (k+1))).length=nl:=⟨_,rfl⟩
   have HR0:=hHi hnl
   rw[hnl] at HLC
   clear hnl
   clear hb HC hn4 s0 s1 s2 s3 s4 e0 e1 e2 e3 e4
   go_wp2_with (at_builtin;refine wpList_app_names HT HR0 rfl _ _ rfl rfl rfl HNN4 HRS HLC hlo ?_)
   intro ya yc w7 HN7 HG7
   have HB7:Hid (Below w1.heap.size w1 w7):=HB4.out.trans (belO HG7.out HOB.out HB4.out.size)
   go_wp2
   go_roundw
   case rel=>exact ⟨k+1,ya,yc,by omega,by rw[HR0.out],by go_num,by rw[HR0.out];exact HN7.out,HB7.out⟩
   case measure=>simp[intOf];omega
  obtain rfl:k=NP:=by omega
  have E1:Hid (nP (LP.take k)=nP LP):=by show _=_;rw[List.take_of_length_le (by rw[HNP.out];exact Nat.le_refl _)]
  rw[E1.out] at HN ⊢
  have HXL:=kA HX1 HB'
  obtain⟨c0,c1,c2,c3,c4,c5,c6,c7,c8⟩:=HXL.out.c9
  obtain⟨XP,hXP⟩:∃X,nP LP=X:=⟨_,rfl⟩
  have hxl:XP.length≤1000000:=by rw[←hXP];exact Nat.le_trans (nP_len LP) HFEW.out
  rw[hXP] at HN HLN HNS ⊢
  clear hXP hlt
  go_wp2
  go_loopw[4,30] (fun lv iv W=>∃(k:Nat) (va:Option Addr) (vc:Nat),k≤NF∧lv=.slice va (XP.length+k) vc∧iv=.int .i64 k∧NamesAt W w1.heap.size (XP++nF (LF.take k)) (.slice va (XP.length+k) vc)∧Below w1.heap.size w1 W) (fun _ iv _=>NF-(intOf iv).toNat)
  case atStart=>exact ⟨0,va,vc,Nat.zero_le _,rfl,rfl,by simpa [nF] using HN.out,HB'.out⟩
  case round=>
   obtain⟨k2,va2,vc2,hk2,rfl,rfl,hN,hB'⟩:=hrel
   have HN2:=hHi hN
   have HB2':=hHi hB'
   have HB2:=hHi (below_tr HB1.out hB')
   clear hN hB' c0 c1 c2 c3 c4 c5 c6 c7 c8
   by_cases hlt:k2<NF
   case pos=>
    obtain⟨x,hx⟩:∃x,LF[k2]?=some x:=⟨LF[k2]'(by rw[HNF.out];exact hlt),by simp⟩
    obtain⟨b,o,us,hb,hlb,hus,hc⟩:=HRW.out.2.1 k2 x hx
    obtain⟨hok,rfl⟩:=hus
    subst hb
    have hq_:=hcb HB2.out hlb hc
    have s0:=hq_ 0 _ rfl
    have s1:=hq_ 1 _ rfl
    have s2:=hq_ 2 _ rfl
    have s3:=hq_ 3 _ rfl
    have s4:=hq_ 4 _ rfl
    rw[Nat.add_zero] at s0
    have hltI:(k2:Int)<NF:=by omega
    have HT:Hid (XP++nF (LF.take (k2+1))=(XP++nF (LF.take k2))++[x.sort]):=by show _=_;rw[take_snoc' hx];simp[nF]
    have HLL:Hid ((XP++nF (LF.take k2)).length=XP.length+k2):=by show _=_;rw[List.length_append];unfold nF;rw[List.length_map,List.length_take,HNF.out];omega
    clear hq_ hc hx hok
    obtain⟨w3,hw3⟩:∃qW,wr.alloc (.cells #[.string x.sort,.int .u64 x.set.a,.int .u64 x.set.b,.int .u64 x.set.c,.int .u64 x.set.d] 54)=qW:=⟨_,rfl⟩
    have HN3:=kB hw3
    have HX3:=kN hw3
    obtain⟨w4,hw4⟩:∃qW,w3.alloc (.cells #[.string x.sort] 9)=qW:=⟨_,rfl⟩
    have HN4:=kB hw4
    have HB4:Hid (Below w1.heap.size w1 w4):=below_tr (below_tr HB2'.out HN3.out) HN4.out
    have HNN4:=hHi ((HN2.out.after HN3.out).after HN4.out)
    have HRS:Hid (NamesAt w4 w3.heap.size [x.sort] (.slice (some ⟨w3.heap.size,0,none⟩) 1 1)):=by
     show NamesAt _ _ _ _
     rw[←hw4]
     exact ⟨World.ownsRow_lit w3 #[.string x.sort] 1 (Nat.le_refl _) (by decide) rfl⟩
    have HOB:Hid (∀b,(Value.slice va2 (XP.length+k2) vc2).ownBlock=some b→w1.heap.size≤b):=fun b hb=>(HNN4.out.row.lt b hb).1
    have hlo:=HB4.out.size
    have HLL2:Hid ((XP++nF (LF.take (k2+1))).length=XP.length+(k2+1)):=by show _=_;rw[HT.out,List.length_append,HLL.out];rfl
    have HLC:Hid ((XP.length+(k2+1))*16≤140737488355328):=by show _≤_;omega
    obtain⟨e0,e1,e2,e3,e4⟩:=HX3.out.c5
    go_wp2_with (at_builtin;refine wpList_app_names HT HLL2 rfl _ _ rfl rfl rfl HNN4 HRS HLC hlo ?_)
    intro ya yc w7 HN7 HG7
    have HB7:Hid (Below w1.heap.size w1 w7):=HB4.out.trans (belO HG7.out HOB.out HB4.out.size)
    clear s0 s1 s2 s3 s4 e0 e1 e2 e3 e4
    go_wp2
    go_roundw
    case rel=>exact ⟨k2+1,ya,yc,by omega,rfl,by go_num,HN7.out,HB7.out⟩
    case measure=>simp[intOf];omega
   obtain rfl:k2=NF:=by omega
   have E2:Hid (XP++nF (LF.take k2)=XP++nF LF):=by show _=_;rw[List.take_of_length_le (by rw[HNF.out];exact Nat.le_refl _)]
   rw[E2.out] at HN2
   have HXL2:=kA HX1 HB2'
   obtain⟨c0,c1,c2,c3,c4,c5,c6,c7,c8⟩:=HXL2.out.c9
   obtain⟨XF,hXF⟩:∃X,XP++nF LF=X:=⟨_,rfl⟩
   have HXFL:Hid (XF.length=XP.length+k2):=by show _=_;rw[←hXF,List.length_append];unfold nF;rw[List.length_map,HNF.out]
   obtain⟨xf,hxf⟩:∃q,XP.length+k2=q:=⟨_,rfl⟩
   have hxfb:xf≤2000000:=by omega
   rw[hXF] at HN2 HLN HNS
   rw[hxf] at HN2 HXFL ⊢
   clear hXF hlt E2 hxf
   go_wp2
   go_loopw[4,44] (fun lv iv W=>∃(k:Nat) (va:Option Addr) (vc:Nat),k≤NR∧lv=.slice va (xf+2*k) vc∧iv=.int .i64 k∧NamesAt W w1.heap.size (XF++nR (LR.take k)) (.slice va (xf+2*k) vc)∧Below w1.heap.size w1 W) (fun _ iv _=>NR-(intOf iv).toNat)
   case atStart=>exact ⟨0,va2,vc2,Nat.zero_le _,rfl,rfl,by simpa [nR] using HN2.out,HB2'.out⟩
   case round=>
    obtain⟨k3,va3,vc3,hk3,rfl,rfl,hN,hB'⟩:=hrel
    have HN3:=hHi hN
    have HB3':=hHi hB'
    have HB3:=hHi (below_tr HB1.out hB')
    clear hN hB' c0 c1 c2 c3 c4 c5 c6 c7 c8
    by_cases hlt:k3<NR
    case pos=>
     obtain⟨x,hx⟩:∃x,LR[k3]?=some x:=⟨LR[k3]'(by rw[HNR.out];exact hlt),by simp⟩
     obtain⟨b,o,us,hb,hlb,hus,hc⟩:=HRW.out.2.2 k3 x hx
     obtain rfl:=hus
     subst hb
     have hq_:=hcb HB3.out hlb hc
     have s0:=hq_ 0 _ rfl
     have s1:=hq_ 1 _ rfl
     rw[Nat.add_zero] at s0
     have hltI:(k3:Int)<NR:=by omega
     have HT:Hid (XF++nR (LR.take (k3+1))=(XF++nR (LR.take k3))++[x.sort,x.by']):=by show _=_;rw[take_snoc' hx];simp[nR]
     have HLL2:Hid ((XF++nR (LR.take (k3+1))).length=xf+2*(k3+1)):=by show _=_;rw[List.length_append,nR_len,HXFL.out,List.length_take,HNR.out];omega
     clear hq_ hc hx
     obtain⟨w3,hw3⟩:∃qW,wr.alloc (.cells #[.string x.sort,.string x.by'] 56)=qW:=⟨_,rfl⟩
     have HNN:=kB hw3
     have HX3:=kN hw3
     obtain⟨w4,hw4⟩:∃qW,w3.alloc (.cells #[.string x.sort,.string x.by'] 9)=qW:=⟨_,rfl⟩
     have HN4:=kB hw4
     have HB4:Hid (Below w1.heap.size w1 w4):=below_tr (below_tr HB3'.out HNN.out) HN4.out
     have HNN4:=hHi ((HN3.out.after HNN.out).after HN4.out)
     have HRS:Hid (NamesAt w4 w3.heap.size [x.sort,x.by'] (.slice (some ⟨w3.heap.size,0,none⟩) 2 2)):=by
      show NamesAt _ _ _ _
      rw[←hw4]
      exact ⟨World.ownsRow_lit w3 #[.string x.sort,.string x.by'] 2 (Nat.le_refl _) (by decide) rfl⟩
     have HOB:Hid (∀b,(Value.slice va3 (xf+2*k3) vc3).ownBlock=some b→w1.heap.size≤b):=fun b hb=>(HNN4.out.row.lt b hb).1
     have hlo:=HB4.out.size
     have HLC:Hid ((xf+2*(k3+1))*16≤140737488355328):=by show _≤_;omega
     obtain⟨e0,e1⟩:=HX3.out.c2
     go_wp2_with (at_builtin;refine wpList_app_names HT HLL2 rfl _ _ rfl rfl rfl HNN4 HRS HLC hlo ?_)
     intro ya yc w7 HN7 HG7
     have HB7:Hid (Below w1.heap.size w1 w7):=HB4.out.trans (belO HG7.out HOB.out HB4.out.size)
     clear s0 s1 e0 e1
     go_wp2
     go_roundw
     case rel=>exact ⟨k3+1,ya,yc,by omega,rfl,by go_num,HN7.out,HB7.out⟩
     case measure=>simp[intOf];omega
    obtain rfl:k3=NR:=by omega
    have E3:Hid (XF++nR (LR.take k3)=XF++nR LR):=by show _=_;rw[List.take_of_length_le (by rw[HNR.out];exact Nat.le_refl _)]
    rw[E3.out] at HN3
    have HXL3:=kA HX1 HB3'
    obtain⟨A,hA⟩:∃X,XF++nR LR=X:=⟨_,rfl⟩
    obtain⟨xa,hxa⟩:∃q,xf+2*k3=q:=⟨_,rfl⟩
    have HAL:Hid (A.length=xa):=by show _=_;rw[←hA,List.length_append,nR_len,HXFL.out,HNR.out,hxa]
    have hxab:xa≤4000000:=by omega
    rw[hA] at HN3 HLN HNS
    rw[hxa] at HN3 ⊢
    clear hA hlt E3 hxa
    go_wp2
    go_loopw[58] (fun iv W=>∃(k:Nat),k≤xa∧iv=.int .i64 k∧(A.take k).find? (fun s=>decide (s∉SS))=none∧Below wr.heap.size wr W) (fun iv _=>xa-(intOf iv).toNat)
    case atStart=>exact ⟨0,Nat.zero_le _,rfl,rfl,Below.refl _ _⟩
    case round=>
     obtain⟨k4,hk4,rfl,hf,hB'⟩:=hrel
     have HFN:=hHi hf
     have HB4':=hHi hB'
     have HB4:=hHi (below_tr HB3.out hB')
     clear hf hB'
     by_cases hlt:k4<xa
     case pos=>
      obtain⟨x,hx⟩:∃x,A[k4]?=some x:=⟨A[k4]'(by rw[HAL.out];exact hlt),by simp⟩
      have hsz:=HNS.out x (List.mem_of_getElem? hx)
      obtain⟨g,cap,he,hg,hgl,hc⟩:=names_cell HN3.out hx
      simp only[Value.slice.injEq] at he
      obtain⟨rfl,hnl,rfl⟩:=he
      clear hnl
      have HX:=hHi hx
      have HXW:=kA HXL3 HB4'
      have HC:=hU (HIS.out x hsz _ HB4.out)
      have hcx:=(HB4'.out.cell (p:=⟨g,k4,none⟩) hgl).trans hc
      have hltI:(k4:Int)<xa:=by omega
      obtain⟨c0,c1,c2,c3,c4,c5,c6,c7,c8⟩:=HXW.out.c9
      obtain⟨qb,hqb⟩:∃q,decide (x∈SS)=q:=⟨_,rfl⟩
      rw[hqb] at HC
      have HQ:Hid (decide (x∉SS)=!qb):=by show _=_;rw[←hqb];simp
      clear hqb hx hc
      go_wp2_with fail
      refine hMo HC ?_
      rintro e w5 ⟨rfl,hb⟩
      have HB5:=hHi (HB4'.out.trans (hb.mono HB4'.out.size))
      have HBB5:=hHi (below_tr HB4.out hb)
      clear hb HC hcx c0 c1 c2 c3 c4 c5 c6 c7 c8
      cases qb
      ·have HNX:Hid (A.find? (fun s=>decide (s∉SS))=some x):=find_take HX.out HFN.out HQ.out
       go_wp2
       go_ret2
       exact ⟨⟨43,x,rfl,by rw[HLN.out,HNX.out];rfl⟩,HBB5.out⟩
      ·have HNX:Hid ((A.take (k4+1)).find? (fun s=>decide (s∉SS))=none):=by show _=_;rw[take_snoc' HX.out];exact find_snoc HFN.out HQ.out
       go_wp2
       go_roundw
       case rel=>exact ⟨k4+1,by omega,by go_num,HNX.out,HB5.out⟩
       case measure=>simp[intOf];omega
     obtain rfl:k4=xa:=by omega
     have HNX:Hid (A.find? (fun s=>decide (s∉SS))=none):=by have h:=HFN.out;rw[List.take_of_length_le (by rw[HAL.out];exact Nat.le_refl _)] at h;exact h
     go_wp2
     go_ret2
     exact ⟨⟨0,no,rfl,by rw[HLN.out,HNX.out];rfl⟩,HB4.out⟩
end Go.Proofs.YtilpgpcgcpedjaaGreat
