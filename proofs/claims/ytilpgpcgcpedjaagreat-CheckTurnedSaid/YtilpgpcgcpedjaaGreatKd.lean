/- What is known of each sort, and where a constructor stands first: the maps that the program makes. -/
import Derived.Test.YtilpgpcgcpedjaaGreatKb
import Derived.Test.YtilpgpcgcpedjaaGreatD1
import Derived.Test.YtilpgpcgcpedjaaGreatAl
namespace Go.Proofs.YtilpgpcgcpedjaaGreat
open Go.RowKit
set_option linter.unusedVariables false
set_option linter.unusedSimpArgs false
set_option maxRecDepth 100000
set_option maxHeartbeats 16000000
def kindF (l:List Pr) (s:ByteArray):Option Value:=if (∃p∈l,p.sort=s) then some (.agg #[.bool (lexd l s),.bool (plnd l s)]) else none
theorem kindF_get (l:List Pr) (s:ByteArray):(kindF l s).getD (.agg #[.bool false,.bool false])=.agg #[.bool (lexd l s),.bool (plnd l s)]:=by
 unfold kindF
 split
 ·rfl
 ·rename_i h
  have h1:lexd l s=false:=by
   unfold lexd
   rw[List.any_eq_false]
   intro p hp hq
   simp at hq
   exact h ⟨p,hp,hq.1⟩
  have h2:plnd l s=false:=by
   unfold plnd
   rw[List.any_eq_false]
   intro p hp hq
   simp at hq
   exact h ⟨p,hp,hq.1⟩
  rw[h1,h2]
  rfl
theorem kindF_some (l:List Pr) (s:ByteArray):(kindF l s).isSome=decide (∃p∈l,p.sort=s):=by
 unfold kindF
 split<;>simp_all
theorem kindF_snoc (l:List Pr) (p:Pr):kindF (l++[p])=upd (kindF l) p.sort (.agg #[.bool (lexd l p.sort||p.lex),.bool (plnd l p.sort||!p.lex)]):=by
 funext s
 unfold upd
 by_cases h:s=p.sort
 ·subst h
  rw[if_pos rfl]
  unfold kindF
  rw[if_pos ⟨p,by simp,rfl⟩]
  simp[lexd,plnd]
 ·rw[if_neg h]
  have hs:¬p.sort=s:=fun e=>h e.symm
  unfold kindF
  have e1:lexd (l++[p]) s=lexd l s:=by simp[lexd,hs]
  have e2:plnd (l++[p]) s=plnd l s:=by simp[plnd,hs]
  rw[e1,e2]
  have e3:(∃q∈l++[p],q.sort=s)↔∃q∈l,q.sort=s:=by
   constructor
   ·rintro⟨q,hq,e⟩
    rcases List.mem_append.1 hq with h1|h1
    ·exact ⟨q,h1,e⟩
    ·simp at h1
     subst h1
     exact absurd e hs
   ·rintro⟨q,hq,e⟩
    exact ⟨q,by simp[hq],e⟩
  simp only[e3]
theorem zero88 (w:World):(zeroValue 88).run Tryz.prog w=.ok (.agg #[.bool false,.bool false]) w:=by kernel_rfl
theorem zero3 (w:World):(zeroValue 3).run Tryz.prog w=.ok (.int .i64 0) w:=by kernel_rfl
theorem take_snoc' {α:Type} {l:List α} {k:Nat} {x:α} (hx:l[k]?=some x):l.take (k+1)=l.take k++[x]:=by
 have e:=List.getElem?_eq_some_iff.1 hx
 rw[List.take_succ_eq_append_getElem e.1,e.2]
structure NmP (p:Pr):Prop where
 sort:p.sort.size≤maxLen
 cons:p.cons.size≤maxLen
 nms:∀s∈p.syms,s.name.size≤maxLen
theorem sortKinds_any (d:Df) (a2:Option Addr) (p2:Nat) (v3 v4 v5 v6:Value) (w:World) (hr:Row w w.heap.size 5 (PrV w w.heap.size) a2 d.prods) (hl:d.prods.length≤140737488355328) (hN:∀p∈d.prods,NmP p):
  Calls Tryz.prog 35 #[.agg #[.string d.start,.string d.layout,.slice a2 d.prods.length p2,v3,v4,v5,v6]] w fun e w'=>(∃B n,e=.returned (.map (some B))∧Mp w' B n (kindF d.prods)∧w.heap.size≤B)∧Below w.heap.size w w':=by
 obtain⟨L,hL⟩:∃L,d.prods=L:=⟨_,rfl⟩
 rw[hL] at hr hl hN ⊢
 clear hL
 obtain⟨N,hLN⟩:∃N,L.length=N:=⟨_,rfl⟩
 have HR1:=hHi hr
 have HLN:=hHi hLN
 have HNM:=hHi hN
 rw[hLN] at hl ⊢
 clear hr hLN hN
 have hmm:=@run_makeMap Tryz.prog
 go_enter Tryz.func35,Tryz.ntmps35
 obtain⟨w1,hw1⟩:∃qW,w.alloc (.cells #[.string d.start,.string d.layout,.slice a2 N p2,v3,v4,v5,v6] 28)=qW:=⟨_,rfl⟩
 have HX1:=kN hw1
 have HB1:=kB hw1
 have HS1:Hid (w1.heap.size=w.heap.size+1):=by show _=_;rw[←hw1];simp
 obtain⟨w2,hw2⟩:∃qW,w1.alloc (.map #[] 0)=qW:=⟨_,rfl⟩
 have HM2:Hid (Mp w2 w1.heap.size 0 (fun _=>none)):=by show Mp _ _ _ _;rw[←hw2];exact Mp.made w1
 have HN2:=kB hw2
 have HX2:=kA HX1 HN2
 have HB2:Hid (Below w.heap.size w w2):=below_tr HB1.out HN2.out
 obtain⟨d0,d1,d2,d3,d4,d5,d6⟩:=HX2.out.c7
 go_wp2
 go_loopw[11] (fun iv W=>∃(k n:Nat),k≤N∧n≤k∧iv=.int .i64 k∧Mp W w1.heap.size n (kindF (L.take k))∧Below w.heap.size w W) (fun iv _=>N-(intOf iv).toNat)
 case atStart=>exact ⟨0,0,Nat.zero_le _,Nat.le_refl _,rfl,by have e:kindF (L.take 0)=fun _=>none:=(by funext s;simp[kindF]);rw[e];exact HM2.out,HB2.out⟩
 case round=>
  obtain⟨k,n,hk,hn,rfl,hM,hB⟩:=hrel
  have HM:=hHi hM
  have HB:=hHi hB
  clear hM hB d0 d1 d2 d3 d4 d5 d6
  by_cases hlt:k<N
  case pos=>
   obtain⟨x,hx⟩:∃x,L[k]?=some x:=⟨L[k]'(by rw[HLN.out];exact hlt),by simp⟩
   obtain⟨b,o,us,hb,hlb,hus,hc⟩:=HR1.out k x hx
   obtain⟨v,rfl,a3,p3,rfl,_⟩:=hus
   subst hb
   have HT:Hid (L.take (k+1)=L.take k++[x]):=take_snoc' hx
   have hsz:=(HNM.out x (List.mem_of_getElem? hx)).sort
   have hq_:=hcb HB.out hlb hc
   have s0:=hq_ 0 _ rfl
   have s1:=hq_ 1 _ rfl
   have s2:=hq_ 2 _ rfl
   have s3:=hq_ 3 _ rfl
   have s4:=hq_ 4 _ rfl
   rw[Nat.add_zero] at s0
   have hltI:(k:Int)<N:=by omega
   clear hq_ hc hx
   obtain⟨w3,hw3⟩:∃qW,wr.alloc (.cells #[.bool x.lex,.string x.sort,.string x.cons,.bool x.bracket,.slice a3 x.syms.length p3] 44)=qW:=⟨_,rfl⟩
   have HN3:=kB hw3
   have HX3:=kN hw3
   have HM3:=Mp.below HM HN3
   have HB3:Hid (Below w.heap.size w w3):=below_tr HB.out HN3.out
   have hlk:=HM3.out.look Tryz.underlying70 (zero88 w3) hsz
   rw[kindF_get] at hlk
   obtain⟨lx,hlx⟩:∃b,lexd (L.take k) x.sort=b:=⟨_,rfl⟩
   obtain⟨pl,hpl⟩:∃b,plnd (L.take k) x.sort=b:=⟨_,rfl⟩
   rw[hlx,hpl] at hlk
   have HKS:=hHi (kindF_snoc (L.take k) x)
   rw[hlx,hpl,←HT.out] at HKS
   obtain⟨w4,hw4⟩:∃qW,w3.alloc (.cells #[.bool lx,.bool pl] 88)=qW:=⟨_,rfl⟩
   have HN4:=kB hw4
   have HX4:=kN hw4
   have HX34:=kA HX3 HN4
   have HM4:=Mp.below HM3 HN4
   have HB4:Hid (Below w.heap.size w w4):=below_tr HB3.out HN4.out
   have HS3:Hid (w3.heap.size=wr.heap.size+1):=by show _=_;rw[←hw3];simp
   have HS4:Hid (w4.heap.size=w3.heap.size+1):=by show _=_;rw[←hw4];simp
   have HML:=hHi HM.out.lt
   have HWB:=hHi HB1.out.size
   cases hlex:x.lex
   all_goals
    rw[hlex] at s0 hw3 HX3 HX34 HKS
    obtain⟨e0,e1,e2,e3,e4⟩:=HX3.out.c5
    obtain⟨f0,f1,f2,f3,f4⟩:=HX34.out.c5
    obtain⟨g0,g1⟩:=HX4.out.c2
   ·obtain⟨w5,hw5⟩:∃qW,w4.setCell ⟨w3.heap.size,1,none⟩ (.bool true)=qW:=⟨_,rfl⟩
    have HG5:Hid (w4.grownBy w5 (some w3.heap.size)):=by show World.grownBy _ _ _;rw[←hw5];exact grownBy_setCell _ _ _ _
    have HX5:Hid (Blk w5 w3.heap.size 88 #[.bool lx,.bool true]):=by show Blk _ _ _ _;rw[←hw5];exact Blk.set HX4.out 1 _
    have HX35:=kG HX34 HG5 (by have:=HS3.out;omega)
    have HM5:=Mp.put HM4 HG5 (by have:=HS3.out;have:=HML.out;omega)
    have zf:=HX4.out.frozen
    have lf:=HX4.out.lt
    have HB5:Hid (Below w.heap.size w w5):=HB4.out.trans (belG HG5.out (by have:=HS3.out;have:=HB.out.size;omega) (Nat.le_trans HB3.out.size HN4.out.size))
    obtain⟨i0,i1,i2,i3,i4⟩:=HX35.out.c5
    obtain⟨j0,j1⟩:=HX5.out.c2
    go_wp2_with (first | (at_mapUpdate;refine wpList_mapUpdate_mp rfl _ _ _ 70 rfl 88 Tryz.underlying70 HM5 rfl (by have:=hl;unfold maxLen;omega) x.sort (.agg #[.bool lx,.bool true]) rfl rfl hsz ?_) | go_in)
    intro w6 HM6 HG6
    have HB6:Hid (Below w.heap.size w w6):=HB5.out.trans (belG HG6.out HWB.out HB5.out.size)
    clear s0 s1 s2 s3 s4 e0 e1 e2 e3 e4 f0 f1 f2 f3 f4 g0 g1 i0 i1 i2 i3 i4 j0 j1
    go_wp2
    go_roundw
    case rel=>exact ⟨k+1,n+1,by omega,by omega,by go_num,by rw[HKS.out];simpa using HM6.out,HB6.out⟩
    case measure=>simp[intOf];omega
   ·obtain⟨w5,hw5⟩:∃qW,w4.setCell ⟨w3.heap.size,0,none⟩ (.bool true)=qW:=⟨_,rfl⟩
    have HG5:Hid (w4.grownBy w5 (some w3.heap.size)):=by show World.grownBy _ _ _;rw[←hw5];exact grownBy_setCell _ _ _ _
    have HX5:Hid (Blk w5 w3.heap.size 88 #[.bool true,.bool pl]):=by show Blk _ _ _ _;rw[←hw5];exact Blk.set HX4.out 0 _
    have HX35:=kG HX34 HG5 (by have:=HS3.out;omega)
    have HM5:=Mp.put HM4 HG5 (by have:=HS3.out;have:=HML.out;omega)
    have zf:=HX4.out.frozen
    have lf:=HX4.out.lt
    have HB5:Hid (Below w.heap.size w w5):=HB4.out.trans (belG HG5.out (by have:=HS3.out;have:=HB.out.size;omega) (Nat.le_trans HB3.out.size HN4.out.size))
    obtain⟨i0,i1,i2,i3,i4⟩:=HX35.out.c5
    obtain⟨j0,j1⟩:=HX5.out.c2
    go_wp2_with (first | (at_mapUpdate;refine wpList_mapUpdate_mp rfl _ _ _ 70 rfl 88 Tryz.underlying70 HM5 rfl (by have:=hl;unfold maxLen;omega) x.sort (.agg #[.bool true,.bool pl]) rfl rfl hsz ?_) | go_in)
    intro w6 HM6 HG6
    have HB6:Hid (Below w.heap.size w w6):=HB5.out.trans (belG HG6.out HWB.out HB5.out.size)
    clear s0 s1 s2 s3 s4 e0 e1 e2 e3 e4 f0 f1 f2 f3 f4 g0 g1 i0 i1 i2 i3 i4 j0 j1
    go_wp2
    go_roundw
    case rel=>exact ⟨k+1,n+1,by omega,by omega,by go_num,by rw[HKS.out];simpa using HM6.out,HB6.out⟩
    case measure=>simp[intOf];omega
  obtain rfl:k=N:=by omega
  go_wp2
  go_ret
  have e:L.take k=L:=List.take_of_length_le (by rw[HLN.out];exact Nat.le_refl _)
  rw[e] at HM
  exact ⟨⟨_,n,rfl,HM.out,HB1.out.size⟩,HB.out⟩
end Go.Proofs.YtilpgpcgcpedjaaGreat
