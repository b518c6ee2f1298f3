/- The document's own lists: whether a name stands in one, which sorts there are, which are lexical, where a constructor stands. -/
import Derived.Test.YtilpgpcgcpedjaaGreatKr
import Derived.Test.YtilpgpcgcpedjaaGreatKm
namespace Go.Proofs.YtilpgpcgcpedjaaGreat
open Go.RowKit
set_option linter.unusedVariables false
set_option linter.unusedSimpArgs false
set_option maxRecDepth 100000
set_option maxHeartbeats 16000000
theorem in60_any (l:List ByteArray) (v:Value) (s:ByteArray) (lo:Nat) (w:World) (h:NamesAt w lo l v) (hl:l.length≤140737488355328):
  Calls Tryz.prog 60 #[v,.string s] w fun e w'=>e=.returned (.bool (decide (s∈l)))∧w'=w:=by
 obtain⟨va,vc,rfl⟩:=own_slice h.row
 have HC:Hid (∀j x,l[j]?=some x→∃g,va=some ⟨g,0,none⟩∧w.cell? ⟨g,j,none⟩=some (.string x)):=fun j x hj=>by
  obtain⟨g,cap,e,_,_,hc⟩:=names_cell h hj
  injection e with e1 _ _
  exact ⟨g,e1,hc⟩
 obtain⟨N,hN⟩:∃N,l.length=N:=⟨_,rfl⟩
 have HN:=hHi hN
 rw[hN] at hl ⊢
 obtain⟨r,hr⟩:∃r,decide (s∈l)=r:=⟨_,rfl⟩
 rw[hr]
 have HR:=hHi hr
 clear h hN hr
 go_enter Tryz.func60,Tryz.ntmps60
 go_wp2
 go_loopw[5] (fun iv W=>∃k:Nat,k≤N∧iv=.int .i64 k∧s∉l.take k∧W=w) (fun iv _=>N-(intOf iv).toNat)
 case atStart=>exact ⟨0,Nat.zero_le _,rfl,by simp,rfl⟩
 case round=>
  obtain⟨k,hk,rfl,hn,hW⟩:=hrel
  have HNI:=hHi hn
  subst hW
  clear hn
  by_cases hlt:k<N
  ·obtain⟨x,hx⟩:∃x,l[k]?=some x:=⟨l[k]'(by rw[HN.out];exact hlt),by simp⟩
   have HT:Hid (l.take (k+1)=l.take k++[x]):=take_snoc' hx
   obtain⟨g,rfl,s0⟩:=HC.out k x hx
   have hltI:(k:Int)<N:=by omega
   have HME:=hHi (List.mem_of_getElem? hx)
   clear hx
   by_cases hxs:x=s
   ·have hnb:(x.toList==s.toList)=true:=by rw[tl_beq];simp[hxs]
    have HRR:Hid (r=true):=by show _=_;rw[←HR.out];exact decide_eq_true (hxs▸HME.out)
    clear hxs
    go_wp2
    go_ret
    exact ⟨by rw[HRR.out];rfl,rfl⟩
   ·have hnb:(x.toList==s.toList)=false:=by rw[tl_beq];simp[hxs]
    have HNX:Hid (s∉l.take (k+1)):=by
     show ¬_
     rw[HT.out]
     intro h
     rcases List.mem_append.1 h with h|h
     ·exact HNI.out h
     ·simp at h
      exact hxs h.symm
    clear hxs
    go_wp2
    go_roundw
    case rel=>exact ⟨k+1,by omega,by go_num,HNX.out,trivial⟩
    case measure=>simp[intOf];omega
  ·obtain rfl:k=N:=by omega
   have HRR:Hid (r=false):=by
    show _=_
    rw[←HR.out]
    refine decide_eq_false (fun h=>HNI.out ?_)
    rw[List.take_of_length_le (by rw[HN.out];exact Nat.le_refl _)]
    exact h
   go_wp2
   go_ret
   exact ⟨by rw[HRR.out];rfl,rfl⟩
theorem in30_any (l:List ByteArray) (v:Value) (s:ByteArray) (lo:Nat) (w:World) (h:NamesAt w lo l v) (hl:l.length≤140737488355328):
  Calls Tryz.prog 30 #[v,.string s] w fun e w'=>e=.returned (.bool (decide (s∈l)))∧w'=w:=by
 obtain⟨va,vc,rfl⟩:=own_slice h.row
 have HC:Hid (∀j x,l[j]?=some x→∃g,va=some ⟨g,0,none⟩∧w.cell? ⟨g,j,none⟩=some (.string x)):=fun j x hj=>by
  obtain⟨g,cap,e,_,_,hc⟩:=names_cell h hj
  injection e with e1 _ _
  exact ⟨g,e1,hc⟩
 obtain⟨N,hN⟩:∃N,l.length=N:=⟨_,rfl⟩
 have HN:=hHi hN
 rw[hN] at hl ⊢
 obtain⟨r,hr⟩:∃r,decide (s∈l)=r:=⟨_,rfl⟩
 rw[hr]
 have HR:=hHi hr
 clear h hN hr
 go_enter Tryz.func30,Tryz.ntmps30
 go_wp2
 go_loopw[5] (fun iv W=>∃k:Nat,k≤N∧iv=.int .i64 k∧s∉l.take k∧W=w) (fun iv _=>N-(intOf iv).toNat)
 case atStart=>exact ⟨0,Nat.zero_le _,rfl,by simp,rfl⟩
 case round=>
  obtain⟨k,hk,rfl,hn,hW⟩:=hrel
  have HNI:=hHi hn
  subst hW
  clear hn
  by_cases hlt:k<N
  ·obtain⟨x,hx⟩:∃x,l[k]?=some x:=⟨l[k]'(by rw[HN.out];exact hlt),by simp⟩
   have HT:Hid (l.take (k+1)=l.take k++[x]):=take_snoc' hx
   obtain⟨g,rfl,s0⟩:=HC.out k x hx
   have hltI:(k:Int)<N:=by omega
   have HME:=hHi (List.mem_of_getElem? hx)
   clear hx
   by_cases hxs:x=s
   ·have hnb:(x.toList==s.toList)=true:=by rw[tl_beq];simp[hxs]
    have HRR:Hid (r=true):=by show _=_;rw[←HR.out];exact decide_eq_true (hxs▸HME.out)
    clear hxs
    go_wp2
    go_ret
    exact ⟨by rw[HRR.out];rfl,rfl⟩
   ·have hnb:(x.toList==s.toList)=false:=by rw[tl_beq];simp[hxs]
    have HNX:Hid (s∉l.take (k+1)):=by
     show ¬_
     rw[HT.out]
     intro h
     rcases List.mem_append.1 h with h|h
     ·exact HNI.out h
     ·simp at h
      exact hxs h.symm
    clear hxs
    go_wp2
    go_roundw
    case rel=>exact ⟨k+1,by omega,by go_num,HNX.out,trivial⟩
    case measure=>simp[intOf];omega
  ·obtain rfl:k=N:=by omega
   have HRR:Hid (r=false):=by
    show _=_
    rw[←HR.out]
    refine decide_eq_false (fun h=>HNI.out ?_)
    rw[List.take_of_length_le (by rw[HN.out];exact Nat.le_refl _)]
    exact h
   go_wp2
   go_ret
   exact ⟨by rw[HRR.out];rfl,rfl⟩
theorem rsorts_any (d:Df) (vs:List Value) (w:World) (h:DO w d vs):
  Calls Tryz.prog 19 #[.agg ⟨vs⟩] w fun e w'=>(∃va vc,e=.returned (.slice va (srt d.prods).length vc)∧NamesAt w' w.heap.size (srt d.prods) (.slice va (srt d.prods).length vc))∧Below w.heap.size w w':=by
 obtain⟨i0,hi,hz0,hz1,hz2⟩:=info_parts info9
 obtain⟨a2,p2,a3,p3,a4,p4,a5,p5,a6,p6,rfl,r2,_⟩:=h.form
 obtain⟨f,hf⟩:=h.sz
 have hz:=hf.p
 have hN:=h.nm.prods
 obtain⟨L,hL⟩:∃L,d.prods=L:=⟨_,rfl⟩
 rw[hL] at r2 hz hN ⊢
 obtain⟨N,hLN⟩:∃N,L.length=N:=⟨_,rfl⟩
 have HR1:=hHi r2
 have HLN:=hHi hLN
 have HNM:=hHi hN
 rw[hLN] at hz ⊢
 obtain⟨w1,hw1⟩:∃qW,w.alloc (.cells #[.string d.start,.string d.layout,.slice a2 N p2,.slice a3 d.chains.length p3,.slice a4 d.follows.length p4,.slice a5 d.rejects.length p5,.slice a6 d.boxes.length p6] 28)=qW:=⟨_,rfl⟩
 have HX1:=kN hw1
 have HB1:=kB hw1
 have HS1:Hid (w1.heap.size=w.heap.size+1):=by show _=_;rw[←hw1];simp
 have HLE:Hid (∀k,k≤N→(srt (L.take k)).length≤k):=fun k hk=>Nat.le_trans (srt_len _) (by rw[List.length_take];exact Nat.min_le_left _ _)
 clear r2 hf h hN hL hLN
 go_enter Tryz.func19,Tryz.ntmps19
 obtain⟨d0,d1,d2,d3,d4,d5,d6⟩:=HX1.out.c7
 go_wp2
 go_loopw[3,4] (fun lv iv W=>∃(k:Nat) (va:Option Addr) (vc:Nat),k≤N∧iv=.int .i64 k∧lv=.slice va (srt (L.take k)).length vc∧NamesAt W w1.heap.size (srt (L.take k)) (.slice va (srt (L.take k)).length vc)∧Below w1.heap.size w1 W) (fun _ iv _=>N-(intOf iv).toNat)
 case atStart=>exact ⟨0,none,0,Nat.zero_le _,rfl,rfl,⟨World.ownsRow_nil _ _ _ _⟩,Below.refl _ _⟩
 case round=>
  obtain⟨k,va,vc,hk,rfl,rfl,hNA,hB⟩:=hrel
  have HB:=hHi hB
  have HNA:=hHi hNA
  have HX:=kA HX1 HB
  clear hB hNA d0 d1 d2 d3 d4 d5 d6
  obtain⟨d0,d1,d2,d3,d4,d5,d6⟩:=HX.out.c7
  by_cases hlt:k<N
  case pos=>
   obtain⟨x,hx⟩:∃x,L[k]?=some x:=⟨L[k]'(by rw[HLN.out];exact hlt),by simp⟩
   obtain⟨b,o,us,hb,hlb,hus,hc⟩:=HR1.out k x hx
   obtain⟨v,rfl,a7,p7,rfl,_⟩:=hus
   subst hb
   have HT:Hid (L.take (k+1)=L.take k++[x]):=take_snoc' hx
   have HME:=hHi (List.mem_of_getElem? hx)
   have HXX:=hHi hx
   have hq_:=hcb (below_tr HB1.out HB.out) hlb hc
   have s0:=hq_ 0 _ rfl
   have s1:=hq_ 1 _ rfl
   have s2:=hq_ 2 _ rfl
   have s3:=hq_ 3 _ rfl
   have s4:=hq_ 4 _ rfl
   rw[Nat.add_zero] at s0
   have hltI:(k:Int)<N:=by omega
   clear hq_ hc hx
   have HC:=hU (in60_any (srt (L.take k)) _ x.sort _ wr HNA.out (by have:=HLE.out k hk;omega))
   have HSS:Hid (srt (L.take (k+1))=addN (srt (L.take k)) x.sort):=by show _=_;rw[HT.out];exact srt_snoc _ _
   by_cases hm:x.sort∈srt (L.take k)
   ·rw[decide_eq_true hm] at HC
    have HE:Hid (srt (L.take (k+1))=srt (L.take k)):=by show _=_;rw[HSS.out];unfold addN;rw[if_pos hm]
    clear hm HSS
    go_wp2_with fail
    refine hMo HC ?_
    rintro e w2 ⟨rfl,hw⟩
    have hw:=hw.symm
    subst hw
    clear HC
    go_wp2
    go_roundw
    case rel=>exact ⟨k+1,va,vc,by omega,by go_num,by rw[HE.out],by rw[HE.out];exact HNA.out,HB.out⟩
    case measure=>simp[intOf];omega
   ·rw[decide_eq_false hm] at HC
    have HE:Hid (srt (L.take (k+1))=srt (L.take k)++[x.sort]):=by show _=_;rw[HSS.out];unfold addN;rw[if_neg hm]
    clear hm HSS
    go_wp2_with fail
    refine hMo HC ?_
    rintro e w2 ⟨rfl,hw⟩
    have hw:=hw.symm
    subst hw
    clear HC
    have HROW:=hU HNA.out.row
    have HOB:Hid (∀b,(Value.slice va (srt (L.take k)).length vc).ownBlock=some b→w1.heap.size≤b∧b<wr.heap.size):=fun b hb=>by have:=HNA.out.row.lt b hb;omega
    have h16:((srt (L.take k)).length+1)*16≤140737488355328:=by have:=HLE.out k hk;omega
    go_wp2_with (at_builtin;refine wpList_append_lies _ rfl _ _ 36 rfl (w1.heap.size) 9 i0 _ 1 16 Tryz.underlying36 hi hz0 hz1 hz2 rfl (by decide) (.slice va (srt (L.take k)).length vc) (srt (L.take k)).length (ncells (srt (L.take k))) rfl ((HROW.out ()).alloc _) ⟨wr.heap.size,0,none⟩ 1 1 [.string x.sort] rfl rfl ?ca1 ?ca2 (by decide) ?ca3 ?ca4 ?ca5 (wr.heap.size+1) (by simp) ?_)
    case ca1=>exact new_cells _ _ [.string x.sort]
    case ca2=>intro u hu;simp at hu;subst hu;rfl
    case ca3=>unfold maxLen;omega
    case ca4=>exact h16
    case ca5=>have:=HB.out.size;simp;omega
    intro g1 cap1 w7 hown hgrow hat hlt7
    have HI5:Hid (NamesAt w7 (w1.heap.size) (srt (L.take k)++[x.sort]) (.slice (some ⟨g1,0,none⟩) (srt (L.take k)++[x.sort]).length cap1)):=by show NamesAt _ _ _ _;rw[List.length_append];exact ⟨by simpa [ncells] using hown⟩
    have HB7:Hid (Below w1.heap.size w1 w7):=HB.out.trans (((Below.refl _ _).alloc HB.out.size _).trans (belO hgrow (fun b hb=>(HOB.out b hb).1) (by have:=HB.out.size;simp;omega)))
    clear hown hgrow hat hlt7
    clear s0 s1 s2 s3 s4 d0 d1 d2 d3 d4 d5 d6
    go_wp2
    go_roundw
    case rel=>exact ⟨k+1,_,_,by omega,by go_num,by rw[HE.out,List.length_append];rfl,by rw[HE.out];exact HI5.out,HB7.out⟩
    case measure=>simp[intOf];omega
  obtain rfl:k=N:=by omega
  go_wp2
  go_ret
  have e:L.take k=L:=List.take_of_length_le (by rw[HLN.out];exact Nat.le_refl _)
  rw[e] at HNA ⊢
  exact ⟨⟨va,vc,rfl,⟨row_mono HNA.out.row HB1.out.size⟩⟩,below_tr HB1.out HB.out⟩
def isL (l:List Pr) (s:ByteArray) (b:Bool):Bool:=l.any fun p=>decide (p.sort=s)&&(p.lex==b)
theorem isL_true (l:List Pr) (s:ByteArray):isL l s true=lexd l s:=by unfold isL lexd;congr 1;funext p;cases p.lex<;>rfl
theorem isL_false (l:List Pr) (s:ByteArray):isL l s false=plnd l s:=by unfold isL plnd;congr 1;funext p;cases p.lex<;>rfl
theorem rislex_any (d:Df) (vs:List Value) (s:ByteArray) (bb:Bool) (w:World) (h:DO w d vs):
  Calls Tryz.prog 62 #[.agg ⟨vs⟩,.string s,.bool bb] w fun e w'=>e=.returned (.bool (isL d.prods s bb))∧Below w.heap.size w w':=by
 obtain⟨a2,p2,a3,p3,a4,p4,a5,p5,a6,p6,rfl,r2,_⟩:=h.form
 obtain⟨f,hf⟩:=h.sz
 have hz:=hf.p
 have hN:=h.nm.prods
 obtain⟨L,hL⟩:∃L,d.prods=L:=⟨_,rfl⟩
 rw[hL] at r2 hz hN ⊢
 obtain⟨N,hLN⟩:∃N,L.length=N:=⟨_,rfl⟩
 have HR1:=hHi r2
 have HLN:=hHi hLN
 have HNM:=hHi hN
 rw[hLN] at hz ⊢
 obtain⟨w1,hw1⟩:∃qW,w.alloc (.cells #[.string d.start,.string d.layout,.slice a2 N p2,.slice a3 d.chains.length p3,.slice a4 d.follows.length p4,.slice a5 d.rejects.length p5,.slice a6 d.boxes.length p6] 28)=qW:=⟨_,rfl⟩
 have HX1:=kN hw1
 have HB1:=kB hw1
 have HS1:Hid (w1.heap.size=w.heap.size+1):=by show _=_;rw[←hw1];simp
 obtain⟨r,hr⟩:∃r,isL L s bb=r:=⟨_,rfl⟩
 rw[hr]
 have HR:=hHi hr
 clear r2 hf h hN hL hLN hr
 go_enter Tryz.func62,Tryz.ntmps62
 obtain⟨d0,d1,d2,d3,d4,d5,d6⟩:=HX1.out.c7
 go_wp2
 go_loopw[7] (fun iv W=>∃k:Nat,k≤N∧iv=.int .i64 k∧isL (L.take k) s bb=false∧W=w1) (fun iv _=>N-(intOf iv).toNat)
 case atStart=>exact ⟨0,Nat.zero_le _,rfl,rfl,rfl⟩
 case round=>
  obtain⟨k,hk,rfl,hn,hW⟩:=hrel
  have HNI:=hHi hn
  subst hW
  clear hn
  by_cases hlt:k<N
  case pos=>
   obtain⟨x,hx⟩:∃x,L[k]?=some x:=⟨L[k]'(by rw[HLN.out];exact hlt),by simp⟩
   obtain⟨b,o,us,hb,hlb,hus,hc⟩:=HR1.out k x hx
   obtain⟨v,rfl,a7,p7,rfl,_⟩:=hus
   subst hb
   have HT:Hid (L.take (k+1)=L.take k++[x]):=take_snoc' hx
   have HME:=hHi (List.mem_of_getElem? hx)
   have HXX:=hHi hx
   have hq_:=hcb (HB1.out) hlb hc
   have s0:=hq_ 0 _ rfl
   have s1:=hq_ 1 _ rfl
   have s2:=hq_ 2 _ rfl
   have s3:=hq_ 3 _ rfl
   have s4:=hq_ 4 _ rfl
   rw[Nat.add_zero] at s0
   have hltI:(k:Int)<N:=by omega
   clear hq_ hc hx
   have HNX:Hid (¬(x.sort=s∧x.lex=bb)→isL (L.take (k+1)) s bb=false):=fun hq=>by
    rw[HT.out]
    have h0:=HNI.out
    unfold isL at h0 ⊢
    rw[List.any_append,h0]
    simp
    intro h1 h2
    exact hq ⟨h1,h2⟩
   have HYX:Hid (x.sort=s∧x.lex=bb→r=true):=fun hq=>by
    rw[←HR.out]
    unfold isL
    rw[List.any_eq_true]
    exact ⟨x,HME.out,by simp[hq.1,hq.2]⟩
   by_cases hxs:x.sort=s
   ·have hnb:(x.sort.toList==s.toList)=true:=by rw[tl_beq];simp[hxs]
    by_cases hxl:x.lex=bb
    ·have hnl:(x.lex==bb)=true:=by simp[hxl]
     have HRR:=hHi (HYX.out ⟨hxs,hxl⟩)
     clear hxs hxl
     go_wp2
     go_ret
     exact ⟨by rw[HRR.out];rfl,HB1.out⟩
    ·have hnl:(x.lex==bb)=false:=by simp[hxl]
     have HNY:=hHi (HNX.out (fun h=>hxl h.2))
     clear hxs hxl
     go_wp2
     go_roundw
     case rel=>exact ⟨k+1,by omega,by go_num,HNY.out,trivial⟩
     case measure=>simp[intOf];omega
   ·have hnb:(x.sort.toList==s.toList)=false:=by rw[tl_beq];simp[hxs]
    have HNY:=hHi (HNX.out (fun h=>hxs h.1))
    clear hxs
    go_wp2
    go_roundw
    case rel=>exact ⟨k+1,by omega,by go_num,HNY.out,trivial⟩
    case measure=>simp[intOf];omega
  obtain rfl:k=N:=by omega
  have HRR:Hid (r=false):=by
   show _=_
   have h0:=HNI.out
   rw[List.take_of_length_le (by rw[HLN.out];exact Nat.le_refl _)] at h0
   rw[←HR.out]
   exact h0
  go_wp2
  go_ret
  exact ⟨by rw[HRR.out];rfl,HB1.out⟩
theorem rcons_any (d:Df) (vs:List Value) (s:ByteArray) (w:World) (h:DO w d vs):
  Calls Tryz.prog 25 #[.agg ⟨vs⟩,.string s] w fun e w'=>e=.returned (.int .i64 (consI d.prods s))∧Below w.heap.size w w':=by
 obtain⟨a2,p2,a3,p3,a4,p4,a5,p5,a6,p6,rfl,r2,_⟩:=h.form
 obtain⟨f,hf⟩:=h.sz
 have hz:=hf.p
 have hN:=h.nm.prods
 obtain⟨L,hL⟩:∃L,d.prods=L:=⟨_,rfl⟩
 rw[hL] at r2 hz hN ⊢
 obtain⟨N,hLN⟩:∃N,L.length=N:=⟨_,rfl⟩
 have HR1:=hHi r2
 have HLN:=hHi hLN
 have HNM:=hHi hN
 rw[hLN] at hz ⊢
 obtain⟨w1,hw1⟩:∃qW,w.alloc (.cells #[.string d.start,.string d.layout,.slice a2 N p2,.slice a3 d.chains.length p3,.slice a4 d.follows.length p4,.slice a5 d.rejects.length p5,.slice a6 d.boxes.length p6] 28)=qW:=⟨_,rfl⟩
 have HX1:=kN hw1
 have HB1:=kB hw1
 have HS1:Hid (w1.heap.size=w.heap.size+1):=by show _=_;rw[←hw1];simp
 obtain⟨r,hr⟩:∃r,consI L s=r:=⟨_,rfl⟩
 rw[hr]
 have HR:=hHi hr
 clear r2 hf h hN hL hLN hr
 go_enter Tryz.func25,Tryz.ntmps25
 obtain⟨d0,d1,d2,d3,d4,d5,d6⟩:=HX1.out.c7
 go_wp2
 go_loopw[5] (fun iv W=>∃k:Nat,k≤N∧iv=.int .i64 k∧(∀q∈L.take k,¬(consOf q=s∧s≠no))∧W=w1) (fun iv _=>N-(intOf iv).toNat)
 case atStart=>exact ⟨0,Nat.zero_le _,rfl,by simp,rfl⟩
 case round=>
  obtain⟨k,hk,rfl,hn,hW⟩:=hrel
  have HNI:=hHi hn
  subst hW
  clear hn
  by_cases hlt:k<N
  case pos=>
   obtain⟨x,hx⟩:∃x,L[k]?=some x:=⟨L[k]'(by rw[HLN.out];exact hlt),by simp⟩
   obtain⟨b,o,us,hb,hlb,hus,hc⟩:=HR1.out k x hx
   obtain⟨v,rfl,a7,p7,rfl,_⟩:=hus
   subst hb
   have HT:Hid (L.take (k+1)=L.take k++[x]):=take_snoc' hx
   have HME:=hHi (List.mem_of_getElem? hx)
   have HXX:=hHi hx
   have hq_:=hcb (HB1.out) hlb hc
   have s0:=hq_ 0 _ rfl
   have s1:=hq_ 1 _ rfl
   have s2:=hq_ 2 _ rfl
   have s3:=hq_ 3 _ rfl
   have s4:=hq_ 4 _ rfl
   rw[Nat.add_zero] at s0
   have hltI:(k:Int)<N:=by omega
   clear hq_ hc hx
   have HNX:Hid (¬(consOf x=s∧s≠no)→∀q∈L.take (k+1),¬(consOf q=s∧s≠no)):=fun hq q hm=>by
    rw[HT.out] at hm
    rcases List.mem_append.1 hm with h|h
    ·exact HNI.out q h
    ·simp at h
     subst h
     exact hq
   have HYX:Hid (consOf x=s∧s≠no→r=(k:Int)):=fun hq=>by
    rw[←HR.out]
    unfold consI firstCons
    rw[List.findIdx?_eq_some_iff_getElem.2 ⟨by rw[HLN.out];exact hlt,?_,?_⟩]
    ·have:=(List.getElem?_eq_some_iff.1 HXX.out).2
     rw[this]
     simpa using hq
    ·intro j hj
     have:=HNI.out (L[j]'(by rw[HLN.out];omega)) (List.mem_take_iff_getElem.2 ⟨j,by rw[HLN.out];omega,rfl⟩)
     simpa using this
   cases hl:x.lex with
   | true=>
    have HNY:=hHi (HNX.out (fun h=>by have h1:=h.1;unfold consOf at h1;rw[hl,if_pos rfl] at h1;exact h.2 h1.symm))
    rw[hl] at s0
    clear hl
    go_wp2
    go_roundw
    case rel=>exact ⟨k+1,by omega,by go_num,HNY.out,trivial⟩
    case measure=>simp[intOf];omega
   | false=>
    have HCX:Hid (consOf x=x.cons):=by show _=_;unfold consOf;rw[hl];rfl
    rw[hl] at s0
    clear hl
    by_cases hxs:x.cons=s
    ·have hnb:(x.cons.toList==s.toList)=true:=by rw[tl_beq];simp[hxs]
     rcases emp_no s with ⟨hne,hd⟩|⟨hne,hd⟩
     ·have HNY:=hHi (HNX.out (fun h=>h.2 hne))
      clear hxs hne
      go_wp2
      go_roundw
      case rel=>exact ⟨k+1,by omega,by go_num,HNY.out,trivial⟩
      case measure=>simp[intOf];omega
     ·have HRR:=hHi (HYX.out ⟨HCX.out.trans hxs,hne⟩)
      clear hxs hne
      go_wp2
      go_ret
      exact ⟨by rw[HRR.out];rfl,HB1.out⟩
    ·have hnb:(x.cons.toList==s.toList)=false:=by rw[tl_beq];simp[hxs]
     have HNY:=hHi (HNX.out (fun h=>hxs (HCX.out.symm.trans h.1)))
     clear hxs
     go_wp2
     go_roundw
     case rel=>exact ⟨k+1,by omega,by go_num,HNY.out,trivial⟩
     case measure=>simp[intOf];omega
  obtain rfl:k=N:=by omega
  have HRR:Hid (r=-1):=by
   show _=_
   have h0:=HNI.out
   rw[List.take_of_length_le (by rw[HLN.out];exact Nat.le_refl _)] at h0
   rw[←HR.out]
   unfold consI firstCons
   rw[List.findIdx?_eq_none_iff.2 (fun q hq=>by simpa using h0 q hq)]
  go_wp2
  go_ret
  exact ⟨by rw[HRR.out];rfl,HB1.out⟩
end Go.Proofs.YtilpgpcgcpedjaaGreat
