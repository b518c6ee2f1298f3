/- The sort of which a text may be all of a production's text, if there is one: the program's list. -/
import Derived.Test.YtilpgpcgcpedjaaGreatKh
namespace Go.Proofs.YtilpgpcgcpedjaaGreat
open Go.RowKit
set_option linter.unusedVariables false
set_option linter.unusedSimpArgs false
set_option maxRecDepth 100000
set_option maxHeartbeats 16000000
def needS (l:List Sy):List Sy:=l.filter fun s=>!omit' s
theorem needS_snoc (l:List Sy) (x:Sy):needS (l++[x])=if omit' x=true then needS l else needS l++[x]:=by
 unfold needS
 rw[List.filter_append]
 cases h:omit' x<;>simp[h]
theorem needS_len (l:List Sy):(needS l).length≤l.length:=List.length_filter_le _ _
theorem bareL_none {p:Pr} (h:(needed p).length≠1):bareL p=[]:=by
 unfold bareL
 split
 ·rename_i s hs
  rw[hs] at h
  exact absurd rfl h
 ·rfl
theorem bareL_one {p:Pr} {x:Sy} (h:needed p=[x]):bareL p=if x.name≠no∧(x.kind=3∨x.kind=6) then [x.name] else []:=by
 unfold bareL
 rw[h]
theorem bareL_le (p:Pr):(bareL p).length≤1:=by
 unfold bareL
 split
 ·split<;>simp
 ·simp
theorem scell_len (x:Sy):(scell x).length=8:=rfl
theorem c8 {W:World} {b:Nat} {t:TypeId} {v0 v1 v2 v3 v4 v5 v6 v7:Value} (h:Blk W b t #[v0,v1,v2,v3,v4,v5,v6,v7]):W.cell? ⟨b,0,none⟩=some v0∧W.cell? ⟨b,1,none⟩=some v1∧W.cell? ⟨b,2,none⟩=some v2∧W.cell? ⟨b,3,none⟩=some v3∧W.cell? ⟨b,4,none⟩=some v4∧W.cell? ⟨b,5,none⟩=some v5∧W.cell? ⟨b,6,none⟩=some v6∧W.cell? ⟨b,7,none⟩=some v7:=⟨h.cell 0 rfl,h.cell 1 rfl,h.cell 2 rfl,h.cell 3 rfl,h.cell 4 rfl,h.cell 5 rfl,h.cell 6 rfl,h.cell 7 rfl⟩
theorem bare_any (p:Pr) (vs:List Value) (w:World) (h:PrV w w.heap.size p vs) (hz:p.syms.length*88≤140737488355328):
  Calls Tryz.prog 98 #[.agg ⟨vs⟩] w fun e w'=>(∃va vc,e=.returned (.slice va (bareL p).length vc)∧NamesAt w' w.heap.size (bareL p) (.slice va (bareL p).length vc))∧Below w.heap.size w w':=by
 obtain⟨i0,hi,hz0,hz1,hz2⟩:=info_parts info134
 obtain⟨v,rfl,a1,p1,rfl,hl0,hl1,hr1⟩:=h
 have HB0:Hid ((needS p.syms).length≠1→bareL p=[]):=fun h=>bareL_none h
 have HB2:Hid (∀x,needS p.syms=[x]→bareL p=if x.name≠no∧(x.kind=3∨x.kind=6) then [x.name] else []):=fun x h=>bareL_one h
 obtain⟨R,hR⟩:∃R,bareL p=R:=⟨_,rfl⟩
 rw[hR] at HB0 HB2 ⊢
 clear hR
 obtain⟨L,hL⟩:∃L,p.syms=L:=⟨_,rfl⟩
 rw[hL] at hl0 hl1 hr1 hz HB0 HB2 ⊢
 clear hL
 obtain⟨N,hN⟩:∃N,L.length=N:=⟨_,rfl⟩
 have HR1:=hHi hr1
 have HN:=hHi hN
 rw[hN] at hl0 hl1 hz ⊢
 clear hr1 hN
 go_enter Tryz.func98,Tryz.ntmps98
 obtain⟨w1,hw1⟩:∃qW,w.alloc (.cells #[.bool p.lex,.string p.sort,.string p.cons,.bool p.bracket,.slice a1 N p1] 44)=qW:=⟨_,rfl⟩
 have HX1:=kN hw1
 have HB1:=kB hw1
 have HS1:Hid (w1.heap.size=w.heap.size+1):=by show _=_;rw[←hw1];simp
 obtain⟨d0,d1,d2,d3,d4⟩:=HX1.out.c5
 go_wp2
 go_loopw[3,10] (fun lv iv W=>∃(k:Nat) (va:Option Addr) (vc:Nat),k≤N∧lv=.slice va (needS (L.take k)).length vc∧iv=.int .i64 k∧W.ownsRow w.heap.size 62 8 (.slice va (needS (L.take k)).length vc) (needS (L.take k)).length (scells (needS (L.take k)))∧Below w.heap.size w W) (fun _ iv _=>N-(intOf iv).toNat)
 case atStart=>exact ⟨0,none,0,Nat.zero_le _,rfl,rfl,World.ownsRow_nil _ _ _ _,HB1.out⟩
 case round=>
  obtain⟨k,va,vc,hk,rfl,rfl,hI,hB⟩:=hrel
  have HI:=hHi hI
  have HB:=hHi hB
  clear hI hB
  by_cases hlt:k<N
  case pos=>
   obtain⟨x,hx⟩:∃x,L[k]?=some x:=⟨L[k]'(by rw[HN.out];exact hlt),by simp⟩
   obtain⟨b,o,us,hb,hlb,hus,hc⟩:=HR1.out k x hx
   obtain⟨hok,rfl⟩:=hus
   subst hb
   have HT:Hid (L.take (k+1)=L.take k++[x]):=take_snoc' hx
   have hq_:=hcb HB.out hlb hc
   have s0:=hq_ 0 _ rfl
   have s1:=hq_ 1 _ rfl
   have s2:=hq_ 2 _ rfl
   have s3:=hq_ 3 _ rfl
   have s4:=hq_ 4 _ rfl
   have s5:=hq_ 5 _ rfl
   have s6:=hq_ 6 _ rfl
   have s7:=hq_ 7 _ rfl
   rw[Nat.add_zero] at s0
   have hltI:(k:Int)<N:=by omega
   clear hq_ hc hx hok
   obtain⟨w2,hw2⟩:∃qW,wr.alloc (.cells #[.int .i64 x.kind,.string x.text,.int .u64 x.set.a,.int .u64 x.set.b,.int .u64 x.set.c,.int .u64 x.set.d,.string x.name,.string x.sep] 62)=qW:=⟨_,rfl⟩
   have HN2:=kB hw2
   have HX2:=kN hw2
   have HB2:Hid (Below w.heap.size w w2):=below_tr HB.out HN2.out
   have HS2:Hid (w2.heap.size=wr.heap.size+1):=by show _=_;rw[←hw2];simp
   have HI2:=hHi (own_after HI.out HN2.out)
   have HK:=hHi (needS_snoc (L.take k) x)
   rw[←HT.out] at HK
   have HC:=hU (mayOmit_any x w2)
   obtain⟨e0,e1,e2,e3,e4,e5,e6,e7⟩:=c8 HX2.out
   go_wp2_with fail
   refine hMo HC ?_
   rintro e w3 ⟨rfl,hb3⟩
   have HB3:=hHi hb3
   have HX3:=kA HX2 HB3
   have HB3':Hid (Below w.heap.size w w3):=below_tr HB2.out HB3.out
   have HI3:=hHi (own_after HI2.out HB3.out)
   have HOB:Hid (∀b,(Value.slice va (needS (L.take k)).length vc).ownBlock=some b→w.heap.size≤b∧b<w3.heap.size):=fun b hb=>by have:=HI3.out.lt b hb;omega
   clear HC hb3 e0 e1 e2 e3 e4 e5 e6 e7 s0 s1 s2 s3 s4 s5 s6 s7
   obtain⟨e0,e1,e2,e3,e4,e5,e6,e7⟩:=c8 HX3.out
   cases hom:omit' x
   ·rw[hom,if_neg (by simp)] at HK
    have HLE:=hHi (needS_len (L.take k))
    have HTL:Hid ((L.take k).length=k):=by show _=_;rw[List.length_take,HN.out];omega
    have HROW:=hU HI3.out
    have h88:((needS (L.take k)).length+1)*88≤140737488355328:=by have:=HLE.out;have:=HTL.out;omega
    go_wp2_with (at_builtin;refine wpList_append_lies _ rfl _ _ 42 rfl w.heap.size 62 i0 _ 8 88 Tryz.underlying42 hi hz0 hz1 hz2 rfl (by decide) (.slice va (needS (L.take k)).length vc) (needS (L.take k)).length (scells (needS (L.take k))) rfl ((HROW.out ()).alloc _) ⟨w3.heap.size,0,none⟩ 1 1 (scell x) rfl rfl ?ca1 ?ca2 (by decide) ?ca3 ?ca4 ?ca5 (w3.heap.size+1) (by simp) ?_)
    case ca1=>exact new_cells _ _ (scell x)
    case ca2=>intro u hu;simp[scell] at hu;rcases hu with rfl|rfl|rfl|rfl|rfl|rfl|rfl|rfl<;>rfl
    case ca3=>unfold maxLen;omega
    case ca4=>exact h88
    case ca5=>have:=HB3'.out.size;simp;omega
    intro g1 cap1 w7 hown hgrow hat hlt7
    have HI5:Hid (w7.ownsRow w.heap.size 62 8 (.slice (some ⟨g1,0,none⟩) (needS (L.take (k+1))).length cap1) (needS (L.take (k+1))).length (scells (needS (L.take (k+1))))):=by show World.ownsRow _ _ _ _ _ _ _;rw[HK.out,List.length_append];simpa [scells] using hown
    have HB7:Hid (Below w.heap.size w w7):=HB3'.out.trans (((Below.refl _ _).alloc HB3'.out.size _).trans (belO hgrow (fun b hb=>(HOB.out b hb).1) (by have:=HB3'.out.size;simp;omega)))
    clear hown hgrow hat hlt7 e0 e1 e2 e3 e4 e5 e6 e7
    go_wp2
    go_roundw
    case rel=>exact ⟨k+1,_,_,by omega,by rw[HK.out,List.length_append];rfl,by go_num,HI5.out,HB7.out⟩
    case measure=>simp[intOf];omega
   ·rw[hom,if_pos rfl] at HK
    go_wp2
    go_roundw
    case rel=>exact ⟨k+1,va,vc,by omega,by rw[HK.out],by go_num,by rw[HK.out];exact HI3.out,HB3'.out⟩
    case measure=>simp[intOf];omega
  obtain rfl:k=N:=by omega
  have e:L.take k=L:=List.take_of_length_le (by rw[HN.out];exact Nat.le_refl _)
  rw[e] at HI ⊢
  clear e
  obtain⟨q,hq⟩:∃q,(needS L).length=q:=⟨_,rfl⟩
  by_cases h1:q=1
  ·subst h1
   obtain⟨x,hx⟩:∃x,needS L=[x]:=List.length_eq_one_iff.1 hq
   have HBX:=hHi (HB2.out x hx)
   rw[hx] at HI
   obtain⟨g,cap,he,hg0,hg1,hgc⟩:=own_rows (n:=8) (cf:=scell) scell_len HI.out (j:=0) rfl
   have HQ:Hid ((needS L).length=1):=hq
   rw[hq] at ⊢
   simp only[Value.slice.injEq] at he
   obtain⟨rfl,_,_⟩:=he
   have c0:=hgc 0 _ rfl
   have c6:=hgc 6 _ rfl
   simp only[Nat.zero_mul,Nat.add_zero,Nat.zero_add] at c0 c6
   obtain⟨kd,hkd⟩:∃z,x.kind=z:=⟨_,rfl⟩
   obtain⟨nm,hnm⟩:∃z,x.name=z:=⟨_,rfl⟩
   rw[hkd] at c0 HBX
   rw[hnm] at c6 HBX
   clear hkd hnm hx hq hgc
   rcases emp_no nm with ⟨hne,hd⟩|⟨hne,hd⟩
   ·have HR0:Hid (R=[]):=by show _=_;rw[HBX.out,if_neg (fun h=>h.1 hne)]
    clear hne
    go_wp2
    go_ret
    rw[HR0.out]
    exact ⟨⟨none,0,rfl,⟨World.ownsRow_nil _ _ _ _⟩⟩,HB.out⟩
   ·by_cases hk3:kd=3
    ·have HR0:Hid (R=[nm]):=by show _=_;rw[HBX.out,if_pos ⟨hne,.inl hk3⟩]
     clear hne
     subst hk3
     go_wp2
     go_ret
     rw[HR0.out]
     exact ⟨⟨_,_,rfl,⟨World.ownsRow_lit wr #[.string nm] 1 HB.out.size (by decide) rfl⟩⟩,HB.out.trans ((Below.refl _ _).alloc HB.out.size _)⟩
    ·by_cases hk6:kd=6
     ·have HR0:Hid (R=[nm]):=by show _=_;rw[HBX.out,if_pos ⟨hne,.inr hk6⟩]
      clear hne hk3
      subst hk6
      go_wp2
      go_ret
      rw[HR0.out]
      exact ⟨⟨_,_,rfl,⟨World.ownsRow_lit wr #[.string nm] 1 HB.out.size (by decide) rfl⟩⟩,HB.out.trans ((Below.refl _ _).alloc HB.out.size _)⟩
     ·have HR0:Hid (R=[]):=by show _=_;rw[HBX.out,if_neg (fun h=>h.2.elim hk3 hk6)]
      clear hne
      have hb3:(kd != 3)=true:=by simp[hk3]
      have hb6:(kd != 6)=true:=by simp[hk6]
      go_wp2
      go_ret
      rw[HR0.out]
      exact ⟨⟨none,0,rfl,⟨World.ownsRow_nil _ _ _ _⟩⟩,HB.out⟩
  ·have HR0:Hid (R=[]):=HB0.out (by rw[hq];exact h1)
   rw[hq] at ⊢
   have h1':¬((q:Int)=1):=by omega
   go_wp2
   go_ret
   rw[HR0.out]
   exact ⟨⟨none,0,rfl,⟨World.ownsRow_nil _ _ _ _⟩⟩,HB.out⟩
end Go.Proofs.YtilpgpcgcpedjaaGreat
