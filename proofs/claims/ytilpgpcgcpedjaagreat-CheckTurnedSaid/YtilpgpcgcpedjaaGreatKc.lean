/- The places of a production's symbols that are no literals: the program's list and the document's, told. -/
import Derived.Test.YtilpgpcgcpedjaaGreatKb
import Derived.Test.YtilpgpcgcpedjaaGreatC1
namespace Go.Proofs.YtilpgpcgcpedjaaGreat
open Go.RowKit
set_option linter.unusedVariables false
set_option linter.unusedSimpArgs false
set_option maxRecDepth 100000
set_option maxHeartbeats 16000000
theorem info3:(Tryz.prog.info? 3).map (fun i=>(i.zero,i.size,i.bytes))=some (some (.int .i64 0),1,8):=by kernel_rfl
def ivals (l:List Nat):List Value:=l.map fun i=>.int .i64 (i:Nat)
structure IntsAt (W:World) (base:Nat) (l:List Nat) (v:Value):Prop where
 row:W.ownsRow base 3 1 v l.length (ivals l)
theorem IntsAt.nil (W:World) (base:Nat):IntsAt W base [] (.slice none 0 0):=⟨World.ownsRow_nil _ _ _ _⟩
theorem IntsAt.after {W W':World} {base:Nat} {l:List Nat} {v:Value} (h:IntsAt W base l v) (hg:Below W.heap.size W W'):IntsAt W' base l v:=⟨own_after h.row hg⟩
def holesN (l:List Sy):Nat→List Nat
 | 0=>[]
 | k+1=>holesN l k++if (l[k]!).kind=1 then [] else [k]
theorem holesN_le (l:List Sy):∀k,(holesN l k).length≤k
 | 0=>Nat.le_refl _
 | k+1=>by
  have:=holesN_le l k
  rw[holesN,List.length_append]
  split<;>simp<;>omega
theorem holesN_eq (l:List Sy):holesN l l.length=holesL l:=by
 have:∀k,holesN l k=(List.range k).filter fun i=>!lit l[i]!:=by
  intro k
  induction k with
  | zero=>rfl
  | succ k ih=>
   rw[holesN,ih,List.range_succ,List.filter_append,List.filter_cons,List.filter_nil]
   congr 1
   generalize l[k]! = x
   by_cases h:x.kind=1
   ·simp[lit,h]
   ·simp[lit,h]
 exact this _
theorem holes_any (p:Pr) (vs:List Value) (w:World) (h:PrV w w.heap.size p vs) (hz:p.syms.length*88≤140737488355328):
  Calls Tryz.prog 27 #[.agg ⟨vs⟩] w fun e w'=>(∃va vc,e=.returned (.slice va (holesL p.syms).length vc)∧IntsAt w' w.heap.size (holesL p.syms) (.slice va (holesL p.syms).length vc))∧Below w.heap.size w w':=by
 obtain⟨i0,hi,hz0,hz1,hz2⟩:=info_parts info3
 obtain⟨v,rfl,a1,p1,rfl,hl0,hl1,hr1⟩:=h
 obtain⟨N,hN⟩:∃N,p.syms.length=N:=⟨_,rfl⟩
 have HR1:=hHi hr1
 have HN:=hHi hN
 have HE:Hid (holesL p.syms=holesN p.syms N):=by show _=_;rw[←hN];exact (holesN_eq _).symm
 rw[HE.out]
 rw[hN] at hl0 hl1 hz ⊢
 obtain⟨L,hL⟩:∃L,p.syms=L:=⟨_,rfl⟩
 rw[hL] at HR1 HN ⊢
 clear hr1 hN HE hL
 go_enter Tryz.func27,Tryz.ntmps27
 obtain⟨w1,hw1⟩:∃qW,w.alloc (.cells #[.bool p.lex,.string p.sort,.string p.cons,.bool p.bracket,.slice a1 N p1] 44)=qW:=⟨_,rfl⟩
 have HX1:=kN hw1
 have HB1:=kB hw1
 have HS1:Hid (w1.heap.size=w.heap.size+1):=by show _=_;rw[←hw1];simp
 obtain⟨d0,d1,d2,d3,d4⟩:=HX1.out.c5
 go_wp2
 go_loopw[3,9] (fun lv iv W=>∃(k:Nat) (va:Option Addr) (vc:Nat),k≤N∧lv=.slice va (holesN L k).length vc∧iv=.int .i64 k∧IntsAt W w.heap.size (holesN L k) (.slice va (holesN L k).length vc)∧Below w.heap.size w W) (fun _ iv _=>N-(intOf iv).toNat)
 case atStart=>exact⟨0,none,0,Nat.zero_le _,rfl,rfl,IntsAt.nil _ _,HB1.out⟩
 case round=>
  obtain⟨k,va,vc,hk,rfl,rfl,hI,hB⟩:=hrel
  have HI:=hHi hI
  have HB:=hHi hB
  clear hI hB
  by_cases hlt:k<N
  case pos=>
   obtain⟨x,hx⟩:∃x,L[k]?=some x:=⟨L[k]'(by rw[HN.out];exact hlt),by simp⟩
   obtain⟨b,o,us,hb,hlb,hus,hc⟩:=HR1.out k x hx
   obtain⟨hok,rfl⟩:=hus
   subst hb
   have HX:Hid (L[k]! = x):=by show _=_;simp[List.getElem!_eq_getElem?_getD,hx]
   have hq_:=hcb HB.out hlb hc
   have s0:=hq_ 0 _ rfl
   have s1:=hq_ 1 _ rfl
   have s2:=hq_ 2 _ rfl
   have s3:=hq_ 3 _ rfl
   have s4:=hq_ 4 _ rfl
   have s5:=hq_ 5 _ rfl
   have s6:=hq_ 6 _ rfl
   have s7:=hq_ 7 _ rfl
   rw[Nat.add_zero] at s0
   have hltI:(k:Int)<N:=by omega
   obtain⟨kd,hkd⟩:∃z,x.kind=z:=⟨_,rfl⟩
   rw[hkd] at s0
   clear hq_ hc hx hok
   obtain⟨w2,hw2⟩:∃qW,wr.alloc (.cells #[.int .i64 kd,.string x.text,.int .u64 x.set.a,.int .u64 x.set.b,.int .u64 x.set.c,.int .u64 x.set.d,.string x.name,.string x.sep] 62)=qW:=⟨_,rfl⟩
   have HN2:=kB hw2
   have HX2:=kN hw2
   have HB2:Hid (Below w.heap.size w w2):=below_tr HB.out HN2.out
   have HS2:Hid (w2.heap.size=wr.heap.size+1):=by show _=_;rw[←hw2];simp
   have e0:=HX2.out.cell 0 rfl
   have HI2:=hHi (HI.out.after HN2.out)
   have HOB:Hid (∀b,(Value.slice va (holesN L k).length vc).ownBlock=some b→w.heap.size≤b∧b<w2.heap.size):=fun b hb=>by have:=HI2.out.row.lt b hb;omega
   by_cases hk1:kd=1
   ·have HK:Hid (holesN L (k+1)=holesN L k):=by show _=_;rw[holesN,HX.out,hkd,if_pos hk1,List.append_nil]
    clear hkd
    subst hk1
    go_wp2
    go_roundw
    case rel=>exact ⟨k+1,va,vc,by omega,by rw[HK.out],by go_num,by rw[HK.out];exact HI2.out,HB2.out⟩
    case measure=>simp[intOf];omega
   ·have HK:Hid (holesN L (k+1)=holesN L k++[k]):=by show _=_;rw[holesN,HX.out,hkd,if_neg hk1]
    clear hkd
    have HLE:=hHi (holesN_le L k)
    have HROW:=hU HI2.out.row
    have h8:((holesN L k).length+1)*8≤140737488355328:=by have:=HLE.out;omega
    go_wp2_with (at_builtin;refine wpList_append_lies _ rfl _ _ 46 rfl w.heap.size 3 i0 _ 1 8 Tryz.underlying46 hi hz0 hz1 hz2 rfl (by decide) (.slice va (holesN L k).length vc) (holesN L k).length (ivals (holesN L k)) rfl ((HROW.out ()).alloc _) ⟨w2.heap.size,0,none⟩ 1 1 [.int .i64 k] rfl rfl ?ca1 ?ca2 (by decide) ?ca3 ?ca4 ?ca5 (w2.heap.size+1) (by simp) ?_)
    case ca1=>exact new_cells _ _ [.int .i64 k]
    case ca2=>intro u hu;simp at hu;subst hu;rfl
    case ca3=>unfold maxLen;omega
    case ca4=>exact h8
    case ca5=>have:=HB2.out.size;simp;omega
    intro g1 cap1 w7 hown hgrow hat hlt7
    have HI5:Hid (IntsAt w7 w.heap.size (holesN L (k+1)) (.slice (some ⟨g1,0,none⟩) (holesN L (k+1)).length cap1)):=by show IntsAt _ _ _ _;rw[HK.out,List.length_append];exact ⟨by simpa [ivals] using hown⟩
    have HB7:Hid (Below w.heap.size w w7):=HB2.out.trans (((Below.refl _ _).alloc HB2.out.size _).trans (belO hgrow (fun b hb=>(HOB.out b hb).1) (by have:=HB2.out.size;simp;omega)))
    clear hown hgrow hat hlt7 s0 s1 s2 s3 s4 s5 s6 s7 e0
    go_wp2
    go_roundw
    case rel=>exact ⟨k+1,_,_,by omega,by rw[HK.out,List.length_append];rfl,by go_num,HI5.out,HB7.out⟩
    case measure=>simp[intOf];omega
  obtain rfl:k=N:=by omega
  go_wp2
  go_ret
  exact⟨⟨va,vc,rfl,HI.out⟩,HB.out⟩
end Go.Proofs.YtilpgpcgcpedjaaGreat
