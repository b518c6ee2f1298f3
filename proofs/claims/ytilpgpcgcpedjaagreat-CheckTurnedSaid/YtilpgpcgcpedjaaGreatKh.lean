/- Where a production leads: the sorts that it names, and the one that its text may be alone. -/
import Derived.Test.YtilpgpcgcpedjaaGreatKg
namespace Go.Proofs.YtilpgpcgcpedjaaGreat
open Go.RowKit
set_option linter.unusedVariables false
set_option linter.unusedSimpArgs false
set_option maxRecDepth 100000
set_option maxHeartbeats 16000000
def leadsS (l:List Sy):List ByteArray:=(l.map (·.name)).filter fun s=>decide (s≠no)
theorem leadsS_snoc (l:List Sy) (x:Sy):leadsS (l++[x])=if x.name=no then leadsS l else leadsS l++[x.name]:=by
 unfold leadsS
 rw[List.map_append,List.filter_append]
 by_cases h:x.name=no
 ·rw[if_pos h]
  simp[h]
 ·rw[if_neg h]
  simp[h]
theorem leadsS_len (l:List Sy):(leadsS l).length≤l.length:=by
 unfold leadsS
 exact Nat.le_trans (List.length_filter_le _ _) (by rw[List.length_map];exact Nat.le_refl _)
theorem named_any (p:Pr) (vs:List Value) (w:World) (h:PrV w w.heap.size p vs) (hz:p.syms.length*88≤140737488355328):
  Calls Tryz.prog 65 #[.agg ⟨vs⟩] w fun e w'=>(∃va vc,e=.returned (.slice va (leadsN p).length vc)∧NamesAt w' w.heap.size (leadsN p) (.slice va (leadsN p).length vc))∧Below w.heap.size w w':=by
 obtain⟨i0,hi,hz0,hz1,hz2⟩:=info_parts info9
 obtain⟨v,rfl,a1,p1,rfl,hl0,hl1,hr1⟩:=h
 show Calls _ _ _ _ fun e w'=>(∃va vc,e=.returned (.slice va (leadsS p.syms).length vc)∧NamesAt w' w.heap.size (leadsS p.syms) (.slice va (leadsS p.syms).length vc))∧Below w.heap.size w w'
 obtain⟨L,hL⟩:∃L,p.syms=L:=⟨_,rfl⟩
 rw[hL] at hl0 hl1 hr1 hz ⊢
 clear hL
 obtain⟨N,hN⟩:∃N,L.length=N:=⟨_,rfl⟩
 have HR1:=hHi hr1
 have HN:=hHi hN
 rw[hN] at hl0 hl1 hz ⊢
 clear hr1 hN
 go_enter Tryz.func65,Tryz.ntmps65
 obtain⟨w1,hw1⟩:∃qW,w.alloc (.cells #[.bool p.lex,.string p.sort,.string p.cons,.bool p.bracket,.slice a1 N p1] 44)=qW:=⟨_,rfl⟩
 have HX1:=kN hw1
 have HB1:=kB hw1
 have HS1:Hid (w1.heap.size=w.heap.size+1):=by show _=_;rw[←hw1];simp
 obtain⟨d0,d1,d2,d3,d4⟩:=HX1.out.c5
 go_wp2
 go_loopw[3,9] (fun lv iv W=>∃(k:Nat) (va:Option Addr) (vc:Nat),k≤N∧lv=.slice va (leadsS (L.take k)).length vc∧iv=.int .i64 k∧NamesAt W w.heap.size (leadsS (L.take k)) (.slice va (leadsS (L.take k)).length vc)∧Below w.heap.size w W) (fun _ iv _=>N-(intOf iv).toNat)
 case atStart=>exact ⟨0,none,0,Nat.zero_le _,rfl,rfl,⟨World.ownsRow_nil _ _ _ _⟩,HB1.out⟩
 case round=>
  obtain⟨k,va,vc,hk,rfl,rfl,hI,hB⟩:=hrel
  have HI:=hHi hI
  have HB:=hHi hB
  clear hI hB
  by_cases hlt:k<N
  case pos=>
   obtain⟨x,hx⟩:∃x,L[k]?=some x:=⟨L[k]'(by rw[HN.out];exact hlt),by simp⟩
   obtain⟨b,o,us,hb,hlb,hus,hc⟩:=HR1.out k x hx
   obtain⟨hok,rfl⟩:=hus
   subst hb
   have HT:Hid (L.take (k+1)=L.take k++[x]):=take_snoc' hx
   have hq_:=hcb HB.out hlb hc
   have s0:=hq_ 0 _ rfl
   have s1:=hq_ 1 _ rfl
   have s2:=hq_ 2 _ rfl
   have s3:=hq_ 3 _ rfl
   have s4:=hq_ 4 _ rfl
   have s5:=hq_ 5 _ rfl
   have s6:=hq_ 6 _ rfl
   have s7:=hq_ 7 _ rfl
   rw[Nat.add_zero] at s0
   have hltI:(k:Int)<N:=by omega
   clear hq_ hc hx hok
   obtain⟨w2,hw2⟩:∃qW,wr.alloc (.cells #[.int .i64 x.kind,.string x.text,.int .u64 x.set.a,.int .u64 x.set.b,.int .u64 x.set.c,.int .u64 x.set.d,.string x.name,.string x.sep] 62)=qW:=⟨_,rfl⟩
   have HN2:=kB hw2
   have HX2:=kN hw2
   have HB2:Hid (Below w.heap.size w w2):=below_tr HB.out HN2.out
   have HS2:Hid (w2.heap.size=wr.heap.size+1):=by show _=_;rw[←hw2];simp
   have e6:=HX2.out.cell 6 rfl
   have HI2:=hHi (HI.out.after HN2.out)
   have HOB:Hid (∀b,(Value.slice va (leadsS (L.take k)).length vc).ownBlock=some b→w.heap.size≤b∧b<w2.heap.size):=fun b hb=>by have:=HI2.out.row.lt b hb;omega
   have HK:=hHi (leadsS_snoc (L.take k) x)
   rw[←HT.out] at HK
   rcases emp_no x.name with ⟨hne,hd⟩|⟨hne,hd⟩
   ·rw[if_pos hne] at HK
    clear hne
    go_wp2
    go_roundw
    case rel=>exact ⟨k+1,va,vc,by omega,by rw[HK.out],by go_num,by rw[HK.out];exact HI2.out,HB2.out⟩
    case measure=>simp[intOf];omega
   ·rw[if_neg hne] at HK
    clear hne
    have HLE:=hHi (leadsS_len (L.take k))
    have HTL:Hid ((L.take k).length=k):=by show _=_;rw[List.length_take,HN.out];omega
    have HROW:=hU HI2.out.row
    have h8:((leadsS (L.take k)).length+1)*16≤140737488355328:=by have:=HLE.out;have:=HTL.out;omega
    go_wp2_with (at_builtin;refine wpList_append_lies _ rfl _ _ 36 rfl w.heap.size 9 i0 _ 1 16 Tryz.underlying36 hi hz0 hz1 hz2 rfl (by decide) (.slice va (leadsS (L.take k)).length vc) (leadsS (L.take k)).length (ncells (leadsS (L.take k))) rfl ((HROW.out ()).alloc _) ⟨w2.heap.size,0,none⟩ 1 1 [.string x.name] rfl rfl ?ca1 ?ca2 (by decide) ?ca3 ?ca4 ?ca5 (w2.heap.size+1) (by simp) ?_)
    case ca1=>exact new_cells _ _ [.string x.name]
    case ca2=>intro u hu;simp at hu;subst hu;rfl
    case ca3=>unfold maxLen;omega
    case ca4=>exact h8
    case ca5=>have:=HB2.out.size;simp;omega
    intro g1 cap1 w7 hown hgrow hat hlt7
    have HI5:Hid (NamesAt w7 w.heap.size (leadsS (L.take (k+1))) (.slice (some ⟨g1,0,none⟩) (leadsS (L.take (k+1))).length cap1)):=by show NamesAt _ _ _ _;rw[HK.out,List.length_append];exact ⟨by simpa [ncells] using hown⟩
    have HB7:Hid (Below w.heap.size w w7):=HB2.out.trans (((Below.refl _ _).alloc HB2.out.size _).trans (belO hgrow (fun b hb=>(HOB.out b hb).1) (by have:=HB2.out.size;simp;omega)))
    clear hown hgrow hat hlt7 s0 s1 s2 s3 s4 s5 s6 s7 e6
    go_wp2
    go_roundw
    case rel=>exact ⟨k+1,_,_,by omega,by rw[HK.out,List.length_append];rfl,by go_num,HI5.out,HB7.out⟩
    case measure=>simp[intOf];omega
  obtain rfl:k=N:=by omega
  go_wp2
  go_ret
  have e:L.take k=L:=List.take_of_length_le (by rw[HN.out];exact Nat.le_refl _)
  rw[e] at HI ⊢
  exact ⟨⟨va,vc,rfl,HI.out⟩,HB.out⟩
theorem mayOmit_any (x:Sy) (w:World):Calls Tryz.prog 132 #[.agg #[.int .i64 x.kind,.string x.text,.int .u64 x.set.a,.int .u64 x.set.b,.int .u64 x.set.c,.int .u64 x.set.d,.string x.name,.string x.sep]] w fun e w'=>e=.returned (.bool (omit' x))∧Below w.heap.size w w':=by
 unfold omit'
 go_enter Tryz.func132,Tryz.ntmps132
 obtain⟨w1,hw1⟩:∃qW,w.alloc (.cells #[.int .i64 x.kind,.string x.text,.int .u64 x.set.a,.int .u64 x.set.b,.int .u64 x.set.c,.int .u64 x.set.d,.string x.name,.string x.sep] 62)=qW:=⟨_,rfl⟩
 have HX1:=kN hw1
 have HB1:=kB hw1
 have e0:=HX1.out.cell 0 rfl
 rcases Decidable.em (x.kind=4) with h|h
 ·have hd:(decide (x.kind=4))=true:=by simp[h]
  have HE:Hid (decide (x.kind=4∨x.kind=5)=true):=by show _=_;simp[h]
  rw[HE.out]
  clear HE
  obtain⟨kd,hkd⟩:∃z,x.kind=z:=⟨_,rfl⟩
  rw[hkd] at e0 h hw1
  subst h
  go_wp2
  go_ret
  exact ⟨rfl,HB1.out⟩
 ·have HE:Hid (decide (x.kind=4∨x.kind=5)=decide (x.kind=5)):=by show _=_;simp[h]
  rw[HE.out]
  clear HE
  obtain⟨kd,hkd⟩:∃z,x.kind=z:=⟨_,rfl⟩
  rw[hkd] at e0 h hw1 ⊢
  by_cases h5:kd=5
  ·subst h5
   go_wp2
   go_ret
   exact ⟨rfl,HB1.out⟩
  ·go_wp2
   go_ret
   refine ⟨?_,HB1.out⟩
   simp[h5,h]
end Go.Proofs.YtilpgpcgcpedjaaGreat
