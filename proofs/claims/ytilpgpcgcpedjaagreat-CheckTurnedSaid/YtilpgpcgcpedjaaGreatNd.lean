/- The document's list of a production's places that are no literals; lists of numbers that are the same. -/
import Derived.Test.YtilpgpcgcpedjaaGreatKc
import Derived.Deep.QuietTactic
import Derived.BigQuiet
import Derived.WalkSmall
namespace Go.Proofs.YtilpgpcgcpedjaaGreat
open Go.RowKit
set_option linter.unusedVariables false
set_option linter.unusedSimpArgs false
set_option maxRecDepth 100000
set_option maxHeartbeats 16000000
theorem rholes_any (p:Pr) (vs:List Value) (w:World) (h:PrV w w.heap.size p vs) (hz:p.syms.length*88≤140737488355328):
  Calls Tryz.prog 28 #[.agg ⟨vs⟩] w fun e w'=>(∃va vc,e=.returned (.slice va (holesL p.syms).length vc)∧IntsAt w' w.heap.size (holesL p.syms) (.slice va (holesL p.syms).length vc))∧Below w.heap.size w w':=by
 obtain⟨i0,hi,hz0,hz1,hz2⟩:=info_parts info3
 obtain⟨v,rfl,a1,p1,rfl,hl0,hl1,hr1⟩:=h
 obtain⟨N,hN⟩:∃N,p.syms.length=N:=⟨_,rfl⟩
 have HR1:=hHi hr1
 have HN:=hHi hN
 have HE:Hid (holesL p.syms=holesN p.syms N):=by show _=_;rw[←hN];exact (holesN_eq _).symm
 rw[HE.out]
 rw[hN] at hl0 hl1 hz ⊢
 obtain⟨L,hL⟩:∃L,p.syms=L:=⟨_,rfl⟩
 rw[hL] at HR1 HN ⊢
 clear hr1 hN HE hL
 go_enter Tryz.func28,Tryz.ntmps28
 obtain⟨w1,hw1⟩:∃qW,w.alloc (.cells #[.bool p.lex,.string p.sort,.string p.cons,.bool p.bracket,.slice a1 N p1] 44)=qW:=⟨_,rfl⟩
 have HX1:=kN hw1
 have HB1:=kB hw1
 have HS1:Hid (w1.heap.size=w.heap.size+1):=by show _=_;rw[←hw1];simp
 obtain⟨d0,d1,d2,d3,d4⟩:=HX1.out.c5
 go_wp2
 go_loopw[3,4] (fun lv iv W=>∃(k:Nat) (va:Option Addr) (vc:Nat),k≤N∧lv=.slice va (holesN L k).length vc∧iv=.int .i64 k∧IntsAt W w1.heap.size (holesN L k) (.slice va (holesN L k).length vc)∧Below w1.heap.size w1 W) (fun _ iv _=>N-(intOf iv).toNat)
 case atStart=>exact⟨0,none,0,Nat.zero_le _,rfl,rfl,IntsAt.nil _ _,Below.refl _ _⟩
 case round=>
  obtain⟨k,va,vc,hk,rfl,rfl,hI,hB⟩:=hrel
  have HI:=hHi hI
  have HB:=hHi hB
  have HX:=kA HX1 HB
  clear hI hB d0 d1 d2 d3 d4
  obtain⟨d0,d1,d2,d3,d4⟩:=HX.out.c5
  by_cases hlt:k<N
  case pos=>
   obtain⟨x,hx⟩:∃x,L[k]?=some x:=⟨L[k]'(by rw[HN.out];exact hlt),by simp⟩
   obtain⟨b,o,us,hb,hlb,hus,hc⟩:=HR1.out k x hx
   obtain⟨hok,rfl⟩:=hus
   subst hb
   have HX:Hid (L[k]! = x):=by show _=_;simp[List.getElem!_eq_getElem?_getD,hx]
   have s0:=hcb (below_tr HB1.out HB.out) hlb hc 0 _ rfl
   rw[Nat.add_zero] at s0
   have hltI:(k:Int)<N:=by omega
   obtain⟨kd,hkd⟩:∃z,x.kind=z:=⟨_,rfl⟩
   rw[hkd] at s0
   clear hc hx hok
   by_cases hk1:kd=1
   ·have HK:Hid (holesN L (k+1)=holesN L k):=by show _=_;rw[holesN,HX.out,hkd,if_pos hk1,List.append_nil]
    clear hkd
    subst hk1
    go_wp2
    go_roundw
    case rel=>exact ⟨k+1,va,vc,by omega,by rw[HK.out],by go_num,by rw[HK.out];exact HI.out,HB.out⟩
    case measure=>simp[intOf];omega
   ·have HK:Hid (holesN L (k+1)=holesN L k++[k]):=by show _=_;rw[holesN,HX.out,hkd,if_neg hk1]
    clear hkd
    have HLE:=hHi (holesN_le L k)
    have HROW:=hU HI.out.row
    have HOB:Hid (∀b,(Value.slice va (holesN L k).length vc).ownBlock=some b→w1.heap.size≤b∧b<wr.heap.size):=fun b hb=>by have:=HI.out.row.lt b hb;omega
    have h8:((holesN L k).length+1)*8≤140737488355328:=by have:=HLE.out;omega
    go_wp2_with (at_builtin;refine wpList_append_lies _ rfl _ _ 46 rfl w1.heap.size 3 i0 _ 1 8 Tryz.underlying46 hi hz0 hz1 hz2 rfl (by decide) (.slice va (holesN L k).length vc) (holesN L k).length (ivals (holesN L k)) rfl ((HROW.out ()).alloc _) ⟨wr.heap.size,0,none⟩ 1 1 [.int .i64 k] rfl rfl ?ca1 ?ca2 (by decide) ?ca3 ?ca4 ?ca5 (wr.heap.size+1) (by simp) ?_)
    case ca1=>exact new_cells _ _ [.int .i64 k]
    case ca2=>intro u hu;simp at hu;subst hu;rfl
    case ca3=>unfold maxLen;omega
    case ca4=>exact h8
    case ca5=>have:=HB.out.size;simp;omega
    intro g1 cap1 w7 hown hgrow hat hlt7
    have HI5:Hid (IntsAt w7 w1.heap.size (holesN L (k+1)) (.slice (some ⟨g1,0,none⟩) (holesN L (k+1)).length cap1)):=by show IntsAt _ _ _ _;rw[HK.out,List.length_append];exact ⟨by simpa [ivals] using hown⟩
    have HB7:Hid (Below w1.heap.size w1 w7):=HB.out.trans (((Below.refl _ _).alloc HB.out.size _).trans (belO hgrow (fun b hb=>(HOB.out b hb).1) (by have:=HB.out.size;simp;omega)))
    clear hown hgrow hat hlt7 s0 d0 d1 d2 d3 d4
    go_wp2
    go_roundw
    case rel=>exact ⟨k+1,_,_,by omega,by rw[HK.out,List.length_append];rfl,by go_num,HI5.out,HB7.out⟩
    case measure=>simp[intOf];omega
  obtain rfl:k=N:=by omega
  go_wp2
  go_ret
  exact⟨⟨va,vc,rfl,⟨row_mono HI.out.row HB1.out.size⟩⟩,below_tr HB1.out HB.out⟩
theorem sameInts_any (n:Nat) (a b:Option Addr) (ca cb:Nat) (w:World) (hn:n≤140737488355328)
  (h:∀k,k<n→∃ga oa gb ob z,a=some ⟨ga,oa,none⟩∧b=some ⟨gb,ob,none⟩∧ga<w.heap.size∧gb<w.heap.size∧w.cell? ⟨ga,oa+k,none⟩=some (.int .i64 z)∧w.cell? ⟨gb,ob+k,none⟩=some (.int .i64 z)):
  Calls Tryz.prog 26 #[.slice a n ca,.slice b n cb] w fun e w'=>e=.returned (.bool true)∧Below w.heap.size w w':=by
 go_enter Tryz.func26,Tryz.ntmps26
 go_wp2
 go_loopw[5] (fun i W=>∃k:Nat,k≤n∧i=.int .i64 k∧Below w.heap.size w W) (fun i _=>n-(intOf i).toNat)
 case atStart=>exact ⟨0,by omega,rfl,Below.refl _ _⟩
 case round=>
  obtain⟨k,hk,rfl,hB⟩:=hrel
  by_cases hlt:k<n
  ·obtain⟨ga,oa,gb,ob,z,rfl,rfl,hga,hgb,e1',e2'⟩:=h k hlt
   have hkI:(k:Int)<n:=by omega
   have e1:=(hB.cell (p:=⟨ga,oa+k,none⟩) hga).trans e1'
   have e2:=(hB.cell (p:=⟨gb,ob+k,none⟩) hgb).trans e2'
   clear e1' e2' h
   go_wp2
   go_quiet (fail)
   go_wp2
   exact ⟨⟨k+1,by omega,by go_num,below_drewN hB _⟩,by simp[intOf];omega⟩
  ·obtain rfl:k=n:=by omega
   go_wp2
   go_ret
   exact ⟨rfl,hB⟩
theorem ivals_flat:∀l:List Nat,ivals l=l.flatMap fun i=>[.int .i64 (i:Nat)]
 | []=>rfl
 | x::l=>by
  have:=ivals_flat l
  unfold ivals at this ⊢
  rw[List.map_cons,List.flatMap_cons,this]
  rfl
theorem IntsAt.cell {W:World} {base:Nat} {l:List Nat} {v:Value} (h:IntsAt W base l v) {k:Nat} (hk:k<l.length):∃g cap,v=.slice (some ⟨g,0,none⟩) l.length cap∧g<W.heap.size∧W.cell? ⟨g,0+k,none⟩=some (.int .i64 (l[k]!:Nat)):=by
 have hr:W.ownsRow base 3 1 v l.length (l.flatMap fun i=>[.int .i64 (i:Nat)]):=by
  have h1:=h.row
  rw[ivals_flat] at h1
  exact h1
 obtain⟨g,cap,e,_,hg,hc⟩:=own_rows (n:=1) (cf:=fun (i:Nat)=>[Value.int .i64 (i:Nat)]) (fun _=>rfl) hr (j:=k) (x:=l[k]!) (by simp[List.getElem!_eq_getElem?_getD,hk])
 refine ⟨g,cap,e,hg,?_⟩
 have:=hc 0 _ rfl
 rw[Nat.mul_one,Nat.add_zero] at this
 exact this
theorem sameInts_at {W:World} {b1 b2:Nat} {l:List Nat} {v u:Value} (h1:IntsAt W b1 l v) (h2:IntsAt W b2 l u) (hl:l.length≤140737488355328):
  Calls Tryz.prog 26 #[v,u] W fun e w'=>e=.returned (.bool true)∧Below W.heap.size W w':=by
 obtain⟨a,c,rfl⟩:=own_slice h1.row
 obtain⟨a',c',rfl⟩:=own_slice h2.row
 refine sameInts_any _ _ _ _ _ _ hl (fun k hk=>?_)
 obtain⟨g,cap,e,hg,hc⟩:=h1.cell hk
 obtain⟨g',cap',e',hg',hc'⟩:=h2.cell hk
 injection e with e1 _ _
 injection e' with e2 _ _
 exact ⟨g,0,g',0,_,e1,e2,hg,hg',hc,hc'⟩
end Go.Proofs.YtilpgpcgcpedjaaGreat
