/- Whether a nest goes in too far: the program's answer. -/
import Derived.Test.YtilpgpcgcpedjaaGreatMf
namespace Go.Proofs.YtilpgpcgcpedjaaGreat
open Go.RowKit
set_option linter.unusedVariables false
set_option linter.unusedSimpArgs false
set_option maxRecDepth 100000
set_option maxHeartbeats 16000000
theorem enter161 (args:Array Value) (W:World):(callFunc 161 args).run Tryz.prog W=.ok (.enter 161 args) W:=by kernel_rfl
def far1 (x:It):Bool:=decide (x.kind=5∧40<x.n)||farIts x.items
theorem farIts_any:∀l:List It,farIts l=l.any far1
 | []=>rfl
 | .mk k t n il::l=>by
  rw[farIts,farIts_any l]
  rfl
theorem index_it (Q:It→Bool) (V:It→List Value→Prop) (l:List It) (a:Option Addr) (c:Nat) (w:World) (hlen:l.length≤140737488355328) (hr:Row w w.heap.size 4 V a l)
  (HV0:∀x∈l,∀vs,V x vs→∃ua uc,vs=[.int .i64 x.kind,.string x.text,.int .i64 x.n,.slice ua x.items.length uc]∧∀W,Below w.heap.size w W→Calls Tryz.prog 161 #[.agg #[.int .i64 x.kind,.string x.text,.int .i64 x.n,.slice ua x.items.length uc]] W fun e W'=>e=.returned (.bool (Q x))∧Below W.heap.size W W') :
  Calls Tryz.prog 169 #[.slice a l.length c,.func (.func 161) #[] #[]] w fun e w'=>(∃i:Int,e=.returned (.int .i64 i)∧-1≤i∧(0≤i↔l.any Q=true))∧Below w.heap.size w w':=by
 have HR:=hHi hr
 have HV:=hHi HV0
 have hen:=enter161
 clear hr HV0
 obtain⟨N,hN⟩:∃N,l.length=N:=⟨_,rfl⟩
 rw[hN] at hlen ⊢
 have HN:=hHi hN
 clear hN
 go_enter Tryz.func169,Tryz.ntmps169
 go_wp2
 go_loopw[5,8] (fun _ iv W=>∃k:Nat,k≤N∧iv=.int .i64 k∧(l.take k).any Q=false∧Below w.heap.size w W) (fun _ iv _=>N-(intOf iv).toNat)
 case atStart=>exact⟨0,Nat.zero_le _,rfl,rfl,Below.refl _ _⟩
 case round=>
  obtain⟨k,hk,rfl,hh,hB⟩:=hrel
  have HH:=hHi hh
  have HB:=hHi hB
  clear hh hB
  by_cases hlt:k<N
  ·obtain⟨x,hx⟩:∃x,l[k]?=some x:=⟨l[k]'(by rw[HN.out];exact hlt),by simp⟩
   obtain⟨b,o,us,hab,hblt,hus,hc⟩:=HR.out k x hx
   obtain⟨ua,uc,rfl,hC⟩:=HV.out x (List.mem_of_getElem? hx) us hus
   subst hab
   have hq_:=hcb HB.out hblt hc
   have c0:=hq_ 0 _ rfl
   have c1:=hq_ 1 _ rfl
   have c2:=hq_ 2 _ rfl
   have c3:=hq_ 3 _ rfl
   clear hq_
   rw[Nat.add_zero] at c0
   have hltI:(k:Int)<N:=by omega
   have HC:=hU (hC wr HB.out)
   have HX:=hHi hx
   clear hx hc hC hus
   go_wp2_with fail
   refine hMo HC ?_
   rintro e w2 ⟨rfl,hb⟩
   have HB2:=hHi (below_tr HB.out hb)
   clear HC hb c0 c1 c2 c3
   cases h3:Q x with
   | true=>
    have HMM:Hid _:=any_mem HX.out h3
    clear h3
    go_wp2
    go_ret
    exact⟨⟨k,rfl,by omega,fun _=>HMM.out,fun _=>by omega⟩,HB2.out⟩
   | false=>
    have HMM:Hid ((l.take (k+1)).any Q=false):=by show _=_;rw[any_take HX.out,HH.out,h3];rfl
    clear h3
    go_wp2
    go_roundw
    case rel=>exact⟨k+1,by omega,by go_num,HMM.out,HB2.out⟩
    case measure=>simp[intOf];omega
  obtain rfl:k=N:=by omega
  have HMM:Hid (l.any Q=false):=by have h:=HH.out;rw[List.take_of_length_le (by rw[HN.out];exact Nat.le_refl _)] at h;exact h
  go_wp2
  go_ret
  exact⟨⟨-1,rfl,by omega,fun h=>by omega,fun h=>by rw[HMM.out] at h;cases h⟩,HB.out⟩
theorem contains_it (Q:It→Bool) (V:It→List Value→Prop) (l:List It) (v:Value) (w:World) (hl:Sl w w.heap.size 4 V l v)
  (HV0:∀x∈l,∀vs,V x vs→∃ua uc,vs=[.int .i64 x.kind,.string x.text,.int .i64 x.n,.slice ua x.items.length uc]∧∀W,Below w.heap.size w W→Calls Tryz.prog 161 #[.agg #[.int .i64 x.kind,.string x.text,.int .i64 x.n,.slice ua x.items.length uc]] W fun e W'=>e=.returned (.bool (Q x))∧Below W.heap.size W W') :
  Calls Tryz.prog 159 #[v,.func (.func 161) #[] #[]] w fun e w'=>e=.returned (.bool (l.any Q))∧Below w.heap.size w w':=by
 obtain⟨a,c,rfl,_,hlen,hr⟩:=hl
 have HI:=hU (index_it Q V l a c w hlen hr HV0)
 obtain⟨q,hq⟩:∃q,l.any Q=q:=⟨_,rfl⟩
 rw[hq] at HI ⊢
 clear hr HV0 hq
 go_enter Tryz.func159,Tryz.ntmps159
 go_wp2_with fail
 refine hMo HI ?_
 rintro e w2 ⟨⟨i,rfl,h1,h2⟩,hb⟩
 have HB:=hHi hb
 cases q with
 | true=>
  have hi:0≤i:=h2.2 rfl
  clear hb HI h2
  go_wp2
  go_ret
  exact ⟨by simp[hi],HB.out⟩
 | false=>
  have hi:¬0≤i:=fun h=>by cases h2.1 h
  clear hb HI h2
  go_wp2
  go_ret
  exact ⟨by simp[hi],HB.out⟩
theorem farC_any (x:It) (ua:Option Addr) (uc:Nat) (w:World) (hC:∀W,Below w.heap.size w W→Calls Tryz.prog 133 #[.slice ua x.items.length uc] W fun e W'=>e=.returned (.bool (farIts x.items))∧Below W.heap.size W W'):
  Calls Tryz.prog 161 #[.agg #[.int .i64 x.kind,.string x.text,.int .i64 x.n,.slice ua x.items.length uc]] w fun e w'=>e=.returned (.bool (far1 x))∧Below w.heap.size w w':=by
 obtain⟨w1,hw1⟩:∃qW,w.alloc (.cells #[.int .i64 x.kind,.string x.text,.int .i64 x.n,.slice ua x.items.length uc] 98)=qW:=⟨_,rfl⟩
 have HX1:=kN hw1
 have HB1:=kB hw1
 have HC:=hU (hC w1 HB1.out)
 obtain⟨r,hr⟩:∃r,far1 x=r:=⟨_,rfl⟩
 rw[hr]
 have HR:Hid (r=(decide (x.kind=5∧40<x.n)||farIts x.items)):=by show _=_;rw[←hr];rfl
 generalize farIts x.items=q at HC HR
 obtain⟨kd,hkd⟩:∃z,x.kind=z:=⟨_,rfl⟩
 obtain⟨nn,hnn⟩:∃z,x.n=z:=⟨_,rfl⟩
 rw[hkd,hnn] at HX1 hw1 HR
 rw[hkd,hnn]
 clear hkd hnn hr hC
 obtain⟨c0,c1,c2,c3⟩:=HX1.out.c4
 go_enter Tryz.func161,Tryz.ntmps161
 by_cases hk:kd=5
 ·subst hk
  by_cases hn:40<nn
  ·have HRR:Hid (r=true):=by show _=_;rw[HR.out];simp[hn]
   go_wp2
   go_ret
   exact ⟨by rw[HRR.out];rfl,HB1.out⟩
  ·have HRR:Hid (r=q):=by show _=_;rw[HR.out];simp[hn]
   go_wp2_with fail
   refine hMo HC ?_
   rintro e w2 ⟨rfl,hb⟩
   have HB2:=hHi (below_tr HB1.out hb)
   clear hb HC c0 c1 c2 c3
   go_wp2
   go_ret
   exact ⟨by rw[HRR.out];simp[hn],HB2.out⟩
 ·have HRR:Hid (r=q):=by show _=_;rw[HR.out];simp[hk]
  have hkb:(kd==5)=false:=by simp[hk]
  go_wp2_with fail
  refine hMo HC ?_
  rintro e w2 ⟨rfl,hb⟩
  have HB2:=hHi (below_tr HB1.out hb)
  clear hb HC c0 c1 c2 c3
  go_wp2
  go_ret
  exact ⟨by rw[HRR.out];simp[hk],HB2.out⟩
theorem tooFar_step (V:It→List Value→Prop) (l:List It) (v:Value) (w:World) (hl:Sl w w.heap.size 4 V l v)
  (HV0:∀x∈l,∀vs,V x vs→∃ua uc,vs=[.int .i64 x.kind,.string x.text,.int .i64 x.n,.slice ua x.items.length uc]∧∀W,Below w.heap.size w W→Calls Tryz.prog 133 #[.slice ua x.items.length uc] W fun e W'=>e=.returned (.bool (farIts x.items))∧Below W.heap.size W W') :
  Calls Tryz.prog 133 #[v] w fun e w'=>e=.returned (.bool (farIts l))∧Below w.heap.size w w':=by
 have HC:=hU (contains_it far1 V l v w hl (fun x hx vs hv=>by
  obtain⟨ua,uc,e,h⟩:=HV0 x hx vs hv
  exact ⟨ua,uc,e,fun W hW=>farC_any x ua uc W (fun W2 h2=>h W2 (hW.trans (h2.mono hW.size)))⟩))
 rw[farIts_any]
 generalize l.any far1=q at HC ⊢
 clear hl HV0
 go_enter Tryz.func133,Tryz.ntmps133
 go_wp2_with fail
 refine hMo HC ?_
 rintro e w2 ⟨rfl,hb⟩
 have HB2:=hHi hb
 clear hb HC
 go_wp2
 go_ret
 exact ⟨rfl,HB2.out⟩
theorem tooFar_any:∀(f:Nat) (l:List It) (v:Value) (w:World),Sl w w.heap.size 4 (ItV w w.heap.size f) l v→Calls Tryz.prog 133 #[v] w fun e w'=>e=.returned (.bool (farIts l))∧Below w.heap.size w w'
 | 0,l,v,w,h=>tooFar_step _ l v w h (fun x hx _ hv=>hv.elim)
 | f+1,l,v,w,h=>tooFar_step _ l v w h (fun x hx vs hv=>by
  obtain⟨u,e,hs⟩:=hv
  obtain⟨ua,uc,rfl,hu⟩:=hs
  have hs:Sl w w.heap.size 4 (ItV w w.heap.size f) x.items (.slice ua x.items.length uc):=⟨ua,uc,rfl,hu⟩
  exact⟨ua,uc,e,fun W hW=>tooFar_any f x.items _ W (hs.keep hW hW.size (fun _ _ _ h=>h.keep hW hW.size))⟩)
end Go.Proofs.YtilpgpcgcpedjaaGreat
