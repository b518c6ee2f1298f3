/- The first production for which something holds; whether a list has a symbol for which something holds: the program's answers. -/
import Derived.Test.YtilpgpcgcpedjaaGreatKn
import Derived.BigQuiet
namespace Go.Proofs.YtilpgpcgcpedjaaGreat
open Go.RowKit
set_option linter.unusedVariables false
set_option linter.unusedSimpArgs false
set_option maxRecDepth 100000
set_option maxHeartbeats 16000000
theorem bel_dn {B:Nat} {w W:World} (n:Nat) (h:Below B w W):Below B w (W.drewN n):=⟨h.os,h.tape,h.output,h.size,fun i hi=>h.block i hi⟩
theorem firstProd_any (n:Nat) (cs:Array Value) (f:Pr→Bool) (c:Int) (d:Df) (a2:Option Addr) (p2:Nat) (a3:Option Addr) (p3:Nat) (a4:Option Addr) (p4:Nat) (a5:Option Addr) (p5:Nat) (a6:Option Addr) (p6:Nat) (m1 m2:Value) (w:World) (hd:DO w d [.string d.start,.string d.layout,.slice a2 d.prods.length p2,.slice a3 d.chains.length p3,.slice a4 d.follows.length p4,.slice a5 d.rejects.length p5,.slice a6 d.boxes.length p6])
  (hen:∀(args:Array Value) (W:World),(callFunc n args).run Tryz.prog W=.ok (.enter n args) W)
  (hF:∀(p:Pr) (v:Value) (W:World),p∈d.prods→Below w.heap.size w W→Sl W W.heap.size 8 SyV p.syms v→Calls Tryz.prog n (#[.agg #[.bool p.lex,.string p.sort,.string p.cons,.bool p.bracket,v]]++cs) W fun e W'=>e=.returned (.bool (f p))∧Below W.heap.size W W'):
  Calls Tryz.prog 86 #[.agg #[.string d.start,.string d.layout,.slice a2 d.prods.length p2,.slice a3 d.chains.length p3,.slice a4 d.follows.length p4,.slice a5 d.rejects.length p5,.slice a6 d.boxes.length p6,m1,m2],.int .i64 c,.func (.func n) #[] cs] w fun e w'=>(∃cd s,e=.returned (.tuple #[.int .i64 cd,.string s])∧(cd,s)=(((d.prods.find? f).map (·.sort)).map fun s=>(c,s)).getD (0,no))∧Below w.heap.size w w':=by
 have HF:=hU hF
 have HR1:Hid (Row w w.heap.size 5 (PrV w w.heap.size) a2 d.prods):=by
  obtain⟨b2,q2,b3,q3,b4,q4,b5,q5,b6,q6,e,r2,_⟩:=hd.form
  simp only[List.cons.injEq,Value.slice.injEq] at e
  obtain⟨_,_,⟨rfl,_,_⟩,_⟩:=e
  exact r2
 have HLL:Hid (d.prods.length≤140737488355328):=by
  obtain⟨g,hg⟩:=hd.sz
  have:=hg.p
  show _≤_
  omega
 obtain⟨w1,hw1⟩:∃qW,w.alloc (.cells #[.string d.start,.string d.layout,.slice a2 d.prods.length p2,.slice a3 d.chains.length p3,.slice a4 d.follows.length p4,.slice a5 d.rejects.length p5,.slice a6 d.boxes.length p6,m1,m2] 75)=qW:=⟨_,rfl⟩
 have HX1:=kN hw1
 have HB1:=kB hw1
 clear hd hF
 obtain⟨L,hL⟩:∃L,d.prods=L:=⟨_,rfl⟩
 rw[hL] at HR1 HLL HF HX1 hw1 ⊢
 clear hL
 obtain⟨N,hN⟩:∃N,L.length=N:=⟨_,rfl⟩
 rw[hN] at HLL HX1 hw1 ⊢
 have HN:=hHi hN
 have hNb:=HLL.out
 clear hN
 go_enter Tryz.func86,Tryz.ntmps86
 obtain⟨c0,c1,c2,c3,c4,c5,c6,c7,c8⟩:=HX1.out.c9
 go_wp2
 go_loopw[14] (fun iv W=>∃(k:Nat),k≤N∧iv=.int .i64 k∧(L.take k).find? f=none∧Below w.heap.size w W) (fun iv _=>N-(intOf iv).toNat)
 case atStart=>exact ⟨0,Nat.zero_le _,rfl,rfl,HB1.out⟩
 case round=>
  obtain⟨k,hk,rfl,hf,hB⟩:=hrel
  have HFN:=hHi hf
  have HB:=hHi hB
  clear hf hB c0 c1 c2 c3 c4 c5 c6 c7 c8
  by_cases hlt:k<N
  case pos=>
   obtain⟨x,hx⟩:∃x,L[k]?=some x:=⟨L[k]'(by rw[HN.out];exact hlt),by simp⟩
   obtain⟨b,o,us,hb,hlb,hus,hc⟩:=HR1.out k x hx
   have HPV:=hHi hus
   obtain⟨v,rfl,a3',p3',rfl,_⟩:=hus
   subst hb
   have hq_:=hcb HB.out hlb hc
   have s0:=hq_ 0 _ rfl
   have s1:=hq_ 1 _ rfl
   have s2:=hq_ 2 _ rfl
   have s3:=hq_ 3 _ rfl
   have s4:=hq_ 4 _ rfl
   rw[Nat.add_zero] at s0
   have hltI:(k:Int)<N:=by omega
   have HX:=hHi hx
   clear hq_ hc hx
   obtain⟨w3,hw3⟩:∃qW,wr.alloc (.cells #[.bool x.lex,.string x.sort,.string x.cons,.bool x.bracket,.slice a3' x.syms.length p3'] 44)=qW:=⟨_,rfl⟩
   have HN3:=kB hw3
   have HX3:=kN hw3
   have HB3:Hid (Below w.heap.size w w3):=below_tr HB.out HN3.out
   have HC:=hU (HF.out () x (.slice a3' x.syms.length p3') w3 (List.mem_of_getElem? HX.out) HB3.out (by
    obtain⟨v,e,h⟩:=HPV.out.keep HB3.out HB3.out.size
    simp only[List.cons.injEq,and_true,true_and] at e
    rw[e]
    exact h))
   obtain⟨e0,e1,e2,e3,e4⟩:=HX3.out.c5
   go_wp2_with fail
   refine hMo HC ?_
   rintro e w4 ⟨rfl,hb⟩
   have HN4:=hHi hb
   have HX4:=kA HX3 HN4
   have HB4:=hHi (below_tr HB3.out hb)
   clear hb HC s0 s1 s2 s3 s4 e0 e1 e2 e3 e4
   obtain⟨e0,e1,e2,e3,e4⟩:=HX4.out.c5
   cases hfx:f x
   ·have HNX:Hid ((L.take (k+1)).find? f=none):=by show _=_;rw[take_snoc' HX.out];exact find_snoc HFN.out hfx
    clear hfx
    go_wp2
    go_roundw
    case rel=>exact ⟨k+1,by omega,by go_num,HNX.out,HB4.out⟩
    case measure=>simp[intOf];omega
   ·have HNX:Hid (L.find? f=some x):=find_take HX.out HFN.out hfx
    clear hfx
    go_wp2
    go_quiet (fail)
    go_wp2
    go_ret2
    exact ⟨⟨c,x.sort,rfl,by rw[HNX.out];rfl⟩,bel_dn _ HB4.out⟩
  obtain rfl:k=N:=by omega
  have HNX:Hid (L.find? f=none):=by have h:=HFN.out;rw[List.take_of_length_le (by rw[HN.out];exact Nat.le_refl _)] at h;exact h
  go_wp2
  go_ret2
  exact ⟨⟨0,no,rfl,by rw[HNX.out];rfl⟩,HB.out⟩
theorem index_n (n:Nat) (cs:Array Value) (Q:Sy→Bool) (l:List Sy) (a:Option Addr) (c:Nat) (w:World) (hlen:l.length≤140737488355328) (hr:Row w w.heap.size 8 SyV a l)
  (hen:∀(args:Array Value) (W:World),(callFunc n args).run Tryz.prog W=.ok (.enter n args) W)
  (HK0:∀x∈l,x.set.ok→∀W,Below w.heap.size w W→Calls Tryz.prog n (#[.agg #[.int .i64 x.kind,.string x.text,.int .u64 x.set.a,.int .u64 x.set.b,.int .u64 x.set.c,.int .u64 x.set.d,.string x.name,.string x.sep]]++cs) W fun e W'=>e=.returned (.bool (Q x))∧Below W.heap.size W W') :
  Calls Tryz.prog 131 #[.slice a l.length c,.func (.func n) #[] cs] w fun e w'=>(∃i:Int,e=.returned (.int .i64 i)∧-1≤i∧(0≤i↔l.any Q=true))∧Below w.heap.size w w':=by
 have HR:=hHi hr
 have HK:=hHi HK0
 clear hr HK0
 obtain⟨N,hN⟩:∃N,l.length=N:=⟨_,rfl⟩
 rw[hN] at hlen ⊢
 have HN:=hHi hN
 clear hN
 go_enter Tryz.func131,Tryz.ntmps131
 go_wp2
 go_loopw[5,8] (fun _ iv W=>∃k:Nat,k≤N∧iv=.int .i64 k∧(l.take k).any Q=false∧Below w.heap.size w W) (fun _ iv _=>N-(intOf iv).toNat)
 case atStart=>exact⟨0,Nat.zero_le _,rfl,rfl,Below.refl _ _⟩
 case round=>
  obtain⟨k,hk,rfl,hh,hB⟩:=hrel
  have HH:=hHi hh
  have HB:=hHi hB
  clear hh hB
  by_cases hlt:k<N
  ·obtain⟨x,hx⟩:∃x,l[k]?=some x:=⟨l[k]'(by rw[HN.out];exact hlt),by simp⟩
   obtain⟨b,o,us,hab,hblt,⟨hfact,rfl⟩,hc⟩:=HR.out k x hx
   subst hab
   have hq_:=hcb HB.out hblt hc
   have c0:=hq_ 0 _ rfl
   have c1:=hq_ 1 _ rfl
   have c2:=hq_ 2 _ rfl
   have c3:=hq_ 3 _ rfl
   have c4:=hq_ 4 _ rfl
   have c5:=hq_ 5 _ rfl
   have c6:=hq_ 6 _ rfl
   have c7:=hq_ 7 _ rfl
   clear hq_
   rw[Nat.add_zero] at c0
   have hltI:(k:Int)<N:=by omega
   have HC:=hU (HK.out x (List.mem_of_getElem? hx) hfact wr HB.out)
   have HX:=hHi hx
   clear hx hc
   go_wp2_with fail
   refine hMo HC ?_
   rintro e w2 ⟨rfl,hb⟩
   have HB2:=hHi (below_tr HB.out hb)
   clear HC hb c0 c1 c2 c3 c4 c5 c6 c7
   cases h3:Q x with
   | true=>
    have HMM:Hid _:=any_mem HX.out h3
    clear h3
    go_wp2
    go_ret
    exact⟨⟨k,rfl,by omega,fun _=>HMM.out,fun _=>by omega⟩,HB2.out⟩
   | false=>
    have HMM:Hid ((l.take (k+1)).any Q=false):=by show _=_;rw[any_take HX.out,HH.out,h3];rfl
    clear h3
    go_wp2
    go_roundw
    case rel=>exact⟨k+1,by omega,by go_num,HMM.out,HB2.out⟩
    case measure=>simp[intOf];omega
  obtain rfl:k=N:=by omega
  have HMM:Hid (l.any Q=false):=by have h:=HH.out;rw[List.take_of_length_le (by rw[HN.out];exact Nat.le_refl _)] at h;exact h
  go_wp2
  go_ret
  exact⟨⟨-1,rfl,by omega,fun h=>by omega,fun h=>by rw[HMM.out] at h;cases h⟩,HB.out⟩
theorem contains_n (n:Nat) (cs:Array Value) (Q:Sy→Bool) (l:List Sy) (v:Value) (w:World) (hl:Sl w w.heap.size 8 SyV l v)
  (hen:∀(args:Array Value) (W:World),(callFunc n args).run Tryz.prog W=.ok (.enter n args) W)
  (HK0:∀x∈l,x.set.ok→∀W,Below w.heap.size w W→Calls Tryz.prog n (#[.agg #[.int .i64 x.kind,.string x.text,.int .u64 x.set.a,.int .u64 x.set.b,.int .u64 x.set.c,.int .u64 x.set.d,.string x.name,.string x.sep]]++cs) W fun e W'=>e=.returned (.bool (Q x))∧Below W.heap.size W W') :
  Calls Tryz.prog 88 #[v,.func (.func n) #[] cs] w fun e w'=>e=.returned (.bool (l.any Q))∧Below w.heap.size w w':=by
 obtain⟨a,c,rfl,_,hlen,hr⟩:=hl
 have HI:=hU (index_n n cs Q l a c w hlen hr hen HK0)
 obtain⟨q,hq⟩:∃q,l.any Q=q:=⟨_,rfl⟩
 rw[hq] at HI ⊢
 clear hr HK0 hq
 go_enter Tryz.func88,Tryz.ntmps88
 go_wp2_with fail
 refine hMo HI ?_
 rintro e w2 ⟨⟨i,rfl,h1,h2⟩,hb⟩
 have HB:=hHi hb
 cases q with
 | true=>
  have hi:0≤i:=h2.2 rfl
  clear hb HI h2
  go_wp2
  go_ret
  exact ⟨by simp[hi],HB.out⟩
 | false=>
  have hi:¬0≤i:=fun h=>by cases h2.1 h
  clear hb HI h2
  go_wp2
  go_ret
  exact ⟨by simp[hi],HB.out⟩
end Go.Proofs.YtilpgpcgcpedjaaGreat
