/- Constructors that stand twice, and empty follow sets: the lines. -/
import Derived.Test.YtilpgpcgcpedjaaGreatKv
namespace Go.Proofs.YtilpgpcgcpedjaaGreat
open Go.RowKit
set_option linter.unusedVariables false
set_option linter.unusedSimpArgs false
set_option maxRecDepth 100000
set_option maxHeartbeats 16000000
theorem eq52t (s t:St) (w:World):(Op.equalIn 10000 52 (.agg #[.int .u64 s.a,.int .u64 s.b,.int .u64 s.c,.int .u64 s.d]) (.agg #[.int .u64 t.a,.int .u64 t.b,.int .u64 t.c,.int .u64 t.d])).run Tryz.prog w=.ok (s.same t) w:=by
 have hp:∀(x0 x1 x2 x3:Value) w,((part 50 #[x0,x1,x2,x3] 0).run Tryz.prog w=.ok x0 w)∧((part 50 #[x0,x1,x2,x3] 1).run Tryz.prog w=.ok x1 w)∧((part 50 #[x0,x1,x2,x3] 2).run Tryz.prog w=.ok x2 w)∧((part 50 #[x0,x1,x2,x3] 3).run Tryz.prog w=.ok x3 w):=by
  intro x0 x1 x2 x3 w
  refine⟨?_,?_,?_,?_⟩<;>kernel_rfl
 have hz:∀w,(sizeOf 50).run Tryz.prog w=.ok 1 w:=fun w=>by kernel_rfl
 have he:∀(a b:Nat) w,(Op.equalIn 9999 50 (.int .u64 a) (.int .u64 b)).run Tryz.prog w=.ok ((a:Int)==(b:Int)) w:=fun a b w=>run_equalIn_int w 9998 50 .u64 .u64 a b Tryz.underlying50
 rw[show (10000:Nat)=9999+1 from rfl]
 rw[Op.equalIn]
 simp only[Sem.run_bind,run_underlying Tryz.underlying52,Result.andThen_ok]
 simp[Std.Legacy.Range.forIn_eq_forIn_range',List.range',hz,hp,he]
 unfold St.same
 by_cases h0:s.a=t.a
 ·by_cases h1:s.b=t.b
  ·by_cases h2:s.c=t.c
   ·by_cases h3:s.d=t.d
    ·simp[h0,h1,h2,h3]
    ·have e:¬((s.d:Int)=(t.d:Int)):=by omega
     simp[h0,h1,h2,h3,e]
   ·have e:¬((s.c:Int)=(t.c:Int)):=by omega
    simp[h0,h1,h2,e]
  ·have e:¬((s.b:Int)=(t.b:Int)):=by omega
   simp[h0,h1,e]
 ·have e:¬((s.a:Int)=(t.a:Int)):=by omega
  simp[h0,e]
theorem fw_append {α:Type} (f:List α→α→Bool):∀(l1 b l2:List α),firstWith f b l1=none→firstWith f b (l1++l2)=firstWith f (b++l1) l2
 | [],b,l2,_=>by simp
 | x::l1,b,l2,h=>by
  rw[firstWith] at h
  split at h
  ·cases h
  ·rename_i hx
   rw[List.cons_append,firstWith,if_neg hx,fw_append f l1 (b++[x]) l2 h]
   simp
theorem fw_take {α:Type} {f:List α→α→Bool} {L:List α} {k:Nat} {x:α} (hx:L[k]?=some x) (hn:firstWith f [] (L.take k)=none) (hf:f (L.take k) x=true):firstWith f [] L=some x:=by
 have h2:L.drop k=x::L.drop (k+1):=by
  have h3:=List.getElem?_eq_some_iff.1 hx
  rw[List.drop_eq_getElem_cons h3.1,h3.2]
 have e:=fw_append f (L.take k) [] (L.drop k) hn
 rw[List.take_append_drop,List.nil_append,h2,firstWith,if_pos hf] at e
 exact e
theorem fw_snoc {α:Type} {f:List α→α→Bool} {l:List α} {x:α} (hn:firstWith f [] l=none) (hf:f l x=false):firstWith f [] (l++[x])=none:=by
 rw[fw_append f l [] [x] hn,List.nil_append,firstWith,if_neg (by simp[hf]),firstWith]
theorem follow_line (d:Df) (a2:Option Addr) (p2:Nat) (a3:Option Addr) (p3:Nat) (a4:Option Addr) (p4:Nat) (a5:Option Addr) (p5:Nat) (a6:Option Addr) (p6 B1 B2:Nat) (w:World) (h:LK w d [.string d.start,.string d.layout,.slice a2 d.prods.length p2,.slice a3 d.chains.length p3,.slice a4 d.follows.length p4,.slice a5 d.rejects.length p5,.slice a6 d.boxes.length p6] B1 B2):
  Calls Tryz.prog 49 #[.agg #[.string d.start,.string d.layout,.slice a2 d.prods.length p2,.slice a3 d.chains.length p3,.slice a4 d.follows.length p4,.slice a5 d.rejects.length p5,.slice a6 d.boxes.length p6,.map (some B1),.map (some B2)]] w fun e w'=>Tl e (line d 12)∧Below w.heap.size w w':=by
 obtain⟨w1,hw1⟩:∃qW,w.alloc (.cells #[.string d.start,.string d.layout,.slice a2 d.prods.length p2,.slice a3 d.chains.length p3,.slice a4 d.follows.length p4,.slice a5 d.rejects.length p5,.slice a6 d.boxes.length p6,.map (some B1),.map (some B2)] 75)=qW:=⟨_,rfl⟩
 have HX1:=kN hw1
 have HB1:=kB hw1
 have HR1:Hid (Row w w.heap.size 5 FoV a4 d.follows):=by
  obtain⟨b2,q2,b3,q3,b4,q4,b5,q5,b6,q6,e,_,_,r4,_⟩:=h.df.form
  simp only[List.cons.injEq,Value.slice.injEq] at e
  obtain⟨_,_,_,_,⟨rfl,_,_⟩,_⟩:=e
  exact r4
 have HLL:Hid (d.follows.length≤140737488355328):=by
  obtain⟨g,hg⟩:=h.df.sz
  have:=hg.fo
  show _≤_
  omega
 have HLN:Hid (line d 12=tell 51 ((d.follows.find? fun f=>f.set.same .zero).map (·.sort))):=rfl
 generalize line d 12=ln at HLN ⊢
 clear h
 obtain⟨L,hL⟩:∃L,d.follows=L:=⟨_,rfl⟩
 rw[hL] at HR1 HLL HLN HX1 hw1 ⊢
 clear hL
 obtain⟨N,hN⟩:∃N,L.length=N:=⟨_,rfl⟩
 rw[hN] at HLL HX1 hw1 ⊢
 have HN:=hHi hN
 have hNb:=HLL.out
 clear hN
 go_enter Tryz.func49,Tryz.ntmps49
 obtain⟨c0,c1,c2,c3,c4,c5,c6,c7,c8⟩:=HX1.out.c9
 go_wp2
 go_loopw[10] (fun iv W=>∃(k:Nat),k≤N∧iv=.int .i64 k∧(L.take k).find? (fun f=>f.set.same .zero)=none∧Below w.heap.size w W) (fun iv _=>N-(intOf iv).toNat)
 case atStart=>exact ⟨0,Nat.zero_le _,rfl,rfl,HB1.out⟩
 case round=>
  obtain⟨k,hk,rfl,hf,hB⟩:=hrel
  have HFN:=hHi hf
  have HB:=hHi hB
  clear hf hB c0 c1 c2 c3 c4 c5 c6 c7 c8
  by_cases hlt:k<N
  case pos=>
   obtain⟨x,hx⟩:∃x,L[k]?=some x:=⟨L[k]'(by rw[HN.out];exact hlt),by simp⟩
   obtain⟨b,o,us,hb,hlb,hus,hc⟩:=HR1.out k x hx
   obtain⟨hok,rfl⟩:=hus
   subst hb
   have hq_:=hcb HB.out hlb hc
   have s0:=hq_ 0 _ rfl
   have s1:=hq_ 1 _ rfl
   have s2:=hq_ 2 _ rfl
   have s3:=hq_ 3 _ rfl
   have s4:=hq_ 4 _ rfl
   rw[Nat.add_zero] at s0
   have hltI:(k:Int)<N:=by omega
   have HX:=hHi hx
   clear hq_ hc hx hok
   obtain⟨w3,hw3⟩:∃qW,wr.alloc (.cells #[.string x.sort,.int .u64 x.set.a,.int .u64 x.set.b,.int .u64 x.set.c,.int .u64 x.set.d] 54)=qW:=⟨_,rfl⟩
   have HN3:=kB hw3
   have HX3:=kN hw3
   have HB3:Hid (Below w.heap.size w w3):=below_tr HB.out HN3.out
   obtain⟨e0,e1,e2,e3,e4⟩:=HX3.out.c5
   have heq:∀W,(Op.equalIn 10000 52 (.agg #[.int .u64 x.set.a,.int .u64 x.set.b,.int .u64 x.set.c,.int .u64 x.set.d]) (.agg #[.int .u64 0,.int .u64 0,.int .u64 0,.int .u64 0])).run Tryz.prog W=.ok (x.set.same .zero) W:=fun W=>eq52t x.set .zero W
   cases hq:x.set.same .zero
   ·have HNX:Hid ((L.take (k+1)).find? (fun f=>f.set.same .zero)=none):=by show _=_;rw[take_snoc' HX.out];exact find_snoc HFN.out hq
    rw[hq] at heq
    clear hq
    go_wp2
    go_roundw
    case rel=>exact ⟨k+1,by omega,by go_num,HNX.out,HB3.out⟩
    case measure=>simp[intOf];omega
   ·have HNX:Hid (L.find? (fun f=>f.set.same .zero)=some x):=find_take HX.out HFN.out hq
    rw[hq] at heq
    clear hq
    go_wp2
    go_quiet (fail)
    go_wp2
    go_ret2
    exact ⟨⟨51,x.sort,rfl,by rw[HLN.out,HNX.out];rfl⟩,bel_dn _ HB3.out⟩
  obtain rfl:k=N:=by omega
  have HNX:Hid (L.find? (fun f=>f.set.same .zero)=none):=by have h:=HFN.out;rw[List.take_of_length_le (by rw[HN.out];exact Nat.le_refl _)] at h;exact h
  go_wp2
  go_ret2
  exact ⟨⟨0,no,rfl,by rw[HLN.out,HNX.out];rfl⟩,HB.out⟩
end Go.Proofs.YtilpgpcgcpedjaaGreat
