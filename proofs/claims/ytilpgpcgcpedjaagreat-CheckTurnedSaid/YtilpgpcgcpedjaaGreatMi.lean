/- The leaves that a production's template is to have; lists of leaves that are equal. -/
import Derived.Test.YtilpgpcgcpedjaaGreatMh
namespace Go.Proofs.YtilpgpcgcpedjaaGreat
open Go.RowKit
set_option linter.unusedVariables false
set_option linter.unusedSimpArgs false
set_option maxRecDepth 100000
set_option maxHeartbeats 16000000
theorem leavesOf_any:∀(f:Nat) (l:List It) (v:Value) (w:World),Sl w w.heap.size 4 (ItV w w.heap.size f) l v→(lvIts l).length≤1000000→
  Calls Tryz.prog 135 #[v] w fun e w'=>(∃va vc,e=.returned (.slice va (lvIts l).length vc)∧LvAt w' w.heap.size (lvIts l) (.slice va (lvIts l).length vc))∧Below w.heap.size w w'
 | 0,l,v,w,h,hb=>leavesOf_step _ l v w h hb (fun x hx _ hv=>hv.elim)
 | f+1,l,v,w,h,hb=>leavesOf_step _ l v w h hb (fun x hx vs hv=>by
  obtain⟨u,e,hs⟩:=hv
  obtain⟨ua,uc,rfl,hu⟩:=hs
  have hs:Sl w w.heap.size 4 (ItV w w.heap.size f) x.items (.slice ua x.items.length uc):=⟨ua,uc,rfl,hu⟩
  exact⟨ua,uc,e,fun h2 W hW=>leavesOf_any f x.items _ W (hs.keep hW hW.size (fun _ _ _ h=>h.keep hW hW.size)) h2⟩)
def nlit (l:List Sy):Nat:=(l.filter fun s=>decide (¬s.kind=1)).length
def sl1 (h:Nat) (x:Sy):Lf:=if x.kind=1 then (1,x.text,0) else (2,no,((h+1:Nat):Int))
theorem symLv_snoc:∀(l:List Sy) (h:Nat) (x:Sy),symLv h (l++[x])=symLv h l++[sl1 (h+nlit l) x]
 | [],h,x=>by
  rw[List.nil_append,symLv,symLv]
  unfold sl1 nlit
  by_cases hx:x.kind=1
  ·simp[hx,symLv]
  ·simp[hx,symLv]
 | y::l,h,x=>by
  rw[List.cons_append,symLv,symLv]
  by_cases hy:y.kind=1
  ·have e:nlit (y::l)=nlit l:=by unfold nlit;rw[List.filter_cons];simp[hy]
   rw[if_pos hy,if_pos hy,symLv_snoc l h x,e]
   rfl
  ·have e:nlit (y::l)=nlit l+1:=by unfold nlit;rw[List.filter_cons];simp[hy]
   rw[if_neg hy,if_neg hy,symLv_snoc l (h+1) x,e]
   rw[show h+1+nlit l=h+(nlit l+1) from by omega]
   rfl
theorem symLv_len:∀(l:List Sy) (h:Nat),(symLv h l).length=l.length
 | [],_=>rfl
 | y::l,h=>by
  rw[symLv]
  split
  ·rw[List.length_cons,symLv_len l,List.length_cons]
  ·rw[List.length_cons,symLv_len l,List.length_cons]
theorem nlit_snoc (l:List Sy) (x:Sy):nlit (l++[x])=nlit l+if x.kind=1 then 0 else 1:=by
 unfold nlit
 rw[List.filter_append,List.length_append]
 by_cases h:x.kind=1
 ·simp[h]
 ·simp[h]
theorem nlit_le (l:List Sy):nlit l≤l.length:=List.length_filter_le _ _
theorem symLeaves_any (p:Pr) (v:Value) (w:World) (hv:Sl w w.heap.size 8 SyV p.syms v) (hz:p.syms.length≤1000000):
  Calls Tryz.prog 136 #[.agg #[.bool p.lex,.string p.sort,.string p.cons,.bool p.bracket,v]] w fun e w'=>(∃va vc,e=.returned (.slice va (symLv 0 p.syms).length vc)∧LvAt w' w.heap.size (symLv 0 p.syms) (.slice va (symLv 0 p.syms).length vc))∧Below w.heap.size w w':=by
 obtain⟨a1,p1,rfl,hl0,hl1,hr1⟩:=hv
 obtain⟨L,hL⟩:∃L,p.syms=L:=⟨_,rfl⟩
 rw[hL] at hl0 hl1 hr1 hz ⊢
 clear hL
 obtain⟨N,hN⟩:∃N,L.length=N:=⟨_,rfl⟩
 have HR1:=hHi hr1
 have HN:=hHi hN
 rw[symLv_len,hN] at ⊢
 rw[hN] at hl0 hl1 hz
 clear hr1 hN
 obtain⟨w1,hw1⟩:∃qW,w.alloc (.cells #[.bool p.lex,.string p.sort,.string p.cons,.bool p.bracket,.slice a1 N p1] 44)=qW:=⟨_,rfl⟩
 have HX1:=kN hw1
 have HB1:=kB hw1
 obtain⟨d0,d1,d2,d3,d4⟩:=HX1.out.c5
 go_enter Tryz.func136,Tryz.ntmps136
 go_wp2
 go_loopw[3,4,10] (fun lv nv iv W=>∃(k c:Nat) (va:Option Addr) (vc:Nat),k≤N∧lv=.slice va k vc∧nv=.int .i64 c∧iv=.int .i64 k∧c≤k∧nlit (L.take k)=c∧LvAt W w.heap.size (symLv 0 (L.take k)) (.slice va k vc)∧Below w.heap.size w W) (fun _ _ iv _=>N-(intOf iv).toNat)
 case atStart=>exact ⟨0,0,none,0,Nat.zero_le _,rfl,rfl,rfl,Nat.le_refl _,rfl,LvAt.nil _ _,HB1.out⟩
 case round=>
  obtain⟨k,c,va,vc,hk,rfl,rfl,rfl,hck,hnc,hI,hB⟩:=hrel
  have HI:=hHi hI
  have HB:=hHi hB
  have HC0:=hHi hnc
  clear hI hB hnc d0 d1 d2 d3 d4
  by_cases hlt:k<N
  case pos=>
   obtain⟨x,hx⟩:∃x,L[k]?=some x:=⟨L[k]'(by rw[HN.out];exact hlt),by simp⟩
   obtain⟨b,o,us,hb,hlb,hus,hc⟩:=HR1.out k x hx
   obtain⟨hok,rfl⟩:=hus
   subst hb
   have HT:Hid (symLv 0 (L.take (k+1))=symLv 0 (L.take k)++[sl1 c x]):=by show _=_;rw[take_snoc' hx,symLv_snoc,HC0.out,Nat.zero_add]
   have HNT:Hid (nlit (L.take (k+1))=c+if x.kind=1 then 0 else 1):=by show _=_;rw[take_snoc' hx,nlit_snoc,HC0.out]
   have HTL:Hid ((symLv 0 (L.take (k+1))).length=k+1):=by show _=_;rw[symLv_len,List.length_take,HN.out];omega
   have HKB:Hid ((k+1)*32≤140737488355328):=by show _≤_;omega
   have hq_:=hcb HB.out hlb hc
   have s0:=hq_ 0 _ rfl
   have s1:=hq_ 1 _ rfl
   have s2:=hq_ 2 _ rfl
   have s3:=hq_ 3 _ rfl
   have s4:=hq_ 4 _ rfl
   have s5:=hq_ 5 _ rfl
   have s6:=hq_ 6 _ rfl
   have s7:=hq_ 7 _ rfl
   rw[Nat.add_zero] at s0
   have hltI:(k:Int)<N:=by omega
   clear hq_ hc hx hok
   obtain⟨w2,hw2⟩:∃qW,wr.alloc (.cells #[.int .i64 x.kind,.string x.text,.int .u64 x.set.a,.int .u64 x.set.b,.int .u64 x.set.c,.int .u64 x.set.d,.string x.name,.string x.sep] 62)=qW:=⟨_,rfl⟩
   have HN2:=kB hw2
   have HX2:=kN hw2
   have HB2:Hid (Below w.heap.size w w2):=below_tr HB.out HN2.out
   have HI2:=hHi (HI.out.after HN2.out)
   have HOB:Hid (∀b,(Value.slice va k vc).ownBlock=some b→w.heap.size≤b):=fun b hb=>(HI.out.row.lt b hb).1
   have HS1:Hid (sl1 c x=if x.kind=1 then (1,x.text,0) else (2,no,((c+1:Nat):Int))):=rfl
   generalize sl1 c x=lx at HS1 HT
   obtain⟨kd,hkd⟩:∃z,x.kind=z:=⟨_,rfl⟩
   rw[hkd] at s0 hw2 HX2 HS1 HNT
   clear hkd
   obtain⟨e0,e1,e2,e3,e4,e5,e6,e7⟩:=c8 HX2.out
   by_cases hk1:kd=1
   ·have HS2:Hid (lx=(1,x.text,0)):=by show _=_;rw[HS1.out,if_pos hk1]
    rw[if_pos hk1,Nat.add_zero] at HNT
    subst hk1
    obtain⟨w3,hw3⟩:∃qW,w2.alloc (.cells #[.int .i64 1,.string x.text,.int .i64 0] 128)=qW:=⟨_,rfl⟩
    have HN3:=kB hw3
    have HB3:Hid (Below w.heap.size w w3):=below_tr HB2.out HN3.out
    have HI3:=hHi (HI2.out.after HN3.out)
    have HRS:Hid (LvAt w3 w2.heap.size [lx] (.slice (some ⟨w2.heap.size,0,none⟩) 1 1)):=by
     show LvAt _ _ _ _
     rw[←hw3,HS2.out]
     exact ⟨World.ownsRow_lit w2 #[.int .i64 1,.string x.text,.int .i64 0] 1 (Nat.le_refl _) (by decide) rfl⟩
    have hlo:=HB3.out.size
    go_wp2_with (at_builtin;refine wpList_app_lv HT HTL rfl _ _ rfl rfl rfl HI3 HRS HKB hlo ?_)
    intro ya yc w4 HY HG
    have HB4:Hid (Below w.heap.size w w4):=HB3.out.trans (belO HG.out HOB.out HB3.out.size)
    clear s0 s1 s2 s3 s4 s5 s6 s7 e0 e1 e2 e3 e4 e5 e6 e7
    go_wp2
    go_roundw
    case rel=>exact ⟨k+1,c,ya,yc,by omega,rfl,rfl,by go_num,by omega,HNT.out,HY.out,HB4.out⟩
    case measure=>simp[intOf];omega
   ·have HS2:Hid (lx=(2,no,((c+1:Nat):Int))):=by show _=_;rw[HS1.out,if_neg hk1]
    rw[if_neg hk1] at HNT
    obtain⟨w3,hw3⟩:∃qW,w2.alloc (.cells #[.int .i64 2,.string ⟨#[]⟩,.int .i64 ((c:Int)+1)] 128)=qW:=⟨_,rfl⟩
    have HN3:=kB hw3
    have HB3:Hid (Below w.heap.size w w3):=below_tr HB2.out HN3.out
    have HI3:=hHi (HI2.out.after HN3.out)
    have HRS:Hid (LvAt w3 w2.heap.size [lx] (.slice (some ⟨w2.heap.size,0,none⟩) 1 1)):=by
     show LvAt _ _ _ _
     rw[←hw3,HS2.out]
     exact ⟨World.ownsRow_lit w2 #[.int .i64 2,.string ⟨#[]⟩,.int .i64 ((c:Int)+1)] 1 (Nat.le_refl _) (by decide) rfl⟩
    have hlo:=HB3.out.size
    go_wp2_with (at_builtin;refine wpList_app_lv HT HTL rfl _ _ rfl rfl rfl HI3 HRS HKB hlo ?_)
    intro ya yc w4 HY HG
    have HB4:Hid (Below w.heap.size w w4):=HB3.out.trans (belO HG.out HOB.out HB3.out.size)
    clear s0 s1 s2 s3 s4 s5 s6 s7 e0 e1 e2 e3 e4 e5 e6 e7
    go_wp2
    go_roundw
    case rel=>exact ⟨k+1,c+1,ya,yc,by omega,rfl,by go_num,by go_num,by omega,HNT.out,HY.out,HB4.out⟩
    case measure=>simp[intOf];omega
  obtain rfl:k=N:=by omega
  have HE:Hid (symLv 0 (L.take k)=symLv 0 L):=by show _=_;rw[List.take_of_length_le (by rw[HN.out];exact Nat.le_refl _)]
  rw[HE.out] at HI
  go_wp2
  go_ret
  exact ⟨⟨va,vc,rfl,HI.out⟩,HB.out⟩
theorem eq128 (p q:Lf) (w:World):(Op.equalIn 10000 128 (.agg #[.int .i64 p.1,.string p.2.1,.int .i64 p.2.2]) (.agg #[.int .i64 q.1,.string q.2.1,.int .i64 q.2.2])).run Tryz.prog w=.ok (decide (p=q)) w:=by
 have hp:∀(x0 x1 x2:Value) w,((part 3 #[x0,x1,x2] 0).run Tryz.prog w=.ok x0 w)∧((part 9 #[x0,x1,x2] 1).run Tryz.prog w=.ok x1 w)∧((part 3 #[x0,x1,x2] 2).run Tryz.prog w=.ok x2 w):=by
  intro x0 x1 x2 w
  refine⟨?_,?_,?_⟩<;>kernel_rfl
 have h0:Tryz.prog.stoodInHeld 128=false:=by kernel_rfl
 have he:∀(a b:Int) w,(Op.equalIn 9999 3 (.int .i64 a) (.int .i64 b)).run Tryz.prog w=.ok (a==b) w:=fun a b w=>run_equalIn_int w 9998 3 .i64 .i64 a b Tryz.underlying3
 have hs:∀(a b:ByteArray) w,(Op.equalIn 9999 9 (.string a) (.string b)).run Tryz.prog w=.ok (a==b) w:=fun a b w=>eqStr 9998 a b w
 rw[show (10000:Nat)=9999+1 from rfl]
 rw[Op.equalIn]
 simp only[Sem.run_bind,run_underlying Tryz.underlying128,Result.andThen_ok]
 simp[h0,hp,he,hs]
 obtain⟨p1,p2,p3⟩:=p
 obtain⟨q1,q2,q3⟩:=q
 by_cases h1:p1=q1
 ·by_cases h2:p2=q2
  ·by_cases h3:p3=q3
   ·simp[h1,h2,h3]
   ·simp[h1,h2,h3]
  ·simp[h1,h2]
 ·simp[h1]
end Go.Proofs.YtilpgpcgcpedjaaGreat
