/- Lists held against one another: slices.Equal. Lists held against one another by a function: slices.EqualFunc; productions, groups, chains, items, templates that are the same. Definitions that are the same: defs.Same. The document's own: names, items, chains held against one another. The document's own: chains held against one another. The document's own: productions held against one another. The document's own: definitions held against one another. -/
import Derived.Test.YtilpgpcgcpedjaaGreatA0
import Derived.Test.YtilpgpcgcpedjaaGreatAl
import Derived.Deep.QuietTactic
import Derived.BigQuiet
import Derived.Deep.CutRange
import Derived.BigRegion
namespace Go.Proofs.YtilpgpcgcpedjaaGreat
open Go.RowKit
set_option linter.unusedVariables false
set_option linter.unusedSimpArgs false
set_option maxRecDepth 100000
set_option maxHeartbeats 16000000
section
set_option linter.unusedVariables false
set_option linter.unusedSimpArgs false
set_option maxRecDepth 100000
set_option maxHeartbeats 16000000
noncomputable def eqD {α:Type} (x y:α):Bool:=@decide (x=y) (Classical.propDecidable _)
section
variable {α:Type} {x y:α}
theorem eqD_iff:eqD x y=true↔x=y:=by unfold eqD;simp
theorem eqD_ne (h:¬x=y):eqD x y=false:=by unfold eqD;simp[h]
theorem eqD_self:eqD x x=true:=eqD_iff.2 rfl
variable {l m:List α} {k:Nat}
theorem eqD_at (h1:l[k]?=some x) (h2:m[k]?=some y) (h:¬x=y):eqD l m=false:=eqD_ne fun e=>h (by subst e;rw[h1] at h2;exact Option.some.inj h2)
theorem eqD_len (h:¬l.length=m.length):eqD l m=false:=eqD_ne fun e=>h (by rw[e])
theorem take_one (h1:l[k]?=some x) (h2:m[k]?=some x) (h:l.take k=m.take k):l.take (k+1)=m.take (k+1):=by
 have h1:=List.getElem?_eq_some_iff.1 h1
 have h2:=List.getElem?_eq_some_iff.1 h2
 rw[List.take_succ_eq_append_getElem h1.1,List.take_succ_eq_append_getElem h2.1,h,h1.2,h2.2]
theorem eqD_end (h1:l.length=k) (h2:m.length=k) (h:l.take k=m.take k):eqD l m=true:=by
 rw[←h1,List.take_length,h1,←h2,List.take_length] at h
 exact eqD_iff.2 h
end
theorem str_ne {x y:ByteArray} (h:¬x=y):(x.toList==y.toList)=false:=by
 cases hq:x.toList==y.toList
 ·rfl
 ·exact absurd (str_iff.1 (by simpa using hq)) h
theorem str_bne {x y:ByteArray} (h:¬x=y):(x.toList != y.toList)=true:=by unfold bne;rw[str_ne h];rfl
theorem foEq (x y:Fo) (w:World):(Op.equalIn 10000 54 (.agg #[.string x.sort,.int .u64 x.set.a,.int .u64 x.set.b,.int .u64 x.set.c,.int .u64 x.set.d]) (.agg #[.string y.sort,.int .u64 y.set.a,.int .u64 y.set.b,.int .u64 y.set.c,.int .u64 y.set.d])).run Tryz.prog w=.ok (eqD x y) w:=by
 have hp:∀(x0 x1 x2 x3 x4:Value) w,((part 9 #[x0,x1,x2,x3,x4] 0).run Tryz.prog w=.ok x0 w)∧((part 52 #[x0,x1,x2,x3,x4] 1).run Tryz.prog w=.ok (.agg #[x1,x2,x3,x4]) w):=by
  intro x0 x1 x2 x3 x4 w
  refine⟨?_,?_⟩<;>kernel_rfl
 have h0:Tryz.prog.stoodInHeld 54=false:=by kernel_rfl
 have hs:∀(a b:ByteArray) w,(Op.equalIn 9999 9 (.string a) (.string b)).run Tryz.prog w=.ok (a==b) w:=fun a b w=>eqStr 9998 a b w
 rw[show (10000:Nat)=9999+1 from rfl]
 rw[Op.equalIn]
 simp only[Sem.run_bind,run_underlying Tryz.underlying54,Result.andThen_ok]
 simp[h0,hp,hs,eq49e]
 have he:eqD x y=(x.sort==y.sort&&x.set.same y.set):=by
  rw[Bool.eq_iff_iff]
  simp only[Bool.and_eq_true,ba_eq,St.same_eq,eqD_iff]
  constructor
  ·intro h;subst h;exact⟨rfl,rfl⟩
  ·rintro⟨h1,h2⟩;cases x;cases y;simp_all
 rw[he]
 generalize (x.sort==y.sort)=p1
 generalize x.set.same y.set=p2
 cases p1<;>cases p2<;>rfl
theorem reEq (x y:Re) (w:World):(Op.equalIn 10000 56 (.agg #[.string x.sort,.string x.by']) (.agg #[.string y.sort,.string y.by'])).run Tryz.prog w=.ok (eqD x y) w:=by
 have hp:∀(x0 x1:Value) w,((part 9 #[x0,x1] 0).run Tryz.prog w=.ok x0 w)∧((part 9 #[x0,x1] 1).run Tryz.prog w=.ok x1 w):=by
  intro x0 x1 w
  refine⟨?_,?_⟩<;>kernel_rfl
 have h0:Tryz.prog.stoodInHeld 56=false:=by kernel_rfl
 have hs:∀(a b:ByteArray) w,(Op.equalIn 9999 9 (.string a) (.string b)).run Tryz.prog w=.ok (a==b) w:=fun a b w=>eqStr 9998 a b w
 rw[show (10000:Nat)=9999+1 from rfl]
 rw[Op.equalIn]
 simp only[Sem.run_bind,run_underlying Tryz.underlying56,Result.andThen_ok]
 simp[h0,hp,hs]
 have he:eqD x y=(x.sort==y.sort&&x.by' == y.by'):=by
  rw[Bool.eq_iff_iff]
  simp only[Bool.and_eq_true,ba_eq,eqD_iff]
  constructor
  ·intro h;subst h;exact⟨rfl,rfl⟩
  ·rintro⟨h1,h2⟩;cases x;cases y;simp_all
 rw[he]
 generalize (x.sort==y.sort)=p1
 generalize (x.by' == y.by')=p2
 cases p1<;>cases p2<;>rfl
theorem syEq (x y:Sy) (w:World):(Op.equalIn 10000 62 (.agg #[.int .i64 x.kind,.string x.text,.int .u64 x.set.a,.int .u64 x.set.b,.int .u64 x.set.c,.int .u64 x.set.d,.string x.name,.string x.sep]) (.agg #[.int .i64 y.kind,.string y.text,.int .u64 y.set.a,.int .u64 y.set.b,.int .u64 y.set.c,.int .u64 y.set.d,.string y.name,.string y.sep])).run Tryz.prog w=.ok (eqD x y) w:=symEq x y w
theorem below_drew {w W:World} (h:Below w.heap.size w W) (n:Nat):Below w.heap.size w (W.drewN n):=⟨h.os,h.tape,h.output,h.size,h.block⟩
theorem eqPr (x y:Pr):eqD x y=(eqD x.lex y.lex&&eqD x.sort y.sort&&eqD x.cons y.cons&&eqD x.bracket y.bracket&&eqD x.syms y.syms):=by
 rw[Bool.eq_iff_iff];simp only[Bool.and_eq_true,eqD_iff];cases x;cases y;simp[and_assoc]
theorem eqGr (x y:Gr):eqD x y=(eqD x.assoc y.assoc&&eqD x.cons y.cons):=by
 rw[Bool.eq_iff_iff];simp only[Bool.and_eq_true,eqD_iff];cases x;cases y;simp
theorem eqBo (x y:Bo):eqD x y=(eqD x.cons y.cons&&eqD x.items y.items):=by
 rw[Bool.eq_iff_iff];simp only[Bool.and_eq_true,eqD_iff];cases x;cases y;simp
theorem eqIt (x y:It):eqD x y=(eqD x.kind y.kind&&eqD x.text y.text&&eqD x.n y.n&&eqD x.items y.items):=by
 rw[Bool.eq_iff_iff];simp only[Bool.and_eq_true,eqD_iff];cases x;cases y;simp[It.kind,It.text,It.n,It.items,and_assoc]
theorem sl_none {w:World} {B:Nat} {l:List It} {v:Value} (h:Sl w B 4 (ItV w B 0) l v):l=[]:=by
 cases l with
 | nil=>rfl
 | cons x l=>
  obtain⟨a,c,rfl,_,_,hr⟩:=h
  obtain⟨b,o,us,_,_,hf,_⟩:=hr 0 x rfl
  exact hf.elim
end
section
set_option linter.unusedVariables false
set_option linter.unusedSimpArgs false
set_option maxRecDepth 100000
set_option maxHeartbeats 16000000
theorem eqDf (x y:Df):eqD x y=(eqD x.start y.start&&eqD x.layout y.layout&&eqD x.prods y.prods&&eqD x.chains y.chains&&eqD x.follows y.follows&&eqD x.rejects y.rejects&&eqD x.boxes y.boxes):=by
 rw[Bool.eq_iff_iff];simp only[Bool.and_eq_true,eqD_iff];cases x;cases y;simp[and_assoc]
theorem drew_add {w W:World} {m:Nat} (h:W=w.drewN m) (n:Nat):W.drewN n=w.drewN (m+n):=by rw[h,World.drewN_drewN]
theorem below_dn {w W:World} (h:∃m,W=w.drewN m):Below w.heap.size w W:=by
 obtain⟨m,rfl⟩:=h
 exact⟨rfl,rfl,rfl,Nat.le_refl _,fun _ _=>rfl⟩
theorem rnames_same (l1 l2:List ByteArray) (v1 v2:Value) (w:World) (h1:Sl w w.heap.size 1 StrV l1 v1) (h2:Sl w w.heap.size 1 StrV l2 v2) :
  Calls Tryz.prog 18 #[v1,v2] w fun e w'=>e=.returned (.bool (eqD l1 l2))∧∃m,w'=w.drewN m:=by
 obtain⟨a1,p1,rfl,_,hl1,hr1⟩:=h1
 obtain⟨a2,p2,rfl,_,hl2,hr2⟩:=h2
 obtain⟨N,hN⟩:∃N,l1.length=N:=⟨_,rfl⟩
 obtain⟨M,hM⟩:∃M,l2.length=M:=⟨_,rfl⟩
 have HR1:=hHi hr1
 have HR2:=hHi hr2
 have HN:=hHi hN
 have HM:=hHi hM
 rw[hN] at hl1 ⊢
 rw[hM] at hl2 ⊢
 clear hr1 hr2 hN hM
 by_cases hlen:N=M
 case neg=>
  have HF:Hid _:=eqD_len (l:=l1) (m:=l2) (by rw[HN.out,HM.out];exact hlen)
  have q1:((N:Int) != (M:Int))=true:=by simp;omega
  have q2:¬(N:Int)=(M:Int):=by omega
  clear hlen
  go_enter Tryz.func18,Tryz.ntmps18
  go_wp2
  go_ret
  exact⟨by rw[HF.out];rfl,0,rfl⟩
 subst hlen
 go_enter Tryz.func18,Tryz.ntmps18
 go_wp2
 go_loopw[5] (fun iv W=>∃k m:Nat,k≤N∧iv=.int .i64 k∧l1.take k=l2.take k∧W=w.drewN m) (fun iv _=>N-(intOf iv).toNat)
 case atStart=>exact⟨0,0,Nat.zero_le _,rfl,rfl,rfl⟩
 case round=>
  obtain⟨k,m,hk,rfl,hh,hW⟩:=hrel
  have HH:=hHi hh
  have HW:=hHi hW
  have hq:∀p,wr.cell? p=w.cell? p:=fun p=>by rw[hW];rfl
  have HQ:=hHi hq
  clear hh hW hq
  by_cases hlt:k<N
  ·obtain⟨x,hx⟩:∃x,l1[k]?=some x:=⟨l1[k]'(by rw[HN.out];exact hlt),by simp⟩
   obtain⟨y,hy⟩:∃y,l2[k]?=some y:=⟨l2[k]'(by rw[HM.out];exact hlt),by simp⟩
   obtain⟨b,o,us,hb,hlb,hus,hc⟩:=HR1.out k x hx
   have hus:us=[.string x]:=hus
   subst hus
   obtain⟨b2,o2,us,hb2,hlb2,hus,hd⟩:=HR2.out k y hy
   have hus:us=[.string y]:=hus
   subst hus
   subst hb
   subst hb2
   have s0:=(HQ.out ⟨b,o+k*1+0,none⟩).trans (hc 0 _ rfl)
   have t0:=(HQ.out ⟨b2,o2+k*1+0,none⟩).trans (hd 0 _ rfl)
   rw[Nat.mul_one,Nat.add_zero] at s0 t0
   have hltI:(k:Int)<N:=by omega
   clear hc hd
   by_cases he:x=y
   ·subst he
    have HT1:Hid (l1.take (k+1)=l2.take (k+1)):=take_one hx hy HH.out
    clear hx hy
    go_wp2
    go_quiet (fail)
    go_wp2
    go_roundw
    case rel=>exact⟨k+1,_,by omega,by go_num,HT1.out,drew_add HW.out _⟩
    case measure=>simp[intOf];omega
   ·have HF:Hid _:=eqD_at hx hy he
    have q1:=str_ne he
    have q2:=str_bne he
    clear hx hy he
    go_wp2
    go_quiet (fail)
    go_wp2
    go_ret
    exact⟨by rw[HF.out];rfl,_,drew_add HW.out _⟩
  ·obtain rfl:k=N:=by omega
   have HE:Hid _:=eqD_end HN.out HM.out HH.out
   go_wp2
   go_ret
   exact⟨by rw[HE.out];rfl,m,HW.out⟩
theorem ritems_same1 (f:Nat) (HI:Hid (∀(l1 l2:List It) (v1 v2:Value) (w:World),Sl w w.heap.size 4 (ItV w w.heap.size f) l1 v1→Sl w w.heap.size 4 (ItV w w.heap.size f) l2 v2→Calls Tryz.prog 55 #[v1,v2] w fun e w'=>e=.returned (.bool (eqD l1 l2))∧∃m,w'=w.drewN m))
  (l1 l2:List It) (v1 v2:Value) (w:World) (h1:Sl w w.heap.size 4 (ItV w w.heap.size (f+1)) l1 v1) (h2:Sl w w.heap.size 4 (ItV w w.heap.size (f+1)) l2 v2) :
  Calls Tryz.prog 55 #[v1,v2] w fun e w'=>e=.returned (.bool (eqD l1 l2))∧∃m,w'=w.drewN m:=by
 obtain⟨a1,p1,rfl,_,hl1,hr1⟩:=h1
 obtain⟨a2,p2,rfl,_,hl2,hr2⟩:=h2
 obtain⟨N,hN⟩:∃N,l1.length=N:=⟨_,rfl⟩
 obtain⟨M,hM⟩:∃M,l2.length=M:=⟨_,rfl⟩
 have HR1:=hHi hr1
 have HR2:=hHi hr2
 have HN:=hHi hN
 have HM:=hHi hM
 rw[hN] at hl1 ⊢
 rw[hM] at hl2 ⊢
 clear hr1 hr2 hN hM
 by_cases hlen:N=M
 case neg=>
  have HF:Hid _:=eqD_len (l:=l1) (m:=l2) (by rw[HN.out,HM.out];exact hlen)
  have q1:((N:Int) != (M:Int))=true:=by simp;omega
  have q2:¬(N:Int)=(M:Int):=by omega
  clear hlen
  go_enter Tryz.func55,Tryz.ntmps55
  go_wp2
  go_ret
  exact⟨by rw[HF.out];rfl,0,rfl⟩
 subst hlen
 go_enter Tryz.func55,Tryz.ntmps55
 go_wp2
 go_loopw[5] (fun iv W=>∃k m:Nat,k≤N∧iv=.int .i64 k∧l1.take k=l2.take k∧W=w.drewN m) (fun iv _=>N-(intOf iv).toNat)
 case atStart=>exact⟨0,0,Nat.zero_le _,rfl,rfl,rfl⟩
 case round=>
  obtain⟨k,m,hk,rfl,hh,hW⟩:=hrel
  have HH:=hHi hh
  have HW:=hHi hW
  have hq:∀p,wr.cell? p=w.cell? p:=fun p=>by rw[hW];rfl
  have HQ:=hHi hq
  clear hh hW hq
  by_cases hlt:k<N
  ·obtain⟨x,hx⟩:∃x,l1[k]?=some x:=⟨l1[k]'(by rw[HN.out];exact hlt),by simp⟩
   obtain⟨y,hy⟩:∃y,l2[k]?=some y:=⟨l2[k]'(by rw[HM.out];exact hlt),by simp⟩
   have HXY:Hid _:=eqIt x y
   have HAT:Hid (¬x=y→eqD l1 l2=false):=fun he=>eqD_at hx hy he
   have HTK:Hid (x=y→l1.take (k+1)=l2.take (k+1)):=fun he=>take_one hx (by rw[he];exact hy) HH.out
   obtain⟨b,o,us,hb,hlb,⟨u1,rfl,hfx⟩,hc⟩:=HR1.out k x hx
   obtain⟨b2,o2,us,hb2,hlb2,⟨u2,rfl,hfy⟩,hd⟩:=HR2.out k y hy
   have HC:Hid (∀n,Calls Tryz.prog 55 #[u1,u2] (wr.drewN n) fun e w'=>e=.returned (.bool (eqD x.items y.items))∧∃m,w'=(wr.drewN n).drewN m):=fun n=>by
    have hbw:Below w.heap.size w (wr.drewN n):=below_dn ⟨_,drew_add HW.out n⟩
    exact HI.out x.items y.items u1 u2 (wr.drewN n) (hfx.keep hbw hbw.size (fun _ _ _ h=>h.keep hbw hbw.size)) (hfy.keep hbw hbw.size (fun _ _ _ h=>h.keep hbw hbw.size))
   subst hb
   subst hb2
   have s0:=(HQ.out ⟨b,o+k*4+0,none⟩).trans (hc 0 _ rfl)
   have s1:=(HQ.out ⟨b,o+k*4+1,none⟩).trans (hc 1 _ rfl)
   have s2:=(HQ.out ⟨b,o+k*4+2,none⟩).trans (hc 2 _ rfl)
   have s3:=(HQ.out ⟨b,o+k*4+3,none⟩).trans (hc 3 _ rfl)
   rw[Nat.add_zero] at s0
   have t0:=(HQ.out ⟨b2,o2+k*4+0,none⟩).trans (hd 0 _ rfl)
   have t1:=(HQ.out ⟨b2,o2+k*4+1,none⟩).trans (hd 1 _ rfl)
   have t2:=(HQ.out ⟨b2,o2+k*4+2,none⟩).trans (hd 2 _ rfl)
   have t3:=(HQ.out ⟨b2,o2+k*4+3,none⟩).trans (hd 3 _ rfl)
   rw[Nat.add_zero] at t0
   obtain⟨a0,ha0⟩:∃q,x.kind=q:=⟨_,rfl⟩
   rw[ha0] at HXY s0
   clear ha0
   obtain⟨b0,hb0⟩:∃q,y.kind=q:=⟨_,rfl⟩
   rw[hb0] at HXY t0
   clear hb0
   obtain⟨a1,ha1⟩:∃q,x.text=q:=⟨_,rfl⟩
   rw[ha1] at HXY s1
   clear ha1
   obtain⟨b1,hb1⟩:∃q,y.text=q:=⟨_,rfl⟩
   rw[hb1] at HXY t1
   clear hb1
   obtain⟨a2,ha2⟩:∃q,x.n=q:=⟨_,rfl⟩
   rw[ha2] at HXY s2
   clear ha2
   obtain⟨b2,hb2⟩:∃q,y.n=q:=⟨_,rfl⟩
   rw[hb2] at HXY t2
   clear hb2
   have hltI:(k:Int)<N:=by omega
   clear hc hd hx hy hfx hfy
   generalize hE:eqD x y=E at HXY
   have HE0:=hHi hE
   clear hE
   by_cases e0:a0=b0
   case neg=>
    have HF:Hid (eqD l1 l2=false):=HAT.out (fun h=>by rw[←eqD_iff,HE0.out,HXY.out,eqD_ne e0] at h;simp at h)
    have q1:(a0==b0)=false:=by simpa using e0
    have q2:(a0 != b0)=true:=by simpa using e0
    clear e0
    go_wp2
    go_quiet (fail)
    go_wp2
    go_ret
    exact⟨by rw[HF.out];rfl,_,drew_add HW.out _⟩
   subst e0
   rw[eqD_self] at HXY
   by_cases e1:a1=b1
   case neg=>
    have HF:Hid (eqD l1 l2=false):=HAT.out (fun h=>by rw[←eqD_iff,HE0.out,HXY.out,eqD_ne e1] at h;simp at h)
    have q1:=str_ne e1
    have q2:=str_bne e1
    clear e1
    go_wp2
    go_quiet (fail)
    go_wp2
    go_ret
    exact⟨by rw[HF.out];rfl,_,drew_add HW.out _⟩
   subst e1
   rw[eqD_self] at HXY
   by_cases e2:a2=b2
   case neg=>
    have HF:Hid (eqD l1 l2=false):=HAT.out (fun h=>by rw[←eqD_iff,HE0.out,HXY.out,eqD_ne e2] at h;simp at h)
    have q1:(a2==b2)=false:=by simpa using e2
    have q2:(a2 != b2)=true:=by simpa using e2
    clear e2
    go_wp2
    go_quiet (fail)
    go_wp2
    go_ret
    exact⟨by rw[HF.out];rfl,_,drew_add HW.out _⟩
   subst e2
   rw[eqD_self] at HXY
   cases hq:eqD x.items y.items with
   | false=>
    have HF:Hid (eqD l1 l2=false):=HAT.out (fun h=>by rw[←eqD_iff,HE0.out,HXY.out,hq] at h;simp at h)
    rw[hq] at HC
    clear hq
    go_wp2
    go_quiet (first | (go_at_call 55;exact Calls.quiet_of (HC.out _)))
    go_wp2
    go_ret
    exact⟨by rw[HF.out];rfl,_,drew_add HW.out _⟩
   | true=>
    have HT1:Hid _:=HTK.out (eqD_iff.1 (by rw[HE0.out,HXY.out,hq];rfl))
    rw[hq] at HC
    clear hq
    go_wp2
    go_quiet (first | (go_at_call 55;exact Calls.quiet_of (HC.out _)))
    go_wp2
    go_roundw
    case rel=>exact⟨k+1,_,by omega,by go_num,HT1.out,drew_add HW.out _⟩
    case measure=>simp[intOf];omega
  ·obtain rfl:k=N:=by omega
   have HE:Hid _:=eqD_end HN.out HM.out HH.out
   go_wp2
   go_ret
   exact⟨by rw[HE.out];rfl,m,HW.out⟩
theorem ritems_nil (v1 v2:Value) (w:World) (h1:Sl w w.heap.size 4 (ItV w w.heap.size 0) [] v1) (h2:Sl w w.heap.size 4 (ItV w w.heap.size 0) [] v2) :
  Calls Tryz.prog 55 #[v1,v2] w fun e w'=>e=.returned (.bool (eqD ([]:List It) []))∧∃m,w'=w.drewN m:=by
 obtain⟨a1,p1,rfl,_,_,_⟩:=h1
 obtain⟨a2,p2,rfl,_,_,_⟩:=h2
 have HE:Hid (eqD ([]:List It) []=true):=eqD_self
 go_enter Tryz.func55,Tryz.ntmps55
 go_wp2
 go_loopw[5] (fun iv W=>iv=.int .i64 0∧W=w) (fun iv _=>0)
 case atStart=>exact⟨rfl,rfl⟩
 case round=>
  obtain⟨rfl,rfl⟩:=hrel
  go_wp2
  go_ret
  exact⟨by rw[HE.out];rfl,0,rfl⟩
theorem ritems_same:∀(f:Nat) (l1 l2:List It) (v1 v2:Value) (w:World),Sl w w.heap.size 4 (ItV w w.heap.size f) l1 v1→Sl w w.heap.size 4 (ItV w w.heap.size f) l2 v2→Calls Tryz.prog 55 #[v1,v2] w fun e w'=>e=.returned (.bool (eqD l1 l2))∧∃m,w'=w.drewN m
 | 0,l1,l2,v1,v2,w,h1,h2=>by
  obtain rfl:=sl_none h1
  obtain rfl:=sl_none h2
  exact ritems_nil v1 v2 w h1 h2
 | f+1,l1,l2,v1,v2,w,h1,h2=>ritems_same1 f (ritems_same f) l1 l2 v1 v2 w h1 h2
theorem rchains_same (l1 l2:List (List Gr)) (v1 v2:Value) (w:World) (h1:Sl w w.heap.size 1 (ChV w w.heap.size) l1 v1) (h2:Sl w w.heap.size 1 (ChV w w.heap.size) l2 v2) :
  Calls Tryz.prog 57 #[v1,v2] w fun e w'=>e=.returned (.bool (eqD l1 l2))∧∃m,w'=w.drewN m:=by
 obtain⟨a1,p1,rfl,_,hl1,hr1⟩:=h1
 obtain⟨a2,p2,rfl,_,hl2,hr2⟩:=h2
 obtain⟨N,hN⟩:∃N,l1.length=N:=⟨_,rfl⟩
 obtain⟨M,hM⟩:∃M,l2.length=M:=⟨_,rfl⟩
 have HR1:=hHi hr1
 have HR2:=hHi hr2
 have HN:=hHi hN
 have HM:=hHi hM
 rw[hN] at hl1 ⊢
 rw[hM] at hl2 ⊢
 clear hr1 hr2 hN hM
 by_cases hlen:N=M
 case neg=>
  have HF:Hid _:=eqD_len (l:=l1) (m:=l2) (by rw[HN.out,HM.out];exact hlen)
  have q1:((N:Int) != (M:Int))=true:=by simp;omega
  have q2:¬(N:Int)=(M:Int):=by omega
  clear hlen
  go_enter Tryz.func57,Tryz.ntmps57
  go_wp2
  go_ret
  exact⟨by rw[HF.out];rfl,0,rfl⟩
 subst hlen
 go_enter Tryz.func57,Tryz.ntmps57
 go_wp2
 go_loopw[5,6] (fun iv _ W=>∃k m:Nat,k≤N∧iv=.int .i64 k∧l1.take k=l2.take k∧W=w.drewN m) (fun iv _ _=>N-(intOf iv).toNat)
 case atStart=>exact⟨0,0,Nat.zero_le _,rfl,rfl,rfl⟩
 case round=>
  obtain⟨k,m,hk,rfl,hh,hW⟩:=hrel
  have HH:=hHi hh
  have HW:=hHi hW
  have hq:∀p,wr.cell? p=w.cell? p:=fun p=>by rw[hW];rfl
  have HQ:=hHi hq
  clear hh hW hq
  by_cases hlt:k<N
  ·obtain⟨x,hx⟩:∃x,l1[k]?=some x:=⟨l1[k]'(by rw[HN.out];exact hlt),by simp⟩
   obtain⟨y,hy⟩:∃y,l2[k]?=some y:=⟨l2[k]'(by rw[HM.out];exact hlt),by simp⟩
   have HAT:Hid (¬x=y→eqD l1 l2=false):=fun he=>eqD_at hx hy he
   have HTK:Hid (x=y→l1.take (k+1)=l2.take (k+1)):=fun he=>take_one hx (by rw[he];exact hy) HH.out
   obtain⟨b,o,us,hb,hlb,⟨u1,rfl,g1,r1,rfl,_,gl1,hg1⟩,hc⟩:=HR1.out k x hx
   obtain⟨b2,o2,us,hb2,hlb2,⟨u2,rfl,g2,r2,rfl,_,gl2,hg2⟩,hd⟩:=HR2.out k y hy
   subst hb
   subst hb2
   have s0:=(HQ.out ⟨b,o+k*1+0,none⟩).trans (hc 0 _ rfl)
   have t0:=(HQ.out ⟨b2,o2+k*1+0,none⟩).trans (hd 0 _ rfl)
   rw[Nat.mul_one,Nat.add_zero] at s0 t0
   have hltI:(k:Int)<N:=by omega
   obtain⟨X,hX⟩:∃X,x.length=X:=⟨_,rfl⟩
   obtain⟨Y,hY⟩:∃Y,y.length=Y:=⟨_,rfl⟩
   have HX:=hHi hX
   have HY:=hHi hY
   rw[hX] at s0 gl1
   rw[hY] at t0 gl2
   have HG1:=hHi hg1
   have HG2:=hHi hg2
   clear hc hd hx hy hX hY hg1 hg2
   by_cases hxy:X=Y
   case neg=>
    have HF:Hid (eqD l1 l2=false):=HAT.out (fun h=>hxy (by rw[←HX.out,←HY.out,h]))
    have q1:((X:Int) != (Y:Int))=true:=by simp;omega
    have q2:¬(X:Int)=(Y:Int):=by omega
    clear hxy
    go_wp2
    go_quiet (fail)
    go_wp2
    go_ret
    exact⟨by rw[HF.out];rfl,_,drew_add HW.out _⟩
   subst hxy
   go_wp2
   go_quiet (fail)
   go_wp2
   obtain⟨wq,hwq⟩:∃wq,wq=wr:=⟨_,rfl⟩
   subst hwq
   have HW1:Hid _:=drew_add HW.out nq
   generalize m+nq=m1 at HW1
   clear HW
   go_loopw[6] (fun jv W=>∃j m:Nat,j≤X∧jv=.int .i64 j∧x.take j=y.take j∧W=w.drewN m) (fun jv _=>X-(intOf jv).toNat)
   case atStart=>exact⟨0,m1,Nat.zero_le _,rfl,rfl,HW1.out⟩
   case round=>
    obtain⟨j,m2,hj,rfl,hh,hW⟩:=hrel
    have HJ:=hHi hh
    have HW2:=hHi hW
    have hq:∀p,wr.cell? p=w.cell? p:=fun p=>by rw[hW];rfl
    have HQ2:=hHi hq
    have hq3:∀p,wr.cell? p=wq.cell? p:=fun p=>(hq p).trans (HQ.out p).symm
    have s1:=(hq3 ⟨b,o+k,none⟩).trans s0
    have t1:=(hq3 ⟨b2,o2+k,none⟩).trans t0
    clear hh hW hq hq3
    by_cases hjlt:j<X
    case neg=>
     obtain rfl:j=X:=by omega
     have HT1:Hid _:=HTK.out (eqD_iff.1 (eqD_end HX.out HY.out HJ.out))
     go_wp2
     go_roundw
     case rel=>exact⟨k+1,m2,by omega,by go_num,HT1.out,HW2.out⟩
     case measure=>simp[intOf];omega
    obtain⟨z,hz⟩:∃z,x[j]?=some z:=⟨x[j]'(by rw[HX.out];exact hjlt),by simp⟩
    obtain⟨t,ht⟩:∃t,y[j]?=some t:=⟨y[j]'(by rw[HY.out];exact hjlt),by simp⟩
    have HZT:Hid _:=eqGr z t
    have HAT2:Hid (¬z=t→eqD l1 l2=false):=fun he=>HAT.out (fun h=>he (by rw[h,ht] at hz;exact (Option.some.inj hz).symm))
    have HTK2:Hid (z=t→x.take (j+1)=y.take (j+1)):=fun he=>take_one hz (by rw[he];exact ht) HJ.out
    obtain⟨b3,o3,us,hb3,hlb3,⟨u3,rfl,hf3⟩,hc3⟩:=HG1.out j z hz
    obtain⟨b4,o4,us,hb4,hlb4,⟨u4,rfl,hf4⟩,hc4⟩:=HG2.out j t ht
    have HC:Hid (∀n,Calls Tryz.prog 18 #[u3,u4] (wr.drewN n) fun e w'=>e=.returned (.bool (eqD z.cons t.cons))∧∃m,w'=(wr.drewN n).drewN m):=fun n=>by
     have hbw:Below w.heap.size w (wr.drewN n):=below_dn ⟨_,drew_add HW2.out n⟩
     exact rnames_same z.cons t.cons u3 u4 (wr.drewN n) (hf3.keep hbw hbw.size (fun _ _ _ h=>h)) (hf4.keep hbw hbw.size (fun _ _ _ h=>h))
    subst hb3
    subst hb4
    have p0:=(HQ2.out ⟨b3,o3+j*2+0,none⟩).trans (hc3 0 _ rfl)
    have p1:=(HQ2.out ⟨b3,o3+j*2+1,none⟩).trans (hc3 1 _ rfl)
    have r0:=(HQ2.out ⟨b4,o4+j*2+0,none⟩).trans (hc4 0 _ rfl)
    have r1:=(HQ2.out ⟨b4,o4+j*2+1,none⟩).trans (hc4 1 _ rfl)
    rw[Nat.add_zero] at p0 r0
    obtain⟨a0,ha0⟩:∃q,z.assoc=q:=⟨_,rfl⟩
    rw[ha0] at HZT p0
    obtain⟨c0,hc0⟩:∃q,t.assoc=q:=⟨_,rfl⟩
    rw[hc0] at HZT r0
    have hjI:(j:Int)<X:=by omega
    clear hc3 hc4 hz ht hf3 hf4 ha0 hc0
    generalize hE:eqD z t=E at HZT
    have HE0:=hHi hE
    clear hE
    by_cases e0:a0=c0
    case neg=>
     have HF:Hid (eqD l1 l2=false):=HAT2.out (fun h=>by rw[←eqD_iff,HE0.out,HZT.out,eqD_ne e0] at h;simp at h)
     have q1:(a0==c0)=false:=by simpa using e0
     have q2:(a0 != c0)=true:=by simpa using e0
     clear e0
     go_wp2
     go_quiet (fail)
     go_wp2
     go_ret
     exact⟨by rw[HF.out];rfl,_,drew_add HW2.out _⟩
    subst e0
    rw[eqD_self] at HZT
    cases hq:eqD z.cons t.cons with
    | false=>
     have HF:Hid (eqD l1 l2=false):=HAT2.out (fun h=>by rw[←eqD_iff,HE0.out,HZT.out,hq] at h;simp at h)
     rw[hq] at HC
     clear hq
     go_wp2
     go_quiet (first | (go_at_call 18;exact Calls.quiet_of (HC.out _)))
     go_wp2
     go_ret
     exact⟨by rw[HF.out];rfl,_,drew_add HW2.out _⟩
    | true=>
     have HT1:Hid _:=HTK2.out (eqD_iff.1 (by rw[HE0.out,HZT.out,hq];rfl))
     rw[hq] at HC
     clear hq
     go_wp2
     go_quiet (first | (go_at_call 18;exact Calls.quiet_of (HC.out _)))
     go_wp2
     go_roundw
     case rel=>exact⟨j+1,_,by omega,by go_num,HT1.out,drew_add HW2.out _⟩
     case measure=>simp[intOf];omega
  ·obtain rfl:k=N:=by omega
   have HE:Hid _:=eqD_end HN.out HM.out HH.out
   go_wp2
   go_ret
   exact⟨by rw[HE.out];rfl,m,HW.out⟩
structure PB (w wc:World) (t:TypeId) (bx by':Nat) (X Y:Array Value):Prop where
 x:Blk wc bx t X
 y:Blk wc by' t Y
 bel:Below w.heap.size w wc
theorem PB.one {w wr:World} {t:TypeId} {X Y:Array Value} (h:Below w.heap.size w wr):PB w ((wr.alloc (.cells X t)).alloc (.cells Y t)).drew t wr.heap.size (wr.heap.size+1) X Y:=by
 have e:=Blk.new (wr.alloc (.cells X t)) t Y
 rw[World.size_alloc] at e
 exact⟨(Blk.new wr t X).alloc _,e,below_drew ((h.alloc h.size _).alloc (by rw[World.size_alloc];have:=h.size;omega) _) 1⟩
theorem PB.two {w wr:World} {t:TypeId} {X Y:Array Value} (h:Below w.heap.size w wr):PB w ((wr.alloc (.cells Y t)).alloc (.cells X t)).drew t (wr.heap.size+1) wr.heap.size X Y:=by
 have e:=PB.one (t:=t) (X:=Y) (Y:=X) h
 exact⟨e.y,e.x,e.bel⟩
theorem rprods_same (l1 l2:List Pr) (v1 v2:Value) (w:World) (h1:Sl w w.heap.size 5 (PrV w w.heap.size) l1 v1) (h2:Sl w w.heap.size 5 (PrV w w.heap.size) l2 v2) :
  Calls Tryz.prog 56 #[v1,v2] w fun e w'=>e=.returned (.bool (eqD l1 l2))∧Below w.heap.size w w':=by
 obtain⟨a1,p1,rfl,_,hl1,hr1⟩:=h1
 obtain⟨a2,p2,rfl,_,hl2,hr2⟩:=h2
 obtain⟨N,hN⟩:∃N,l1.length=N:=⟨_,rfl⟩
 obtain⟨M,hM⟩:∃M,l2.length=M:=⟨_,rfl⟩
 have HR1:=hHi hr1
 have HR2:=hHi hr2
 have HN:=hHi hN
 have HM:=hHi hM
 rw[hN] at hl1 ⊢
 rw[hM] at hl2 ⊢
 clear hr1 hr2 hN hM
 by_cases hlen:N=M
 case neg=>
  have HF:Hid _:=eqD_len (l:=l1) (m:=l2) (by rw[HN.out,HM.out];exact hlen)
  have q1:((N:Int) != (M:Int))=true:=by simp;omega
  have q2:¬(N:Int)=(M:Int):=by omega
  clear hlen
  go_enter Tryz.func56,Tryz.ntmps56
  go_wp2
  go_ret
  exact⟨by rw[HF.out];rfl,Below.refl _ _⟩
 subst hlen
 go_enter Tryz.func56,Tryz.ntmps56
 go_wp2
 go_loopw[5,6,7,8] (fun iv _ _ _ W=>∃k:Nat,k≤N∧iv=.int .i64 k∧l1.take k=l2.take k∧Below w.heap.size w W) (fun iv _ _ _ _=>N-(intOf iv).toNat)
 case atStart=>exact⟨0,Nat.zero_le _,rfl,rfl,Below.refl _ _⟩
 case round=>
  obtain⟨k,hk,rfl,hh,hB⟩:=hrel
  have HH:=hHi hh
  clear hh
  by_cases hlt:k<N
  ·obtain⟨x,hx⟩:∃x,l1[k]?=some x:=⟨l1[k]'(by rw[HN.out];exact hlt),by simp⟩
   obtain⟨y,hy⟩:∃y,l2[k]?=some y:=⟨l2[k]'(by rw[HM.out];exact hlt),by simp⟩
   have HXY:Hid _:=eqPr x y
   have HAT:Hid (¬x=y→eqD l1 l2=false):=fun he=>eqD_at hx hy he
   have HTK:Hid (x=y→l1.take (k+1)=l2.take (k+1)):=fun he=>take_one hx (by rw[he];exact hy) HH.out
   obtain⟨b,o,us,hb,hlb,⟨u1,rfl,g1,r1,rfl,_,gl1,hg1⟩,hc⟩:=HR1.out k x hx
   obtain⟨b2,o2,us,hb2,hlb2,⟨u2,rfl,g2,r2,rfl,_,gl2,hg2⟩,hd⟩:=HR2.out k y hy
   subst hb
   subst hb2
   have hq_:=hcb hB hlb hc
   have s0:=hq_ 0 _ rfl
   have s1:=hq_ 1 _ rfl
   have s2:=hq_ 2 _ rfl
   have s3:=hq_ 3 _ rfl
   have s4:=hq_ 4 _ rfl
   clear hq_
   rw[Nat.add_zero] at s0
   have hq_:=hcb hB hlb2 hd
   have t0:=hq_ 0 _ rfl
   have t1:=hq_ 1 _ rfl
   have t2:=hq_ 2 _ rfl
   have t3:=hq_ 3 _ rfl
   have t4:=hq_ 4 _ rfl
   clear hq_
   rw[Nat.add_zero] at t0
   obtain⟨a0,ha0⟩:∃q,x.lex=q:=⟨_,rfl⟩
   rw[ha0] at HXY s0
   clear ha0
   obtain⟨c0,hc0⟩:∃q,y.lex=q:=⟨_,rfl⟩
   rw[hc0] at HXY t0
   clear hc0
   obtain⟨a1,ha1⟩:∃q,x.sort=q:=⟨_,rfl⟩
   rw[ha1] at HXY s1
   clear ha1
   obtain⟨c1,hc1⟩:∃q,y.sort=q:=⟨_,rfl⟩
   rw[hc1] at HXY t1
   clear hc1
   obtain⟨a2,ha2⟩:∃q,x.cons=q:=⟨_,rfl⟩
   rw[ha2] at HXY s2
   clear ha2
   obtain⟨c2,hc2⟩:∃q,y.cons=q:=⟨_,rfl⟩
   rw[hc2] at HXY t2
   clear hc2
   obtain⟨a3,ha3⟩:∃q,x.bracket=q:=⟨_,rfl⟩
   rw[ha3] at HXY s3
   clear ha3
   obtain⟨c3,hc3⟩:∃q,y.bracket=q:=⟨_,rfl⟩
   rw[hc3] at HXY t3
   clear hc3
   obtain⟨X,hX⟩:∃X,x.syms.length=X:=⟨_,rfl⟩
   obtain⟨Y,hY⟩:∃Y,y.syms.length=Y:=⟨_,rfl⟩
   have HX:=hHi hX
   have HY:=hHi hY
   rw[hX] at s4 gl1
   rw[hY] at t4 gl2
   have HG1:=hHi hg1
   have HG2:=hHi hg2
   have hltI:(k:Int)<N:=by omega
   clear hc hd hx hy hX hY hg1 hg2
   generalize hE:eqD x y=E at HXY
   have HE0:=hHi hE
   clear hE
   obtain⟨wq,hwq⟩:∃wq,wq=wr:=⟨_,rfl⟩
   subst hwq
   have hs1:b<wq.heap.size:=Nat.lt_of_lt_of_le hlb hB.size
   have hs2:b2<wq.heap.size:=Nat.lt_of_lt_of_le hlb2 hB.size
   go_wp2
   go_cut [6,7] from 14 to 80 (fun s6 s7 wc=>∃bx by',s6=.pointer (some ⟨bx,0,none⟩)∧s7=.pointer (some ⟨by',0,none⟩)∧PB w wc 44 bx by' #[.bool a0,.string a1,.string a2,.bool a3,.slice g1 X r1] #[.bool c0,.string c1,.string c2,.bool c3,.slice g2 Y r2])
   case first=>
    go_region
    all_goals go_wp2_with fail
    all_goals go_meet
    all_goals first
     | exact⟨_,_,rfl,rfl,PB.one hB⟩
     | exact⟨_,_,rfl,rfl,PB.two hB⟩
   case rest=>
   obtain⟨bx,by',rfl,rfl,hpb⟩:=hcut
   have HPB:=hHi hpb
   have x0:=hpb.x.cell 0 rfl
   have y0:=hpb.y.cell 0 rfl
   have x1:=hpb.x.cell 1 rfl
   have y1:=hpb.y.cell 1 rfl
   have x2:=hpb.x.cell 2 rfl
   have y2:=hpb.y.cell 2 rfl
   have x3:=hpb.x.cell 3 rfl
   have y3:=hpb.y.cell 3 rfl
   have x4:=hpb.x.cell 4 rfl
   have y4:=hpb.y.cell 4 rfl
   clear hpb hB s0 t0 s1 t1 s2 t2 s3 t3 s4 t4
   by_cases e0:a0=c0
   case neg=>
    have HF:Hid (eqD l1 l2=false):=HAT.out (fun h=>by rw[←eqD_iff,HE0.out,HXY.out,eqD_ne e0] at h;simp at h)
    cases a0<;>cases c0
    ·exact absurd rfl e0
    ·clear e0
     go_wp2
     go_ret
     exact⟨by rw[HF.out];rfl,HPB.out.bel⟩
    ·clear e0
     go_wp2
     go_ret
     exact⟨by rw[HF.out];rfl,HPB.out.bel⟩
    ·exact absurd rfl e0
   subst e0
   rw[eqD_self] at HXY
   by_cases e1:a1=c1
   case neg=>
    have HF:Hid (eqD l1 l2=false):=HAT.out (fun h=>by rw[←eqD_iff,HE0.out,HXY.out,eqD_ne e1] at h;simp at h)
    have q1:=str_ne e1
    have q2:=str_bne e1
    clear e1
    go_wp2
    go_ret
    exact⟨by rw[HF.out];rfl,HPB.out.bel⟩
   subst e1
   rw[eqD_self] at HXY
   by_cases e2:a2=c2
   case neg=>
    have HF:Hid (eqD l1 l2=false):=HAT.out (fun h=>by rw[←eqD_iff,HE0.out,HXY.out,eqD_ne e2] at h;simp at h)
    have q1:=str_ne e2
    have q2:=str_bne e2
    clear e2
    go_wp2
    go_ret
    exact⟨by rw[HF.out];rfl,HPB.out.bel⟩
   subst e2
   rw[eqD_self] at HXY
   by_cases e3:a3=c3
   case neg=>
    have HF:Hid (eqD l1 l2=false):=HAT.out (fun h=>by rw[←eqD_iff,HE0.out,HXY.out,eqD_ne e3] at h;simp at h)
    cases a3<;>cases c3
    ·exact absurd rfl e3
    ·clear e3
     go_wp2
     go_ret
     exact⟨by rw[HF.out];rfl,HPB.out.bel⟩
    ·clear e3
     go_wp2
     go_ret
     exact⟨by rw[HF.out];rfl,HPB.out.bel⟩
    ·exact absurd rfl e3
   subst e3
   rw[eqD_self] at HXY
   by_cases hxy:X=Y
   case neg=>
    have HF:Hid (eqD l1 l2=false):=HAT.out (fun h=>hxy (by rw[←HX.out,←HY.out,h]))
    have q1:((X:Int) != (Y:Int))=true:=by simp;omega
    have q2:¬(X:Int)=(Y:Int):=by omega
    clear hxy
    go_wp2
    go_ret
    exact⟨by rw[HF.out];rfl,HPB.out.bel⟩
   subst hxy
   have HE1:Hid (x.syms=y.syms→x=y):=fun h=>eqD_iff.1 (by rw[HE0.out,HXY.out,h,eqD_self];simp)
   go_wp2
   go_loopw[8] (fun jv W=>∃j:Nat,j≤X∧jv=.int .i64 j∧x.syms.take j=y.syms.take j∧Below wc.heap.size wc W) (fun jv _=>X-(intOf jv).toNat)
   case atStart=>exact⟨0,Nat.zero_le _,rfl,rfl,Below.refl _ _⟩
   case round=>
    obtain⟨j,hj,rfl,hh,hB2⟩:=hrel
    have HJ:=hHi hh
    have z4:=(hB2.cell (p:=⟨bx,4,none⟩) HPB.out.x.lt).trans x4
    have w4:=(hB2.cell (p:=⟨by',4,none⟩) HPB.out.y.lt).trans y4
    have hBw:=below_tr HPB.out.bel hB2
    clear hh x0 x1 x2 x3 x4 y0 y1 y2 y3 y4
    by_cases hjlt:j<X
    case neg=>
     obtain rfl:j=X:=by omega
     have HT1:Hid _:=HTK.out (HE1.out (eqD_iff.1 (eqD_end HX.out HY.out HJ.out)))
     go_wp2
     go_roundw
     case rel=>exact⟨k+1,by omega,by go_num,HT1.out,hBw⟩
     case measure=>simp[intOf];omega
    obtain⟨z,hz⟩:∃z,x.syms[j]?=some z:=⟨x.syms[j]'(by rw[HX.out];exact hjlt),by simp⟩
    obtain⟨t,ht⟩:∃t,y.syms[j]?=some t:=⟨y.syms[j]'(by rw[HY.out];exact hjlt),by simp⟩
    obtain⟨b3,o3,us,hb3,hlb3,⟨_,rfl⟩,hc3⟩:=HG1.out j z hz
    obtain⟨b4,o4,us,hb4,hlb4,⟨_,rfl⟩,hc4⟩:=HG2.out j t ht
    subst hb3
    subst hb4
    have hq_:=hcb hBw hlb3 hc3
    have p0:=hq_ 0 _ rfl
    have p1:=hq_ 1 _ rfl
    have p2:=hq_ 2 _ rfl
    have p3:=hq_ 3 _ rfl
    have p4:=hq_ 4 _ rfl
    have p5:=hq_ 5 _ rfl
    have p6:=hq_ 6 _ rfl
    have p7:=hq_ 7 _ rfl
    clear hq_
    rw[Nat.add_zero] at p0
    have hq_:=hcb hBw hlb4 hc4
    have r0:=hq_ 0 _ rfl
    have r1:=hq_ 1 _ rfl
    have r2:=hq_ 2 _ rfl
    have r3:=hq_ 3 _ rfl
    have r4:=hq_ 4 _ rfl
    have r5:=hq_ 5 _ rfl
    have r6:=hq_ 6 _ rfl
    have r7:=hq_ 7 _ rfl
    clear hq_
    rw[Nat.add_zero] at r0
    have hjI:(j:Int)<X:=by omega
    clear hc3 hc4
    by_cases he:z=t
    ·subst he
     have HT1:Hid (x.syms.take (j+1)=y.syms.take (j+1)):=take_one hz ht HJ.out
     have hE:∀w,_:=fun w=>syEq z z w
     rw[eqD_self] at hE
     clear hz ht
     go_wp2
     go_quiet (fail)
     go_wp2
     go_roundw
     case rel=>exact⟨j+1,by omega,by go_num,HT1.out,below_drew hB2 _⟩
     case measure=>simp[intOf];omega
    ·have HF:Hid (eqD l1 l2=false):=HAT.out (fun h=>he (by rw[h,ht] at hz;exact (Option.some.inj hz).symm))
     have hE:∀w,_:=fun w=>syEq z t w
     rw[eqD_ne he] at hE
     clear hz ht he
     go_wp2
     go_quiet (fail)
     go_wp2
     go_ret
     exact⟨by rw[HF.out];rfl,below_drew hBw _⟩
  ·obtain rfl:k=N:=by omega
   have HE:Hid _:=eqD_end HN.out HM.out HH.out
   go_wp2
   go_ret
   exact⟨by rw[HE.out];rfl,hB⟩
theorem rsameDf_any (a b:Df) (f:Nat) (a2 a3 a4 a5 a6 b2 b3 b4 b5 b6:Value) (w:World) (ha2:Sl w w.heap.size 5 (PrV w w.heap.size) a.prods a2) (ha3:Sl w w.heap.size 1 (ChV w w.heap.size) a.chains a3) (ha4:Sl w w.heap.size 5 FoV a.follows a4) (ha5:Sl w w.heap.size 2 ReV a.rejects a5) (ha6:Sl w w.heap.size 2 (BoV w w.heap.size f) a.boxes a6) (hb2:Sl w w.heap.size 5 (PrV w w.heap.size) b.prods b2) (hb3:Sl w w.heap.size 1 (ChV w w.heap.size) b.chains b3) (hb4:Sl w w.heap.size 5 FoV b.follows b4) (hb5:Sl w w.heap.size 2 ReV b.rejects b5) (hb6:Sl w w.heap.size 2 (BoV w w.heap.size f) b.boxes b6) :
  Calls Tryz.prog 16 #[.agg #[.string a.start,.string a.layout,a2,a3,a4,a5,a6],.agg #[.string b.start,.string b.layout,b2,b3,b4,b5,b6]] w fun e w'=>e=.returned (.bool (eqD a b))∧Below w.heap.size w w':=by
 have HD:Hid _:=eqDf a b
 generalize eqD a b=R at *
 have HS2:Hid (∀W,Below w.heap.size w W→Calls Tryz.prog 56 #[a2,b2] W fun e w'=>e=.returned (.bool (eqD a.prods b.prods))∧Below W.heap.size W w'):=fun W hb=>rprods_same a.prods b.prods a2 b2 W (ha2.keep hb hb.size (fun _ _ _ h=>h.keep hb hb.size)) (hb2.keep hb hb.size (fun _ _ _ h=>h.keep hb hb.size))
 have HS3:Hid (∀W,Below w.heap.size w W→Calls Tryz.prog 57 #[a3,b3] W fun e w'=>e=.returned (.bool (eqD a.chains b.chains))∧∃m,w'=W.drewN m):=fun W hb=>rchains_same a.chains b.chains a3 b3 W (ha3.keep hb hb.size (fun _ _ _ h=>h.keep hb hb.size)) (hb3.keep hb hb.size (fun _ _ _ h=>h.keep hb hb.size))
 clear ha2 hb2 ha3 hb3
 obtain⟨aa4,ac4,rfl,_,al4,ar4⟩:=ha4
 obtain⟨aN4,haN4⟩:∃N,a.follows.length=N:=⟨_,rfl⟩
 have HaN4:=hHi haN4
 have HaR4:=hHi ar4
 rw[haN4] at al4 ⊢
 clear haN4 ar4
 obtain⟨ba4,bc4,rfl,_,bl4,br4⟩:=hb4
 obtain⟨bN4,hbN4⟩:∃N,b.follows.length=N:=⟨_,rfl⟩
 have HbN4:=hHi hbN4
 have HbR4:=hHi br4
 rw[hbN4] at bl4 ⊢
 clear hbN4 br4
 obtain⟨aa5,ac5,rfl,_,al5,ar5⟩:=ha5
 obtain⟨aN5,haN5⟩:∃N,a.rejects.length=N:=⟨_,rfl⟩
 have HaN5:=hHi haN5
 have HaR5:=hHi ar5
 rw[haN5] at al5 ⊢
 clear haN5 ar5
 obtain⟨ba5,bc5,rfl,_,bl5,br5⟩:=hb5
 obtain⟨bN5,hbN5⟩:∃N,b.rejects.length=N:=⟨_,rfl⟩
 have HbN5:=hHi hbN5
 have HbR5:=hHi br5
 rw[hbN5] at bl5 ⊢
 clear hbN5 br5
 obtain⟨aa6,ac6,rfl,_,al6,ar6⟩:=ha6
 obtain⟨aN6,haN6⟩:∃N,a.boxes.length=N:=⟨_,rfl⟩
 have HaN6:=hHi haN6
 have HaR6:=hHi ar6
 rw[haN6] at al6 ⊢
 clear haN6 ar6
 obtain⟨ba6,bc6,rfl,_,bl6,br6⟩:=hb6
 obtain⟨bN6,hbN6⟩:∃N,b.boxes.length=N:=⟨_,rfl⟩
 have HbN6:=hHi hbN6
 have HbR6:=hHi br6
 rw[hbN6] at bl6 ⊢
 clear hbN6 br6
 obtain⟨w1,hw1⟩:∃w1,w.alloc (.cells #[.string a.start,.string a.layout,a2,a3,.slice aa4 aN4 ac4,.slice aa5 aN5 ac5,.slice aa6 aN6 ac6] 28)=w1:=⟨_,rfl⟩
 obtain⟨w2,hw2⟩:∃w2,w1.alloc (.cells #[.string b.start,.string b.layout,b2,b3,.slice ba4 bN4 bc4,.slice ba5 bN5 bc5,.slice ba6 bN6 bc6] 28)=w2:=⟨_,rfl⟩
 have bb1:Below w.heap.size w w1:=by rw[←hw1];exact (Below.refl _ _).alloc (Nat.le_refl _) _
 have bb2:Below w1.heap.size w1 w2:=by rw[←hw2];exact (Below.refl _ _).alloc (Nat.le_refl _) _
 have z1:w.heap.size<w1.heap.size:=by rw[←hw1];simp
 have z2:w1.heap.size<w2.heap.size:=by rw[←hw2];simp
 have hB:=below_tr bb1 bb2
 have HCW:Hid (∀W,Below w2.heap.size w2 W→W.cell? ⟨w.heap.size,0,none⟩=some (.string a.start)∧W.cell? ⟨w.heap.size,1,none⟩=some (.string a.layout)∧W.cell? ⟨w.heap.size,2,none⟩=some (a2)∧W.cell? ⟨w.heap.size,3,none⟩=some (a3)∧W.cell? ⟨w.heap.size,4,none⟩=some (.slice aa4 aN4 ac4)∧W.cell? ⟨w.heap.size,5,none⟩=some (.slice aa5 aN5 ac5)∧W.cell? ⟨w.heap.size,6,none⟩=some (.slice aa6 aN6 ac6)∧W.cell? ⟨w1.heap.size,0,none⟩=some (.string b.start)∧W.cell? ⟨w1.heap.size,1,none⟩=some (.string b.layout)∧W.cell? ⟨w1.heap.size,2,none⟩=some (b2)∧W.cell? ⟨w1.heap.size,3,none⟩=some (b3)∧W.cell? ⟨w1.heap.size,4,none⟩=some (.slice ba4 bN4 bc4)∧W.cell? ⟨w1.heap.size,5,none⟩=some (.slice ba5 bN5 bc5)∧W.cell? ⟨w1.heap.size,6,none⟩=some (.slice ba6 bN6 bc6)):=fun W hb=>by
  have q1:∀j u,(#[.string a.start,.string a.layout,a2,a3,.slice aa4 aN4 ac4,.slice aa5 aN5 ac5,.slice aa6 aN6 ac6]:Array Value)[j]?=some u→W.cell? ⟨w.heap.size,j,none⟩=some u:=fun j u hu=>(hb.cell (p:=⟨w.heap.size,j,none⟩) (Nat.lt_trans z1 z2)).trans ((bb2.cell (p:=⟨w.heap.size,j,none⟩) z1).trans (by rw[←hw1];exact cell_new j hu))
  have q2:∀j u,(#[.string b.start,.string b.layout,b2,b3,.slice ba4 bN4 bc4,.slice ba5 bN5 bc5,.slice ba6 bN6 bc6]:Array Value)[j]?=some u→W.cell? ⟨w1.heap.size,j,none⟩=some u:=fun j u hu=>(hb.cell (p:=⟨w1.heap.size,j,none⟩) z2).trans (by rw[←hw2];exact cell_new j hu)
  exact⟨q1 0 _ rfl,q1 1 _ rfl,q1 2 _ rfl,q1 3 _ rfl,q1 4 _ rfl,q1 5 _ rfl,q1 6 _ rfl,q2 0 _ rfl,q2 1 _ rfl,q2 2 _ rfl,q2 3 _ rfl,q2 4 _ rfl,q2 5 _ rfl,q2 6 _ rfl⟩
 have HT:Hid (∀W,Below w2.heap.size w2 W→Below w.heap.size w W):=fun W hb=>below_tr hB hb
 have HB0:Hid (Below w2.heap.size w2 w2):=Below.refl _ _
 obtain⟨c0,c1,c2,c3,c4,c5,c6,c7,c8,c9,c10,c11,c12,c13⟩:=HCW.out w2 HB0.out
 clear bb1 bb2 hB
 by_cases g0:a.start=b.start
 case neg=>
  rw[eqD_ne g0] at HD
  have q1:=str_ne g0
  have q2:=str_bne g0
  clear g0
  go_enter Tryz.func16,Tryz.ntmps16
  go_wp2
  go_ret
  exact⟨by rw[HD.out];simp,HT.out _ HB0.out⟩
 rw[g0,eqD_self] at HD
 have t0:(a.start.toList==b.start.toList)=true:=by rw[g0];simp
 have t0':(a.start.toList != b.start.toList)=false:=by rw[g0];simp
 clear g0
 by_cases g1:a.layout=b.layout
 case neg=>
  rw[eqD_ne g1] at HD
  have q1:=str_ne g1
  have q2:=str_bne g1
  clear g1
  go_enter Tryz.func16,Tryz.ntmps16
  go_wp2
  go_ret
  exact⟨by rw[HD.out];simp,HT.out _ HB0.out⟩
 rw[g1,eqD_self] at HD
 have t1:(a.layout.toList==b.layout.toList)=true:=by rw[g1];simp
 have t1':(a.layout.toList != b.layout.toList)=false:=by rw[g1];simp
 clear g1
 by_cases g4:aN4=bN4
 case neg=>
  rw[eqD_len (l:=a.follows) (m:=b.follows) (by rw[HaN4.out,HbN4.out];exact g4)] at HD
  have q1:((aN4:Int) != (bN4:Int))=true:=by simp;omega
  have q2:¬(aN4:Int)=(bN4:Int):=by omega
  clear g4
  go_enter Tryz.func16,Tryz.ntmps16
  go_wp2
  go_ret
  exact⟨by rw[HD.out];simp,HT.out _ HB0.out⟩
 subst g4
 by_cases g5:aN5=bN5
 case neg=>
  rw[eqD_len (l:=a.rejects) (m:=b.rejects) (by rw[HaN5.out,HbN5.out];exact g5)] at HD
  have q1:((aN5:Int) != (bN5:Int))=true:=by simp;omega
  have q2:¬(aN5:Int)=(bN5:Int):=by omega
  clear g5
  go_enter Tryz.func16,Tryz.ntmps16
  go_wp2
  go_ret
  exact⟨by rw[HD.out];simp,HT.out _ HB0.out⟩
 subst g5
 by_cases g6:aN6=bN6
 case neg=>
  rw[eqD_len (l:=a.boxes) (m:=b.boxes) (by rw[HaN6.out,HbN6.out];exact g6)] at HD
  have q1:((aN6:Int) != (bN6:Int))=true:=by simp;omega
  have q2:¬(aN6:Int)=(bN6:Int):=by omega
  clear g6
  go_enter Tryz.func16,Tryz.ntmps16
  go_wp2
  go_ret
  exact⟨by rw[HD.out];simp,HT.out _ HB0.out⟩
 subst g6
 go_enter Tryz.func16,Tryz.ntmps16
 go_wp2
 go_loopw[5] (fun iv W=>∃k:Nat,k≤aN4∧iv=.int .i64 k∧a.follows.take k=b.follows.take k∧Below w2.heap.size w2 W) (fun iv _=>aN4-(intOf iv).toNat)
 case atStart=>exact⟨0,Nat.zero_le _,rfl,rfl,HB0.out⟩
 case round=>
 obtain⟨k,hk,rfl,hh,hB⟩:=hrel
 obtain⟨y,hy⟩:∃y,y=wr:=⟨_,rfl⟩
 subst hy
 have HH:=hHi hh
 have HBk:=hHi hB
 clear hh hB c0 c1 c2 c3 c4 c5 c6 c7 c8 c9 c10 c11 c12 c13
 obtain⟨c0,c1,c2,c3,c4,c5,c6,c7,c8,c9,c10,c11,c12,c13⟩:=HCW.out y HBk.out
 by_cases hlt:k<aN4
 case pos=>
  obtain⟨x,hx⟩:∃x,a.follows[k]?=some x:=⟨a.follows[k]'(by rw[HaN4.out];exact hlt),by simp⟩
  obtain⟨u,hu⟩:∃u,b.follows[k]?=some u:=⟨b.follows[k]'(by rw[HbN4.out];exact hlt),by simp⟩
  have hB:=HT.out _ HBk.out
  obtain⟨b1,o1,us,hb1,hlb1,⟨_,rfl⟩,hc⟩:=HaR4.out k x hx
  obtain⟨b2,o2,us,hb2,hlb2,⟨_,rfl⟩,hd⟩:=HbR4.out k u hu
  subst hb1
  subst hb2
  have hq_:=hcb hB hlb1 hc
  have s0:=hq_ 0 _ rfl
  have s1:=hq_ 1 _ rfl
  have s2:=hq_ 2 _ rfl
  have s3:=hq_ 3 _ rfl
  have s4:=hq_ 4 _ rfl
  clear hq_
  rw[Nat.add_zero] at s0
  have hq_:=hcb hB hlb2 hd
  have t0:=hq_ 0 _ rfl
  have t1:=hq_ 1 _ rfl
  have t2:=hq_ 2 _ rfl
  have t3:=hq_ 3 _ rfl
  have t4:=hq_ 4 _ rfl
  clear hq_
  rw[Nat.add_zero] at t0
  have hltI:(k:Int)<aN4:=by omega
  clear hc hd
  by_cases he:x=u
  ·subst he
   have HT1:Hid (a.follows.take (k+1)=b.follows.take (k+1)):=take_one hx hu HH.out
   have hE:∀w,_:=fun w=>foEq x x w
   rw[eqD_self] at hE
   clear hx hu hB
   go_wp2
   go_quiet (fail)
   go_wp2
   go_roundw
   case rel=>exact⟨k+1,by omega,by go_num,HT1.out,below_drew HBk.out _⟩
   case measure=>simp[intOf];omega
  ·rw[eqD_at hx hu he] at HD
   have hE:∀w,_:=fun w=>foEq x u w
   rw[eqD_ne he] at hE
   clear hx hu he hB
   go_wp2
   go_quiet (fail)
   go_wp2
   go_ret
   exact⟨by rw[HD.out];simp,HT.out _ (below_drew HBk.out _)⟩
 obtain rfl:k=aN4:=by omega
 rw[eqD_end HaN4.out HbN4.out HH.out] at HD
 have HBx4:Hid _:=HBk.out
 clear HH HBk
 go_wp2
 go_loopw[6] (fun iv W=>∃k:Nat,k≤aN5∧iv=.int .i64 k∧a.rejects.take k=b.rejects.take k∧Below w2.heap.size w2 W) (fun iv _=>aN5-(intOf iv).toNat)
 case atStart=>exact⟨0,Nat.zero_le _,rfl,rfl,HBx4.out⟩
 case round=>
 obtain⟨k,hk,rfl,hh,hB⟩:=hrel
 obtain⟨y,hy⟩:∃y,y=wr:=⟨_,rfl⟩
 subst hy
 have HH:=hHi hh
 have HBk:=hHi hB
 clear hh hB c0 c1 c2 c3 c4 c5 c6 c7 c8 c9 c10 c11 c12 c13
 obtain⟨c0,c1,c2,c3,c4,c5,c6,c7,c8,c9,c10,c11,c12,c13⟩:=HCW.out y HBk.out
 by_cases hlt:k<aN5
 case pos=>
  obtain⟨x,hx⟩:∃x,a.rejects[k]?=some x:=⟨a.rejects[k]'(by rw[HaN5.out];exact hlt),by simp⟩
  obtain⟨u,hu⟩:∃u,b.rejects[k]?=some u:=⟨b.rejects[k]'(by rw[HbN5.out];exact hlt),by simp⟩
  have hB:=HT.out _ HBk.out
  obtain⟨b1,o1,us,hb1,hlb1,hus,hc⟩:=HaR5.out k x hx
  have hus:us=[.string x.sort,.string x.by']:=hus
  subst hus
  obtain⟨b2,o2,us,hb2,hlb2,hus,hd⟩:=HbR5.out k u hu
  have hus:us=[.string u.sort,.string u.by']:=hus
  subst hus
  subst hb1
  subst hb2
  have hq_:=hcb hB hlb1 hc
  have s0:=hq_ 0 _ rfl
  have s1:=hq_ 1 _ rfl
  clear hq_
  rw[Nat.add_zero] at s0
  have hq_:=hcb hB hlb2 hd
  have t0:=hq_ 0 _ rfl
  have t1:=hq_ 1 _ rfl
  clear hq_
  rw[Nat.add_zero] at t0
  have hltI:(k:Int)<aN5:=by omega
  clear hc hd
  by_cases he:x=u
  ·subst he
   have HT1:Hid (a.rejects.take (k+1)=b.rejects.take (k+1)):=take_one hx hu HH.out
   have hE:∀w,_:=fun w=>reEq x x w
   rw[eqD_self] at hE
   clear hx hu hB
   go_wp2
   go_quiet (fail)
   go_wp2
   go_roundw
   case rel=>exact⟨k+1,by omega,by go_num,HT1.out,below_drew HBk.out _⟩
   case measure=>simp[intOf];omega
  ·rw[eqD_at hx hu he] at HD
   have hE:∀w,_:=fun w=>reEq x u w
   rw[eqD_ne he] at hE
   clear hx hu he hB
   go_wp2
   go_quiet (fail)
   go_wp2
   go_ret
   exact⟨by rw[HD.out];simp,HT.out _ (below_drew HBk.out _)⟩
 obtain rfl:k=aN5:=by omega
 rw[eqD_end HaN5.out HbN5.out HH.out] at HD
 have HBx5:Hid _:=HBk.out
 clear HH HBk
 go_wp2
 go_loopw[7] (fun iv W=>∃k:Nat,k≤aN6∧iv=.int .i64 k∧a.boxes.take k=b.boxes.take k∧Below w2.heap.size w2 W) (fun iv _=>aN6-(intOf iv).toNat)
 case atStart=>exact⟨0,Nat.zero_le _,rfl,rfl,HBx5.out⟩
 case round=>
 obtain⟨k,hk,rfl,hh,hB⟩:=hrel
 obtain⟨y,hy⟩:∃y,y=wr:=⟨_,rfl⟩
 subst hy
 have HH:=hHi hh
 have HBk:=hHi hB
 clear hh hB c0 c1 c2 c3 c4 c5 c6 c7 c8 c9 c10 c11 c12 c13
 obtain⟨c0,c1,c2,c3,c4,c5,c6,c7,c8,c9,c10,c11,c12,c13⟩:=HCW.out y HBk.out
 by_cases hlt:k<aN6
 case pos=>
  obtain⟨x,hx⟩:∃x,a.boxes[k]?=some x:=⟨a.boxes[k]'(by rw[HaN6.out];exact hlt),by simp⟩
  obtain⟨u,hu⟩:∃u,b.boxes[k]?=some u:=⟨b.boxes[k]'(by rw[HbN6.out];exact hlt),by simp⟩
  have hB:=HT.out _ HBk.out
  obtain⟨b1,o1,us,hb1,hlb1,⟨m1,rfl,hfx⟩,hc⟩:=HaR6.out k x hx
  obtain⟨b2,o2,us,hb2,hlb2,⟨m2,rfl,hfu⟩,hd⟩:=HbR6.out k u hu
  subst hb1
  subst hb2
  have hq_:=hcb hB hlb1 hc
  have s0:=hq_ 0 _ rfl
  have s1:=hq_ 1 _ rfl
  clear hq_
  rw[Nat.add_zero] at s0
  have hq_:=hcb hB hlb2 hd
  have t0:=hq_ 0 _ rfl
  have t1:=hq_ 1 _ rfl
  clear hq_
  rw[Nat.add_zero] at t0
  have hltI:(k:Int)<aN6:=by omega
  clear hc hd
  have HXY:Hid _:=eqBo x u
  have HAT:Hid (¬x=u→eqD a.boxes b.boxes=false):=fun he=>eqD_at hx hu he
  have HTK:Hid (x=u→a.boxes.take (k+1)=b.boxes.take (k+1)):=fun he=>take_one hx (by rw[he];exact hu) HH.out
  have HC:Hid (∀n,Calls Tryz.prog 55 #[m1,m2] (y.drewN n) fun e w'=>e=.returned (.bool (eqD x.items u.items))∧∃m,w'=(y.drewN n).drewN m):=fun n=>by
   have hbw:=below_drew hB n
   exact ritems_same f x.items u.items m1 m2 (y.drewN n) (hfx.keep hbw hbw.size (fun _ _ _ h=>h.keep hbw hbw.size)) (hfu.keep hbw hbw.size (fun _ _ _ h=>h.keep hbw hbw.size))
  clear hx hu hB hfx hfu
  generalize hE:eqD x u=E at HXY
  have HE0:=hHi hE
  clear hE
  by_cases e0:x.cons=u.cons
  case neg=>
   rw[HAT.out (fun h=>e0 (by rw[h]))] at HD
   have q1:=str_ne e0
   have q2:=str_bne e0
   clear e0
   go_wp2
   go_quiet (fail)
   go_wp2
   go_ret
   exact⟨by rw[HD.out];simp,HT.out _ (below_drew HBk.out _)⟩
  have q1:(x.cons.toList==u.cons.toList)=true:=by rw[e0];simp
  have q2:(x.cons.toList != u.cons.toList)=false:=by rw[e0];simp
  rw[e0,eqD_self] at HXY
  clear e0
  cases hq:eqD x.items u.items with
  | false=>
   rw[HAT.out (fun h=>by rw[←eqD_iff,HE0.out,HXY.out,hq] at h;simp at h)] at HD
   rw[hq] at HC
   clear hq
   go_wp2
   go_quiet (first | (go_at_call 55;exact Calls.quiet_of (HC.out _)))
   go_wp2
   go_ret
   exact⟨by rw[HD.out];simp,HT.out _ (below_drew HBk.out _)⟩
  | true=>
   have HT1:Hid _:=HTK.out (eqD_iff.1 (by rw[HE0.out,HXY.out,hq];rfl))
   rw[hq] at HC
   clear hq
   go_wp2
   go_quiet (first | (go_at_call 55;exact Calls.quiet_of (HC.out _)))
   go_wp2
   go_roundw
   case rel=>exact⟨k+1,by omega,by go_num,HT1.out,below_drew HBk.out _⟩
   case measure=>simp[intOf];omega
 obtain rfl:k=aN6:=by omega
 rw[eqD_end HaN6.out HbN6.out HH.out] at HD
 have HBx6:Hid _:=HBk.out
 clear HH HBk
 obtain⟨n2,e2⟩:∃q,eqD a.prods b.prods=q:=⟨_,rfl⟩
 rw[e2] at HD HS2
 clear e2
 obtain⟨n3,e3⟩:∃q,eqD a.chains b.chains=q:=⟨_,rfl⟩
 rw[e3] at HD HS3
 clear e3
 cases n2 with
 | false=>
  go_wp2_with fail
  refine (HS2.out _ (HT.out _ HBx6.out)).mono ?_
  rintro e w7 ⟨rfl,hb7⟩
  have HB7:Hid _:=below_tr HBx6.out hb7
  clear hb7
  go_wp2
  go_ret
  exact⟨by rw[HD.out];simp,HT.out _ HB7.out⟩
 | true=>
 go_wp2_with fail
 refine (HS2.out _ (HT.out _ HBx6.out)).mono ?_
 rintro e w7 ⟨rfl,hb7⟩
 have HB7:Hid _:=below_tr HBx6.out hb7
 clear hb7 c0 c1 c2 c3 c4 c5 c6 c7 c8 c9 c10 c11 c12 c13
 obtain⟨c0,c1,c2,c3,c4,c5,c6,c7,c8,c9,c10,c11,c12,c13⟩:=HCW.out w7 HB7.out
 go_wp2_with fail
 refine (HS3.out _ (HT.out _ HB7.out)).mono ?_
 rintro e w8 ⟨rfl,hb8⟩
 have HB8:Hid _:=below_tr HB7.out (below_dn hb8)
 clear hb8
 go_wp2
 go_ret
 exact⟨by rw[HD.out];cases n3<;>rfl,HT.out _ HB8.out⟩
end
end Go.Proofs.YtilpgpcgcpedjaaGreat
