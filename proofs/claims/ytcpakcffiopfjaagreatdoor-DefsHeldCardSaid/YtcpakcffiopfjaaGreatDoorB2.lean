/- Lists held against one another: slices.Equal. Lists held against one another by a function: slices.EqualFunc; productions, groups, chains, items, templates that are the same. -/
import Derived.Test.YtcpakcffiopfjaaGreatDoorA0
import Derived.Test.YtcpakcffiopfjaaGreatDoorAl
import Derived.Deep.QuietTactic
import Derived.BigQuiet
namespace Go.Proofs.YtcpakcffiopfjaaGreatDoor
open Go.RowKit
set_option linter.unusedVariables false
set_option linter.unusedSimpArgs false
set_option maxRecDepth 100000
set_option maxHeartbeats 16000000
noncomputable def eqD {α:Type} (x y:α):Bool:=@decide (x=y) (Classical.propDecidable _)
section
variable {α:Type} {x y:α}
theorem eqD_iff:eqD x y=true↔x=y:=by unfold eqD;simp
theorem eqD_ne (h:¬x=y):eqD x y=false:=by unfold eqD;simp[h]
theorem eqD_self:eqD x x=true:=eqD_iff.2 rfl
variable {l m:List α} {k:Nat}
theorem eqD_at (h1:l[k]?=some x) (h2:m[k]?=some y) (h:¬x=y):eqD l m=false:=eqD_ne fun e=>h (by subst e;rw[h1] at h2;exact Option.some.inj h2)
theorem eqD_len (h:¬l.length=m.length):eqD l m=false:=eqD_ne fun e=>h (by rw[e])
theorem take_one (h1:l[k]?=some x) (h2:m[k]?=some x) (h:l.take k=m.take k):l.take (k+1)=m.take (k+1):=by
 have h1:=List.getElem?_eq_some_iff.1 h1
 have h2:=List.getElem?_eq_some_iff.1 h2
 rw[List.take_succ_eq_append_getElem h1.1,List.take_succ_eq_append_getElem h2.1,h,h1.2,h2.2]
theorem eqD_end (h1:l.length=k) (h2:m.length=k) (h:l.take k=m.take k):eqD l m=true:=by
 rw[←h1,List.take_length,h1,←h2,List.take_length] at h
 exact eqD_iff.2 h
end
theorem str_ne {x y:ByteArray} (h:¬x=y):(x.toList==y.toList)=false:=by
 cases hq:x.toList==y.toList
 ·rfl
 ·exact absurd (str_iff.1 (by simpa using hq)) h
theorem str_bne {x y:ByteArray} (h:¬x=y):(x.toList != y.toList)=true:=by unfold bne;rw[str_ne h];rfl
theorem foEq (x y:Fo) (w:World):(Op.equalIn 10000 52 (.agg #[.string x.sort,.int .u64 x.set.a,.int .u64 x.set.b,.int .u64 x.set.c,.int .u64 x.set.d]) (.agg #[.string y.sort,.int .u64 y.set.a,.int .u64 y.set.b,.int .u64 y.set.c,.int .u64 y.set.d])).run Tryz.prog w=.ok (eqD x y) w:=by
 have hp:∀(x0 x1 x2 x3 x4:Value) w,((part 9 #[x0,x1,x2,x3,x4] 0).run Tryz.prog w=.ok x0 w)∧((part 49 #[x0,x1,x2,x3,x4] 1).run Tryz.prog w=.ok (.agg #[x1,x2,x3,x4]) w):=by
  intro x0 x1 x2 x3 x4 w
  refine⟨?_,?_⟩<;>kernel_rfl
 have h0:Tryz.prog.stoodInHeld 52=false:=by kernel_rfl
 have hs:∀(a b:ByteArray) w,(Op.equalIn 9999 9 (.string a) (.string b)).run Tryz.prog w=.ok (a==b) w:=fun a b w=>eqStr 9998 a b w
 rw[show (10000:Nat)=9999+1 from rfl]
 rw[Op.equalIn]
 simp only[Sem.run_bind,run_underlying Tryz.underlying52,Result.andThen_ok]
 simp[h0,hp,hs,eq49e]
 have he:eqD x y=(x.sort==y.sort&&x.set.same y.set):=by
  rw[Bool.eq_iff_iff]
  simp only[Bool.and_eq_true,ba_eq,St.same_eq,eqD_iff]
  constructor
  ·intro h;subst h;exact⟨rfl,rfl⟩
  ·rintro⟨h1,h2⟩;cases x;cases y;simp_all
 rw[he]
 generalize (x.sort==y.sort)=p1
 generalize x.set.same y.set=p2
 cases p1<;>cases p2<;>rfl
theorem reEq (x y:Re) (w:World):(Op.equalIn 10000 73 (.agg #[.string x.sort,.string x.by']) (.agg #[.string y.sort,.string y.by'])).run Tryz.prog w=.ok (eqD x y) w:=by
 have hp:∀(x0 x1:Value) w,((part 9 #[x0,x1] 0).run Tryz.prog w=.ok x0 w)∧((part 9 #[x0,x1] 1).run Tryz.prog w=.ok x1 w):=by
  intro x0 x1 w
  refine⟨?_,?_⟩<;>kernel_rfl
 have h0:Tryz.prog.stoodInHeld 73=false:=by kernel_rfl
 have hs:∀(a b:ByteArray) w,(Op.equalIn 9999 9 (.string a) (.string b)).run Tryz.prog w=.ok (a==b) w:=fun a b w=>eqStr 9998 a b w
 rw[show (10000:Nat)=9999+1 from rfl]
 rw[Op.equalIn]
 simp only[Sem.run_bind,run_underlying Tryz.underlying73,Result.andThen_ok]
 simp[h0,hp,hs]
 have he:eqD x y=(x.sort==y.sort&&x.by' == y.by'):=by
  rw[Bool.eq_iff_iff]
  simp only[Bool.and_eq_true,ba_eq,eqD_iff]
  constructor
  ·intro h;subst h;exact⟨rfl,rfl⟩
  ·rintro⟨h1,h2⟩;cases x;cases y;simp_all
 rw[he]
 generalize (x.sort==y.sort)=p1
 generalize (x.by' == y.by')=p2
 cases p1<;>cases p2<;>rfl
theorem syEq (x y:Sy) (w:World):(Op.equalIn 10000 134 (.agg #[.int .i64 x.kind,.string x.text,.int .u64 x.set.a,.int .u64 x.set.b,.int .u64 x.set.c,.int .u64 x.set.d,.string x.name,.string x.sep]) (.agg #[.int .i64 y.kind,.string y.text,.int .u64 y.set.a,.int .u64 y.set.b,.int .u64 y.set.c,.int .u64 y.set.d,.string y.name,.string y.sep])).run Tryz.prog w=.ok (eqD x y) w:=symEq x y w
theorem below_drew {w W:World} (h:Below w.heap.size w W) (n:Nat):Below w.heap.size w (W.drewN n):=⟨h.os,h.tape,h.output,h.size,h.block⟩
theorem equal_sym (l1 l2:List Sy) (v1 v2:Value) (w:World) (h1:Sl w w.heap.size 8 SyV l1 v1) (h2:Sl w w.heap.size 8 SyV l2 v2) :
  Calls Tryz.prog 98 #[v1,v2] w fun e w'=>e=.returned (.bool (eqD l1 l2))∧Below w.heap.size w w':=by
 obtain⟨a1,p1,rfl,_,hl1,hr1⟩:=h1
 obtain⟨a2,p2,rfl,_,hl2,hr2⟩:=h2
 obtain⟨N,hN⟩:∃N,l1.length=N:=⟨_,rfl⟩
 obtain⟨M,hM⟩:∃M,l2.length=M:=⟨_,rfl⟩
 have HR1:=hHi hr1
 have HR2:=hHi hr2
 have HN:=hHi hN
 have HM:=hHi hM
 rw[hN] at hl1 ⊢
 rw[hM] at hl2 ⊢
 clear hr1 hr2 hN hM
 by_cases hlen:N=M
 case neg=>
  have HF:Hid _:=eqD_len (l:=l1) (m:=l2) (by rw[HN.out,HM.out];exact hlen)
  have q1:((N:Int) != (M:Int))=true:=by simp;omega
  have q2:¬(N:Int)=(M:Int):=by omega
  clear hlen
  go_enter Tryz.func98,Tryz.ntmps98
  go_wp2
  go_ret
  exact⟨by rw[HF.out];rfl,Below.refl _ _⟩
 subst hlen
 go_enter Tryz.func98,Tryz.ntmps98
 go_wp2
 go_loopw[5,13] (fun _ iv W=>∃k:Nat,k≤N∧iv=.int .i64 k∧l1.take k=l2.take k∧Below w.heap.size w W) (fun _ iv _=>N-(intOf iv).toNat)
 case atStart=>exact⟨0,Nat.zero_le _,rfl,rfl,Below.refl _ _⟩
 case round=>
  obtain⟨k,hk,rfl,hh,hB⟩:=hrel
  have HH:=hHi hh
  clear hh
  by_cases hlt:k<N
  ·obtain⟨x,hx⟩:∃x,l1[k]?=some x:=⟨l1[k]'(by rw[HN.out];exact hlt),by simp⟩
   obtain⟨y,hy⟩:∃y,l2[k]?=some y:=⟨l2[k]'(by rw[HM.out];exact hlt),by simp⟩
   obtain⟨b,o,us,hb,hlb,⟨_,rfl⟩,hc⟩:=HR1.out k x hx
   obtain⟨b2,o2,us,hb2,hlb2,⟨_,rfl⟩,hd⟩:=HR2.out k y hy
   subst hb
   subst hb2
   have hq_:=hcb hB hlb hc
   have s0:=hq_ 0 _ rfl
   have s1:=hq_ 1 _ rfl
   have s2:=hq_ 2 _ rfl
   have s3:=hq_ 3 _ rfl
   have s4:=hq_ 4 _ rfl
   have s5:=hq_ 5 _ rfl
   have s6:=hq_ 6 _ rfl
   have s7:=hq_ 7 _ rfl
   clear hq_
   rw[Nat.add_zero] at s0
   have hq_:=hcb hB hlb2 hd
   have t0:=hq_ 0 _ rfl
   have t1:=hq_ 1 _ rfl
   have t2:=hq_ 2 _ rfl
   have t3:=hq_ 3 _ rfl
   have t4:=hq_ 4 _ rfl
   have t5:=hq_ 5 _ rfl
   have t6:=hq_ 6 _ rfl
   have t7:=hq_ 7 _ rfl
   clear hq_
   rw[Nat.add_zero] at t0
   have hltI:(k:Int)<N:=by omega
   clear hc hd
   by_cases he:x=y
   ·subst he
    have HT1:Hid (l1.take (k+1)=l2.take (k+1)):=take_one hx hy HH.out
    have hE:∀w,_:=fun w=>syEq x x w
    rw[eqD_self] at hE
    clear hx hy
    go_wp2
    go_quiet (fail)
    go_wp2
    go_roundw
    case rel=>exact⟨k+1,by omega,by go_num,HT1.out,below_drew hB _⟩
    case measure=>simp[intOf];omega
   ·have HF:Hid _:=eqD_at hx hy he
    have hE:∀w,_:=fun w=>syEq x y w
    rw[eqD_ne he] at hE
    clear hx hy he
    go_wp2
    go_quiet (fail)
    go_wp2
    go_ret
    exact⟨by rw[HF.out];rfl,below_drew hB _⟩
  ·obtain rfl:k=N:=by omega
   have HE:Hid _:=eqD_end HN.out HM.out HH.out
   go_wp2
   go_ret
   exact⟨by rw[HE.out];rfl,hB⟩
theorem equal_follow (l1 l2:List Fo) (v1 v2:Value) (w:World) (h1:Sl w w.heap.size 5 FoV l1 v1) (h2:Sl w w.heap.size 5 FoV l2 v2) :
  Calls Tryz.prog 50 #[v1,v2] w fun e w'=>e=.returned (.bool (eqD l1 l2))∧Below w.heap.size w w':=by
 obtain⟨a1,p1,rfl,_,hl1,hr1⟩:=h1
 obtain⟨a2,p2,rfl,_,hl2,hr2⟩:=h2
 obtain⟨N,hN⟩:∃N,l1.length=N:=⟨_,rfl⟩
 obtain⟨M,hM⟩:∃M,l2.length=M:=⟨_,rfl⟩
 have HR1:=hHi hr1
 have HR2:=hHi hr2
 have HN:=hHi hN
 have HM:=hHi hM
 rw[hN] at hl1 ⊢
 rw[hM] at hl2 ⊢
 clear hr1 hr2 hN hM
 by_cases hlen:N=M
 case neg=>
  have HF:Hid _:=eqD_len (l:=l1) (m:=l2) (by rw[HN.out,HM.out];exact hlen)
  have q1:((N:Int) != (M:Int))=true:=by simp;omega
  have q2:¬(N:Int)=(M:Int):=by omega
  clear hlen
  go_enter Tryz.func50,Tryz.ntmps50
  go_wp2
  go_ret
  exact⟨by rw[HF.out];rfl,Below.refl _ _⟩
 subst hlen
 go_enter Tryz.func50,Tryz.ntmps50
 go_wp2
 go_loopw[5,13] (fun _ iv W=>∃k:Nat,k≤N∧iv=.int .i64 k∧l1.take k=l2.take k∧Below w.heap.size w W) (fun _ iv _=>N-(intOf iv).toNat)
 case atStart=>exact⟨0,Nat.zero_le _,rfl,rfl,Below.refl _ _⟩
 case round=>
  obtain⟨k,hk,rfl,hh,hB⟩:=hrel
  have HH:=hHi hh
  clear hh
  by_cases hlt:k<N
  ·obtain⟨x,hx⟩:∃x,l1[k]?=some x:=⟨l1[k]'(by rw[HN.out];exact hlt),by simp⟩
   obtain⟨y,hy⟩:∃y,l2[k]?=some y:=⟨l2[k]'(by rw[HM.out];exact hlt),by simp⟩
   obtain⟨b,o,us,hb,hlb,⟨_,rfl⟩,hc⟩:=HR1.out k x hx
   obtain⟨b2,o2,us,hb2,hlb2,⟨_,rfl⟩,hd⟩:=HR2.out k y hy
   subst hb
   subst hb2
   have hq_:=hcb hB hlb hc
   have s0:=hq_ 0 _ rfl
   have s1:=hq_ 1 _ rfl
   have s2:=hq_ 2 _ rfl
   have s3:=hq_ 3 _ rfl
   have s4:=hq_ 4 _ rfl
   clear hq_
   rw[Nat.add_zero] at s0
   have hq_:=hcb hB hlb2 hd
   have t0:=hq_ 0 _ rfl
   have t1:=hq_ 1 _ rfl
   have t2:=hq_ 2 _ rfl
   have t3:=hq_ 3 _ rfl
   have t4:=hq_ 4 _ rfl
   clear hq_
   rw[Nat.add_zero] at t0
   have hltI:(k:Int)<N:=by omega
   clear hc hd
   by_cases he:x=y
   ·subst he
    have HT1:Hid (l1.take (k+1)=l2.take (k+1)):=take_one hx hy HH.out
    have hE:∀w,_:=fun w=>foEq x x w
    rw[eqD_self] at hE
    clear hx hy
    go_wp2
    go_quiet (fail)
    go_wp2
    go_roundw
    case rel=>exact⟨k+1,by omega,by go_num,HT1.out,below_drew hB _⟩
    case measure=>simp[intOf];omega
   ·have HF:Hid _:=eqD_at hx hy he
    have hE:∀w,_:=fun w=>foEq x y w
    rw[eqD_ne he] at hE
    clear hx hy he
    go_wp2
    go_quiet (fail)
    go_wp2
    go_ret
    exact⟨by rw[HF.out];rfl,below_drew hB _⟩
  ·obtain rfl:k=N:=by omega
   have HE:Hid _:=eqD_end HN.out HM.out HH.out
   go_wp2
   go_ret
   exact⟨by rw[HE.out];rfl,hB⟩
theorem equal_reject (l1 l2:List Re) (v1 v2:Value) (w:World) (h1:Sl w w.heap.size 2 ReV l1 v1) (h2:Sl w w.heap.size 2 ReV l2 v2) :
  Calls Tryz.prog 51 #[v1,v2] w fun e w'=>e=.returned (.bool (eqD l1 l2))∧Below w.heap.size w w':=by
 obtain⟨a1,p1,rfl,_,hl1,hr1⟩:=h1
 obtain⟨a2,p2,rfl,_,hl2,hr2⟩:=h2
 obtain⟨N,hN⟩:∃N,l1.length=N:=⟨_,rfl⟩
 obtain⟨M,hM⟩:∃M,l2.length=M:=⟨_,rfl⟩
 have HR1:=hHi hr1
 have HR2:=hHi hr2
 have HN:=hHi hN
 have HM:=hHi hM
 rw[hN] at hl1 ⊢
 rw[hM] at hl2 ⊢
 clear hr1 hr2 hN hM
 by_cases hlen:N=M
 case neg=>
  have HF:Hid _:=eqD_len (l:=l1) (m:=l2) (by rw[HN.out,HM.out];exact hlen)
  have q1:((N:Int) != (M:Int))=true:=by simp;omega
  have q2:¬(N:Int)=(M:Int):=by omega
  clear hlen
  go_enter Tryz.func51,Tryz.ntmps51
  go_wp2
  go_ret
  exact⟨by rw[HF.out];rfl,Below.refl _ _⟩
 subst hlen
 go_enter Tryz.func51,Tryz.ntmps51
 go_wp2
 go_loopw[5,13] (fun _ iv W=>∃k:Nat,k≤N∧iv=.int .i64 k∧l1.take k=l2.take k∧Below w.heap.size w W) (fun _ iv _=>N-(intOf iv).toNat)
 case atStart=>exact⟨0,Nat.zero_le _,rfl,rfl,Below.refl _ _⟩
 case round=>
  obtain⟨k,hk,rfl,hh,hB⟩:=hrel
  have HH:=hHi hh
  clear hh
  by_cases hlt:k<N
  ·obtain⟨x,hx⟩:∃x,l1[k]?=some x:=⟨l1[k]'(by rw[HN.out];exact hlt),by simp⟩
   obtain⟨y,hy⟩:∃y,l2[k]?=some y:=⟨l2[k]'(by rw[HM.out];exact hlt),by simp⟩
   obtain⟨b,o,us,hb,hlb,hus,hc⟩:=HR1.out k x hx
   have hus:us=[.string x.sort,.string x.by']:=hus
   subst hus
   obtain⟨b2,o2,us,hb2,hlb2,hus,hd⟩:=HR2.out k y hy
   have hus:us=[.string y.sort,.string y.by']:=hus
   subst hus
   subst hb
   subst hb2
   have hq_:=hcb hB hlb hc
   have s0:=hq_ 0 _ rfl
   have s1:=hq_ 1 _ rfl
   clear hq_
   rw[Nat.add_zero] at s0
   have hq_:=hcb hB hlb2 hd
   have t0:=hq_ 0 _ rfl
   have t1:=hq_ 1 _ rfl
   clear hq_
   rw[Nat.add_zero] at t0
   have hltI:(k:Int)<N:=by omega
   clear hc hd
   by_cases he:x=y
   ·subst he
    have HT1:Hid (l1.take (k+1)=l2.take (k+1)):=take_one hx hy HH.out
    have hE:∀w,_:=fun w=>reEq x x w
    rw[eqD_self] at hE
    clear hx hy
    go_wp2
    go_quiet (fail)
    go_wp2
    go_roundw
    case rel=>exact⟨k+1,by omega,by go_num,HT1.out,below_drew hB _⟩
    case measure=>simp[intOf];omega
   ·have HF:Hid _:=eqD_at hx hy he
    have hE:∀w,_:=fun w=>reEq x y w
    rw[eqD_ne he] at hE
    clear hx hy he
    go_wp2
    go_quiet (fail)
    go_wp2
    go_ret
    exact⟨by rw[HF.out];rfl,below_drew hB _⟩
  ·obtain rfl:k=N:=by omega
   have HE:Hid _:=eqD_end HN.out HM.out HH.out
   go_wp2
   go_ret
   exact⟨by rw[HE.out];rfl,hB⟩
theorem equal_str (l1 l2:List ByteArray) (v1 v2:Value) (w:World) (h1:Sl w w.heap.size 1 StrV l1 v1) (h2:Sl w w.heap.size 1 StrV l2 v2) :
  Calls Tryz.prog 147 #[v1,v2] w fun e w'=>e=.returned (.bool (eqD l1 l2))∧Below w.heap.size w w':=by
 obtain⟨a1,p1,rfl,_,hl1,hr1⟩:=h1
 obtain⟨a2,p2,rfl,_,hl2,hr2⟩:=h2
 obtain⟨N,hN⟩:∃N,l1.length=N:=⟨_,rfl⟩
 obtain⟨M,hM⟩:∃M,l2.length=M:=⟨_,rfl⟩
 have HR1:=hHi hr1
 have HR2:=hHi hr2
 have HN:=hHi hN
 have HM:=hHi hM
 rw[hN] at hl1 ⊢
 rw[hM] at hl2 ⊢
 clear hr1 hr2 hN hM
 by_cases hlen:N=M
 case neg=>
  have HF:Hid _:=eqD_len (l:=l1) (m:=l2) (by rw[HN.out,HM.out];exact hlen)
  have q1:((N:Int) != (M:Int))=true:=by simp;omega
  have q2:¬(N:Int)=(M:Int):=by omega
  clear hlen
  go_enter Tryz.func147,Tryz.ntmps147
  go_wp2
  go_ret
  exact⟨by rw[HF.out];rfl,Below.refl _ _⟩
 subst hlen
 go_enter Tryz.func147,Tryz.ntmps147
 go_wp2
 go_loopw[5,13] (fun _ iv W=>∃k:Nat,k≤N∧iv=.int .i64 k∧l1.take k=l2.take k∧Below w.heap.size w W) (fun _ iv _=>N-(intOf iv).toNat)
 case atStart=>exact⟨0,Nat.zero_le _,rfl,rfl,Below.refl _ _⟩
 case round=>
  obtain⟨k,hk,rfl,hh,hB⟩:=hrel
  have HH:=hHi hh
  clear hh
  by_cases hlt:k<N
  ·obtain⟨x,hx⟩:∃x,l1[k]?=some x:=⟨l1[k]'(by rw[HN.out];exact hlt),by simp⟩
   obtain⟨y,hy⟩:∃y,l2[k]?=some y:=⟨l2[k]'(by rw[HM.out];exact hlt),by simp⟩
   obtain⟨b,o,us,hb,hlb,hus,hc⟩:=HR1.out k x hx
   have hus:us=[.string x]:=hus
   subst hus
   obtain⟨b2,o2,us,hb2,hlb2,hus,hd⟩:=HR2.out k y hy
   have hus:us=[.string y]:=hus
   subst hus
   subst hb
   subst hb2
   have s0:=(hB.cell (p:=⟨b,o+k*1+0,none⟩) hlb).trans (hc 0 _ rfl)
   rw[Nat.mul_one,Nat.add_zero] at s0
   have t0:=(hB.cell (p:=⟨b2,o2+k*1+0,none⟩) hlb2).trans (hd 0 _ rfl)
   rw[Nat.mul_one,Nat.add_zero] at t0
   have hltI:(k:Int)<N:=by omega
   clear hc hd
   by_cases he:x=y
   ·subst he
    have HT1:Hid (l1.take (k+1)=l2.take (k+1)):=take_one hx hy HH.out
    clear hx hy
    go_wp2
    go_quiet (fail)
    go_wp2
    go_roundw
    case rel=>exact⟨k+1,by omega,by go_num,HT1.out,below_drew hB _⟩
    case measure=>simp[intOf];omega
   ·have HF:Hid _:=eqD_at hx hy he
    have q1:=str_ne he
    have q2:=str_bne he
    clear hx hy he
    go_wp2
    go_quiet (fail)
    go_wp2
    go_ret
    exact⟨by rw[HF.out];rfl,below_drew hB _⟩
  ·obtain rfl:k=N:=by omega
   have HE:Hid _:=eqD_end HN.out HM.out HH.out
   go_wp2
   go_ret
   exact⟨by rw[HE.out];rfl,hB⟩
theorem eqPr (x y:Pr):eqD x y=(eqD x.lex y.lex&&eqD x.sort y.sort&&eqD x.cons y.cons&&eqD x.bracket y.bracket&&eqD x.syms y.syms):=by
 rw[Bool.eq_iff_iff];simp only[Bool.and_eq_true,eqD_iff];cases x;cases y;simp[and_assoc]
theorem eqGr (x y:Gr):eqD x y=(eqD x.assoc y.assoc&&eqD x.cons y.cons):=by
 rw[Bool.eq_iff_iff];simp only[Bool.and_eq_true,eqD_iff];cases x;cases y;simp
theorem eqBo (x y:Bo):eqD x y=(eqD x.cons y.cons&&eqD x.items y.items):=by
 rw[Bool.eq_iff_iff];simp only[Bool.and_eq_true,eqD_iff];cases x;cases y;simp
theorem eqIt (x y:It):eqD x y=(eqD x.kind y.kind&&eqD x.text y.text&&eqD x.n y.n&&eqD x.items y.items):=by
 rw[Bool.eq_iff_iff];simp only[Bool.and_eq_true,eqD_iff];cases x;cases y;simp[It.kind,It.text,It.n,It.items,and_assoc]
theorem equalF_prod (l1 l2:List Pr) (v1 v2:Value) (w:World) (h1:Sl w w.heap.size 5 (PrV w w.heap.size) l1 v1) (h2:Sl w w.heap.size 5 (PrV w w.heap.size) l2 v2)
  (HK0:∀(x y:Pr) (v u:Value) (W:World),Sl W W.heap.size 8 SyV x.syms v→Sl W W.heap.size 8 SyV y.syms u→Calls Tryz.prog 47 #[.agg #[.bool x.lex,.string x.sort,.string x.cons,.bool x.bracket,v],.agg #[.bool y.lex,.string y.sort,.string y.cons,.bool y.bracket,u]] W fun e w'=>e=.returned (.bool (eqD x y))∧Below W.heap.size W w') :
  Calls Tryz.prog 46 #[v1,v2,.func (.func 47) #[] #[]] w fun e w'=>e=.returned (.bool (eqD l1 l2))∧Below w.heap.size w w':=by
 obtain⟨a1,p1,rfl,_,hl1,hr1⟩:=h1
 obtain⟨a2,p2,rfl,_,hl2,hr2⟩:=h2
 obtain⟨N,hN⟩:∃N,l1.length=N:=⟨_,rfl⟩
 obtain⟨M,hM⟩:∃M,l2.length=M:=⟨_,rfl⟩
 have HR1:=hHi hr1
 have HR2:=hHi hr2
 have HN:=hHi hN
 have HM:=hHi hM
 have HK:=hHi HK0
 rw[hN] at hl1 ⊢
 rw[hM] at hl2 ⊢
 clear hr1 hr2 hN hM HK0
 by_cases hlen:N=M
 case neg=>
  have HF:Hid _:=eqD_len (l:=l1) (m:=l2) (by rw[HN.out,HM.out];exact hlen)
  have q1:((N:Int) != (M:Int))=true:=by simp;omega
  have q2:¬(N:Int)=(M:Int):=by omega
  clear hlen
  go_enter Tryz.func46,Tryz.ntmps46
  go_wp2
  go_ret
  exact⟨by rw[HF.out];rfl,Below.refl _ _⟩
 subst hlen
 go_enter Tryz.func46,Tryz.ntmps46
 go_wp2
 go_loopw[7,8,9,17] (fun _ _ _ iv W=>∃k:Nat,k≤N∧iv=.int .i64 k∧l1.take k=l2.take k∧Below w.heap.size w W) (fun _ _ _ iv _=>N-(intOf iv).toNat)
 case atStart=>exact⟨0,Nat.zero_le _,rfl,rfl,Below.refl _ _⟩
 case round=>
  obtain⟨k,hk,rfl,hh,hB⟩:=hrel
  have HH:=hHi hh
  clear hh
  by_cases hlt:k<N
  ·obtain⟨x,hx⟩:∃x,l1[k]?=some x:=⟨l1[k]'(by rw[HN.out];exact hlt),by simp⟩
   obtain⟨y,hy⟩:∃y,l2[k]?=some y:=⟨l2[k]'(by rw[HM.out];exact hlt),by simp⟩
   obtain⟨b,o,us,hb,hlb,⟨u1,rfl,hfx⟩,hc⟩:=HR1.out k x hx
   obtain⟨b2,o2,us,hb2,hlb2,⟨u2,rfl,hfy⟩,hd⟩:=HR2.out k y hy
   subst hb
   subst hb2
   have hq_:=hcb hB hlb hc
   have s0:=hq_ 0 _ rfl
   have s1:=hq_ 1 _ rfl
   have s2:=hq_ 2 _ rfl
   have s3:=hq_ 3 _ rfl
   have s4:=hq_ 4 _ rfl
   clear hq_
   rw[Nat.add_zero] at s0
   have hq_:=hcb hB hlb2 hd
   have t0:=hq_ 0 _ rfl
   have t1:=hq_ 1 _ rfl
   have t2:=hq_ 2 _ rfl
   have t3:=hq_ 3 _ rfl
   have t4:=hq_ 4 _ rfl
   clear hq_
   rw[Nat.add_zero] at t0
   have hltI:(k:Int)<N:=by omega
   clear hc hd
   have hx0:=hfx
   obtain⟨ua1,uc1,rfl,_⟩:=hx0
   have hy0:=hfy
   obtain⟨ua2,uc2,rfl,_⟩:=hy0
   obtain⟨W1,hW1⟩:∃W1,wr.alloc (.cells #[.bool x.lex,.string x.sort,.string x.cons,.bool x.bracket,(.slice ua1 x.syms.length uc1)] 57)=W1:=⟨_,rfl⟩
   obtain⟨W2,hW2⟩:∃W2,W1.alloc (.cells #[.bool y.lex,.string y.sort,.string y.cons,.bool y.bracket,(.slice ua2 y.syms.length uc2)] 57)=W2:=⟨_,rfl⟩
   have bb1:Below wr.heap.size wr W1:=by rw[←hW1];exact (Below.refl _ _).alloc (Nat.le_refl _) _
   have bb2:Below W1.heap.size W1 W2:=by rw[←hW2];exact (Below.refl _ _).alloc (Nat.le_refl _) _
   have z1:wr.heap.size<W1.heap.size:=by rw[←hW1];simp
   have hB1:=below_tr hB bb1
   have hB2:=below_tr hB1 bb2
   have y0:W1.cell? ⟨b2,o2+k*5,none⟩=some (.bool y.lex):=by
    have:=(bb1.cell (p:=⟨b2,o2+k*5,none⟩) (Nat.lt_of_lt_of_le hlb2 hB.size)).trans t0
    exact this
   have y1:W1.cell? ⟨b2,o2+k*5+1,none⟩=some (.string y.sort):=by
    have:=(bb1.cell (p:=⟨b2,o2+k*5+1,none⟩) (Nat.lt_of_lt_of_le hlb2 hB.size)).trans t1
    exact this
   have y2:W1.cell? ⟨b2,o2+k*5+2,none⟩=some (.string y.cons):=by
    have:=(bb1.cell (p:=⟨b2,o2+k*5+2,none⟩) (Nat.lt_of_lt_of_le hlb2 hB.size)).trans t2
    exact this
   have y3:W1.cell? ⟨b2,o2+k*5+3,none⟩=some (.bool y.bracket):=by
    have:=(bb1.cell (p:=⟨b2,o2+k*5+3,none⟩) (Nat.lt_of_lt_of_le hlb2 hB.size)).trans t3
    exact this
   have y4:W1.cell? ⟨b2,o2+k*5+4,none⟩=some ((.slice ua2 y.syms.length uc2)):=by
    have:=(bb1.cell (p:=⟨b2,o2+k*5+4,none⟩) (Nat.lt_of_lt_of_le hlb2 hB.size)).trans t4
    exact this
   have r0:W2.cell? ⟨wr.heap.size,0,none⟩=some (.bool x.lex):=(bb2.cell (p:=⟨wr.heap.size,0,none⟩) z1).trans (by rw[←hW1];exact cell_new 0 rfl)
   have r1:W2.cell? ⟨wr.heap.size,1,none⟩=some (.string x.sort):=(bb2.cell (p:=⟨wr.heap.size,1,none⟩) z1).trans (by rw[←hW1];exact cell_new 1 rfl)
   have r2:W2.cell? ⟨wr.heap.size,2,none⟩=some (.string x.cons):=(bb2.cell (p:=⟨wr.heap.size,2,none⟩) z1).trans (by rw[←hW1];exact cell_new 2 rfl)
   have r3:W2.cell? ⟨wr.heap.size,3,none⟩=some (.bool x.bracket):=(bb2.cell (p:=⟨wr.heap.size,3,none⟩) z1).trans (by rw[←hW1];exact cell_new 3 rfl)
   have r4:W2.cell? ⟨wr.heap.size,4,none⟩=some ((.slice ua1 x.syms.length uc1)):=(bb2.cell (p:=⟨wr.heap.size,4,none⟩) z1).trans (by rw[←hW1];exact cell_new 4 rfl)
   have j0:W2.cell? ⟨W1.heap.size,0,none⟩=some (.bool y.lex):=by rw[←hW2];exact cell_new 0 rfl
   have j1:W2.cell? ⟨W1.heap.size,1,none⟩=some (.string y.sort):=by rw[←hW2];exact cell_new 1 rfl
   have j2:W2.cell? ⟨W1.heap.size,2,none⟩=some (.string y.cons):=by rw[←hW2];exact cell_new 2 rfl
   have j3:W2.cell? ⟨W1.heap.size,3,none⟩=some (.bool y.bracket):=by rw[←hW2];exact cell_new 3 rfl
   have j4:W2.cell? ⟨W1.heap.size,4,none⟩=some ((.slice ua2 y.syms.length uc2)):=by rw[←hW2];exact cell_new 4 rfl
   clear t0 t1 t2 t3 t4 bb1 bb2 hB1
   have HC:=hU (HK.out x y (.slice ua1 x.syms.length uc1) (.slice ua2 y.syms.length uc2) W2 (hfx.keep hB2 hB2.size (fun _ _ _ h=>h)) (hfy.keep hB2 hB2.size (fun _ _ _ h=>h)))
   have HBW:=hHi hB2
   clear hfx hfy hB2
   by_cases he:x=y
   ·have HT1:Hid (l1.take (k+1)=l2.take (k+1)):=take_one hx (by rw[he];exact hy) HH.out
    rw[eqD_iff.2 he] at HC
    clear hx hy he
    go_wp2_with fail
    refine hMo HC ?_
    rintro e w6 ⟨rfl,hb6⟩
    have HB6:Hid _:=below_tr HBW.out hb6
    clear hb6
    go_wp2
    go_roundw
    case rel=>exact⟨k+1,by omega,by go_num,HT1.out,HB6.out⟩
    case measure=>simp[intOf];omega
   ·have HF:Hid _:=eqD_at hx hy he
    rw[eqD_ne he] at HC
    clear hx hy he
    go_wp2_with fail
    refine hMo HC ?_
    rintro e w6 ⟨rfl,hb6⟩
    have HB6:Hid _:=below_tr HBW.out hb6
    clear hb6
    go_wp2
    go_ret
    exact⟨by rw[HF.out];rfl,HB6.out⟩
  ·obtain rfl:k=N:=by omega
   have HE:Hid _:=eqD_end HN.out HM.out HH.out
   go_wp2
   go_ret
   exact⟨by rw[HE.out];rfl,hB⟩
theorem same_prod (x y:Pr) (v u:Value) (w:World) (h1:Sl w w.heap.size 8 SyV x.syms v) (h2:Sl w w.heap.size 8 SyV y.syms u) :
  Calls Tryz.prog 47 #[.agg #[.bool x.lex,.string x.sort,.string x.cons,.bool x.bracket,v],.agg #[.bool y.lex,.string y.sort,.string y.cons,.bool y.bracket,u]] w fun e w'=>e=.returned (.bool (eqD x y))∧Below w.heap.size w w':=by
 have HD:Hid _:=eqPr x y
 generalize eqD x y=R at *
 obtain⟨a0,ha0⟩:∃q,x.lex=q:=⟨_,rfl⟩
 rw[ha0] at HD ⊢
 obtain⟨b0,hb0⟩:∃q,y.lex=q:=⟨_,rfl⟩
 rw[hb0] at HD ⊢
 obtain⟨a1,ha1⟩:∃q,x.sort=q:=⟨_,rfl⟩
 rw[ha1] at HD ⊢
 obtain⟨b1,hb1⟩:∃q,y.sort=q:=⟨_,rfl⟩
 rw[hb1] at HD ⊢
 obtain⟨a2,ha2⟩:∃q,x.cons=q:=⟨_,rfl⟩
 rw[ha2] at HD ⊢
 obtain⟨b2,hb2⟩:∃q,y.cons=q:=⟨_,rfl⟩
 rw[hb2] at HD ⊢
 obtain⟨a3,ha3⟩:∃q,x.bracket=q:=⟨_,rfl⟩
 rw[ha3] at HD ⊢
 obtain⟨b3,hb3⟩:∃q,y.bracket=q:=⟨_,rfl⟩
 rw[hb3] at HD ⊢
 clear ha0 hb0 ha1 hb1 ha2 hb2 ha3 hb3
 obtain⟨w1,hw1⟩:∃w1,w.alloc (.cells #[.bool a0,.string a1,.string a2,.bool a3,v] 57)=w1:=⟨_,rfl⟩
 obtain⟨w2,hw2⟩:∃w2,w1.alloc (.cells #[.bool b0,.string b1,.string b2,.bool b3,u] 57)=w2:=⟨_,rfl⟩
 have bb1:Below w.heap.size w w1:=by rw[←hw1];exact (Below.refl _ _).alloc (Nat.le_refl _) _
 have bb2:Below w1.heap.size w1 w2:=by rw[←hw2];exact (Below.refl _ _).alloc (Nat.le_refl _) _
 have z1:w.heap.size<w1.heap.size:=by rw[←hw1];simp
 have hB:=below_tr bb1 bb2
 have r0:w2.cell? ⟨w.heap.size,0,none⟩=some (.bool a0):=(bb2.cell (p:=⟨w.heap.size,0,none⟩) z1).trans (by rw[←hw1];exact cell_new 0 rfl)
 have r1:w2.cell? ⟨w.heap.size,1,none⟩=some (.string a1):=(bb2.cell (p:=⟨w.heap.size,1,none⟩) z1).trans (by rw[←hw1];exact cell_new 1 rfl)
 have r2:w2.cell? ⟨w.heap.size,2,none⟩=some (.string a2):=(bb2.cell (p:=⟨w.heap.size,2,none⟩) z1).trans (by rw[←hw1];exact cell_new 2 rfl)
 have r3:w2.cell? ⟨w.heap.size,3,none⟩=some (.bool a3):=(bb2.cell (p:=⟨w.heap.size,3,none⟩) z1).trans (by rw[←hw1];exact cell_new 3 rfl)
 have r4:w2.cell? ⟨w.heap.size,4,none⟩=some (v):=(bb2.cell (p:=⟨w.heap.size,4,none⟩) z1).trans (by rw[←hw1];exact cell_new 4 rfl)
 have j0:w2.cell? ⟨w1.heap.size,0,none⟩=some (.bool b0):=by rw[←hw2];exact cell_new 0 rfl
 have j1:w2.cell? ⟨w1.heap.size,1,none⟩=some (.string b1):=by rw[←hw2];exact cell_new 1 rfl
 have j2:w2.cell? ⟨w1.heap.size,2,none⟩=some (.string b2):=by rw[←hw2];exact cell_new 2 rfl
 have j3:w2.cell? ⟨w1.heap.size,3,none⟩=some (.bool b3):=by rw[←hw2];exact cell_new 3 rfl
 have j4:w2.cell? ⟨w1.heap.size,4,none⟩=some (u):=by rw[←hw2];exact cell_new 4 rfl
 have HC:=hU (equal_sym x.syms y.syms v u w2 (h1.keep hB hB.size (fun _ _ _ h=>h)) (h2.keep hB hB.size (fun _ _ _ h=>h)))
 have HB:=hHi hB
 clear bb1 bb2 hB h1 h2
 by_cases e0:a0=b0
 case neg=>
  rw[eqD_ne e0] at HD
  cases a0<;>cases b0
  ·exact absurd rfl e0
  ·clear e0
   go_enter Tryz.func47,Tryz.ntmps47
   go_wp2
   go_ret
   exact⟨by rw[HD.out];simp,HB.out⟩
  ·clear e0
   go_enter Tryz.func47,Tryz.ntmps47
   go_wp2
   go_ret
   exact⟨by rw[HD.out];simp,HB.out⟩
  ·exact absurd rfl e0
 subst e0
 rw[eqD_self] at HD
 by_cases e1:a1=b1
 case neg=>
  rw[eqD_ne e1] at HD
  have q1:=str_ne e1
  have q2:=str_bne e1
  clear e1
  go_enter Tryz.func47,Tryz.ntmps47
  go_wp2
  go_ret
  exact⟨by rw[HD.out];simp,HB.out⟩
 subst e1
 rw[eqD_self] at HD
 by_cases e2:a2=b2
 case neg=>
  rw[eqD_ne e2] at HD
  have q1:=str_ne e2
  have q2:=str_bne e2
  clear e2
  go_enter Tryz.func47,Tryz.ntmps47
  go_wp2
  go_ret
  exact⟨by rw[HD.out];simp,HB.out⟩
 subst e2
 rw[eqD_self] at HD
 by_cases e3:a3=b3
 case neg=>
  rw[eqD_ne e3] at HD
  cases a3<;>cases b3
  ·exact absurd rfl e3
  ·clear e3
   go_enter Tryz.func47,Tryz.ntmps47
   go_wp2
   go_ret
   exact⟨by rw[HD.out];simp,HB.out⟩
  ·clear e3
   go_enter Tryz.func47,Tryz.ntmps47
   go_wp2
   go_ret
   exact⟨by rw[HD.out];simp,HB.out⟩
  ·exact absurd rfl e3
 subst e3
 rw[eqD_self] at HD
 go_enter Tryz.func47,Tryz.ntmps47
 go_wp2_with fail
 refine hMo HC ?_
 rintro e w6 ⟨rfl,hb6⟩
 have HB6:Hid _:=below_tr HB.out hb6
 clear hb6
 generalize eqD x.syms y.syms=Q at *
 go_wp2
 go_ret
 exact⟨by rw[HD.out];cases Q<;>rfl,HB6.out⟩
theorem same_group (x y:Gr) (v u:Value) (w:World) (h1:Sl w w.heap.size 1 StrV x.cons v) (h2:Sl w w.heap.size 1 StrV y.cons u) :
  Calls Tryz.prog 100 #[.agg #[.int .i64 x.assoc,v],.agg #[.int .i64 y.assoc,u]] w fun e w'=>e=.returned (.bool (eqD x y))∧Below w.heap.size w w':=by
 have HD:Hid _:=eqGr x y
 generalize eqD x y=R at *
 obtain⟨a0,ha0⟩:∃q,x.assoc=q:=⟨_,rfl⟩
 rw[ha0] at HD ⊢
 obtain⟨b0,hb0⟩:∃q,y.assoc=q:=⟨_,rfl⟩
 rw[hb0] at HD ⊢
 clear ha0 hb0
 obtain⟨w1,hw1⟩:∃w1,w.alloc (.cells #[.int .i64 a0,v] 61)=w1:=⟨_,rfl⟩
 obtain⟨w2,hw2⟩:∃w2,w1.alloc (.cells #[.int .i64 b0,u] 61)=w2:=⟨_,rfl⟩
 have bb1:Below w.heap.size w w1:=by rw[←hw1];exact (Below.refl _ _).alloc (Nat.le_refl _) _
 have bb2:Below w1.heap.size w1 w2:=by rw[←hw2];exact (Below.refl _ _).alloc (Nat.le_refl _) _
 have z1:w.heap.size<w1.heap.size:=by rw[←hw1];simp
 have hB:=below_tr bb1 bb2
 have r0:w2.cell? ⟨w.heap.size,0,none⟩=some (.int .i64 a0):=(bb2.cell (p:=⟨w.heap.size,0,none⟩) z1).trans (by rw[←hw1];exact cell_new 0 rfl)
 have r1:w2.cell? ⟨w.heap.size,1,none⟩=some (v):=(bb2.cell (p:=⟨w.heap.size,1,none⟩) z1).trans (by rw[←hw1];exact cell_new 1 rfl)
 have j0:w2.cell? ⟨w1.heap.size,0,none⟩=some (.int .i64 b0):=by rw[←hw2];exact cell_new 0 rfl
 have j1:w2.cell? ⟨w1.heap.size,1,none⟩=some (u):=by rw[←hw2];exact cell_new 1 rfl
 have HC:=hU (equal_str x.cons y.cons v u w2 (h1.keep hB hB.size (fun _ _ _ h=>h)) (h2.keep hB hB.size (fun _ _ _ h=>h)))
 have HB:=hHi hB
 clear bb1 bb2 hB h1 h2
 by_cases e0:a0=b0
 case neg=>
  rw[eqD_ne e0] at HD
  have q1:(a0==b0)=false:=by simpa using e0
  have q2:(a0 != b0)=true:=by simpa using e0
  clear e0
  go_enter Tryz.func100,Tryz.ntmps100
  go_wp2
  go_ret
  exact⟨by rw[HD.out];simp,HB.out⟩
 subst e0
 rw[eqD_self] at HD
 go_enter Tryz.func100,Tryz.ntmps100
 go_wp2_with fail
 refine hMo HC ?_
 rintro e w6 ⟨rfl,hb6⟩
 have HB6:Hid _:=below_tr HB.out hb6
 clear hb6
 generalize eqD x.cons y.cons=Q at *
 go_wp2
 go_ret
 exact⟨by rw[HD.out];cases Q<;>rfl,HB6.out⟩
theorem equalF_group (l1 l2:List Gr) (v1 v2:Value) (w:World) (h1:Sl w w.heap.size 2 (GrV w w.heap.size) l1 v1) (h2:Sl w w.heap.size 2 (GrV w w.heap.size) l2 v2)
  (HK0:∀(x y:Gr) (v u:Value) (W:World),Sl W W.heap.size 1 StrV x.cons v→Sl W W.heap.size 1 StrV y.cons u→Calls Tryz.prog 100 #[.agg #[.int .i64 x.assoc,v],.agg #[.int .i64 y.assoc,u]] W fun e w'=>e=.returned (.bool (eqD x y))∧Below W.heap.size W w') :
  Calls Tryz.prog 99 #[v1,v2,.func (.func 100) #[] #[]] w fun e w'=>e=.returned (.bool (eqD l1 l2))∧Below w.heap.size w w':=by
 obtain⟨a1,p1,rfl,_,hl1,hr1⟩:=h1
 obtain⟨a2,p2,rfl,_,hl2,hr2⟩:=h2
 obtain⟨N,hN⟩:∃N,l1.length=N:=⟨_,rfl⟩
 obtain⟨M,hM⟩:∃M,l2.length=M:=⟨_,rfl⟩
 have HR1:=hHi hr1
 have HR2:=hHi hr2
 have HN:=hHi hN
 have HM:=hHi hM
 have HK:=hHi HK0
 rw[hN] at hl1 ⊢
 rw[hM] at hl2 ⊢
 clear hr1 hr2 hN hM HK0
 by_cases hlen:N=M
 case neg=>
  have HF:Hid _:=eqD_len (l:=l1) (m:=l2) (by rw[HN.out,HM.out];exact hlen)
  have q1:((N:Int) != (M:Int))=true:=by simp;omega
  have q2:¬(N:Int)=(M:Int):=by omega
  clear hlen
  go_enter Tryz.func99,Tryz.ntmps99
  go_wp2
  go_ret
  exact⟨by rw[HF.out];rfl,Below.refl _ _⟩
 subst hlen
 go_enter Tryz.func99,Tryz.ntmps99
 go_wp2
 go_loopw[7,8,9,17] (fun _ _ _ iv W=>∃k:Nat,k≤N∧iv=.int .i64 k∧l1.take k=l2.take k∧Below w.heap.size w W) (fun _ _ _ iv _=>N-(intOf iv).toNat)
 case atStart=>exact⟨0,Nat.zero_le _,rfl,rfl,Below.refl _ _⟩
 case round=>
  obtain⟨k,hk,rfl,hh,hB⟩:=hrel
  have HH:=hHi hh
  clear hh
  by_cases hlt:k<N
  ·obtain⟨x,hx⟩:∃x,l1[k]?=some x:=⟨l1[k]'(by rw[HN.out];exact hlt),by simp⟩
   obtain⟨y,hy⟩:∃y,l2[k]?=some y:=⟨l2[k]'(by rw[HM.out];exact hlt),by simp⟩
   obtain⟨b,o,us,hb,hlb,⟨u1,rfl,hfx⟩,hc⟩:=HR1.out k x hx
   obtain⟨b2,o2,us,hb2,hlb2,⟨u2,rfl,hfy⟩,hd⟩:=HR2.out k y hy
   subst hb
   subst hb2
   have hq_:=hcb hB hlb hc
   have s0:=hq_ 0 _ rfl
   have s1:=hq_ 1 _ rfl
   clear hq_
   rw[Nat.add_zero] at s0
   have hq_:=hcb hB hlb2 hd
   have t0:=hq_ 0 _ rfl
   have t1:=hq_ 1 _ rfl
   clear hq_
   rw[Nat.add_zero] at t0
   have hltI:(k:Int)<N:=by omega
   clear hc hd
   have hx0:=hfx
   obtain⟨ua1,uc1,rfl,_⟩:=hx0
   have hy0:=hfy
   obtain⟨ua2,uc2,rfl,_⟩:=hy0
   obtain⟨W1,hW1⟩:∃W1,wr.alloc (.cells #[.int .i64 x.assoc,(.slice ua1 x.cons.length uc1)] 61)=W1:=⟨_,rfl⟩
   obtain⟨W2,hW2⟩:∃W2,W1.alloc (.cells #[.int .i64 y.assoc,(.slice ua2 y.cons.length uc2)] 61)=W2:=⟨_,rfl⟩
   have bb1:Below wr.heap.size wr W1:=by rw[←hW1];exact (Below.refl _ _).alloc (Nat.le_refl _) _
   have bb2:Below W1.heap.size W1 W2:=by rw[←hW2];exact (Below.refl _ _).alloc (Nat.le_refl _) _
   have z1:wr.heap.size<W1.heap.size:=by rw[←hW1];simp
   have hB1:=below_tr hB bb1
   have hB2:=below_tr hB1 bb2
   have y0:W1.cell? ⟨b2,o2+k*2,none⟩=some (.int .i64 y.assoc):=by
    have:=(bb1.cell (p:=⟨b2,o2+k*2,none⟩) (Nat.lt_of_lt_of_le hlb2 hB.size)).trans t0
    exact this
   have y1:W1.cell? ⟨b2,o2+k*2+1,none⟩=some ((.slice ua2 y.cons.length uc2)):=by
    have:=(bb1.cell (p:=⟨b2,o2+k*2+1,none⟩) (Nat.lt_of_lt_of_le hlb2 hB.size)).trans t1
    exact this
   have r0:W2.cell? ⟨wr.heap.size,0,none⟩=some (.int .i64 x.assoc):=(bb2.cell (p:=⟨wr.heap.size,0,none⟩) z1).trans (by rw[←hW1];exact cell_new 0 rfl)
   have r1:W2.cell? ⟨wr.heap.size,1,none⟩=some ((.slice ua1 x.cons.length uc1)):=(bb2.cell (p:=⟨wr.heap.size,1,none⟩) z1).trans (by rw[←hW1];exact cell_new 1 rfl)
   have j0:W2.cell? ⟨W1.heap.size,0,none⟩=some (.int .i64 y.assoc):=by rw[←hW2];exact cell_new 0 rfl
   have j1:W2.cell? ⟨W1.heap.size,1,none⟩=some ((.slice ua2 y.cons.length uc2)):=by rw[←hW2];exact cell_new 1 rfl
   clear t0 t1 bb1 bb2 hB1
   have HC:=hU (HK.out x y (.slice ua1 x.cons.length uc1) (.slice ua2 y.cons.length uc2) W2 (hfx.keep hB2 hB2.size (fun _ _ _ h=>h)) (hfy.keep hB2 hB2.size (fun _ _ _ h=>h)))
   have HBW:=hHi hB2
   clear hfx hfy hB2
   by_cases he:x=y
   ·have HT1:Hid (l1.take (k+1)=l2.take (k+1)):=take_one hx (by rw[he];exact hy) HH.out
    rw[eqD_iff.2 he] at HC
    clear hx hy he
    go_wp2_with fail
    refine hMo HC ?_
    rintro e w6 ⟨rfl,hb6⟩
    have HB6:Hid _:=below_tr HBW.out hb6
    clear hb6
    go_wp2
    go_roundw
    case rel=>exact⟨k+1,by omega,by go_num,HT1.out,HB6.out⟩
    case measure=>simp[intOf];omega
   ·have HF:Hid _:=eqD_at hx hy he
    rw[eqD_ne he] at HC
    clear hx hy he
    go_wp2_with fail
    refine hMo HC ?_
    rintro e w6 ⟨rfl,hb6⟩
    have HB6:Hid _:=below_tr HBW.out hb6
    clear hb6
    go_wp2
    go_ret
    exact⟨by rw[HF.out];rfl,HB6.out⟩
  ·obtain rfl:k=N:=by omega
   have HE:Hid _:=eqD_end HN.out HM.out HH.out
   go_wp2
   go_ret
   exact⟨by rw[HE.out];rfl,hB⟩
theorem same_chain (x y:List Gr) (v u:Value) (w:World) (h1:Sl w w.heap.size 2 (GrV w w.heap.size) x v) (h2:Sl w w.heap.size 2 (GrV w w.heap.size) y u) :
  Calls Tryz.prog 49 #[v,u] w fun e w'=>e=.returned (.bool (eqD x y))∧Below w.heap.size w w':=by
 have HC:=hU (equalF_group x y v u w h1 h2 (fun x y v u W h1 h2=>same_group x y v u W h1 h2))
 clear h1 h2
 go_enter Tryz.func49,Tryz.ntmps49
 go_wp2_with fail
 refine hMo HC ?_
 rintro e w6 ⟨rfl,hb6⟩
 go_wp2
 go_ret
 exact⟨rfl,hb6⟩
theorem equalF_chain (l1 l2:List (List Gr)) (v1 v2:Value) (w:World) (h1:Sl w w.heap.size 1 (ChV w w.heap.size) l1 v1) (h2:Sl w w.heap.size 1 (ChV w w.heap.size) l2 v2)
  (HK0:∀(x y:(List Gr)) (v u:Value) (W:World),Sl W W.heap.size 2 (GrV W W.heap.size) x v→Sl W W.heap.size 2 (GrV W W.heap.size) y u→Calls Tryz.prog 49 #[v,u] W fun e w'=>e=.returned (.bool (eqD x y))∧Below W.heap.size W w') :
  Calls Tryz.prog 48 #[v1,v2,.func (.func 49) #[] #[]] w fun e w'=>e=.returned (.bool (eqD l1 l2))∧Below w.heap.size w w':=by
 obtain⟨a1,p1,rfl,_,hl1,hr1⟩:=h1
 obtain⟨a2,p2,rfl,_,hl2,hr2⟩:=h2
 obtain⟨N,hN⟩:∃N,l1.length=N:=⟨_,rfl⟩
 obtain⟨M,hM⟩:∃M,l2.length=M:=⟨_,rfl⟩
 have HR1:=hHi hr1
 have HR2:=hHi hr2
 have HN:=hHi hN
 have HM:=hHi hM
 have HK:=hHi HK0
 rw[hN] at hl1 ⊢
 rw[hM] at hl2 ⊢
 clear hr1 hr2 hN hM HK0
 by_cases hlen:N=M
 case neg=>
  have HF:Hid _:=eqD_len (l:=l1) (m:=l2) (by rw[HN.out,HM.out];exact hlen)
  have q1:((N:Int) != (M:Int))=true:=by simp;omega
  have q2:¬(N:Int)=(M:Int):=by omega
  clear hlen
  go_enter Tryz.func48,Tryz.ntmps48
  go_wp2
  go_ret
  exact⟨by rw[HF.out];rfl,Below.refl _ _⟩
 subst hlen
 go_enter Tryz.func48,Tryz.ntmps48
 go_wp2
 go_loopw[7,8,9,17] (fun _ _ _ iv W=>∃k:Nat,k≤N∧iv=.int .i64 k∧l1.take k=l2.take k∧Below w.heap.size w W) (fun _ _ _ iv _=>N-(intOf iv).toNat)
 case atStart=>exact⟨0,Nat.zero_le _,rfl,rfl,Below.refl _ _⟩
 case round=>
  obtain⟨k,hk,rfl,hh,hB⟩:=hrel
  have HH:=hHi hh
  clear hh
  by_cases hlt:k<N
  ·obtain⟨x,hx⟩:∃x,l1[k]?=some x:=⟨l1[k]'(by rw[HN.out];exact hlt),by simp⟩
   obtain⟨y,hy⟩:∃y,l2[k]?=some y:=⟨l2[k]'(by rw[HM.out];exact hlt),by simp⟩
   obtain⟨b,o,us,hb,hlb,⟨u1,rfl,hfx⟩,hc⟩:=HR1.out k x hx
   obtain⟨b2,o2,us,hb2,hlb2,⟨u2,rfl,hfy⟩,hd⟩:=HR2.out k y hy
   subst hb
   subst hb2
   have s0:=(hB.cell (p:=⟨b,o+k*1+0,none⟩) hlb).trans (hc 0 _ rfl)
   rw[Nat.mul_one,Nat.add_zero] at s0
   have t0:=(hB.cell (p:=⟨b2,o2+k*1+0,none⟩) hlb2).trans (hd 0 _ rfl)
   rw[Nat.mul_one,Nat.add_zero] at t0
   have hltI:(k:Int)<N:=by omega
   clear hc hd
   have HC:=hU (HK.out x y u1 u2 wr (hfx.keep hB hB.size (fun _ _ _ h=>h.keep hB hB.size)) (hfy.keep hB hB.size (fun _ _ _ h=>h.keep hB hB.size)))
   have HBW:=hHi hB
   clear hfx hfy
   by_cases he:x=y
   ·have HT1:Hid (l1.take (k+1)=l2.take (k+1)):=take_one hx (by rw[he];exact hy) HH.out
    rw[eqD_iff.2 he] at HC
    clear hx hy he
    go_wp2_with fail
    refine hMo HC ?_
    rintro e w6 ⟨rfl,hb6⟩
    have HB6:Hid _:=below_tr HBW.out hb6
    clear hb6
    go_wp2
    go_roundw
    case rel=>exact⟨k+1,by omega,by go_num,HT1.out,HB6.out⟩
    case measure=>simp[intOf];omega
   ·have HF:Hid _:=eqD_at hx hy he
    rw[eqD_ne he] at HC
    clear hx hy he
    go_wp2_with fail
    refine hMo HC ?_
    rintro e w6 ⟨rfl,hb6⟩
    have HB6:Hid _:=below_tr HBW.out hb6
    clear hb6
    go_wp2
    go_ret
    exact⟨by rw[HF.out];rfl,HB6.out⟩
  ·obtain rfl:k=N:=by omega
   have HE:Hid _:=eqD_end HN.out HM.out HH.out
   go_wp2
   go_ret
   exact⟨by rw[HE.out];rfl,hB⟩
theorem equalF_item (f:Nat) (l1 l2:List It) (v1 v2:Value) (w:World) (h1:Sl w w.heap.size 4 (ItV w w.heap.size (f+1)) l1 v1) (h2:Sl w w.heap.size 4 (ItV w w.heap.size (f+1)) l2 v2)
  (HK0:∀(x y:It) (v u:Value) (W:World),Sl W W.heap.size 4 (ItV W W.heap.size f) x.items v→Sl W W.heap.size 4 (ItV W W.heap.size f) y.items u→Calls Tryz.prog 102 #[.agg #[.int .i64 x.kind,.string x.text,.int .i64 x.n,v],.agg #[.int .i64 y.kind,.string y.text,.int .i64 y.n,u]] W fun e w'=>e=.returned (.bool (eqD x y))∧Below W.heap.size W w') :
  Calls Tryz.prog 101 #[v1,v2,.func (.func 102) #[] #[]] w fun e w'=>e=.returned (.bool (eqD l1 l2))∧Below w.heap.size w w':=by
 obtain⟨a1,p1,rfl,_,hl1,hr1⟩:=h1
 obtain⟨a2,p2,rfl,_,hl2,hr2⟩:=h2
 obtain⟨N,hN⟩:∃N,l1.length=N:=⟨_,rfl⟩
 obtain⟨M,hM⟩:∃M,l2.length=M:=⟨_,rfl⟩
 have HR1:=hHi hr1
 have HR2:=hHi hr2
 have HN:=hHi hN
 have HM:=hHi hM
 have HK:=hHi HK0
 rw[hN] at hl1 ⊢
 rw[hM] at hl2 ⊢
 clear hr1 hr2 hN hM HK0
 by_cases hlen:N=M
 case neg=>
  have HF:Hid _:=eqD_len (l:=l1) (m:=l2) (by rw[HN.out,HM.out];exact hlen)
  have q1:((N:Int) != (M:Int))=true:=by simp;omega
  have q2:¬(N:Int)=(M:Int):=by omega
  clear hlen
  go_enter Tryz.func101,Tryz.ntmps101
  go_wp2
  go_ret
  exact⟨by rw[HF.out];rfl,Below.refl _ _⟩
 subst hlen
 go_enter Tryz.func101,Tryz.ntmps101
 go_wp2
 go_loopw[7,8,9,17] (fun _ _ _ iv W=>∃k:Nat,k≤N∧iv=.int .i64 k∧l1.take k=l2.take k∧Below w.heap.size w W) (fun _ _ _ iv _=>N-(intOf iv).toNat)
 case atStart=>exact⟨0,Nat.zero_le _,rfl,rfl,Below.refl _ _⟩
 case round=>
  obtain⟨k,hk,rfl,hh,hB⟩:=hrel
  have HH:=hHi hh
  clear hh
  by_cases hlt:k<N
  ·obtain⟨x,hx⟩:∃x,l1[k]?=some x:=⟨l1[k]'(by rw[HN.out];exact hlt),by simp⟩
   obtain⟨y,hy⟩:∃y,l2[k]?=some y:=⟨l2[k]'(by rw[HM.out];exact hlt),by simp⟩
   obtain⟨b,o,us,hb,hlb,⟨u1,rfl,hfx⟩,hc⟩:=HR1.out k x hx
   obtain⟨b2,o2,us,hb2,hlb2,⟨u2,rfl,hfy⟩,hd⟩:=HR2.out k y hy
   subst hb
   subst hb2
   have hq_:=hcb hB hlb hc
   have s0:=hq_ 0 _ rfl
   have s1:=hq_ 1 _ rfl
   have s2:=hq_ 2 _ rfl
   have s3:=hq_ 3 _ rfl
   clear hq_
   rw[Nat.add_zero] at s0
   have hq_:=hcb hB hlb2 hd
   have t0:=hq_ 0 _ rfl
   have t1:=hq_ 1 _ rfl
   have t2:=hq_ 2 _ rfl
   have t3:=hq_ 3 _ rfl
   clear hq_
   rw[Nat.add_zero] at t0
   have hltI:(k:Int)<N:=by omega
   clear hc hd
   have hx0:=hfx
   obtain⟨ua1,uc1,rfl,_⟩:=hx0
   have hy0:=hfy
   obtain⟨ua2,uc2,rfl,_⟩:=hy0
   obtain⟨W1,hW1⟩:∃W1,wr.alloc (.cells #[.int .i64 x.kind,.string x.text,.int .i64 x.n,(.slice ua1 x.items.length uc1)] 124)=W1:=⟨_,rfl⟩
   obtain⟨W2,hW2⟩:∃W2,W1.alloc (.cells #[.int .i64 y.kind,.string y.text,.int .i64 y.n,(.slice ua2 y.items.length uc2)] 124)=W2:=⟨_,rfl⟩
   have bb1:Below wr.heap.size wr W1:=by rw[←hW1];exact (Below.refl _ _).alloc (Nat.le_refl _) _
   have bb2:Below W1.heap.size W1 W2:=by rw[←hW2];exact (Below.refl _ _).alloc (Nat.le_refl _) _
   have z1:wr.heap.size<W1.heap.size:=by rw[←hW1];simp
   have hB1:=below_tr hB bb1
   have hB2:=below_tr hB1 bb2
   have y0:W1.cell? ⟨b2,o2+k*4,none⟩=some (.int .i64 y.kind):=by
    have:=(bb1.cell (p:=⟨b2,o2+k*4,none⟩) (Nat.lt_of_lt_of_le hlb2 hB.size)).trans t0
    exact this
   have y1:W1.cell? ⟨b2,o2+k*4+1,none⟩=some (.string y.text):=by
    have:=(bb1.cell (p:=⟨b2,o2+k*4+1,none⟩) (Nat.lt_of_lt_of_le hlb2 hB.size)).trans t1
    exact this
   have y2:W1.cell? ⟨b2,o2+k*4+2,none⟩=some (.int .i64 y.n):=by
    have:=(bb1.cell (p:=⟨b2,o2+k*4+2,none⟩) (Nat.lt_of_lt_of_le hlb2 hB.size)).trans t2
    exact this
   have y3:W1.cell? ⟨b2,o2+k*4+3,none⟩=some ((.slice ua2 y.items.length uc2)):=by
    have:=(bb1.cell (p:=⟨b2,o2+k*4+3,none⟩) (Nat.lt_of_lt_of_le hlb2 hB.size)).trans t3
    exact this
   have r0:W2.cell? ⟨wr.heap.size,0,none⟩=some (.int .i64 x.kind):=(bb2.cell (p:=⟨wr.heap.size,0,none⟩) z1).trans (by rw[←hW1];exact cell_new 0 rfl)
   have r1:W2.cell? ⟨wr.heap.size,1,none⟩=some (.string x.text):=(bb2.cell (p:=⟨wr.heap.size,1,none⟩) z1).trans (by rw[←hW1];exact cell_new 1 rfl)
   have r2:W2.cell? ⟨wr.heap.size,2,none⟩=some (.int .i64 x.n):=(bb2.cell (p:=⟨wr.heap.size,2,none⟩) z1).trans (by rw[←hW1];exact cell_new 2 rfl)
   have r3:W2.cell? ⟨wr.heap.size,3,none⟩=some ((.slice ua1 x.items.length uc1)):=(bb2.cell (p:=⟨wr.heap.size,3,none⟩) z1).trans (by rw[←hW1];exact cell_new 3 rfl)
   have j0:W2.cell? ⟨W1.heap.size,0,none⟩=some (.int .i64 y.kind):=by rw[←hW2];exact cell_new 0 rfl
   have j1:W2.cell? ⟨W1.heap.size,1,none⟩=some (.string y.text):=by rw[←hW2];exact cell_new 1 rfl
   have j2:W2.cell? ⟨W1.heap.size,2,none⟩=some (.int .i64 y.n):=by rw[←hW2];exact cell_new 2 rfl
   have j3:W2.cell? ⟨W1.heap.size,3,none⟩=some ((.slice ua2 y.items.length uc2)):=by rw[←hW2];exact cell_new 3 rfl
   clear t0 t1 t2 t3 bb1 bb2 hB1
   have HC:=hU (HK.out x y (.slice ua1 x.items.length uc1) (.slice ua2 y.items.length uc2) W2 (hfx.keep hB2 hB2.size (fun _ _ _ h=>h.keep hB2 hB2.size)) (hfy.keep hB2 hB2.size (fun _ _ _ h=>h.keep hB2 hB2.size)))
   have HBW:=hHi hB2
   clear hfx hfy hB2
   by_cases he:x=y
   ·have HT1:Hid (l1.take (k+1)=l2.take (k+1)):=take_one hx (by rw[he];exact hy) HH.out
    rw[eqD_iff.2 he] at HC
    clear hx hy he
    go_wp2_with fail
    refine hMo HC ?_
    rintro e w6 ⟨rfl,hb6⟩
    have HB6:Hid _:=below_tr HBW.out hb6
    clear hb6
    go_wp2
    go_roundw
    case rel=>exact⟨k+1,by omega,by go_num,HT1.out,HB6.out⟩
    case measure=>simp[intOf];omega
   ·have HF:Hid _:=eqD_at hx hy he
    rw[eqD_ne he] at HC
    clear hx hy he
    go_wp2_with fail
    refine hMo HC ?_
    rintro e w6 ⟨rfl,hb6⟩
    have HB6:Hid _:=below_tr HBW.out hb6
    clear hb6
    go_wp2
    go_ret
    exact⟨by rw[HF.out];rfl,HB6.out⟩
  ·obtain rfl:k=N:=by omega
   have HE:Hid _:=eqD_end HN.out HM.out HH.out
   go_wp2
   go_ret
   exact⟨by rw[HE.out];rfl,hB⟩
theorem same_item1 (f:Nat) (x y:It) (v u:Value) (w:World) (h1:Sl w w.heap.size 4 (ItV w w.heap.size f) x.items v) (h2:Sl w w.heap.size 4 (ItV w w.heap.size f) y.items u) (HK0:∀(l1 l2:List It) (v1 v2:Value) (w:World),Sl w w.heap.size 4 (ItV w w.heap.size f) l1 v1→Sl w w.heap.size 4 (ItV w w.heap.size f) l2 v2→Calls Tryz.prog 101 #[v1,v2,.func (.func 102) #[] #[]] w fun e w'=>e=.returned (.bool (eqD l1 l2))∧Below w.heap.size w w') :
  Calls Tryz.prog 102 #[.agg #[.int .i64 x.kind,.string x.text,.int .i64 x.n,v],.agg #[.int .i64 y.kind,.string y.text,.int .i64 y.n,u]] w fun e w'=>e=.returned (.bool (eqD x y))∧Below w.heap.size w w':=by
 have HD:Hid _:=eqIt x y
 generalize eqD x y=R at *
 obtain⟨a0,ha0⟩:∃q,x.kind=q:=⟨_,rfl⟩
 rw[ha0] at HD ⊢
 obtain⟨b0,hb0⟩:∃q,y.kind=q:=⟨_,rfl⟩
 rw[hb0] at HD ⊢
 obtain⟨a1,ha1⟩:∃q,x.text=q:=⟨_,rfl⟩
 rw[ha1] at HD ⊢
 obtain⟨b1,hb1⟩:∃q,y.text=q:=⟨_,rfl⟩
 rw[hb1] at HD ⊢
 obtain⟨a2,ha2⟩:∃q,x.n=q:=⟨_,rfl⟩
 rw[ha2] at HD ⊢
 obtain⟨b2,hb2⟩:∃q,y.n=q:=⟨_,rfl⟩
 rw[hb2] at HD ⊢
 clear ha0 hb0 ha1 hb1 ha2 hb2
 obtain⟨w1,hw1⟩:∃w1,w.alloc (.cells #[.int .i64 a0,.string a1,.int .i64 a2,v] 124)=w1:=⟨_,rfl⟩
 obtain⟨w2,hw2⟩:∃w2,w1.alloc (.cells #[.int .i64 b0,.string b1,.int .i64 b2,u] 124)=w2:=⟨_,rfl⟩
 have bb1:Below w.heap.size w w1:=by rw[←hw1];exact (Below.refl _ _).alloc (Nat.le_refl _) _
 have bb2:Below w1.heap.size w1 w2:=by rw[←hw2];exact (Below.refl _ _).alloc (Nat.le_refl _) _
 have z1:w.heap.size<w1.heap.size:=by rw[←hw1];simp
 have hB:=below_tr bb1 bb2
 have r0:w2.cell? ⟨w.heap.size,0,none⟩=some (.int .i64 a0):=(bb2.cell (p:=⟨w.heap.size,0,none⟩) z1).trans (by rw[←hw1];exact cell_new 0 rfl)
 have r1:w2.cell? ⟨w.heap.size,1,none⟩=some (.string a1):=(bb2.cell (p:=⟨w.heap.size,1,none⟩) z1).trans (by rw[←hw1];exact cell_new 1 rfl)
 have r2:w2.cell? ⟨w.heap.size,2,none⟩=some (.int .i64 a2):=(bb2.cell (p:=⟨w.heap.size,2,none⟩) z1).trans (by rw[←hw1];exact cell_new 2 rfl)
 have r3:w2.cell? ⟨w.heap.size,3,none⟩=some (v):=(bb2.cell (p:=⟨w.heap.size,3,none⟩) z1).trans (by rw[←hw1];exact cell_new 3 rfl)
 have j0:w2.cell? ⟨w1.heap.size,0,none⟩=some (.int .i64 b0):=by rw[←hw2];exact cell_new 0 rfl
 have j1:w2.cell? ⟨w1.heap.size,1,none⟩=some (.string b1):=by rw[←hw2];exact cell_new 1 rfl
 have j2:w2.cell? ⟨w1.heap.size,2,none⟩=some (.int .i64 b2):=by rw[←hw2];exact cell_new 2 rfl
 have j3:w2.cell? ⟨w1.heap.size,3,none⟩=some (u):=by rw[←hw2];exact cell_new 3 rfl
 have HC:=hU (HK0 x.items y.items v u w2 (h1.keep hB hB.size (fun _ _ _ h=>h.keep hB hB.size)) (h2.keep hB hB.size (fun _ _ _ h=>h.keep hB hB.size)))
 have HB:=hHi hB
 clear bb1 bb2 hB h1 h2 HK0
 by_cases e0:a0=b0
 case neg=>
  rw[eqD_ne e0] at HD
  have q1:(a0==b0)=false:=by simpa using e0
  have q2:(a0 != b0)=true:=by simpa using e0
  clear e0
  go_enter Tryz.func102,Tryz.ntmps102
  go_wp2
  go_ret
  exact⟨by rw[HD.out];simp,HB.out⟩
 subst e0
 rw[eqD_self] at HD
 by_cases e1:a1=b1
 case neg=>
  rw[eqD_ne e1] at HD
  have q1:=str_ne e1
  have q2:=str_bne e1
  clear e1
  go_enter Tryz.func102,Tryz.ntmps102
  go_wp2
  go_ret
  exact⟨by rw[HD.out];simp,HB.out⟩
 subst e1
 rw[eqD_self] at HD
 by_cases e2:a2=b2
 case neg=>
  rw[eqD_ne e2] at HD
  have q1:(a2==b2)=false:=by simpa using e2
  have q2:(a2 != b2)=true:=by simpa using e2
  clear e2
  go_enter Tryz.func102,Tryz.ntmps102
  go_wp2
  go_ret
  exact⟨by rw[HD.out];simp,HB.out⟩
 subst e2
 rw[eqD_self] at HD
 go_enter Tryz.func102,Tryz.ntmps102
 go_wp2_with fail
 refine hMo HC ?_
 rintro e w6 ⟨rfl,hb6⟩
 have HB6:Hid _:=below_tr HB.out hb6
 clear hb6
 generalize eqD x.items y.items=Q at *
 go_wp2
 go_ret
 exact⟨by rw[HD.out];cases Q<;>rfl,HB6.out⟩
theorem sl_none {w:World} {B:Nat} {l:List It} {v:Value} (h:Sl w B 4 (ItV w B 0) l v):l=[]:=by
 cases l with
 | nil=>rfl
 | cons x l=>
  obtain⟨a,c,rfl,_,_,hr⟩:=h
  obtain⟨b,o,us,_,_,hf,_⟩:=hr 0 x rfl
  exact hf.elim
theorem equalF_nil (v1 v2:Value) (w:World) (h1:Sl w w.heap.size 4 (ItV w w.heap.size 0) [] v1) (h2:Sl w w.heap.size 4 (ItV w w.heap.size 0) [] v2) :
  Calls Tryz.prog 101 #[v1,v2,.func (.func 102) #[] #[]] w fun e w'=>e=.returned (.bool (eqD ([]:List It) []))∧Below w.heap.size w w':=by
 obtain⟨a1,p1,rfl,_,_,_⟩:=h1
 obtain⟨a2,p2,rfl,_,_,_⟩:=h2
 have HE:Hid (eqD ([]:List It) []=true):=eqD_self
 go_enter Tryz.func101,Tryz.ntmps101
 go_wp2
 go_loopw[7,8,9,17] (fun _ _ _ iv W=>iv=.int .i64 0∧W=w) (fun _ _ _ iv _=>0)
 case atStart=>exact⟨rfl,rfl⟩
 case round=>
  obtain⟨rfl,rfl⟩:=hrel
  go_wp2
  go_ret
  exact⟨by rw[HE.out];rfl,Below.refl _ _⟩
theorem same_items:∀(f:Nat) (l1 l2:List It) (v1 v2:Value) (w:World),Sl w w.heap.size 4 (ItV w w.heap.size f) l1 v1→Sl w w.heap.size 4 (ItV w w.heap.size f) l2 v2→Calls Tryz.prog 101 #[v1,v2,.func (.func 102) #[] #[]] w fun e w'=>e=.returned (.bool (eqD l1 l2))∧Below w.heap.size w w'
 | 0,l1,l2,v1,v2,w,h1,h2=>by
  obtain rfl:=sl_none h1
  obtain rfl:=sl_none h2
  exact (equalF_nil v1 v2 w h1 h2).mono (fun e w' h=>h)
 | f+1,l1,l2,v1,v2,w,h1,h2=>equalF_item f l1 l2 v1 v2 w h1 h2 (fun x y v u W g1 g2=>same_item1 f x y v u W g1 g2 (fun l1 l2 v1 v2 w k1 k2=>same_items f l1 l2 v1 v2 w k1 k2))
theorem same_box (f:Nat) (x y:Bo) (v u:Value) (w:World) (h1:Sl w w.heap.size 4 (ItV w w.heap.size f) x.items v) (h2:Sl w w.heap.size 4 (ItV w w.heap.size f) y.items u) :
  Calls Tryz.prog 53 #[.agg #[.string x.cons,v],.agg #[.string y.cons,u]] w fun e w'=>e=.returned (.bool (eqD x y))∧Below w.heap.size w w':=by
 have HD:Hid _:=eqBo x y
 generalize eqD x y=R at *
 obtain⟨a0,ha0⟩:∃q,x.cons=q:=⟨_,rfl⟩
 rw[ha0] at HD ⊢
 obtain⟨b0,hb0⟩:∃q,y.cons=q:=⟨_,rfl⟩
 rw[hb0] at HD ⊢
 clear ha0 hb0
 obtain⟨w1,hw1⟩:∃w1,w.alloc (.cells #[.string a0,v] 64)=w1:=⟨_,rfl⟩
 obtain⟨w2,hw2⟩:∃w2,w1.alloc (.cells #[.string b0,u] 64)=w2:=⟨_,rfl⟩
 have bb1:Below w.heap.size w w1:=by rw[←hw1];exact (Below.refl _ _).alloc (Nat.le_refl _) _
 have bb2:Below w1.heap.size w1 w2:=by rw[←hw2];exact (Below.refl _ _).alloc (Nat.le_refl _) _
 have z1:w.heap.size<w1.heap.size:=by rw[←hw1];simp
 have hB:=below_tr bb1 bb2
 have r0:w2.cell? ⟨w.heap.size,0,none⟩=some (.string a0):=(bb2.cell (p:=⟨w.heap.size,0,none⟩) z1).trans (by rw[←hw1];exact cell_new 0 rfl)
 have r1:w2.cell? ⟨w.heap.size,1,none⟩=some (v):=(bb2.cell (p:=⟨w.heap.size,1,none⟩) z1).trans (by rw[←hw1];exact cell_new 1 rfl)
 have j0:w2.cell? ⟨w1.heap.size,0,none⟩=some (.string b0):=by rw[←hw2];exact cell_new 0 rfl
 have j1:w2.cell? ⟨w1.heap.size,1,none⟩=some (u):=by rw[←hw2];exact cell_new 1 rfl
 have HC:=hU (same_items f x.items y.items v u w2 (h1.keep hB hB.size (fun _ _ _ h=>h.keep hB hB.size)) (h2.keep hB hB.size (fun _ _ _ h=>h.keep hB hB.size)))
 have HB:=hHi hB
 clear bb1 bb2 hB h1 h2
 by_cases e0:a0=b0
 case neg=>
  rw[eqD_ne e0] at HD
  have q1:=str_ne e0
  have q2:=str_bne e0
  clear e0
  go_enter Tryz.func53,Tryz.ntmps53
  go_wp2
  go_ret
  exact⟨by rw[HD.out];simp,HB.out⟩
 subst e0
 rw[eqD_self] at HD
 go_enter Tryz.func53,Tryz.ntmps53
 go_wp2_with fail
 refine hMo HC ?_
 rintro e w6 ⟨rfl,hb6⟩
 have HB6:Hid _:=below_tr HB.out hb6
 clear hb6
 generalize eqD x.items y.items=Q at *
 go_wp2
 go_ret
 exact⟨by rw[HD.out];cases Q<;>rfl,HB6.out⟩
theorem equalF_box (f:Nat) (l1 l2:List Bo) (v1 v2:Value) (w:World) (h1:Sl w w.heap.size 2 (BoV w w.heap.size f) l1 v1) (h2:Sl w w.heap.size 2 (BoV w w.heap.size f) l2 v2)
  (HK0:∀(x y:Bo) (v u:Value) (W:World),Sl W W.heap.size 4 (ItV W W.heap.size f) x.items v→Sl W W.heap.size 4 (ItV W W.heap.size f) y.items u→Calls Tryz.prog 53 #[.agg #[.string x.cons,v],.agg #[.string y.cons,u]] W fun e w'=>e=.returned (.bool (eqD x y))∧Below W.heap.size W w') :
  Calls Tryz.prog 52 #[v1,v2,.func (.func 53) #[] #[]] w fun e w'=>e=.returned (.bool (eqD l1 l2))∧Below w.heap.size w w':=by
 obtain⟨a1,p1,rfl,_,hl1,hr1⟩:=h1
 obtain⟨a2,p2,rfl,_,hl2,hr2⟩:=h2
 obtain⟨N,hN⟩:∃N,l1.length=N:=⟨_,rfl⟩
 obtain⟨M,hM⟩:∃M,l2.length=M:=⟨_,rfl⟩
 have HR1:=hHi hr1
 have HR2:=hHi hr2
 have HN:=hHi hN
 have HM:=hHi hM
 have HK:=hHi HK0
 rw[hN] at hl1 ⊢
 rw[hM] at hl2 ⊢
 clear hr1 hr2 hN hM HK0
 by_cases hlen:N=M
 case neg=>
  have HF:Hid _:=eqD_len (l:=l1) (m:=l2) (by rw[HN.out,HM.out];exact hlen)
  have q1:((N:Int) != (M:Int))=true:=by simp;omega
  have q2:¬(N:Int)=(M:Int):=by omega
  clear hlen
  go_enter Tryz.func52,Tryz.ntmps52
  go_wp2
  go_ret
  exact⟨by rw[HF.out];rfl,Below.refl _ _⟩
 subst hlen
 go_enter Tryz.func52,Tryz.ntmps52
 go_wp2
 go_loopw[7,8,9,17] (fun _ _ _ iv W=>∃k:Nat,k≤N∧iv=.int .i64 k∧l1.take k=l2.take k∧Below w.heap.size w W) (fun _ _ _ iv _=>N-(intOf iv).toNat)
 case atStart=>exact⟨0,Nat.zero_le _,rfl,rfl,Below.refl _ _⟩
 case round=>
  obtain⟨k,hk,rfl,hh,hB⟩:=hrel
  have HH:=hHi hh
  clear hh
  by_cases hlt:k<N
  ·obtain⟨x,hx⟩:∃x,l1[k]?=some x:=⟨l1[k]'(by rw[HN.out];exact hlt),by simp⟩
   obtain⟨y,hy⟩:∃y,l2[k]?=some y:=⟨l2[k]'(by rw[HM.out];exact hlt),by simp⟩
   obtain⟨b,o,us,hb,hlb,⟨u1,rfl,hfx⟩,hc⟩:=HR1.out k x hx
   obtain⟨b2,o2,us,hb2,hlb2,⟨u2,rfl,hfy⟩,hd⟩:=HR2.out k y hy
   subst hb
   subst hb2
   have hq_:=hcb hB hlb hc
   have s0:=hq_ 0 _ rfl
   have s1:=hq_ 1 _ rfl
   clear hq_
   rw[Nat.add_zero] at s0
   have hq_:=hcb hB hlb2 hd
   have t0:=hq_ 0 _ rfl
   have t1:=hq_ 1 _ rfl
   clear hq_
   rw[Nat.add_zero] at t0
   have hltI:(k:Int)<N:=by omega
   clear hc hd
   have hx0:=hfx
   obtain⟨ua1,uc1,rfl,_⟩:=hx0
   have hy0:=hfy
   obtain⟨ua2,uc2,rfl,_⟩:=hy0
   obtain⟨W1,hW1⟩:∃W1,wr.alloc (.cells #[.string x.cons,(.slice ua1 x.items.length uc1)] 64)=W1:=⟨_,rfl⟩
   obtain⟨W2,hW2⟩:∃W2,W1.alloc (.cells #[.string y.cons,(.slice ua2 y.items.length uc2)] 64)=W2:=⟨_,rfl⟩
   have bb1:Below wr.heap.size wr W1:=by rw[←hW1];exact (Below.refl _ _).alloc (Nat.le_refl _) _
   have bb2:Below W1.heap.size W1 W2:=by rw[←hW2];exact (Below.refl _ _).alloc (Nat.le_refl _) _
   have z1:wr.heap.size<W1.heap.size:=by rw[←hW1];simp
   have hB1:=below_tr hB bb1
   have hB2:=below_tr hB1 bb2
   have y0:W1.cell? ⟨b2,o2+k*2,none⟩=some (.string y.cons):=by
    have:=(bb1.cell (p:=⟨b2,o2+k*2,none⟩) (Nat.lt_of_lt_of_le hlb2 hB.size)).trans t0
    exact this
   have y1:W1.cell? ⟨b2,o2+k*2+1,none⟩=some ((.slice ua2 y.items.length uc2)):=by
    have:=(bb1.cell (p:=⟨b2,o2+k*2+1,none⟩) (Nat.lt_of_lt_of_le hlb2 hB.size)).trans t1
    exact this
   have r0:W2.cell? ⟨wr.heap.size,0,none⟩=some (.string x.cons):=(bb2.cell (p:=⟨wr.heap.size,0,none⟩) z1).trans (by rw[←hW1];exact cell_new 0 rfl)
   have r1:W2.cell? ⟨wr.heap.size,1,none⟩=some ((.slice ua1 x.items.length uc1)):=(bb2.cell (p:=⟨wr.heap.size,1,none⟩) z1).trans (by rw[←hW1];exact cell_new 1 rfl)
   have j0:W2.cell? ⟨W1.heap.size,0,none⟩=some (.string y.cons):=by rw[←hW2];exact cell_new 0 rfl
   have j1:W2.cell? ⟨W1.heap.size,1,none⟩=some ((.slice ua2 y.items.length uc2)):=by rw[←hW2];exact cell_new 1 rfl
   clear t0 t1 bb1 bb2 hB1
   have HC:=hU (HK.out x y (.slice ua1 x.items.length uc1) (.slice ua2 y.items.length uc2) W2 (hfx.keep hB2 hB2.size (fun _ _ _ h=>h.keep hB2 hB2.size)) (hfy.keep hB2 hB2.size (fun _ _ _ h=>h.keep hB2 hB2.size)))
   have HBW:=hHi hB2
   clear hfx hfy hB2
   by_cases he:x=y
   ·have HT1:Hid (l1.take (k+1)=l2.take (k+1)):=take_one hx (by rw[he];exact hy) HH.out
    rw[eqD_iff.2 he] at HC
    clear hx hy he
    go_wp2_with fail
    refine hMo HC ?_
    rintro e w6 ⟨rfl,hb6⟩
    have HB6:Hid _:=below_tr HBW.out hb6
    clear hb6
    go_wp2
    go_roundw
    case rel=>exact⟨k+1,by omega,by go_num,HT1.out,HB6.out⟩
    case measure=>simp[intOf];omega
   ·have HF:Hid _:=eqD_at hx hy he
    rw[eqD_ne he] at HC
    clear hx hy he
    go_wp2_with fail
    refine hMo HC ?_
    rintro e w6 ⟨rfl,hb6⟩
    have HB6:Hid _:=below_tr HBW.out hb6
    clear hb6
    go_wp2
    go_ret
    exact⟨by rw[HF.out];rfl,HB6.out⟩
  ·obtain rfl:k=N:=by omega
   have HE:Hid _:=eqD_end HN.out HM.out HH.out
   go_wp2
   go_ret
   exact⟨by rw[HE.out];rfl,hB⟩
end Go.Proofs.YtcpakcffiopfjaaGreatDoor
