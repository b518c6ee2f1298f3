/- Lists held against one another: slices.Equal. Lists held against one another by a function: slices.EqualFunc; productions, groups, chains, items, templates that are the same. -/
import Derived.Test.YtcpakcffiopfjaaGreatDoorA0
import Derived.Test.YtcpakcffiopfjaaGreatDoorAl
import Derived.Deep.QuietTactic
import Derived.BigQuiet
namespace Go.Proofs.YtcpakcffiopfjaaGreatDoor
open Go.RowKit
set_option linter.unusedVariables false
set_option linter.unusedSimpArgs false
set_option maxRecDepth 100000
set_option maxHeartbeats 16000000
set_option linter.unusedVariables false
set_option linter.unusedSimpArgs false
set_option maxRecDepth 100000
set_option maxHeartbeats 16000000
noncomputable def eqD {α:Type} (x y:α):Bool:=@decide (x=y) (Classical.propDecidable _)
section
variable {α:Type} {x y:α}
theorem eqD_iff:eqD x y=true↔x=y:=by unfold eqD;simp
theorem eqD_ne (h:¬x=y):eqD x y=false:=by unfold eqD;simp[h]
theorem eqD_self:eqD x x=true:=eqD_iff.2 rfl
variable {l m:List α} {k:Nat}
theorem eqD_at (h1:l[k]?=some x) (h2:m[k]?=some y) (h:¬x=y):eqD l m=false:=eqD_ne fun e=>h (by subst e;rw[h1] at h2;exact Option.some.inj h2)
theorem eqD_len (h:¬l.length=m.length):eqD l m=false:=eqD_ne fun e=>h (by rw[e])
theorem take_one (h1:l[k]?=some x) (h2:m[k]?=some x) (h:l.take k=m.take k):l.take (k+1)=m.take (k+1):=by
 have h1:=List.getElem?_eq_some_iff.1 h1
 have h2:=List.getElem?_eq_some_iff.1 h2
 rw[List.take_succ_eq_append_getElem h1.1,List.take_succ_eq_append_getElem h2.1,h,h1.2,h2.2]
theorem eqD_end (h1:l.length=k) (h2:m.length=k) (h:l.take k=m.take k):eqD l m=true:=by
 rw[←h1,List.take_length,h1,←h2,List.take_length] at h
 exact eqD_iff.2 h
end
theorem str_ne {x y:ByteArray} (h:¬x=y):(x.toList==y.toList)=false:=by
 cases hq:x.toList==y.toList
 ·rfl
 ·exact absurd (str_iff.1 (by simpa using hq)) h
theorem str_bne {x y:ByteArray} (h:¬x=y):(x.toList != y.toList)=true:=by unfold bne;rw[str_ne h];rfl
theorem foEq (x y:Fo) (w:World):(Op.equalIn 10000 52 (.agg #[.string x.sort,.int .u64 x.set.a,.int .u64 x.set.b,.int .u64 x.set.c,.int .u64 x.set.d]) (.agg #[.string y.sort,.int .u64 y.set.a,.int .u64 y.set.b,.int .u64 y.set.c,.int .u64 y.set.d])).run Tryz.prog w=.ok (eqD x y) w:=by
 have hp:∀(x0 x1 x2 x3 x4:Value) w,((part 9 #[x0,x1,x2,x3,x4] 0).run Tryz.prog w=.ok x0 w)∧((part 49 #[x0,x1,x2,x3,x4] 1).run Tryz.prog w=.ok (.agg #[x1,x2,x3,x4]) w):=by
  intro x0 x1 x2 x3 x4 w
  refine⟨?_,?_⟩<;>kernel_rfl
 have h0:Tryz.prog.stoodInHeld 52=false:=by kernel_rfl
 have hs:∀(a b:ByteArray) w,(Op.equalIn 9999 9 (.string a) (.string b)).run Tryz.prog w=.ok (a==b) w:=fun a b w=>eqStr 9998 a b w
 rw[show (10000:Nat)=9999+1 from rfl]
 rw[Op.equalIn]
 simp only[Sem.run_bind,run_underlying Tryz.underlying52,Result.andThen_ok]
 simp[h0,hp,hs,eq49e]
 have he:eqD x y=(x.sort==y.sort&&x.set.same y.set):=by
  rw[Bool.eq_iff_iff]
  simp only[Bool.and_eq_true,ba_eq,St.same_eq,eqD_iff]
  constructor
  ·intro h;subst h;exact⟨rfl,rfl⟩
  ·rintro⟨h1,h2⟩;cases x;cases y;simp_all
 rw[he]
 generalize (x.sort==y.sort)=p1
 generalize x.set.same y.set=p2
 cases p1<;>cases p2<;>rfl
theorem reEq (x y:Re) (w:World):(Op.equalIn 10000 73 (.agg #[.string x.sort,.string x.by']) (.agg #[.string y.sort,.string y.by'])).run Tryz.prog w=.ok (eqD x y) w:=by
 have hp:∀(x0 x1:Value) w,((part 9 #[x0,x1] 0).run Tryz.prog w=.ok x0 w)∧((part 9 #[x0,x1] 1).run Tryz.prog w=.ok x1 w):=by
  intro x0 x1 w
  refine⟨?_,?_⟩<;>kernel_rfl
 have h0:Tryz.prog.stoodInHeld 73=false:=by kernel_rfl
 have hs:∀(a b:ByteArray) w,(Op.equalIn 9999 9 (.string a) (.string b)).run Tryz.prog w=.ok (a==b) w:=fun a b w=>eqStr 9998 a b w
 rw[show (10000:Nat)=9999+1 from rfl]
 rw[Op.equalIn]
 simp only[Sem.run_bind,run_underlying Tryz.underlying73,Result.andThen_ok]
 simp[h0,hp,hs]
 have he:eqD x y=(x.sort==y.sort&&x.by' == y.by'):=by
  rw[Bool.eq_iff_iff]
  simp only[Bool.and_eq_true,ba_eq,eqD_iff]
  constructor
  ·intro h;subst h;exact⟨rfl,rfl⟩
  ·rintro⟨h1,h2⟩;cases x;cases y;simp_all
 rw[he]
 generalize (x.sort==y.sort)=p1
 generalize (x.by' == y.by')=p2
 cases p1<;>cases p2<;>rfl
theorem syEq (x y:Sy) (w:World):(Op.equalIn 10000 134 (.agg #[.int .i64 x.kind,.string x.text,.int .u64 x.set.a,.int .u64 x.set.b,.int .u64 x.set.c,.int .u64 x.set.d,.string x.name,.string x.sep]) (.agg #[.int .i64 y.kind,.string y.text,.int .u64 y.set.a,.int .u64 y.set.b,.int .u64 y.set.c,.int .u64 y.set.d,.string y.name,.string y.sep])).run Tryz.prog w=.ok (eqD x y) w:=symEq x y w
theorem below_drew {w W:World} (h:Below w.heap.size w W) (n:Nat):Below w.heap.size w (W.drewN n):=⟨h.os,h.tape,h.output,h.size,h.block⟩
theorem eqPr (x y:Pr):eqD x y=(eqD x.lex y.lex&&eqD x.sort y.sort&&eqD x.cons y.cons&&eqD x.bracket y.bracket&&eqD x.syms y.syms):=by
 rw[Bool.eq_iff_iff];simp only[Bool.and_eq_true,eqD_iff];cases x;cases y;simp[and_assoc]
theorem eqGr (x y:Gr):eqD x y=(eqD x.assoc y.assoc&&eqD x.cons y.cons):=by
 rw[Bool.eq_iff_iff];simp only[Bool.and_eq_true,eqD_iff];cases x;cases y;simp
theorem eqBo (x y:Bo):eqD x y=(eqD x.cons y.cons&&eqD x.items y.items):=by
 rw[Bool.eq_iff_iff];simp only[Bool.and_eq_true,eqD_iff];cases x;cases y;simp
theorem eqIt (x y:It):eqD x y=(eqD x.kind y.kind&&eqD x.text y.text&&eqD x.n y.n&&eqD x.items y.items):=by
 rw[Bool.eq_iff_iff];simp only[Bool.and_eq_true,eqD_iff];cases x;cases y;simp[It.kind,It.text,It.n,It.items,and_assoc]
theorem sl_none {w:World} {B:Nat} {l:List It} {v:Value} (h:Sl w B 4 (ItV w B 0) l v):l=[]:=by
 cases l with
 | nil=>rfl
 | cons x l=>
  obtain⟨a,c,rfl,_,_,hr⟩:=h
  obtain⟨b,o,us,_,_,hf,_⟩:=hr 0 x rfl
  exact hf.elim
end Go.Proofs.YtcpakcffiopfjaaGreatDoor
