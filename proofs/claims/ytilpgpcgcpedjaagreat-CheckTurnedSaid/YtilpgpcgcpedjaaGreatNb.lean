/- What is wrong with alive's two fixed definitions, plainly. -/
import Derived.Test.YtilpgpcgcpedjaaGreatNa
namespace Go.Proofs.YtilpgpcgcpedjaaGreat
open Go.RowKit
set_option linter.unusedVariables false
set_option linter.unusedSimpArgs false
set_option maxRecDepth 100000
set_option maxHeartbeats 16000000
def cE:ByteArray:=⟨#[69]⟩
def cN:ByteArray:=⟨#[78]⟩
def syS (k:Int) (t:ByteArray) (a:Nat) (n:ByteArray):Sy:=⟨k,t,⟨a,0,0,0⟩,n,⟨#[]⟩⟩
def pr1:Pr:=⟨false,cE,⟨#[65]⟩,false,[syS 3 ⟨#[]⟩ 0 cE,syS 1 ⟨#[43]⟩ 0 ⟨#[]⟩,syS 3 ⟨#[]⟩ 0 cE]⟩
def pr2 (nm:ByteArray):Pr:=⟨false,cE,cN,false,[syS 3 ⟨#[]⟩ 0 nm]⟩
def pr3:Pr:=⟨true,cN,⟨#[]⟩,false,[syS 6 ⟨#[]⟩ 1 ⟨#[]⟩]⟩
def dn (nm:ByteArray):Df:=⟨cE,⟨#[]⟩,[pr1,pr2 nm,pr3],[],[],[],[]⟩
theorem bare1:bareL pr1=[]:=by rfl
theorem bare3:bareL pr3=[]:=by rfl
theorem bareN:bareL (pr2 cN)=[cN]:=by rfl
theorem bareE:bareL (pr2 cE)=[cE]:=by rfl
theorem step_dn {nm:ByteArray} {a b:ByteArray} (h:Step (dn nm).prods bareL a b):a=cE∧b∈bareL (pr2 nm):=by
 obtain⟨p,hp,hs,hb⟩:=h
 simp[dn] at hp
 rcases hp with rfl|rfl|rfl
 ·rw[bare1] at hb
  cases hb
 ·exact ⟨hs.symm,hb⟩
 ·rw[bare3] at hb
  cases hb
theorem ne_NE:cN≠cE:=by decide
theorem cyc_N (s:ByteArray):cycB (dn cN) s=false:=by
 cases h:cycB (dn cN) s with
 | false=>rfl
 | true=>
  exfalso
  have hf:=farB_iff.1 h
  have h1:s=cN∧s=cE:=by
   refine ⟨?_,?_⟩
   ·refine hf.mem (fun x=>x=cN) (fun x hx=>?_) (fun x y hx hy=>?_)
    ·have:=(step_dn hx).2
     rw[bareN] at this
     simpa using this
    ·have:=(step_dn hy).2
     rw[bareN] at this
     simpa using this
   ·cases hf with
    | one h=>exact (step_dn h).1
    | more g h=>
     have:=(step_dn h).1
     have hx:=g.mem (fun x=>x=cN) (fun x hx=>by
      have:=(step_dn hx).2
      rw[bareN] at this
      simpa using this) (fun x y hx hy=>by
      have:=(step_dn hy).2
      rw[bareN] at this
      simpa using this)
     rw[this] at hx
     exact absurd hx.symm ne_NE
  exact ne_NE (h1.1.symm.trans h1.2)
theorem cyc_E:cycB (dn cE) cE=true:=farB_iff.2 (.one ⟨pr2 cE,by simp[dn],rfl,by rw[bareE];simp⟩)
theorem sy3 (nm':ByteArray) (h:nm nm'=true):symB (syS 3 ⟨#[]⟩ 0 nm')=true:=by
 refine (if_neg (by show ¬(3:Int)=1;decide)).trans ((if_neg (by show ¬(3:Int)=2;decide)).trans ((if_pos rfl).trans ?_))
 rw[show eqS (syS 3 ⟨#[]⟩ 0 nm') ⟨(syS 3 ⟨#[]⟩ 0 nm').kind,⟨#[]⟩,⟨0,0,0,0⟩,(syS 3 ⟨#[]⟩ 0 nm').name,⟨#[]⟩⟩=true from eqS_iff.2 rfl]
 exact h
theorem sy1:symB (syS 1 ⟨#[43]⟩ 0 ⟨#[]⟩)=true:=by
 refine (if_pos rfl).trans ?_
 rw[show eqS (syS 1 ⟨#[43]⟩ 0 ⟨#[]⟩) ⟨(syS 1 ⟨#[43]⟩ 0 ⟨#[]⟩).kind,(syS 1 ⟨#[43]⟩ 0 ⟨#[]⟩).text,⟨0,0,0,0⟩,⟨#[]⟩,⟨#[]⟩⟩=true from eqS_iff.2 rfl]
 decide
theorem sy6:symB (syS 6 ⟨#[]⟩ 1 ⟨#[]⟩)=true:=by
 refine (if_neg (by decide)).trans ((if_neg (by decide)).trans ((if_neg (by decide)).trans ((if_neg (by decide)).trans ((if_neg (by decide)).trans ((if_pos rfl).trans ?_)))))
 refine (if_pos (by decide)).trans ?_
 exact eqS_iff.2 rfl
theorem pr_ok (p:Pr) (h:(nm p.sort&&nmN p.cons&&!(p.lex&&p.bracket||!p.lex&&p.bracket==!em p.cons)&&btw p.syms.length 12)=true) (hs:∀x∈p.syms,symB x=true):prodB p=true:=by
 unfold prodB
 rw[h,List.all_eq_true.2 hs]
 rfl
theorem right_dn (nm':ByteArray) (h:nm nm'=true):rightB (dn nm')=true:=by
 refine (right_iff _).2 ⟨(by decide:nmN cE=true),(by decide:nmN ⟨#[]⟩=true),by show 3≤200;decide,?_,nofun,nofun,nofun,nofun⟩
 intro p hp
 simp[dn] at hp
 rcases hp with rfl|rfl|rfl
 ·refine pr_ok _ (by decide) ?_
  intro x hx
  simp[pr1] at hx
  rcases hx with rfl|rfl|rfl
  ·exact sy3 _ (by decide)
  ·exact sy1
  ·exact sy3 _ (by decide)
 ·refine pr_ok _ (by decide:(nm cE&&nmN cN&&!(false&&false||!false&&false==!em cN)&&btw 1 12)=true) ?_
  intro x hx
  simp[pr2] at hx
  subst hx
  exact sy3 _ h
 ·refine pr_ok _ (by decide) ?_
  intro x hx
  simp[pr3] at hx
  subst hx
  exact sy6
theorem right_N:rightB (dn cN)=true:=right_dn _ (by decide)
theorem right_E:rightB (dn cE)=true:=right_dn _ (by decide)
theorem srt_dn (nm:ByteArray):srt (dn nm).prods=[cE,cN]:=by rfl
theorem lines_dn:lines (dn cN) 14=none:=by
 have h:∀k,k<14→line (dn cN) k=none
  | 0,_=>by rfl
  | 1,_=>by rfl
  | 2,_=>by rfl
  | 3,_=>by rfl
  | 4,_=>by rfl
  | 5,_=>by rfl
  | 6,_=>by rfl
  | 7,_=>by rfl
  | 8,_=>by rfl
  | 9,_=>by
   show tell 48 ((srt (dn cN).prods).find? (cycB (dn cN)))=none
   rw[srt_dn]
   simp[List.find?,cyc_N,tell]
  | 10,_=>by rfl
  | 11,_=>by rfl
  | 12,_=>by rfl
  | 13,_=>by rfl
  | k+14,hh=>(Nat.not_lt.2 (Nat.le_add_left 14 k) hh).elim
 unfold lines
 rw[List.findSome?_eq_none_iff]
 intro k hk
 exact h k (by simpa using hk)
theorem lines_de:lines (dn cE) 14=some (48,cE):=by
 have h:∀k,k<9→line (dn cE) k=none
  | 0,_=>by rfl
  | 1,_=>by rfl
  | 2,_=>by rfl
  | 3,_=>by rfl
  | 4,_=>by rfl
  | 5,_=>by rfl
  | 6,_=>by rfl
  | 7,_=>by rfl
  | 8,_=>by rfl
  | k+9,hh=>(Nat.not_lt.2 (Nat.le_add_left 9 k) hh).elim
 refine lines_hit (dn cE) 9 _ (by omega) ?_ ?_
 ·unfold lines
  rw[List.findSome?_eq_none_iff]
  intro k hk
  exact h k (by simpa using hk)
 ·show tell 48 ((srt (dn cE).prods).find? (cycB (dn cE)))=_
  rw[srt_dn]
  simp[List.find?,cyc_E,tell]
theorem chk_N:chk (dn cN) true=(0,no):=by
 unfold chk
 rw[if_pos rfl,lines_dn]
 rfl
theorem chk_E:chk (dn cE) true=(48,cE):=by
 unfold chk
 rw[if_pos rfl,lines_de]
 rfl
theorem few_dn:FewD (dn cN)∧FewD (dn cE):=⟨⟨by decide,by decide,by decide,by decide,by decide⟩,⟨by decide,by decide,by decide,by decide,by decide⟩⟩
theorem row_blk {α:Type} {W:World} {B b n:Nat} {t:TypeId} {cs:Array Value} {V:α→List Value→Prop} {l:List α} (h:Blk W b t cs) (hB:b<B)
  (hr:∀j x,l[j]?=some x→∃vs,V x vs∧∀i v,vs[i]?=some v→cs[j*n+i]?=some v):Row W B n V (some ⟨b,0,none⟩) l:=fun j x hj=>by
 obtain⟨vs,hv,hc⟩:=hr j x hj
 exact ⟨b,0,vs,rfl,hB,hv,fun i v hi=>by rw[Nat.zero_add];exact h.cell _ (hc i v hi)⟩
theorem l1 {α:Type} {a x:α} {j:Nat} (h:[a][j]?=some x):j=0∧a=x:=by
 match j,h with
 | 0,h=>exact ⟨rfl,Option.some.inj h⟩
theorem l3 {α:Type} {a b c x:α} {j:Nat} (h:[a,b,c][j]?=some x):(j=0∧a=x)∨(j=1∧b=x)∨(j=2∧c=x):=by
 match j,h with
 | 0,h=>exact .inl ⟨rfl,Option.some.inj h⟩
 | 1,h=>exact .inr (.inl ⟨rfl,Option.some.inj h⟩)
 | 2,h=>exact .inr (.inr ⟨rfl,Option.some.inj h⟩)
theorem cel5 {v v0 v1 v2 v3 v4:Value} {i m:Nat} {cs:Array Value} (h:[v0,v1,v2,v3,v4][i]?=some v) (h0:cs[m+0]?=some v0) (h1:cs[m+1]?=some v1) (h2:cs[m+2]?=some v2) (h3:cs[m+3]?=some v3) (h4:cs[m+4]?=some v4):cs[m+i]?=some v:=by
 match i,h with
 | 0,h=>exact Option.some.inj h▸h0
 | 1,h=>exact Option.some.inj h▸h1
 | 2,h=>exact Option.some.inj h▸h2
 | 3,h=>exact Option.some.inj h▸h3
 | 4,h=>exact Option.some.inj h▸h4
theorem cel8 {v v0 v1 v2 v3 v4 v5 v6 v7:Value} {i m:Nat} {cs:Array Value} (h:[v0,v1,v2,v3,v4,v5,v6,v7][i]?=some v) (h0:cs[m+0]?=some v0) (h1:cs[m+1]?=some v1) (h2:cs[m+2]?=some v2) (h3:cs[m+3]?=some v3) (h4:cs[m+4]?=some v4) (h5:cs[m+5]?=some v5) (h6:cs[m+6]?=some v6) (h7:cs[m+7]?=some v7):cs[m+i]?=some v:=by
 match i,h with
 | 0,h=>exact Option.some.inj h▸h0
 | 1,h=>exact Option.some.inj h▸h1
 | 2,h=>exact Option.some.inj h▸h2
 | 3,h=>exact Option.some.inj h▸h3
 | 4,h=>exact Option.some.inj h▸h4
 | 5,h=>exact Option.some.inj h▸h5
 | 6,h=>exact Option.some.inj h▸h6
 | 7,h=>exact Option.some.inj h▸h7
structure DnAt (W:World) (nm:ByteArray) (g1 g2 g3 g:Nat):Prop where
 b1:Blk W g1 62 #[.int .i64 3,.string ⟨#[]⟩,.int .u64 0,.int .u64 0,.int .u64 0,.int .u64 0,.string ⟨#[69]⟩,.string ⟨#[]⟩,.int .i64 1,.string ⟨#[43]⟩,.int .u64 0,.int .u64 0,.int .u64 0,.int .u64 0,.string ⟨#[]⟩,.string ⟨#[]⟩,.int .i64 3,.string ⟨#[]⟩,.int .u64 0,.int .u64 0,.int .u64 0,.int .u64 0,.string ⟨#[69]⟩,.string ⟨#[]⟩]
 b2:Blk W g2 62 #[.int .i64 3,.string ⟨#[]⟩,.int .u64 0,.int .u64 0,.int .u64 0,.int .u64 0,.string nm,.string ⟨#[]⟩]
 b3:Blk W g3 62 #[.int .i64 6,.string ⟨#[]⟩,.int .u64 1,.int .u64 0,.int .u64 0,.int .u64 0,.string ⟨#[]⟩,.string ⟨#[]⟩]
 b:Blk W g 44 #[.bool false,.string ⟨#[69]⟩,.string ⟨#[65]⟩,.bool false,.slice (some ⟨g1,0,none⟩) 3 3,.bool false,.string ⟨#[69]⟩,.string ⟨#[78]⟩,.bool false,.slice (some ⟨g2,0,none⟩) 1 1,.bool true,.string ⟨#[78]⟩,.string ⟨#[]⟩,.bool false,.slice (some ⟨g3,0,none⟩) 1 1]
theorem NumAt.dn {W:World} {g1 g2 g3 g:Nat} (h:NumAt W g1 g2 g3 g):DnAt W cN g1 g2 g3 g:=⟨h.b1,h.b2,h.b3,h.b⟩
theorem DnAt.nx {W W':World} {nm:ByteArray} {g1 g2 g3 g:Nat} (h:DnAt W nm g1 g2 g3 g) (hb:Below W.heap.size W W'):DnAt W' nm g1 g2 g3 g:=⟨h.b1.after hb,h.b2.after hb,h.b3.after hb,h.b.after hb⟩
theorem DnAt.put {W:World} {g1 g2 g3 g:Nat} (h:NumAt W g1 g2 g3 g) (n1:g2≠g1) (n3:g2≠g3) (n:g2≠g) (nm:ByteArray):DnAt (W.setCell ⟨g2,6,none⟩ (.string nm)) nm g1 g2 g3 g:=
 ⟨h.b1.put g2 6 _ n1.symm,Blk.set h.b2 6 _,h.b3.put g2 6 _ n3.symm,h.b.put g2 6 _ n.symm⟩
def vals (g:Nat):List Value:=[.string ⟨#[69]⟩,.string ⟨#[]⟩,.slice (some ⟨g,0,none⟩) 3 3,.slice none 0 0,.slice none 0 0,.slice none 0 0,.slice none 0 0]
theorem sl_nil {α:Type} (W:World) (B n:Nat) (V:α→List Value→Prop):Sl W B n V [] (.slice none 0 0):=⟨none,0,rfl,by simp,by simp,fun j x h=>by simp at h⟩
theorem DnAt.da {W:World} {nm:ByteArray} {g1 g2 g3 g:Nat} (h:DnAt W nm g1 g2 g3 g):DA W (dn nm) (vals g):=by
 refine ⟨0,_,_,_,_,_,rfl,⟨_,_,rfl,by show 3≤3;decide,by show 3≤140737488355328;decide,?_⟩,sl_nil _ _ _ _,sl_nil _ _ _ _,sl_nil _ _ _ _,sl_nil _ _ _ _⟩
 refine row_blk h.b h.b.lt (fun j x hj=>?_)
 have hok:∀a,a<18446744073709551616→St.ok ⟨a,0,0,0⟩:=fun a ha=>⟨ha,by show 0<18446744073709551616;decide,by show 0<18446744073709551616;decide,by show 0<18446744073709551616;decide⟩
 rcases l3 hj with ⟨rfl,rfl⟩|⟨rfl,rfl⟩|⟨rfl,rfl⟩
 ·refine ⟨_,⟨_,rfl,_,_,rfl,by show 3≤3;decide,by show 3≤140737488355328;decide,row_blk h.b1 h.b1.lt (fun i y hi=>?_)⟩,fun i v hi=>?_⟩
  ·rcases l3 hi with ⟨rfl,rfl⟩|⟨rfl,rfl⟩|⟨rfl,rfl⟩
   all_goals exact ⟨_,⟨hok 0 (by decide),rfl⟩,fun i v hv=>by exact cel8 hv rfl rfl rfl rfl rfl rfl rfl rfl⟩
  ·exact cel5 hi rfl rfl rfl rfl rfl
 ·refine ⟨_,⟨_,rfl,_,_,rfl,by show 1≤1;decide,by show 1≤140737488355328;decide,row_blk h.b2 h.b2.lt (fun i y hi=>?_)⟩,fun i v hi=>?_⟩
  ·obtain⟨rfl,rfl⟩:=l1 hi
   exact ⟨_,⟨hok 0 (by decide),rfl⟩,fun i v hv=>by exact cel8 hv rfl rfl rfl rfl rfl rfl rfl rfl⟩
  ·exact cel5 hi rfl rfl rfl rfl rfl
 ·refine ⟨_,⟨_,rfl,_,_,rfl,by show 1≤1;decide,by show 1≤140737488355328;decide,row_blk h.b3 h.b3.lt (fun i y hi=>?_)⟩,fun i v hi=>?_⟩
  ·obtain⟨rfl,rfl⟩:=l1 hi
   exact ⟨_,⟨hok 1 (by decide),rfl⟩,fun i v hv=>by exact cel8 hv rfl rfl rfl rfl rfl rfl rfl rfl⟩
  ·exact cel5 hi rfl rfl rfl rfl rfl
theorem DnAt.dO {W:World} {nm:ByteArray} {g1 g2 g3 g:Nat} (h:DnAt W nm g1 g2 g3 g) (hn:nm.size≤maxLen):DO W (dn nm) (vals g):=by
 refine ⟨h.da,⟨0,?_⟩,?_⟩
 ·refine ⟨by show 3*72≤_;decide,by show 0*24≤_;decide,by show 0*48≤_;decide,by show 0*32≤_;decide,by show 0*40≤_;decide,?_,nofun,nofun⟩
  intro p hp
  simp[dn] at hp
  rcases hp with rfl|rfl|rfl
  ·show 3*88≤_;decide
  ·show 1*88≤_;decide
  ·show 1*88≤_;decide
 ·refine ⟨by show 1≤_;decide,by show 0≤_;decide,?_,nofun,nofun,nofun,nofun⟩
  intro p hp
  simp[dn] at hp
  rcases hp with rfl|rfl|rfl
  ·refine ⟨by decide,by decide,?_⟩
   intro s hs
   simp[pr1] at hs
   rcases hs with rfl|rfl|rfl <;> decide
  ·refine ⟨by show 1≤_;decide,by show 1≤_;decide,?_⟩
   intro s hs
   simp[pr2] at hs
   subst hs
   exact hn
  ·refine ⟨by decide,by decide,?_⟩
   intro s hs
   simp[pr3] at hs
   subst hs
   decide
theorem short_dn (nm:ByteArray):(∀p∈(dn nm).prods,∀s∈p.syms,s.text.size≤1000000)∧∀b∈(dn nm).boxes,(lvIts b.items).length≤1000000:=by
 refine ⟨?_,nofun⟩
 intro p hp s hs
 simp[dn] at hp
 rcases hp with rfl|rfl|rfl
 ·simp[pr1] at hs
  rcases hs with rfl|rfl|rfl <;> decide
 ·simp[pr2] at hs
  subst hs
  show 0≤_
  decide
 ·simp[pr3] at hs
  subst hs
  decide
theorem cons_dn:consI (dn cN).prods cN=1:=by decide
end Go.Proofs.YtilpgpcgcpedjaaGreat
