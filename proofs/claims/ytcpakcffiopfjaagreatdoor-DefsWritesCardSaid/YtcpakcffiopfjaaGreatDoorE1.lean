/- A definition's words, and what is read of them; plain. Reading hangs on the words that it passes and on the next one alone, and on no place; plain. Statements: what they hang on, and how much they add; plain. What a scanned word says: names, numbers, bytes, sets; plain. -/
import Derived.Test.YtcpakcffiopfjaaGreatDoorC1
import Derived.Test.YtcpakcffiopfjaaGreatDoorA7
import Derived.Test.YtcpakcffiopfjaaGreatDoorA4
import Derived.Test.YtcpakcffiopfjaaGreatDoorA3
import Derived.Test.YtcpakcffiopfjaaGreatDoorB1
import Derived.Lib.ItoaNum
namespace Go.Proofs.YtcpakcffiopfjaaGreatDoor
open Go.RowKit
set_option linter.unusedVariables false
set_option linter.unusedSimpArgs false
set_option maxRecDepth 100000
set_option maxHeartbeats 16000000
set_option linter.unusedVariables false
set_option linter.unusedSimpArgs false
set_option maxRecDepth 100000
set_option maxHeartbeats 16000000
abbrev Tk:=Nat×List UInt8×List Nat×St×Nat
def keyT (t:List UInt8):Tk:=(2,t,[],⟨0,0,0,0⟩,0)
def sgT (t:List UInt8):Tk:=(6,t,[],⟨0,0,0,0⟩,0)
def namT (s:ByteArray):Tk:=(1,s.data.toList,[],⟨0,0,0,0⟩,0)
def bysN (s:ByteArray):List Nat:=s.data.toList.map UInt8.toNat
def quoT (s:ByteArray):Tk:=(4,quoteL (bysN s),bysN s,⟨0,0,0,0⟩,0)
def setT (s:St):Tk:=(5,printL s,[],s,0)
def numT (n:Nat):Tk:=(3,Lib.decDigits n,[],⟨0,0,0,0⟩,n)
def oftK (k:Int):List Tk:=if k=4 then [sgT [63]] else if k=5 then [sgT [42]] else if k=6 then [sgT [43]] else []
def symK (x:Sy):List Tk:=
 if x.kind=1 then [quoT x.text]
 else (if em x.sep then (if em x.name then [setT x.set] else [namT x.name]) else [sgT [123],namT x.name,quoT x.sep,sgT [125]])++oftK x.kind
def consK (c:ByteArray):List Tk:=if em c then [] else [sgT [46],namT c]
def prodK (p:Pr):List Tk:=keyT (if p.lex then [108,101,120] else [99,102])::namT p.sort::(consK p.cons++sgT [61]::(p.syms.flatMap symK++if p.bracket then [keyT [98,114,97,99,107,101,116]] else []))
def assocK (a:Int):List Tk:=if a=1 then [keyT [108,101,102,116]] else if a=2 then [keyT [114,105,103,104,116]] else if a=3 then [keyT [110,111,110]] else []
def groupK (g:Gr):List Tk:=assocK g.assoc++g.cons.map namT
def chainK:List Gr→List Tk
 | []=>[]
 | [g]=>groupK g
 | g::h::l=>groupK g++sgT [62]::chainK (h::l)
mutual
def itemK:It→List Tk
 | .mk k t n l=>
  if k=1 then [quoT t]
  else if k=2 then [numT n.toNat]
  else if k=3 then [sgT [95]]
  else if k=4 then [sgT [47]]
  else if k=5 then keyT [110,101,115,116]::numT n.toNat::sgT [40]::(itemsK l++[sgT [41]])
  else if k=6 then keyT [103,114,111,117,112]::sgT [40]::(itemsK l++[sgT [41]])
  else []
def itemsK:List It→List Tk
 | []=>[]
 | i::l=>itemK i++itemsK l
end
def startK (s:ByteArray):List (List Tk):=if em s then [] else [[keyT [115,116,97,114,116],namT s]]
def layoutK (s:ByteArray):List (List Tk):=if em s then [] else [[keyT [108,97,121,111,117,116],namT s]]
def prioK (c:List Gr):List Tk:=keyT [112,114,105,111]::chainK c
def followK (f:Fo):List Tk:=[keyT [102,111,108,108,111,119],namT f.sort,setT f.set]
def rejectK (r:Re):List Tk:=[keyT [114,101,106,101,99,116],namT r.sort,namT r.by']
def boxK (b:Bo):List Tk:=keyT [98,111,120]::namT b.cons::sgT [61]::itemsK b.items
def stmtsK (d:Df):List (List Tk):=startK d.start++layoutK d.layout++d.prods.map prodK++d.chains.map prioK++d.follows.map followK++d.rejects.map rejectK++d.boxes.map boxK
def Says (A:List Wd) (ts:List Tk):Prop:=A.map cw=ts
theorem Says.nil {A:List Wd} (h:Says A []):A=[]:=by simpa [Says] using h
theorem Says.cons {A:List Wd} {t:Tk} {ts:List Tk} (h:Says A (t::ts)):∃a A',A=a::A'∧cw a=t∧Says A' ts:=by
 cases A with
 | nil=>simp[Says] at h
 | cons a A'=>
  simp only[Says,List.map_cons,List.cons.injEq] at h
  exact⟨a,A',rfl,h.1,h.2⟩
theorem Says.app {A:List Wd} {ts us:List Tk} (h:Says A (ts++us)):∃A1 A2,A=A1++A2∧Says A1 ts∧Says A2 us:=by
 obtain⟨A1,A2,h1,h2,h3⟩:=List.map_eq_append_iff.1 h
 exact⟨A1,A2,h1,h2,h3⟩
theorem Says.one {A:List Wd} {t:Tk} (h:Says A [t]):∃a,A=[a]∧cw a=t:=by
 obtain⟨a,A',rfl,h1,h2⟩:=h.cons
 rw[h2.nil]
 exact⟨a,rfl,h1⟩
theorem cw_fields {a:Wd} {k:Nat} {t:List UInt8} {b:List Nat} {s:St} {n:Nat} (h:cw a=(k,t,b,s,n)):a.kind=k∧a.text=t∧a.bytes=b∧a.set=s∧a.n=n:=by
 simpa [cw] using h
theorem wd_cons (a:Wd) (L:List Wd):wd (a::L)=a:=rfl
theorem isT_cons (t:List UInt8) (a:Wd) (L:List Wd):isT t (a::L)=(a.text==t):=rfl
theorem isT_yes {t:List UInt8} {a:Wd} {L:List Wd} (h:a.text=t):isT t (a::L)=true:=by rw[isT_cons,h];simp
theorem strB_list (s:ByteArray):strB s.data.toList=s:=by simp[strB]
theorem want_back {t:List UInt8} {k:Nat} {a:Wd} {b:List Nat} {s:St} {n:Nat} (h:cw a=(k,t,b,s,n)) (R:List Wd):wantR t (a::R)=.ok () R:=by
 obtain⟨_,h2,_⟩:=cw_fields h
 unfold wantR
 rw[isT_yes h2];rfl
theorem bysN_len (s:ByteArray):(bysN s).length=s.size:=by simp[bysN]
def Loc {α:Type} (f:List Wd→PR α):Prop:=∀L a R,f L=.ok a R→∃C,L=C++R∧∀R',wd R'=wd R→f (C++R')=.ok a R'
def PR.same {α:Type}:PR α→PR α→Prop
 | .ok a R,.ok b R'=>a=b∧R.map cw=R'.map cw
 | .bad _ c,.bad _ c'=>c=c'
 | _,_=>False
def Inv {α:Type} (f:List Wd→PR α):Prop:=∀L L',L.map cw=L'.map cw→PR.same (f L) (f L')
structure Rdr {α:Type} (f:List Wd→PR α):Prop where
 loc:Loc f
 inv:Inv f
theorem wd_app {C R R':List Wd} (h:wd R'=wd R):wd (C++R')=wd (C++R):=by
 cases C with
 | nil=>exact h
 | cons c C=>rfl
theorem wd_cw {L L':List Wd} (h:L.map cw=L'.map cw):cw (wd L)=cw (wd L'):=by
 cases L with
 | nil=>cases L' with
  | nil=>rfl
  | cons x L'=>cases h
 | cons x L=>cases L' with
  | nil=>cases h
  | cons y L'=>simp at h;exact h.1
theorem tail_cw {L L':List Wd} (h:L.map cw=L'.map cw):L.tail.map cw=L'.tail.map cw:=by rw[List.map_tail,List.map_tail,h]
theorem Rdr.ok {α:Type} (a:α):Rdr (fun L=>PR.ok a L):=⟨fun L b R h=>by
 cases h
 exact⟨[],rfl,fun R' _=>rfl⟩,fun _ _ h=>⟨rfl,h⟩⟩
theorem Rdr.bad {α:Type} (p:List Wd→Nat) (c:Nat):Rdr (α:=α) (fun L=>PR.bad (p L) c):=⟨fun L b R h=>(by cases h),fun _ _ _=>rfl⟩
theorem PR.same.bind {α β:Type} {r s:PR α} {g:α→List Wd→PR β} (h:PR.same r s) (hg:∀a,Inv (g a)):PR.same (r.bind g) (s.bind g):=by
 cases r with
 | bad p c=>cases s with
  | bad q d=>exact h
  | ok b R=>exact h.elim
 | ok a R=>cases s with
  | bad q d=>exact h.elim
  | ok b R'=>
   obtain⟨rfl,h⟩:=h
   exact hg a R R' h
theorem Rdr.bind {α β:Type} {f:List Wd→PR α} {g:α→List Wd→PR β} (hf:Rdr f) (hg:∀a,Rdr (g a)):Rdr (fun L=>(f L).bind (g)):=⟨fun L b R h=>by
 try dsimp only at h
 cases h1:f L with
 | bad p c=>rw[h1] at h;cases h
 | ok a R1=>
  rw[h1] at h
  obtain⟨C1,e1,k1⟩:=hf.loc L a R1 h1
  obtain⟨C2,e2,k2⟩:=(hg a).loc R1 b R h
  refine⟨C1++C2,by rw[e1,e2,List.append_assoc],fun R' hR=>?_⟩
  rw[List.append_assoc]
  show (f (C1++(C2++R'))).bind g=_
  rw[k1 (C2++R') (by rw[e2];exact wd_app hR)]
  exact k2 R' hR,fun L L' h=>(hf.inv L L' h).bind (fun a=>(hg a).inv)⟩
theorem Rdr.ite {α:Type} {f g:List Wd→PR α} (p:Tk→Bool) (hf:Rdr f) (hg:Rdr g):Rdr (fun L=>if p (cw (wd L))=true then f L else g L):=⟨fun L a R h=>by
 try dsimp only at h
 cases hp:p (cw (wd L)) with
 | true=>
  rw[if_pos hp] at h
  obtain⟨C,e,k⟩:=hf.loc L a R h
  refine⟨C,e,fun R' hR=>?_⟩
  show (if p (cw (wd (C++R')))=true then _ else _)=_
  rw[show wd (C++R')=wd L by rw[e];exact wd_app hR,if_pos hp]
  exact k R' hR
 | false=>
  rw[if_neg (by rw[hp];simp)] at h
  obtain⟨C,e,k⟩:=hg.loc L a R h
  refine⟨C,e,fun R' hR=>?_⟩
  show (if p (cw (wd (C++R')))=true then _ else _)=_
  rw[show wd (C++R')=wd L by rw[e];exact wd_app hR,if_neg (by rw[hp];simp)]
  exact k R' hR,fun L L' h=>by
 try dsimp only
 rw[wd_cw h]
 split
 ·exact hf.inv L L' h
 ·exact hg.inv L L' h⟩
theorem Rdr.iteTail {α:Type} {f g:List Wd→PR α} (p:Tk→Bool) (hp:p (cw default)=false) (hf:Rdr f) (hg:Rdr g):Rdr (fun L=>if p (cw (wd L))=true then f L.tail else g L):=⟨fun L a R h=>by
 try dsimp only at h
 cases hq:p (cw (wd L)) with
 | true=>
  rw[if_pos hq] at h
  obtain⟨C,e,k⟩:=hf.loc L.tail a R h
  cases L with
  | nil=>rw[show wd []=default from rfl,hp] at hq;cases hq
  | cons x L=>
   refine⟨x::C,by rw[List.cons_append,←e];rfl,fun R' hR=>?_⟩
   show (if p (cw x)=true then f (C++R') else _)=_
   rw[if_pos (show p (cw x)=true from hq)]
   exact k R' hR
 | false=>
  rw[if_neg (by rw[hq];simp)] at h
  obtain⟨C,e,k⟩:=hg.loc L a R h
  refine⟨C,e,fun R' hR=>?_⟩
  show (if p (cw (wd (C++R')))=true then _ else _)=_
  rw[show wd (C++R')=wd L by rw[e];exact wd_app hR,if_neg (by rw[hq];simp)]
  exact k R' hR,fun L L' h=>by
 try dsimp only
 rw[wd_cw h]
 split
 ·exact hf.inv _ _ (tail_cw h)
 ·exact hg.inv L L' h⟩
theorem Rdr.congr {α:Type} {f g:List Wd→PR α} (h:∀L,g L=f L) (hf:Rdr f):Rdr g:=by
 have:g=f:=funext h
 rw[this];exact hf
def txP (t:List UInt8) (x:Tk):Bool:=x.2.1==t
theorem txP_def {t:List UInt8} (h:t≠[]):txP t (cw default)=false:=by
 cases t with
 | nil=>exact absurd rfl h
 | cons c t=>rfl
def kdP (k:Nat) (x:Tk):Bool:=decide (x.1=k)
theorem kd_iff (x:Wd) (k:Nat):kdP k (cw x)=true↔x.kind=k:=by
 unfold kdP
 exact decide_eq_true_iff
theorem kd_not (x:Wd) (k:Nat):kdP k (cw x)=false↔¬x.kind=k:=by
 rw[←kd_iff,Bool.not_eq_true]
def zerP (x:Tk):Bool:=decide (x.2.2.1.length=0)
theorem zer_iff (x:Wd):zerP (cw x)=true↔x.bytes.length=0:=by
 unfold zerP
 exact decide_eq_true_iff
theorem rdr_take (k:Nat) (h:k≠0) {α:Type} (g:Tk→α):Rdr (fun L=>(takeR k L).bind fun x L=>.ok (g (cw x)) L):=⟨fun L a R e=>by
 unfold takeR at e
 try dsimp only at e
 split at e
 ·rename_i hk
  cases e
  cases L with
  | nil=>exact absurd (show (0:Nat)=k from hk).symm h
  | cons x L=>
   refine⟨[x],rfl,fun R' _=>?_⟩
   unfold takeR
   try dsimp only
   rw[List.singleton_append,if_pos (show (wd (x::R')).kind=k from hk)]
   rfl
 ·exact (by cases e),fun L L' h=>by
 have hw:=wd_cw h
 have hk:(wd L).kind=(wd L').kind:=congrArg (fun x:Tk=>x.1) hw
 unfold takeR
 try dsimp only
 rw[hk]
 split
 ·exact⟨congrArg g hw,tail_cw h⟩
 ·rfl⟩
theorem rdr_want {t:List UInt8} (h:t≠[]):Rdr (wantR t):=Rdr.congr (f:=fun L=>if txP t (cw (wd L))=true then PR.ok () L.tail else PR.bad (wd L).fro 30) (fun _=>rfl) (Rdr.iteTail (txP t) (txP_def h) (Rdr.ok ()) (Rdr.bad _ _))
theorem rdr_name:Rdr nameR:=rdr_take 1 (by decide) (fun x=>strB x.2.1)
theorem rdr_set:Rdr setR:=rdr_take 5 (by decide) (fun x=>x.2.2.2.1)
theorem rdr_num:Rdr numR:=rdr_take 3 (by decide) (fun x=>x.2.2.2.2)
def txtP (x:Tk):Bool:=decide (x.1=4)&&decide (32<x.2.2.1.length)
theorem txt_iff (x:Wd):txtP (cw x)=true↔x.kind=4∧32<x.bytes.length:=by
 unfold txtP
 rw[Bool.and_eq_true]
 exact and_congr decide_eq_true_iff decide_eq_true_iff
theorem rdr_text:Rdr textR:=Rdr.congr (f:=fun L=>if txtP (cw (wd L))=true then PR.bad (wd L).fro 2 else (takeR 4 L).bind fun x L=>.ok (bytB (cw x).2.2.1) L) (fun L=>by unfold textR;simp only[txt_iff];rfl) (Rdr.ite txtP (Rdr.bad _ _) (rdr_take 4 (by decide) (fun x=>bytB x.2.2.1)))
theorem rdr_often (s:Sy):Rdr (oftenR s):=
 Rdr.congr (f:=fun L=>if txP [63] (cw (wd L))=true then PR.ok ⟨4,s.text,s.set,s.name,s.sep⟩ L.tail else if txP [42] (cw (wd L))=true then .ok ⟨5,s.text,s.set,s.name,s.sep⟩ L.tail else if txP [43] (cw (wd L))=true then .ok ⟨6,s.text,s.set,s.name,s.sep⟩ L.tail else .ok s L) (fun _=>rfl)
  (Rdr.iteTail _ (txP_def (by simp)) (Rdr.ok _) (Rdr.iteTail _ (txP_def (by simp)) (Rdr.ok _) (Rdr.iteTail _ (txP_def (by simp)) (Rdr.ok _) (Rdr.ok _))))
theorem rdr_braces:Rdr bracesR:=by
 unfold bracesR
 refine Rdr.bind (rdr_want (by simp)) (fun _=>Rdr.bind rdr_name (fun n=>?_))
 refine Rdr.congr (f:=fun L=>if (fun x:Tk=>kdP 4 x&&zerP x) (cw (wd L))=true then PR.bad (wd L).fro 30 else (textR L).bind fun p L=>(wantR [125] L).bind fun _ L=>if (fun x:Tk=>!txP [42] x&&!txP [43] x) (cw (wd L))=true then .bad (wd L).fro 30 else oftenR ⟨0,⟨#[]⟩,⟨0,0,0,0⟩,n,p⟩ L) (fun L=>?_) ?_
 ·have e:∀L:List Wd,(isT [42] L=false∧isT [43] L=false)↔(fun x:Tk=>!txP [42] x&&!txP [43] x) (cw (wd L))=true:=fun L=>by
   show _↔(!isT [42] L&&!isT [43] L)=true
   simp
  simp only[e]
  simp only[Bool.and_eq_true,kd_iff,zer_iff]
 ·exact Rdr.ite (fun x:Tk=>kdP 4 x&&zerP x) (Rdr.bad _ _) (Rdr.bind rdr_text (fun _=>Rdr.bind (rdr_want (by simp)) (fun _=>Rdr.ite (fun x:Tk=>!txP [42] x&&!txP [43] x) (Rdr.bad _ _) (rdr_often _))))
theorem rdr_sym:Rdr symR:=by
 refine Rdr.congr (f:=fun L=>if kdP 4 (cw (wd L))=true then (textR L).bind fun t L=>.ok ⟨1,t,⟨0,0,0,0⟩,⟨#[]⟩,⟨#[]⟩⟩ L else if kdP 1 (cw (wd L))=true then (nameR L).bind fun n L=>oftenR ⟨3,⟨#[]⟩,⟨0,0,0,0⟩,n,⟨#[]⟩⟩ L else if kdP 5 (cw (wd L))=true then (setR L).bind fun s L=>oftenR ⟨2,⟨#[]⟩,s,⟨#[]⟩,⟨#[]⟩⟩ L else bracesR L) (fun L=>by unfold symR;simp only[kd_iff]) ?_
 exact Rdr.ite _ (Rdr.bind rdr_text (fun _=>Rdr.ok _)) (Rdr.ite _ (Rdr.bind rdr_name (fun _=>rdr_often _)) (Rdr.ite _ (Rdr.bind rdr_set (fun _=>rdr_often _)) rdr_braces))
def atP (x:Tk):Bool:=decide (x.1=4)||decide (x.1=1)||decide (x.1=5)||txP [123] x
theorem rdr_syms:∀(f:Nat) (acc:List Sy),Rdr (symsR f acc)
 | 0,acc=>Rdr.bad _ _
 | f+1,acc=>by
  refine Rdr.congr (f:=fun L=>if atP (cw (wd L))=true then (if 12≤acc.length then .bad (wd L).fro 2 else (symR L).bind fun s L=>symsR f (acc++[s]) L) else .ok acc L) (fun L=>by rw[symsR];rfl) ?_
  refine Rdr.ite atP ?_ (Rdr.ok _)
  by_cases h:12≤acc.length
  ·simp only[if_pos h];exact Rdr.bad _ _
  ·simp only[if_neg h];exact Rdr.bind rdr_sym (fun _=>rdr_syms f _)
theorem rdr_syms1:Rdr syms1:=Rdr.bind rdr_sym (fun _=>rdr_syms 13 _)
def assocP (x:Tk):Int:=if txP [108,101,102,116] x then 1 else if txP [114,105,103,104,116] x then 2 else if txP [110,111,110] x then 3 else 0
theorem assoc_wd (L:List Wd):assocB L=assocP (cw (wd L)):=rfl
theorem rdr_names:∀(f:Nat) (acc:List ByteArray),Rdr (namesR f acc)
 | 0,acc=>Rdr.bad _ _
 | f+1,acc=>by
  refine Rdr.congr (f:=fun L=>if kdP 1 (cw (wd L))=true then (if 16≤acc.length then .bad (wd L).fro 2 else (nameR L).bind fun s L=>namesR f (acc++[s]) L) else .ok acc L) (fun L=>by rw[namesR];simp only[kd_iff]) ?_
  refine Rdr.ite _ ?_ (Rdr.ok _)
  by_cases h:16≤acc.length
  ·simp only[if_pos h];exact Rdr.bad _ _
  ·simp only[if_neg h];exact Rdr.bind rdr_name (fun _=>rdr_names f _)
def grpR (a:Int) (L:List Wd):PR Gr:=(nameR L).bind fun n L'=>(namesR 17 [n] L').bind fun ns L'=>.ok ⟨a,ns⟩ L'
theorem rdr_grp (a:Int):Rdr (grpR a):=Rdr.bind rdr_name (fun _=>Rdr.bind (rdr_names 17 _) (fun _=>Rdr.ok _))
theorem rdr_group (h:Nat):Rdr (groupR h):=by
 by_cases hh:16≤h
 ·refine Rdr.congr (f:=fun L=>if (fun x:Tk=>decide (assocP x=0)&&!kdP 1 x) (cw (wd L))=true then .bad (wd L).fro 30 else .bad (wd L).fro 2) (fun L=>?_) (Rdr.ite (fun x:Tk=>decide (assocP x=0)&&!kdP 1 x) (Rdr.bad _ _) (Rdr.bad _ _))
  unfold groupR
  rw[if_pos hh,assoc_wd]
  simp only[Bool.and_eq_true,decide_eq_true_eq,Bool.not_eq_true',kd_not]
 ·refine Rdr.congr (f:=fun L=>if (fun x:Tk=>decide (assocP x=0)&&!kdP 1 x) (cw (wd L))=true then .bad (wd L).fro 30 else if (txP [108,101,102,116]) (cw (wd L))=true then grpR 1 L.tail else if (txP [114,105,103,104,116]) (cw (wd L))=true then grpR 2 L.tail else if (txP [110,111,110]) (cw (wd L))=true then grpR 3 L.tail else grpR 0 L) (fun L=>?_) (Rdr.ite (fun x:Tk=>decide (assocP x=0)&&!kdP 1 x) (Rdr.bad _ _) (Rdr.iteTail _ (txP_def (by simp)) (rdr_grp 1) (Rdr.iteTail _ (txP_def (by simp)) (rdr_grp 2) (Rdr.iteTail _ (txP_def (by simp)) (rdr_grp 3) (rdr_grp 0)))))
  unfold groupR
  rw[if_neg hh,assoc_wd]
  have e:((fun x:Tk=>decide (assocP x=0)&&!kdP 1 x) (cw (wd L))=true)=(assocP (cw (wd L))=0∧(wd L).kind≠1):=by simp only[Bool.and_eq_true,decide_eq_true_eq,Bool.not_eq_true',kd_not]
  by_cases h0:assocP (cw (wd L))=0∧(wd L).kind≠1
  ·rw[if_pos h0,if_pos (by rw[e];exact h0)]
  refine (if_neg h0).trans (Eq.trans ?_ (if_neg (by rw[e];exact h0)).symm)
  unfold assocP
  cases h1:txP [108,101,102,116] (cw (wd L))
  ·cases h2:txP [114,105,103,104,116] (cw (wd L))
   ·cases h3:txP [110,111,110] (cw (wd L))
    ·rfl
    ·rfl
   ·rfl
  ·rfl
theorem rdr_groups:∀(f:Nat) (acc:List Gr),Rdr (groupsR f acc)
 | 0,acc=>Rdr.bad _ _
 | f+1,acc=>by
  have:Rdr (fun L=>(groupR acc.length L).bind fun g L=>if txP [62] (cw (wd L))=true then groupsR f (acc++[g]) L.tail else .ok (acc++[g]) L):=Rdr.bind (rdr_group _) (fun _=>Rdr.iteTail _ (txP_def (by simp)) (rdr_groups f _) (Rdr.ok _))
  exact Rdr.congr (fun L=>by rw[groupsR];rfl) this
def itemP (x:Tk):Nat:=if x.1=4 then 1 else if x.1=3 then 2 else if txP [95] x then 3 else if txP [47] x then 4 else if txP [110,101,115,116] x then 5 else if txP [103,114,111,117,112] x then 6 else 0
theorem itemK_wd (L:List Wd):itemKB L=itemP (cw (wd L)):=rfl
theorem rdr_items:∀(f h:Nat) (acc:List It),Rdr (itemsR f h acc)
 | 0,h,acc=>Rdr.bad _ _
 | f+1,h,acc=>by
  have ihi:=rdr_items f
  refine Rdr.congr (f:=fun L=>if decide (itemP (cw (wd L))=0)=true then .ok (h,acc) L else if (fun _:Tk=>decide (64≤h)) (cw (wd L))=true then .bad (wd L).fro 2
   else if (fun x=>decide (itemP x=1)) (cw (wd L))=true then (textR L).bind fun t L=>itemsR f (h+1) (acc++[.mk 1 t 0 []]) L
   else if (fun x=>decide (itemP x=2)) (cw (wd L))=true then (numR L).bind fun n L=>itemsR f (h+1) (acc++[.mk 2 ⟨#[]⟩ n []]) L
   else if (fun x=>decide (itemP x=3)) (cw (wd L))=true then itemsR f (h+1) (acc++[.mk 3 ⟨#[]⟩ 0 []]) L.tail
   else if (fun x=>decide (itemP x=4)) (cw (wd L))=true then itemsR f (h+1) (acc++[.mk 4 ⟨#[]⟩ 0 []]) L.tail
   else if (fun x=>decide (itemP x=5)) (cw (wd L))=true then (fun L=>(numR L).bind fun n L=>(wantR [40] L).bind fun _ L=>(itemsR f (h+1) [] L).bind fun q L=>(wantR [41] L).bind fun _ L=>itemsR f q.1 (acc++[.mk 5 ⟨#[]⟩ n q.2]) L) L.tail
   else if (fun x=>decide (itemP x=6)) (cw (wd L))=true then (fun L=>(wantR [40] L).bind fun _ L=>(itemsR f (h+1) [] L).bind fun q L=>(wantR [41] L).bind fun _ L=>itemsR f q.1 (acc++[.mk 6 ⟨#[]⟩ 0 q.2]) L) L.tail
   else .bad (wd L).fro 0) (fun L=>?_) ?_
  ·rw[itemsR,itemK_wd]
   simp only[decide_eq_true_eq]
   by_cases h0:itemP (cw (wd L))=0
   ·rw[if_pos h0,if_pos h0]
   rw[if_neg h0,if_neg h0]
   split
   ·rfl
   split
   ·rfl
   split
   ·rfl
   split
   ·rfl
   split
   ·rfl
   split
   ·rfl
   rename_i h1 h2 h3 h4 h5
   have:itemP (cw (wd L))=6:=by
    revert h0 h1 h2 h3 h4 h5
    unfold itemP
    repeat' split
    all_goals simp
   rw[if_pos this]
  ·exact Rdr.ite (fun x=>decide (itemP x=0)) (Rdr.ok _) (Rdr.ite (fun _:Tk=>decide (64≤h)) (Rdr.bad (fun L=>(wd L).fro) 2) (Rdr.ite (fun x=>decide (itemP x=1)) (Rdr.bind rdr_text (fun _=>ihi _ _)) (Rdr.ite (fun x=>decide (itemP x=2)) (Rdr.bind rdr_num (fun _=>ihi _ _)) (Rdr.iteTail (fun x=>decide (itemP x=3)) rfl (ihi _ _) (Rdr.iteTail (fun x=>decide (itemP x=4)) rfl (ihi _ _) (Rdr.iteTail (fun x=>decide (itemP x=5)) rfl (Rdr.bind rdr_num (fun _=>Rdr.bind (rdr_want (t:=[40]) (by simp)) (fun _=>Rdr.bind (ihi _ _) (fun _=>Rdr.bind (rdr_want (t:=[41]) (by simp)) (fun _=>ihi _ _))))) (Rdr.iteTail (fun x=>decide (itemP x=6)) rfl (Rdr.bind (rdr_want (t:=[40]) (by simp)) (fun _=>Rdr.bind (ihi _ _) (fun _=>Rdr.bind (rdr_want (t:=[41]) (by simp)) (fun _=>ihi _ _)))) (Rdr.bad (fun L=>(wd L).fro) 0))))))))
theorem rdr_lex:∀(f:Nat) (s c:ByteArray) (ps:List Pr),Rdr (lexR f s c ps)
 | 0,s,c,ps=>Rdr.bad _ _
 | f+1,s,c,ps=>by
  have ih:=fun ps=>rdr_lex f s c ps
  have:Rdr (fun L=>(syms1 L).bind fun y L=>if txP [124] (cw (wd L))=true then (if 200≤ps.length+1 then .bad (wd L).fro 2 else lexR f s c (ps++[⟨true,s,c,false,y⟩]) L.tail) else .ok (ps++[⟨true,s,c,false,y⟩]) L):=by
   refine Rdr.bind rdr_syms1 (fun y=>?_)
   by_cases h:200≤ps.length+1
   ·simp only[if_pos h]
    exact Rdr.ite _ (Rdr.bad _ _) (Rdr.ok _)
   ·simp only[if_neg h]
    exact Rdr.iteTail _ (txP_def (by simp)) (ih _) (Rdr.ok _)
  exact Rdr.congr (fun L=>by rw[lexR];rfl) this
theorem rdr_cons:Rdr consR:=Rdr.congr (f:=fun L=>if txP [46] (cw (wd L))=true then nameR L.tail else .ok ⟨#[]⟩ L) (fun _=>rfl) (Rdr.iteTail _ (txP_def (by simp)) rdr_name (Rdr.ok _))
theorem Rdr.iteTailC {α:Type} {f g:List Wd→PR α} {c:Prop} [Decidable c] {b:Nat} (p:Tk→Bool) (hp:p (cw default)=false) (hf:Rdr f) (hg:Rdr g):Rdr (fun L=>if p (cw (wd L))=true then (if c then f L.tail else .bad (wd L).fro b) else g L):=by
 by_cases h:c
 ·simp only[if_pos h];exact Rdr.iteTail p hp hf hg
 ·simp only[if_neg h];exact Rdr.ite p (Rdr.bad _ _) hg
theorem Rdr.iteTailC' {α:Type} {f g:List Wd→PR α} {c:Prop} [Decidable c] {b:Nat} (p:Tk→Bool) (hp:p (cw default)=false) (hf:Rdr f) (hg:Rdr g):Rdr (fun L=>if p (cw (wd L))=true then (if c then .bad (wd L).fro b else f L.tail) else g L):=by
 by_cases h:c
 ·simp only[if_pos h];exact Rdr.ite p (Rdr.bad _ _) hg
 ·simp only[if_neg h];exact Rdr.iteTail p hp hf hg
def lexT (d:Df) (L:List Wd):PR Df:=(nameR L).bind fun s L=>(consR L).bind fun c L=>(wantR [61] L).bind fun _ L=>(lexR 201 s c d.prods L).bind fun ps L=>.ok { d with prods:=ps } L
def plainT (d:Df) (L:List Wd):PR Df:=(nameR L).bind fun s L=>(consR L).bind fun c L=>(wantR [61] L).bind fun _ L=>(syms1 L).bind fun y L=>
 if em c then (wantR [98,114,97,99,107,101,116] L).bind fun _ L=>.ok { d with prods:=d.prods++[⟨false,s,c,true,y⟩] } L
 else .ok { d with prods:=d.prods++[⟨false,s,c,false,y⟩] } L
theorem rdr_lexT (d:Df):Rdr (lexT d):=Rdr.bind rdr_name (fun s=>Rdr.bind rdr_cons (fun c=>Rdr.bind (rdr_want (t:=[61]) (by simp)) (fun _=>Rdr.bind (rdr_lex 201 s c d.prods) (fun _=>Rdr.ok _))))
theorem rdr_plainT (d:Df):Rdr (plainT d):=Rdr.bind rdr_name (fun s=>Rdr.bind rdr_cons (fun c=>Rdr.bind (rdr_want (t:=[61]) (by simp)) (fun _=>Rdr.bind rdr_syms1 (fun y=>by
 by_cases h:em c=true
 ·simp only[if_pos h];exact Rdr.bind (rdr_want (by simp)) (fun _=>Rdr.ok _)
 ·simp only[if_neg h];exact Rdr.ok _))))
theorem rdr_stmt (d:Df):Rdr (stmtR d):=by
 refine Rdr.congr (f:=fun L=>if txP [115,116,97,114,116] (cw (wd L))=true then (if em d.start=true then (fun L=>(nameR L).bind fun n L=>.ok { d with start:=n } L) L.tail else .bad (wd L).fro 31)
  else if txP [108,97,121,111,117,116] (cw (wd L))=true then (if em d.layout=true then (fun L=>(nameR L).bind fun n L=>.ok { d with layout:=n } L) L.tail else .bad (wd L).fro 31)
  else if txP [108,101,120] (cw (wd L))=true then (if 200≤d.prods.length then .bad (wd L).fro 2 else lexT d L.tail)
  else if txP [99,102] (cw (wd L))=true then (if 200≤d.prods.length then .bad (wd L).fro 2 else plainT d L.tail)
  else if txP [112,114,105,111] (cw (wd L))=true then (fun L=>(groupsR 17 [] L).bind fun c L=>.ok { d with chains:=d.chains++[c] } L) L.tail
  else if txP [102,111,108,108,111,119] (cw (wd L))=true then (fun L=>(nameR L).bind fun s L=>(setR L).bind fun x L=>.ok { d with follows:=d.follows++[⟨s,x⟩] } L) L.tail
  else if txP [114,101,106,101,99,116] (cw (wd L))=true then (fun L=>(nameR L).bind fun s L=>(nameR L).bind fun b L=>.ok { d with rejects:=d.rejects++[⟨s,b⟩] } L) L.tail
  else if txP [98,111,120] (cw (wd L))=true then (fun L=>(nameR L).bind fun s L=>(wantR [61] L).bind fun _ L=>(itemsR 66 0 [] L).bind fun q L=>.ok { d with boxes:=d.boxes++[⟨s,q.2⟩] } L) L.tail
  else .bad (wd L).fro 30) (fun L=>rfl) ?_
 exact Rdr.iteTailC _ (txP_def (by simp)) (Rdr.bind rdr_name (fun _=>Rdr.ok _)) (Rdr.iteTailC _ (txP_def (by simp)) (Rdr.bind rdr_name (fun _=>Rdr.ok _))
  (Rdr.iteTailC' _ (txP_def (by simp)) (rdr_lexT d) (Rdr.iteTailC' _ (txP_def (by simp)) (rdr_plainT d)
  (Rdr.iteTail _ (txP_def (by simp)) (Rdr.bind (rdr_groups 17 []) (fun _=>Rdr.ok _)) (Rdr.iteTail _ (txP_def (by simp)) (Rdr.bind rdr_name (fun _=>Rdr.bind rdr_set (fun _=>Rdr.ok _)))
  (Rdr.iteTail _ (txP_def (by simp)) (Rdr.bind rdr_name (fun _=>Rdr.bind rdr_name (fun _=>Rdr.ok _))) (Rdr.iteTail _ (txP_def (by simp)) (Rdr.bind rdr_name (fun _=>Rdr.bind (rdr_want (t:=[61]) (by simp)) (fun _=>Rdr.bind (rdr_items 66 0 []) (fun _=>Rdr.ok _)))) (Rdr.bad (fun L=>(wd L).fro) 30))))))))
theorem Loc.len {α:Type} {f:List Wd→PR α} (h:Loc f) {L R:List Wd} {a:α} (e:f L=.ok a R):R.length≤L.length:=by
 obtain⟨C,e,_⟩:=h L a R e
 rw[e,List.length_append];omega
theorem PR.bind_ok {α β:Type} {r:PR α} {g:α→List Wd→PR β} {b:β} {R:List Wd} (h:r.bind g=.ok b R):∃a L,r=.ok a L∧g a L=.ok b R:=by
 cases r with
 | bad p c=>cases h
 | ok a L=>exact⟨a,L,rfl,h⟩
theorem lex_len:∀(f:Nat) (s c:ByteArray) (ps:List Pr) (L:List Wd) (qs:List Pr) (R:List Wd),ps.length<200→lexR f s c ps L=.ok qs R→qs.length≤200
 | 0,s,c,ps,L,qs,R,_,h=>by rw[lexR] at h;cases h
 | f+1,s,c,ps,L,qs,R,hp,h=>by
  rw[lexR] at h
  obtain⟨y,L1,_,h⟩:=PR.bind_ok h
  split at h
  ·split at h
   ·cases h
   ·exact lex_len f s c _ L1.tail qs R (by rw[List.length_append];simp;omega) h
  ·cases h;rw[List.length_append];simp;omega
structure Adds (d d':Df):Prop where
 p:d.prods.length≤200→d'.prods.length≤200
 c:d'.chains.length≤d.chains.length+1
 f:d'.follows.length≤d.follows.length+1
 r:d'.rejects.length≤d.rejects.length+1
 b:d'.boxes.length≤d.boxes.length+1
theorem stmt_adds {d d':Df} {L R:List Wd} (h:stmtR d L=.ok d' R):Adds d d':=by
 unfold stmtR at h
 split at h
 ·split at h
  ·obtain⟨n,L1,_,h⟩:=PR.bind_ok h
   cases h;exact⟨fun h=>h,by simp,by simp,by simp,by simp⟩
  ·cases h
 split at h
 ·split at h
  ·obtain⟨n,L1,_,h⟩:=PR.bind_ok h
   cases h;exact⟨fun h=>h,by simp,by simp,by simp,by simp⟩
  ·cases h
 split at h
 ·unfold lexicalR at h
  split at h
  ·cases h
  ·rename_i hp
   obtain⟨s,L1,_,h⟩:=PR.bind_ok h
   obtain⟨c,L2,_,h⟩:=PR.bind_ok h
   obtain⟨u,L3,_,h⟩:=PR.bind_ok h
   obtain⟨ps,L4,h4,h⟩:=PR.bind_ok h
   have:=lex_len _ _ _ _ _ _ _ (by omega) h4
   cases h;exact⟨fun _=>this,by simp,by simp,by simp,by simp⟩
 split at h
 ·unfold plainR at h
  split at h
  ·cases h
  ·rename_i hp
   obtain⟨s,L1,_,h⟩:=PR.bind_ok h
   obtain⟨c,L2,_,h⟩:=PR.bind_ok h
   obtain⟨u,L3,_,h⟩:=PR.bind_ok h
   obtain⟨y,L4,_,h⟩:=PR.bind_ok h
   split at h
   ·obtain⟨u,L5,_,h⟩:=PR.bind_ok h
    cases h;exact⟨fun _=>by simp;omega,by simp,by simp,by simp,by simp⟩
   ·cases h;exact⟨fun _=>by simp;omega,by simp,by simp,by simp,by simp⟩
 split at h
 ·obtain⟨n,L1,_,h⟩:=PR.bind_ok h
  cases h;exact⟨fun h=>h,by simp,by simp,by simp,by simp⟩
 split at h
 ·obtain⟨n,L1,_,h⟩:=PR.bind_ok h
  obtain⟨x,L2,_,h⟩:=PR.bind_ok h
  cases h;exact⟨fun h=>h,by simp,by simp,by simp,by simp⟩
 split at h
 ·obtain⟨n,L1,_,h⟩:=PR.bind_ok h
  obtain⟨x,L2,_,h⟩:=PR.bind_ok h
  cases h;exact⟨fun h=>h,by simp,by simp,by simp,by simp⟩
 split at h
 ·obtain⟨n,L1,_,h⟩:=PR.bind_ok h
  obtain⟨u,L2,_,h⟩:=PR.bind_ok h
  obtain⟨q,L3,_,h⟩:=PR.bind_ok h
  cases h;exact⟨fun h=>h,by simp,by simp,by simp,by simp⟩
 ·cases h
theorem want_len {t:List UInt8} {L R:List Wd} {u:Unit} (ht:t≠[]) (h:wantR t L=.ok u R):R.length+1=L.length∧R=L.tail:=by
 unfold wantR at h
 split at h
 ·rename_i hk
  cases h
  cases L with
  | nil=>
   exfalso
   cases t with
   | nil=>exact ht rfl
   | cons c t=>exact absurd hk (by simp[isT,wd,default])
  | cons x L=>exact⟨rfl,rfl⟩
 ·cases h
theorem prs_set_ok (x:ByteArray):(prs x).1.ok:=by
 have hB:∀tr i,(prsB x tr (items x (x.size+1) i St.zero)).1.ok:=fun tr i=>by
  unfold prsB
  split
  ·exact St.zero_ok
  ·split
   ·exact St.zero_ok
   ·cases tr
    ·exact (items_ok x _ i _ St.zero_ok).1
    ·exact St.not_ok _
 unfold prs
 split
 ·exact St.zero_ok
 ·split
  ·exact St.zero_ok
  ·split
   ·exact hB _ _
   ·exact hB _ _
theorem rdql_lt (l:List UInt8):(rdql l).1<256:=by
 unfold rdql rdq
 split
 ·decide
 ·split
  ·rename_i h
   have hs:∀i:Nat,saidq i<256:=fun i=>by
    unfold saidq
    match i with
    | 0=>decide
    | 1=>decide
    | 2=>decide
    | 3=>decide
    | 4=>decide
    | _+5=>exact (by decide:(0:Nat)<256)
   exact hs _
  ·split
   ·decide
   ·split
    ·decide
    ·have h2:=dig_hi (bt ⟨l.toArray⟩ 2)
     have h3:=dig_hi (bt ⟨l.toArray⟩ 3)
     show _*16+_<256
     omega
theorem quo_lt:∀(f:Nat) (l:List UInt8) (k:Nat) (acc:List Nat),(∀n∈acc,n<256)→∀n∈(quo f l k acc).bytes,n<256
 | 0,l,k,acc,_=>fun n hn=>by simp[quo] at hn
 | f+1,[],k,acc,_=>fun n hn=>by simp[quo] at hn
 | f+1,c::l,k,acc,ha=>by
  unfold quo
  have push:∀m,m<256→∀n∈acc++[m],n<256:=fun m hm n hn=>by
   rcases List.mem_append.1 hn with hn | hn
   ·exact ha n hn
   ·simp at hn;omega
  split
  ·exact ha
  ·split
   ·split
    ·intro n hn;cases hn
    ·exact quo_lt f _ _ _ (push _ (rdql_lt _))
   ·split
    ·exact quo_lt f _ _ _ (push _ c.toNat_lt)
    ·intro n hn;cases hn
theorem quo_cnt:∀(f:Nat) (l:List UInt8) (k:Nat) (acc:List Nat),(quo f l k acc).code=0→(quo f l k acc).bytes.length+k≤acc.length+(quo f l k acc).fin
 | 0,l,k,acc,h=>by simp[quo] at h
 | f+1,[],k,acc,h=>by simp[quo] at h
 | f+1,c::l,k,acc,h=>by
  unfold quo at h ⊢
  split at h
  ·rename_i h1
   rw[if_pos h1]
   show acc.length+k≤acc.length+(k+1)
   omega
  ·rename_i h1
   rw[if_neg h1]
   split at h
   ·rename_i h2
    rw[if_pos h2]
    split at h
    ·simp at h
    ·rename_i h3
     rw[if_neg h3]
     have:=quo_cnt f _ _ _ h
     rw[List.length_append] at this
     simp only[List.length_cons,List.length_nil] at this
     omega
   ·rename_i h2
    rw[if_neg h2]
    split at h
    ·rename_i h3
     rw[if_pos h3]
     have:=quo_cnt f _ _ _ h
     rw[List.length_append] at this
     simp only[List.length_cons,List.length_nil] at this
     omega
    ·simp at h
theorem numv_pow:∀(l:List UInt8) (n k:Nat),(∀c∈l,digB c.toNat=true)→n<10 ^ k→l.foldl (fun n c=>n*10+(c.toNat-48)) n<10 ^ (k+l.length)
 | [],n,k,_,h=>by simpa using h
 | c::l,n,k,hc,h=>by
  have h1:=hc c (by simp)
  unfold digB at h1
  simp only[Bool.and_eq_true,decide_eq_true_eq] at h1
  have:=numv_pow l (n*10+(c.toNat-48)) (k+1) (fun d hd=>hc d (by simp[hd])) (by rw[Nat.pow_succ];omega)
  rw[List.foldl_cons,List.length_cons,show k+(l.length+1)=k+1+l.length by omega]
  exact this
theorem lspan_all (p:Nat→Bool):∀(l:List UInt8),∀c∈l.take (lspan p l),p c.toNat=true
 | [],c,h=>by simp at h
 | d::l,c,h=>by
  unfold lspan at h
  split at h
  ·rename_i hd
   rw[List.take_succ_cons] at h
   rcases List.mem_cons.1 h with rfl | h
   ·exact hd
   ·exact lspan_all p l c h
  ·simp at h
theorem lspan_same (p:Nat→Bool):∀(l:List UInt8),lspan p (l.take (lspan p l))=lspan p l
 | []=>rfl
 | d::l=>by
  cases hd:p d.toNat with
  | true=>simp only[lspan,hd,if_true,List.take_succ_cons,lspan_same p l]
  | false=>simp[lspan,hd]
structure Fine (d:Wd):Prop where
 name:d.kind=1→nm (strB d.text)=true
 num:d.kind=3→d.n≤999999
 set:d.set.ok
 bytes:∀n∈d.bytes,n<256
 blen:d.bytes.length≤d.text.length
theorem nm_strB (l:List UInt8):nm (strB l)=nameB great l:=by unfold nm strB;simp
theorem rdw_fine (r:List UInt8) (h:(rdw r).code=0) (p ln bg:Nat):Fine (mkWd r (rdw r) p ln bg):=by
 cases r with
 | nil=>exact⟨fun h=>(by cases h),fun h=>(by cases h),St.zero_ok,fun n hn=>(by cases hn),Nat.zero_le _⟩
 | cons c l=>
  have hz:St.zero.ok:=St.zero_ok
  rw[rdw_cons] at h ⊢
  by_cases hg:great c.toNat=true
  ·rw[if_pos hg] at h ⊢
   unfold rdLet at h ⊢
   split at h
   ·simp[RW.fault] at h
   ·rename_i h1
    rw[if_neg h1]
    refine⟨fun _=>?_,fun h=>(by cases h),hz,fun n hn=>(by cases hn),Nat.zero_le _⟩
    show nm (strB ((c::l).take (lspan alnum (c::l))))=true
    have ha:alnum c.toNat=true:=by unfold alnum;rw[hg];rfl
    have hk:1≤lspan alnum (c::l):=by simp[lspan,ha]
    have hle:=lspan_le alnum (c::l)
    have hlen:((c::l).take (lspan alnum (c::l))).length=lspan alnum (c::l):=by rw[List.length_take];omega
    have hsame:=lspan_same alnum (c::l)
    rw[nm_strB]
    unfold nameB whole
    simp only[Bool.and_eq_true,decide_eq_true_eq]
    obtain⟨m,hm⟩:∃m,lspan alnum (c::l)=m+1:=⟨lspan alnum (c::l)-1,by omega⟩
    refine⟨⟨fun e=>by rw[e] at hlen;simp at hlen;omega,?_⟩,by omega,by rw[hsame,hlen]⟩
    rw[hm,List.take_succ_cons]
    exact hg
  rw[if_neg hg] at h ⊢
  by_cases hs:small c.toNat=true
  ·rw[if_pos hs] at h ⊢
   unfold rdLet at h ⊢
   split at h
   ·simp[RW.fault] at h
   ·rename_i h1
    rw[if_neg h1]
    exact⟨fun h=>(by cases h),fun h=>(by cases h),hz,fun n hn=>(by cases hn),Nat.zero_le _⟩
  rw[if_neg hs] at h ⊢
  by_cases hd:digB c.toNat=true
  ·rw[if_pos hd] at h ⊢
   unfold rdNum at h ⊢
   split at h
   ·simp[RW.fault] at h
   ·rename_i h1
    rw[if_neg h1]
    refine⟨fun h=>(by cases h),fun _=>?_,hz,fun n hn=>(by cases hn),Nat.zero_le _⟩
    show numv ((c::l).take (lspan digB (c::l)))≤999999
    have h2:=numv_pow ((c::l).take (lspan digB (c::l))) 0 0 (lspan_all digB _) (by decide)
    have h3:((c::l).take (lspan digB (c::l))).length≤6:=by rw[List.length_take];omega
    have h4:(10:Nat) ^ (0+((c::l).take (lspan digB (c::l))).length)≤10 ^ 6:=Nat.pow_le_pow_right (by decide) (by omega)
    have h5:numv ((c::l).take (lspan digB (c::l)))<10 ^ 6:=Nat.lt_of_lt_of_le h2 h4
    have h6:(10:Nat) ^ 6=1000000:=by decide
    omega
  rw[if_neg hd] at h ⊢
  by_cases h34:c.toNat=34
  ·rw[if_pos h34] at h ⊢
   unfold rdText at h ⊢
   split at h
   ·rename_i h1
    rw[if_pos h1]
    exact⟨fun h=>(by cases h),fun h=>(by cases h),hz,fun n hn=>quo_lt _ _ _ _ (fun _ h=>(by cases h)) n hn,by
     have q1:=quo_cnt _ _ _ _ h1
     have hle:=(rdw_len (c::l) (by rw[rdw_cons,if_neg hg,if_neg hs,if_neg hd,if_pos h34];unfold rdText;rw[if_pos h1])).1
     rw[rdw_cons,if_neg hg,if_neg hs,if_neg hd,if_pos h34] at hle
     unfold rdText at hle
     rw[if_pos h1] at hle
     have hle':(quoted (c::l)).fin≤(c::l).length:=hle
     show (quoted (c::l)).bytes.length≤((c::l).take (quoted (c::l)).fin).length
     rw[List.length_take]
     have q2:(quoted (c::l)).bytes.length+1≤0+(quoted (c::l)).fin:=q1
     omega⟩
   ·rename_i h1;exact absurd h h1
  rw[if_neg h34] at h ⊢
  by_cases h91:c.toNat=91
  ·rw[if_pos h91] at h ⊢
   unfold rdSet at h ⊢
   split at h
   ·simp[RW.fault] at h
   ·rename_i h1
    rw[if_neg h1]
    split at h
    ·rename_i h2
     rw[if_pos h2]
     exact⟨fun h=>(by cases h),fun h=>(by cases h),prs_set_ok _,fun n hn=>(by cases hn),Nat.zero_le _⟩
    ·rename_i h2;exact absurd h h2
  rw[if_neg h91] at h ⊢
  by_cases hsg:signB c.toNat=true
  ·rw[if_pos hsg]
   exact⟨fun h=>(by cases h),fun h=>(by cases h),hz,fun n hn=>(by cases hn),Nat.zero_le _⟩
  ·rw[if_neg hsg] at h;simp[RW.fault] at h
theorem Fine.of {d e:Wd} (h:cw d=cw e) (f:Fine e):Fine d:=by
 simp only[cw,Prod.mk.injEq] at h
 obtain⟨h1,h2,h3,h4,h5⟩:=h
 exact⟨fun k=>by rw[h2];exact f.name (by rw[←h1];exact k),fun k=>by rw[h5];exact f.num (by rw[←h1];exact k),by rw[h4];exact f.set,by rw[h3];exact f.bytes,by rw[h2,h3];exact f.blen⟩
structure Scn (s:List UInt8) (ws:List Wd) (we:Wd):Prop where
 eq:(scan s).1=ws++[we]
 fine:∀d∈ws,Fine d
 good:∀d∈ws,GoodW d
 we:cw we=endW
 len:ws.length≤65536
 tot:(ws.map fun d=>d.text.length).sum≤s.length
theorem scn_of (s:List UInt8) (h:(scan s).2.2=0):∃ws we,Scn s ws we:=by
 have hl:s.length≤65536:=by
  unfold scan at h
  split at h
  ·cases h
  ·omega
 have e1:scan s=scn (s.length+1) s 0 1 0 []:=by unfold scan;rw[if_neg (by omega)]
 rw[e1] at h
 obtain⟨ws,we,g1,g2,g3,g4,g5⟩:=scn_good _ _ _ _ _ _ (Nat.lt_succ_self _) h
 have hs:=sum_pos ws (fun d hd=>(g4 d hd).len.1)
 refine⟨ws,we,by rw[e1,g1];rfl,fun d hd=>?_,g4,g3,by omega,g5⟩
 obtain⟨r,h1,h2,_,h4⟩:=g4 d hd
 exact Fine.of h4 (rdw_fine r h1 0 0 0)
theorem Scn.fin {s:List UInt8} {ws:List Wd} {we:Wd} (h:Scn s ws we):Fin' (scan s).1:=⟨ws,we,h.eq,(cw_fields h.we).1,(cw_fields h.we).2.1⟩
theorem Scn.all {s:List UInt8} {ws:List Wd} {we:Wd} (h:Scn s ws we):∀d∈(scan s).1,Fine d:=fun d hd=>by
 rw[h.eq] at hd
 rcases List.mem_append.1 hd with hd | hd
 ·exact h.fine d hd
 ·simp at hd
  subst hd
  obtain⟨h1,h2,h3,h4,h5⟩:=cw_fields h.we
  exact⟨fun k=>by (rw[h1] at k;cases k),fun k=>by (rw[h1] at k;cases k),by rw[h4];exact St.zero_ok,fun n hn=>by (rw[h3] at hn;cases hn),by rw[h3];exact Nat.zero_le _⟩
theorem mem_sum:∀(ws:List Wd) (d:Wd),d∈ws→d.text.length≤(ws.map fun d=>d.text.length).sum
 | [],d,h=>by cases h
 | x::ws,d,h=>by
  rw[List.map_cons,List.sum_cons]
  rcases List.mem_cons.1 h with rfl | h
  ·omega
  ·have:=mem_sum ws d h
   omega
theorem Scn.blen {s:List UInt8} {ws:List Wd} {we:Wd} (h:Scn s ws we) (hl:s.length≤65536):∀d∈(scan s).1,d.bytes.length≤65536:=fun d hd=>by
 have hf:=h.all d hd
 rw[h.eq] at hd
 rcases List.mem_append.1 hd with hd | hd
 ·have:=mem_sum ws d hd
  have:=h.tot
  have:=hf.blen
  omega
 ·simp at hd
  subst hd
  rw[(cw_fields h.we).2.2.1];exact Nat.zero_le _
end Go.Proofs.YtcpakcffiopfjaaGreatDoor
