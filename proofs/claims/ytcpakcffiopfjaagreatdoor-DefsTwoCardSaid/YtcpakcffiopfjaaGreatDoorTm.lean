/- Two texts, one behind the other, say what both say; plain. -/
import Derived.Test.YtcpakcffiopfjaaGreatDoorG3
import Derived.Test.YtcpakcffiopfjaaGreatDoorTk
import Derived.Test.YtcpakcffiopfjaaGreatDoorLg
namespace Go.Proofs.YtcpakcffiopfjaaGreatDoor
open Go.RowKit
set_option linter.unusedVariables false
set_option linter.unusedSimpArgs false
theorem stmts_go:∀(f:Nat) (d:Df) (L:List Wd) (x:Df) (R:List Wd),stmtsR f d L=.ok x R→∃C n,L=C++R∧(wd R).kind=7∧n≤C.length∧∀g R',stmtsR (g+n) d (C++R')=stmtsR g x R'
 | 0,d,L,x,R,h=>by rw[stmtsR] at h;cases h
 | f+1,d,L,x,R,h=>by
  rw[stmtsR] at h
  by_cases hk:(wd L).kind=7
  ·rw[if_pos hk] at h
   cases h
   exact⟨[],0,rfl,hk,Nat.le_refl _,fun g R'=>rfl⟩
  ·rw[if_neg hk] at h
   obtain⟨d1,L1,h1,h⟩:=PR.bind_ok h
   obtain⟨u,L2,h2,h⟩:=PR.bind_ok h
   obtain⟨C2,n,e2,k7,hn,go⟩:=stmts_go f d1 L2 x R h
   obtain⟨C1,e1,k1⟩:=(rdr_stmt d).loc L d1 L1 h1
   have hw:=want_len (by simp) h2
   obtain⟨x0,hx⟩:∃x0,L1=x0::L2:=by
    cases L1 with
    | nil=>simp at hw
    | cons y l=>exact⟨y,by rw[hw.2]; rfl⟩
   refine⟨C1++x0::C2,n+1,by rw[e1,hx,e2];simp,k7,by rw[List.length_append,List.length_cons];omega,fun g R'=>?_⟩
   have eq:(C1++x0::C2)++R'=C1++(x0::(C2++R')):=by simp
   rw[eq,show g+(n+1)=(g+n)+1 from rfl,stmtsR]
   have hwd:wd (x0::(C2++R'))=wd L1:=by rw[hx];rfl
   have hL:wd (C1++(x0::(C2++R')))=wd L:=by rw[e1];exact wd_app hwd
   rw[hL,if_neg hk,k1 _ hwd]
   show (wantR [59] (x0::(C2++R'))).bind _=_
   have hq:wantR [59] (x0::(C2++R'))=.ok u (C2++R'):=by
    rw[hx] at h2
    unfold wantR at h2 ⊢
    split at h2
    ·rename_i hi
     rw[if_pos (show isT [59] (x0::(C2++R'))=true from hi)]
     rfl
    ·cases h2
   rw[hq]
   exact go g R'
def addD (x d:Df):Df:=⟨x.start,x.layout,x.prods++d.prods,x.chains++d.chains,x.follows++d.follows,x.rejects++d.rejects,x.boxes++d.boxes⟩
theorem lexR_add:∀(f:Nat) (s c:ByteArray) (ps:List Pr) (L:List Wd) (qs:List Pr) (R:List Wd) (x:List Pr),lexR f s c ps L=.ok qs R→x.length+qs.length≤200→lexR f s c (x++ps) L=.ok (x++qs) R∧ps.length<qs.length
 | 0,s,c,ps,L,qs,R,x,h,_=>by rw[lexR] at h;cases h
 | f+1,s,c,ps,L,qs,R,x,h,hl=>by
  rw[lexR] at h ⊢
  obtain⟨y,L1,hy,h⟩:=PR.bind_ok h
  rw[hy]
  show (if isT [124] L1 then (if 200≤(x++ps).length+1 then PR.bad (wd L1).fro 2 else lexR f s c ((x++ps)++[⟨true,s,c,false,y⟩]) L1.tail) else .ok ((x++ps)++[⟨true,s,c,false,y⟩]) L1)=_∧_
  split at h
  ·rename_i hb
   split at h
   ·cases h
   ·have k:=lexR_add f s c _ L1.tail qs R x h hl
    rw[List.length_append,List.length_singleton] at k
    rw[if_pos hb,if_neg (by rw[List.length_append];omega),List.append_assoc]
    exact⟨k.1,by omega⟩
  ·rename_i hb
   cases h
   rw[if_neg hb,List.append_assoc]
   exact⟨rfl,by rw[List.length_append,List.length_singleton];omega⟩
theorem nm_ne' {n:ByteArray} (h:nm n=true):¬n=⟨#[]⟩:=fun e=>by
 obtain⟨c,l,h1,_⟩:=nm_head h
 rw[e] at h1
 cases h1
theorem stmt_add {x d d1:Df} {L R:List Wd} (hF:FL L) (h:stmtR d L=.ok d1 R) (hs:d1.start=⟨#[]⟩) (hy:d1.layout=⟨#[]⟩) (hl:x.prods.length+d1.prods.length≤200):
  stmtR (addD x d) L=.ok (addD x d1) R:=by
 unfold stmtR at h ⊢
 split at h
 ·split at h
  ·obtain⟨n,L1,h1,h⟩:=PR.bind_ok h
   cases h
   exact absurd hs (nm_ne' (name_right hF.tail h1))
  ·cases h
 rename_i c1
 rw[if_neg c1]
 split at h
 ·split at h
  ·obtain⟨n,L1,h1,h⟩:=PR.bind_ok h
   cases h
   exact absurd hy (nm_ne' (name_right hF.tail h1))
  ·cases h
 rename_i c2
 rw[if_neg c2]
 split at h
 ·rename_i c3
  rw[if_pos c3]
  unfold lexicalR at h ⊢
  split at h
  ·cases h
  ·obtain⟨s,L1,h1,h⟩:=PR.bind_ok h
   obtain⟨c,L2,h2,h⟩:=PR.bind_ok h
   obtain⟨u,L3,h3,h⟩:=PR.bind_ok h
   obtain⟨ps,L4,h4,h⟩:=PR.bind_ok h
   cases h
   have k:=lexR_add 201 s c d.prods L3 ps _ x.prods h4 hl
   have hl2:x.prods.length+ps.length≤200:=hl
   rw[if_neg (show ¬200≤(addD x d).prods.length by show ¬200≤(x.prods++d.prods).length;rw[List.length_append];omega),h1]
   show (consR L1).bind _=_
   rw[h2]
   show (wantR [61] L2).bind _=_
   rw[h3]
   show (lexR 201 s c (x.prods++d.prods) L3).bind _=_
   rw[k.1]
   rfl
 rename_i c3
 rw[if_neg c3]
 split at h
 ·rename_i c4
  rw[if_pos c4]
  unfold plainR at h ⊢
  split at h
  ·cases h
  ·obtain⟨s,L1,h1,h⟩:=PR.bind_ok h
   obtain⟨c,L2,h2,h⟩:=PR.bind_ok h
   obtain⟨u,L3,h3,h⟩:=PR.bind_ok h
   obtain⟨y,L4,h4,h⟩:=PR.bind_ok h
   split at h
   ·rename_i hc
    obtain⟨u2,L5,h5,h⟩:=PR.bind_ok h
    cases h
    have hl2:x.prods.length+(d.prods++[(⟨false,s,c,true,y⟩:Pr)]).length≤200:=hl
    rw[List.length_append,List.length_singleton] at hl2
    rw[if_neg (show ¬200≤(addD x d).prods.length by show ¬200≤(x.prods++d.prods).length;rw[List.length_append];omega),h1]
    show (consR L1).bind _=_
    rw[h2]
    show (wantR [61] L2).bind _=_
    rw[h3]
    show (syms1 L3).bind _=_
    rw[h4]
    show (if em c then _ else _)=_
    rw[if_pos hc,h5]
    show PR.ok _ _=_
    unfold addD
    simp
   ·rename_i hc
    cases h
    have hl2:x.prods.length+(d.prods++[(⟨false,s,c,false,y⟩:Pr)]).length≤200:=hl
    rw[List.length_append,List.length_singleton] at hl2
    rw[if_neg (show ¬200≤(addD x d).prods.length by show ¬200≤(x.prods++d.prods).length;rw[List.length_append];omega),h1]
    show (consR L1).bind _=_
    rw[h2]
    show (wantR [61] L2).bind _=_
    rw[h3]
    show (syms1 L3).bind _=_
    rw[h4]
    show (if em c then _ else _)=_
    rw[if_neg hc]
    unfold addD
    simp
 rename_i c4
 rw[if_neg c4]
 split at h
 ·rename_i c5
  rw[if_pos c5]
  obtain⟨n,L1,h1,h⟩:=PR.bind_ok h
  cases h
  rw[h1]
  show PR.ok _ _=_
  unfold addD
  simp
 rename_i c5
 rw[if_neg c5]
 split at h
 ·rename_i c6
  rw[if_pos c6]
  obtain⟨n,L1,h1,h⟩:=PR.bind_ok h
  obtain⟨q,L2,h2,h⟩:=PR.bind_ok h
  cases h
  rw[h1]
  show (setR L1).bind _=_
  rw[h2]
  show PR.ok _ _=_
  unfold addD
  simp
 rename_i c6
 rw[if_neg c6]
 split at h
 ·rename_i c7
  rw[if_pos c7]
  obtain⟨n,L1,h1,h⟩:=PR.bind_ok h
  obtain⟨q,L2,h2,h⟩:=PR.bind_ok h
  cases h
  rw[h1]
  show (nameR L1).bind _=_
  rw[h2]
  show PR.ok _ _=_
  unfold addD
  simp
 rename_i c7
 rw[if_neg c7]
 split at h
 ·rename_i c8
  rw[if_pos c8]
  obtain⟨n,L1,h1,h⟩:=PR.bind_ok h
  obtain⟨u,L2,h2,h⟩:=PR.bind_ok h
  obtain⟨q,L3,h3,h⟩:=PR.bind_ok h
  cases h
  rw[h1]
  show (wantR [61] L1).bind _=_
  rw[h2]
  show (itemsR 66 0 [] L2).bind _=_
  rw[h3]
  show PR.ok _ _=_
  unfold addD
  simp
 ·cases h
/- What was said stays said, and no production is lost. -/
structure Ups (d y:Df):Prop where
 s:y.start=⟨#[]⟩→d.start=⟨#[]⟩
 l:y.layout=⟨#[]⟩→d.layout=⟨#[]⟩
 p:d.prods.length≤y.prods.length
theorem stmt_ups {d d1:Df} {L R:List Wd} (h:stmtR d L=.ok d1 R):Ups d d1:=by
 unfold stmtR at h
 have hem:∀n:ByteArray,em n=true→n=⟨#[]⟩:=fun n hn=>by
  by_cases h0:n.size=0
  ·exact str_empty _ h0
  ·rw[em_ne h0] at hn;cases hn
 split at h
 ·split at h
  ·rename_i hm
   obtain⟨n,L1,_,h⟩:=PR.bind_ok h
   cases h;exact⟨fun _=>hem _ hm,fun h=>h,Nat.le_refl _⟩
  ·cases h
 split at h
 ·split at h
  ·rename_i hm
   obtain⟨n,L1,_,h⟩:=PR.bind_ok h
   cases h;exact⟨fun h=>h,fun _=>hem _ hm,Nat.le_refl _⟩
  ·cases h
 split at h
 ·unfold lexicalR at h
  split at h
  ·cases h
  ·rename_i hp
   obtain⟨s,L1,_,h⟩:=PR.bind_ok h
   obtain⟨c,L2,_,h⟩:=PR.bind_ok h
   obtain⟨u,L3,_,h⟩:=PR.bind_ok h
   obtain⟨ps,L4,h4,h⟩:=PR.bind_ok h
   have k:=lexR_add _ _ _ _ _ _ _ [] h4 (by have:=lex_len _ _ _ _ _ _ _ (by omega) h4;simpa using this)
   cases h;exact⟨fun h=>h,fun h=>h,Nat.le_of_lt k.2⟩
 split at h
 ·unfold plainR at h
  split at h
  ·cases h
  ·obtain⟨s,L1,_,h⟩:=PR.bind_ok h
   obtain⟨c,L2,_,h⟩:=PR.bind_ok h
   obtain⟨u,L3,_,h⟩:=PR.bind_ok h
   obtain⟨y,L4,_,h⟩:=PR.bind_ok h
   split at h
   ·obtain⟨u2,L5,_,h⟩:=PR.bind_ok h
    cases h;exact⟨fun h=>h,fun h=>h,by simp⟩
   ·cases h;exact⟨fun h=>h,fun h=>h,by simp⟩
 split at h
 ·obtain⟨n,L1,_,h⟩:=PR.bind_ok h
  cases h;exact⟨fun h=>h,fun h=>h,Nat.le_refl _⟩
 split at h
 ·obtain⟨n,L1,_,h⟩:=PR.bind_ok h
  obtain⟨q,L2,_,h⟩:=PR.bind_ok h
  cases h;exact⟨fun h=>h,fun h=>h,Nat.le_refl _⟩
 split at h
 ·obtain⟨n,L1,_,h⟩:=PR.bind_ok h
  obtain⟨q,L2,_,h⟩:=PR.bind_ok h
  cases h;exact⟨fun h=>h,fun h=>h,Nat.le_refl _⟩
 split at h
 ·obtain⟨n,L1,_,h⟩:=PR.bind_ok h
  obtain⟨u,L2,_,h⟩:=PR.bind_ok h
  obtain⟨q,L3,_,h⟩:=PR.bind_ok h
  cases h;exact⟨fun h=>h,fun h=>h,Nat.le_refl _⟩
 ·cases h
theorem stmts_ups:∀(f:Nat) (d:Df) (L:List Wd) (y:Df) (R:List Wd),stmtsR f d L=.ok y R→Ups d y
 | 0,d,L,y,R,h=>by rw[stmtsR] at h;cases h
 | f+1,d,L,y,R,h=>by
  rw[stmtsR] at h
  split at h
  ·cases h;exact⟨fun h=>h,fun h=>h,Nat.le_refl _⟩
  ·obtain⟨d1,L1,h1,h⟩:=PR.bind_ok h
   obtain⟨u,L2,h2,h⟩:=PR.bind_ok h
   have a:=stmt_ups h1
   have b:=stmts_ups f d1 L2 y R h
   exact⟨fun h=>a.s (b.s h),fun h=>a.l (b.l h),Nat.le_trans a.p b.p⟩
theorem stmts_add:∀(f:Nat) (x d:Df) (L:List Wd) (y:Df) (R:List Wd),FL L→stmtsR f d L=.ok y R→y.start=⟨#[]⟩→y.layout=⟨#[]⟩→x.prods.length+y.prods.length≤200→∀g,stmtsR (f+g) (addD x d) L=.ok (addD x y) R
 | 0,x,d,L,y,R,_,h,_,_,_,g=>by rw[stmtsR] at h;cases h
 | f+1,x,d,L,y,R,hF,h,hs,hy,hl,g=>by
  rw[show f+1+g=(f+g)+1 by omega]
  rw[stmtsR] at h ⊢
  split at h
  ·rename_i hk
   cases h
   rw[if_pos hk]
  ·rename_i hk
   obtain⟨d1,L1,h1,h⟩:=PR.bind_ok h
   obtain⟨u,L2,h2,h⟩:=PR.bind_ok h
   have b:=stmts_ups f d1 L2 y R h
   rw[if_neg hk,stmt_add hF h1 (b.s hs) (b.l hy) (by have:=b.p;omega)]
   show (wantR [59] L1).bind _=_
   rw[h2]
   exact stmts_add f x d1 L2 y R ((hF.rest (rdr_stmt d) h1).rest (rdr_want (by simp)) h2) h hs hy hl g
theorem par_both {a b:List UInt8} {x y:Df} {La Lb:List Wd} (hl:a.length+b.length≤20000) (ha:parR a=.ok x La) (hb:parR b=.ok y Lb) (hs:y.start=⟨#[]⟩) (hy:y.layout=⟨#[]⟩) (hp:x.prods.length+y.prods.length≤200):
  ∃L,parR (a++10::b)=.ok (addD x y) L:=by
 unfold parR at ha hb
 split at ha
 ·rename_i h0
  split at hb
  ·rename_i h1
   obtain⟨ws,we,e1,e2,e3,_⟩:=words_two a b (by omega) h0
   obtain⟨us,ve,u1,_,_,u4,_⟩:=words_again a (by omega) h0
   obtain rfl:us=ws:=(List.append_inj' (u1.symm.trans e1) rfl).1
   obtain⟨C,n,c1,c2,c3,go⟩:=stmts_go _ _ _ _ _ ha
   obtain⟨e4,e5⟩:=e3 h1
   have hR:La.length=1:=by
    have hlen:=congrArg List.length c1
    rw[e1] at hlen c1
    rw[List.length_append,List.length_append,List.length_singleton] at hlen
    cases La with
    | nil=>exact absurd c2 (by decide)
    | cons z La=>
     cases La with
     | nil=>rfl
     | cons z2 La=>
      exfalso
      have hz:z∈us:=by
       have hi:C.length<us.length:=by simp at hlen;omega
       have g1:(us++[we])[C.length]?=some z:=by rw[c1,List.getElem?_append_right (Nat.le_refl _),Nat.sub_self];rfl
       rw[List.getElem?_append_left hi] at g1
       exact List.mem_of_getElem? g1
      exact (u4 z hz).1 c2
   have hC:C=us:=by
    rw[e1] at c1
    exact (List.append_inj' c1.symm (by rw[hR];rfl)).1
   subst hC
   obtain⟨ub,vb,hS⟩:=scn_of b h1
   have hB:=stmts_add _ x Df0 (scan b).1 y Lb hS.all hb hs hy hp
   have hfuel:(scan (a++10::b)).1.length=C.length+(scan b).1.length:=by
    have:=congrArg List.length e5
    simpa using this
   have hrun:stmtsR ((scan (a++10::b)).1.length+1) Df0 (C++(scan b).1)=.ok (addD x y) Lb:=by
    rw[show (scan (a++10::b)).1.length+1=((scan b).1.length+1+(C.length-n))+n by omega,go]
    have hx:x=addD x Df0:=by unfold addD Df0;simp
    rw[hx]
    have h2:=hB (C.length-n)
    rw[h2]
    unfold addD Df0
    simp
   have hcw:(scan (a++10::b)).1.map cw=(C++(scan b).1).map cw:=by rw[e5,List.map_append]
   have hsame:=(rdr_stmts ((scan (a++10::b)).1.length+1) Df0).inv _ _ hcw
   rw[hrun] at hsame
   unfold parR
   rw[if_pos (show (scan (a++10::b)).2.2=0 by rw[e2];exact h1)]
   cases hq:stmtsR ((scan (a++10::b)).1.length+1) Df0 (scan (a++10::b)).1 with
   | bad p c=>rw[hq] at hsame;exact hsame.elim
   | ok z R=>
    rw[hq] at hsame
    obtain⟨rfl,_⟩:=hsame
    exact⟨R,rfl⟩
  ·cases hb
 ·cases ha
end Go.Proofs.YtcpakcffiopfjaaGreatDoor
