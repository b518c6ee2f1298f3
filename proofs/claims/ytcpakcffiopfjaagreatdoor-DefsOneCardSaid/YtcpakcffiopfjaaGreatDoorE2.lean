/- What is read of a definition's words: productions, groups, items; plain. What is read of a definition's words: items, statements, the whole; plain. -/
import Derived.Test.YtcpakcffiopfjaaGreatDoorE1
import Derived.Test.YtcpakcffiopfjaaGreatDoorB1
namespace Go.Proofs.YtcpakcffiopfjaaGreatDoor
open Go.RowKit
set_option linter.unusedVariables false
set_option linter.unusedSimpArgs false
set_option maxRecDepth 100000
set_option maxHeartbeats 16000000
theorem nm_head {s:ByteArray} (h:nm s=true):∃c l,s.data.toList=c::l∧great c.toNat=true:=by
 unfold nm nameB at h
 cases hl:s.data.toList with
 | nil=>rw[hl] at h;simp at h
 | cons c l=>
  rw[hl] at h
  simp only[List.getD_cons_zero,Bool.and_eq_true] at h
  exact⟨c,l,rfl,h.1.2⟩
theorem nm_ne {s:ByteArray} (h:nm s=true):em s=false:=by
 obtain⟨c,l,e,_⟩:=nm_head h
 cases he:em s
 ·rfl
 ·rw[em_iff.1 he] at e;cases e
theorem nm_not {s:ByteArray} (h:nm s=true) {c:UInt8} {l:List UInt8} (hc:great c.toNat=false):s.data.toList≠c::l:=fun e=>by
 obtain⟨d,m,e2,hd⟩:=nm_head h
 rw[e2] at e
 cases e
 rw[hc] at hd;cases hd
theorem sym_head {x:Sy} (hx:symB x=true) {A:List Wd} (hA:Says A (symK x)):∃a A',A=a::A'∧(a.kind=4∨a.kind=1∨a.kind=5∨a.text=[123])∧a.text≠[63]∧a.text≠[42]∧a.text≠[43]∧a.text≠[46]:=by
 unfold symK at hA
 have quo:∀ {s:ByteArray} {a:Wd},cw a=quoT s→∃m,a.text=34::m:=fun h=>⟨_,(cw_fields h).2.1⟩
 have one:∀ {s:ByteArray} {a:Wd},nm s=true→cw a=namT s→(a.kind=4∨a.kind=1∨a.kind=5∨a.text=[123])∧a.text≠[63]∧a.text≠[42]∧a.text≠[43]∧a.text≠[46]:=fun hn h=>by
  obtain⟨h1,h2,_⟩:=cw_fields h
  rw[h2]
  exact⟨.inr (.inl h1),nm_not hn (by decide),nm_not hn (by decide),nm_not hn (by decide),nm_not hn (by decide)⟩
 have st:∀ {s:St} {a:Wd},cw a=setT s→(a.kind=4∨a.kind=1∨a.kind=5∨a.text=[123])∧a.text≠[63]∧a.text≠[42]∧a.text≠[43]∧a.text≠[46]:=fun h=>by
  obtain⟨h1,h2,_⟩:=cw_fields h
  obtain⟨q,e⟩:∃q,printL ‹St›=91::q:=⟨_,rfl⟩
  rw[h2,e]
  exact⟨.inr (.inr (.inl h1)),by simp,by simp,by simp,by simp⟩
 split at hA
 ·obtain⟨a,rfl,ha⟩:=hA.one
  obtain⟨m,hm⟩:=quo ha
  exact⟨a,[],rfl,.inl (cw_fields ha).1,by rw[hm];simp,by rw[hm];simp,by rw[hm];simp,by rw[hm];simp⟩
 ·rename_i k1
  obtain⟨A1,A2,rfl,hA1,_⟩:=hA.app
  split at hA1
  ·split at hA1
   ·obtain⟨a,rfl,ha⟩:=hA1.one
    exact⟨a,A2,rfl,st ha⟩
   ·rename_i hn
    obtain⟨a,rfl,ha⟩:=hA1.one
    refine⟨a,A2,rfl,one ?_ ha⟩
    have hne:em x.name=false:=by simpa using hn
    unfold symB oftenB at hx
    simp only[hne,Bool.false_eq_true,if_false] at hx
    rw[if_neg k1] at hx
    by_cases k2:x.kind=2
    ·rw[if_pos k2,eqS_iff] at hx
     have:=congrArg Sy.name hx
     simp only at this
     rw[this] at hne
     exact absurd hne (by decide)
    rw[if_neg k2] at hx
    have an:∀ {p q:Bool},(p&&q)=true→p=true∧q=true:=fun h=>by simpa using h
    split at hx
    ·exact (an hx).2
    ·split at hx
     ·exact (an (an (an hx).2).1).2
     ·split at hx
      ·exact (an (an hx).1).2
      ·split at hx
       ·exact (an (an hx).1).2
       ·cases hx
  ·obtain⟨a,A1,rfl,ha,_⟩:=hA1.cons
   have h2:=(cw_fields ha).2.1
   exact⟨a,A1++A2,rfl,.inr (.inr (.inr h2)),by rw[h2];simp,by rw[h2];simp,by rw[h2];simp,by rw[h2];simp⟩
theorem isT_false {t:List UInt8} {a:Wd} {L:List Wd} (h:a.text≠t):isT t (a::L)=false:=tx_no rfl h
theorem atSym_yes {a:Wd} {L:List Wd} (h:a.kind=4∨a.kind=1∨a.kind=5∨a.text=[123]):atSymB (a::L)=true:=by
 unfold atSymB
 rw[wd_cons,isT_cons]
 rcases h with h | h | h | h<;>simp[h]
theorem syms_noSg:∀(l:List Sy) (A R:List Wd),(∀x∈l,symB x=true)→Says A (l.flatMap symK)→NoSg R→NoSg (A++R)
 | [],A,R,_,hA,hR=>by rw[hA.nil];exact hR
 | x::l,A,R,hl,hA,hR=>by
  rw[List.flatMap_cons] at hA
  obtain⟨A1,A2,rfl,hA1,_⟩:=hA.app
  obtain⟨a,A',rfl,_,h1,h2,h3,_⟩:=sym_head (hl x (by simp)) hA1
  exact⟨isT_false h1,isT_false h2,isT_false h3⟩
theorem syms_back:∀(l:List Sy) (f:Nat) (acc:List Sy) (A R:List Wd),(∀x∈l,symB x=true)→Says A (l.flatMap symK)→NoSg R→atSymB R=false→acc.length+l.length≤12→13≤f+acc.length→symsR f acc (A++R)=.ok (acc++l) R
 | [],f,acc,A,R,_,hA,_,hS,hl,hf=>by
  obtain⟨f,rfl⟩:∃g,f=g+1:=⟨f-1,by simp at hl;omega⟩
  rw[hA.nil,List.nil_append,symsR,hS,List.append_nil];rfl
 | x::l,f,acc,A,R,hx,hA,hR,hS,hl,hf=>by
  simp only[List.length_cons] at hl
  obtain⟨f,rfl⟩:∃g,f=g+1:=⟨f-1,by omega⟩
  rw[List.flatMap_cons] at hA
  obtain⟨A1,A2,rfl,hA1,hA2⟩:=hA.app
  have hn:=syms_noSg l A2 R (fun y hy=>hx y (by simp[hy])) hA2 hR
  have hb:=sym_back (hx x (by simp)) hA1 (A2++R) hn
  obtain⟨a,A',e,h1,_⟩:=sym_head (hx x (by simp)) hA1
  rw[List.append_assoc,symsR]
  rw[if_pos (by rw[e,List.cons_append];exact atSym_yes h1),if_neg (by omega),hb]
  simp only[PR.bind]
  rw[syms_back l f (acc++[x]) A2 R (fun y hy=>hx y (by simp[hy])) hA2 hR hS (by simp;omega) (by simp;omega)]
  simp
theorem syms1_back {l:List Sy} {A:List Wd} (R:List Wd) (hx:∀x∈l,symB x=true) (h1:1≤l.length) (h12:l.length≤12) (hA:Says A (l.flatMap symK)) (hR:NoSg R) (hS:atSymB R=false):syms1 (A++R)=.ok l R:=by
 cases l with
 | nil=>simp at h1
 | cons x l=>
  rw[List.flatMap_cons] at hA
  obtain⟨A1,A2,rfl,hA1,hA2⟩:=hA.app
  have hn:=syms_noSg l A2 R (fun y hy=>hx y (by simp[hy])) hA2 hR
  rw[List.append_assoc]
  unfold syms1
  rw[sym_back (hx x (by simp)) hA1 _ hn]
  simp only[PR.bind]
  rw[syms_back l 13 [x] A2 R (fun y hy=>hx y (by simp[hy])) hA2 hR hS (by simp at h12 ⊢;omega) (by simp)]
  simp
theorem cons_back {c:ByteArray} {A:List Wd} (hA:Says A (consK c)) (R:List Wd) (hR:isT [46] R=false):consR (A++R)=.ok c R:=by
 unfold consK at hA
 unfold consR
 split at hA
 ·rename_i h
  rw[hA.nil,List.nil_append,hR,em_iff.1 h];rfl
 ·obtain⟨a,A,rfl,ha,hA⟩:=hA.cons
  obtain⟨b,rfl,hb⟩:=hA.one
  rw[List.cons_append,List.singleton_append,isT_yes (cw_fields ha).2.1,if_pos rfl,List.tail_cons,name_back hb]
theorem end_noSg {b:Wd} (hb:b.text=[59]) (R:List Wd):NoSg (b::R):=⟨tx_no hb (by decide),tx_no hb (by decide),tx_no hb (by decide)⟩
structure EndW (b:Wd):Prop where
 text:b.text=[59]
 kind:b.kind=6
theorem EndW.atSym {b:Wd} (hb:EndW b) (R:List Wd):atSymB (b::R)=false:=by
 unfold atSymB
 rw[wd_cons,hb.kind,tx_no hb.text (by decide)];rfl
theorem key_atSym {b:Wd} {k:Nat} {t:List UInt8} (hk:b.kind=k) (ht:b.text=t) (h1:k=2∨k=6) (h2:t≠[123]) (R:List Wd):atSymB (b::R)=false:=by
 unfold atSymB
 rw[wd_cons,hk,tx_no ht h2]
 rcases h1 with rfl | rfl<;>rfl
theorem lexical_back {p:Pr} (hp:prodB p=true) (hlx:p.lex=true) {A:List Wd} (hA:Says A (prodK p)) (d:Df) (hd:d.prods.length<200) {b:Wd} (hb:EndW b) (R:List Wd):lexicalR d (A++b::R)=.ok { d with prods:=d.prods++[p] } (b::R):=by
 obtain⟨lex,sort,cons,br,syms⟩:=p
 dsimp only at hlx
 subst hlx
 unfold prodB at hp
 simp only[Bool.and_eq_true,List.all_eq_true] at hp
 obtain⟨⟨⟨⟨hs,hc⟩,hbr⟩,hlen⟩,hsy⟩:=hp
 obtain rfl:br=false:=by cases br<;>simp at hbr ⊢
 unfold prodK at hA
 dsimp only at hA
 obtain⟨a1,A,rfl,ha1,hA⟩:=hA.cons
 obtain⟨a2,A,rfl,ha2,hA⟩:=hA.cons
 obtain⟨A1,A2,rfl,hA1,hA2⟩:=hA.app
 obtain⟨a3,A2,rfl,ha3,hA2⟩:=hA2.cons
 simp only[Bool.false_eq_true,if_false,List.append_nil] at hA2
 unfold btw at hlen
 simp only[Bool.and_eq_true,decide_eq_true_eq] at hlen
 unfold lexicalR
 rw[if_neg (by omega)]
 simp only[List.cons_append,List.tail_cons,List.append_assoc]
 rw[name_back ha2]
 simp only[PR.bind]
 rw[cons_back hA1 _ (tx_no (cw_fields ha3).2.1 (by decide))]
 simp only
 rw[want_back ha3]
 simp only
 rw[show (201:Nat)=200+1 from rfl,lexR,syms1_back (b::R) hsy (by omega) (by omega) hA2 (end_noSg hb.text R) (hb.atSym R)]
 simp only[PR.bind]
 rw[tx_no hb.text (by decide)]
 rfl
theorem plain_back {p:Pr} (hp:prodB p=true) (hlx:p.lex=false) {A:List Wd} (hA:Says A (prodK p)) (d:Df) (hd:d.prods.length<200) {b:Wd} (hb:EndW b) (R:List Wd):plainR d (A++b::R)=.ok { d with prods:=d.prods++[p] } (b::R):=by
 obtain⟨lex,sort,cons,br,syms⟩:=p
 dsimp only at hlx
 subst hlx
 unfold prodB at hp
 simp only[Bool.and_eq_true,List.all_eq_true] at hp
 obtain⟨⟨⟨⟨hs,hc⟩,hbr⟩,hlen⟩,hsy⟩:=hp
 have hbe:br=em cons:=by revert hbr;cases br<;>cases em cons<;>simp
 unfold prodK at hA
 dsimp only at hA
 obtain⟨a1,A,rfl,ha1,hA⟩:=hA.cons
 obtain⟨a2,A,rfl,ha2,hA⟩:=hA.cons
 obtain⟨A1,A2,rfl,hA1,hA2⟩:=hA.app
 obtain⟨a3,A2,rfl,ha3,hA2⟩:=hA2.cons
 obtain⟨A3,A4,rfl,hA3,hA4⟩:=hA2.app
 unfold btw at hlen
 simp only[Bool.and_eq_true,decide_eq_true_eq] at hlen
 unfold plainR
 rw[if_neg (by omega)]
 simp only[List.cons_append,List.tail_cons,List.append_assoc]
 rw[name_back ha2]
 simp only[PR.bind]
 rw[cons_back hA1 _ (tx_no (cw_fields ha3).2.1 (by decide))]
 simp only
 rw[want_back ha3]
 simp only
 cases hem:em cons with
 | true=>
  rw[hem] at hbe
  subst hbe
  rw[if_pos rfl] at hA4
  obtain⟨a4,rfl,ha4⟩:=hA4.one
  obtain⟨k4,t4,_⟩:=cw_fields ha4
  rw[List.singleton_append,syms1_back (a4::b::R) hsy (by omega) (by omega) hA3 ⟨tx_no t4 (by decide),tx_no t4 (by decide),tx_no t4 (by decide)⟩ (key_atSym k4 t4 (.inl rfl) (by decide) _)]
  dsimp only
  rw[if_pos rfl,want_back ha4]
 | false=>
  rw[hem] at hbe
  subst hbe
  simp only[Bool.false_eq_true,if_false] at hA4
  rw[hA4.nil,List.nil_append,syms1_back (b::R) hsy (by omega) (by omega) hA3 (end_noSg hb.text R) (hb.atSym R)]
  simp only[Bool.false_eq_true,if_false]
theorem names_back:∀(l:List ByteArray) (f:Nat) (acc:List ByteArray) (A R:List Wd),Says A (l.map namT)→(wd R).kind≠1→acc.length+l.length≤16→17≤f+acc.length→namesR f acc (A++R)=.ok (acc++l) R
 | [],f,acc,A,R,hA,hR,hl,hf=>by
  obtain⟨f,rfl⟩:∃g,f=g+1:=⟨f-1,by simp at hl;omega⟩
  rw[hA.nil,List.nil_append,namesR,if_neg hR,List.append_nil]
 | x::l,f,acc,A,R,hA,hR,hl,hf=>by
  simp only[List.length_cons] at hl
  obtain⟨f,rfl⟩:∃g,f=g+1:=⟨f-1,by omega⟩
  rw[List.map_cons] at hA
  obtain⟨a,A,rfl,ha,hA⟩:=hA.cons
  rw[List.cons_append,namesR,wd_cons,if_pos (cw_fields ha).1,if_neg (by omega),name_back ha]
  simp only[PR.bind]
  rw[names_back l f (acc++[x]) A R hA hR (by simp;omega) (by simp;omega)]
  simp
theorem group_back {g:Gr} (hg:groupB g=true) {A:List Wd} (hA:Says A (groupK g)) (h:Nat) (hh:h<16) (R:List Wd) (hR:(wd R).kind≠1):groupR h (A++R)=.ok g R:=by
 obtain⟨a,cons⟩:=g
 unfold groupB btw at hg
 simp only[Bool.and_eq_true,decide_eq_true_eq,List.all_eq_true] at hg
 obtain⟨⟨⟨h0,h3⟩,h1,h16⟩,hn⟩:=hg
 unfold groupK at hA
 dsimp only at hA
 obtain⟨A1,A2,rfl,hA1,hA2⟩:=hA.app
 cases cons with
 | nil=>simp at h1
 | cons n l=>
  rw[List.map_cons] at hA2
  obtain⟨b,A2,rfl,hb,hA2⟩:=hA2.cons
  obtain⟨kb,tb,_⟩:=cw_fields hb
  have hnm:=hn n (by simp)
  have nok:∀(c:UInt8) (t:List UInt8),great c.toNat=false→isT (c::t) (b::(A2++R))=false:=fun c t hc=>tx_no tb (nm_not hnm hc)
  have rest:(nameR (b::(A2++R))).bind (fun n' L'=>(namesR 17 [n'] L').bind fun ns L'=>PR.ok (⟨a,ns⟩:Gr) L')=.ok ⟨a,n::l⟩ R:=by
   rw[name_back hb]
   simp only[PR.bind]
   rw[names_back l 17 [n] A2 R hA2 hR (by simp at h16 ⊢;omega) (by simp)]
   rfl
  unfold assocK at hA1
  have keyed:∀ {x:Wd} {t:List UInt8} (q:Int),cw x=keyT t→a=q→¬q=0→assocB (x::b::(A2++R))=q→groupR h (x::b::(A2++R))=.ok ⟨a,n::l⟩ R:=fun q hx ea hq0 hq=>by
   unfold groupR
   rw[hq,if_neg (fun h=>hq0 h.1),if_neg (by omega),if_neg hq0,List.tail_cons,←ea]
   exact rest
  by_cases a1:a=1
  ·rw[if_pos a1] at hA1
   obtain⟨x,rfl,hx⟩:=hA1.one
   exact keyed 1 hx a1 (by decide) (by unfold assocB;rw[isT_yes (cw_fields hx).2.1];rfl)
  rw[if_neg a1] at hA1
  by_cases a2:a=2
  ·rw[if_pos a2] at hA1
   obtain⟨x,rfl,hx⟩:=hA1.one
   exact keyed 2 hx a2 (by decide) (by unfold assocB;rw[tx_no (cw_fields hx).2.1 (by decide),isT_yes (cw_fields hx).2.1];rfl)
  rw[if_neg a2] at hA1
  by_cases a3:a=3
  ·rw[if_pos a3] at hA1
   obtain⟨x,rfl,hx⟩:=hA1.one
   exact keyed 3 hx a3 (by decide) (by unfold assocB;rw[tx_no (cw_fields hx).2.1 (by decide),tx_no (cw_fields hx).2.1 (by decide),isT_yes (cw_fields hx).2.1];rfl)
  rw[if_neg a3] at hA1
  have a0:a=0:=by omega
  rw[hA1.nil,List.nil_append]
  unfold groupR
  have hz:assocB ((b::A2)++R)=0:=by
   unfold assocB
   rw[List.cons_append,nok _ _ (by decide),nok _ _ (by decide),nok _ _ (by decide)];rfl
  rw[hz,if_neg (fun h=>h.2 (by rw[List.cons_append,wd_cons];exact kb)),if_neg (by omega),if_pos rfl,←a0]
  exact rest
theorem groups_back:∀(l:List Gr) (f:Nat) (acc:List Gr) (A R:List Wd),l≠[]→(∀g∈l,groupB g=true)→Says A (chainK l)→(wd R).kind≠1→isT [62] R=false→acc.length+l.length≤16→17≤f+acc.length→groupsR f acc (A++R)=.ok (acc++l) R
 | [],f,acc,A,R,hn,_,_,_,_,_,_=>absurd rfl hn
 | [g],f,acc,A,R,_,hg,hA,hk,hR,hl,hf=>by
  simp only[List.length_cons,List.length_nil] at hl
  obtain⟨f,rfl⟩:∃g,f=g+1:=⟨f-1,by omega⟩
  rw[chainK] at hA
  rw[groupsR,group_back (hg g (by simp)) hA _ (by omega) R hk]
  simp only[PR.bind]
  rw[hR];rfl
 | g::h::l,f,acc,A,R,_,hg,hA,hk,hR,hl,hf=>by
  simp only[List.length_cons] at hl
  obtain⟨f,rfl⟩:∃g,f=g+1:=⟨f-1,by omega⟩
  rw[chainK] at hA
  obtain⟨A1,A2,rfl,hA1,hA2⟩:=hA.app
  obtain⟨b,A2,rfl,hb,hA2⟩:=hA2.cons
  obtain⟨kb,tb,_⟩:=cw_fields hb
  rw[List.append_assoc,List.cons_append,groupsR,group_back (hg g (by simp)) hA1 _ (by omega) (b::(A2++R)) (by rw[wd_cons,kb];decide)]
  simp only[PR.bind]
  rw[isT_yes tb,if_pos rfl,List.tail_cons]
  rw[groups_back (h::l) f (acc++[g]) A2 R (by simp) (fun x hx=>hg x (by simp only[List.mem_cons] at hx ⊢;exact .inr hx)) hA2 hk hR (by simp;omega) (by simp;omega)]
  simp
theorem chain_back {c:List Gr} (hc:chainB c=true) {A:List Wd} (hA:Says A (prioK c)) {b:Wd} (hb:EndW b) (R:List Wd):groupsR 17 [] (A++b::R).tail=.ok c (b::R):=by
 unfold chainB btw at hc
 simp only[Bool.and_eq_true,decide_eq_true_eq,List.all_eq_true] at hc
 unfold prioK at hA
 obtain⟨a,A,rfl,_,hA⟩:=hA.cons
 rw[List.cons_append,List.tail_cons]
 exact groups_back c 17 [] A (b::R) (fun e=>by rw[e] at hc;simp at hc) hc.2 hA (by rw[wd_cons,hb.kind];decide) (tx_no hb.text (by decide)) (by simp;omega) (by simp)
theorem itemKB_end {b:Wd} {R:List Wd} (hk:b.kind=6) (h1:b.text≠[95]) (h2:b.text≠[47]) (h3:b.text≠[110,101,115,116]) (h4:b.text≠[103,114,111,117,112]):itemKB (b::R)=0:=by
 unfold itemKB
 rw[wd_cons,hk,isT_false h1,isT_false h2,isT_false h3,isT_false h4];rfl
mutual
theorem itR_up:∀(c:Nat) (i:It),c<(itR c i).1
 | c,.mk k t n l=>by
  rw[itR]
  split
  ·exact itsR_mono (c+1) l
  ·exact Nat.lt_succ_self c
theorem itsR_mono:∀(c:Nat) (l:List It),c≤(itsR c l).1
 | c,[]=>by rw[itsR];exact Nat.le_refl _
 | c,i::l=>by
  have hi:=itR_up c i
  rw[itsR]
  split
  ·exact Nat.le_trans (Nat.le_of_lt hi) (itsR_mono _ l)
  ·exact Nat.le_of_lt hi
end
mutual
theorem item_back:∀(i:It) (f h:Nat) (acc:List It) (A R:List Wd),(itR h i).2=true→Says A (itemK i)→66≤f+1+h→itemsR (f+1) h acc (A++R)=itemsR f (itR h i).1 (acc++[i]) R
 | .mk k t n l,f,h,acc,A,R,hr,hA,hf=>by
  rw[itR] at hr ⊢
  split at hr
  ·rename_i hc
   rw[if_pos hc]
   obtain⟨hh,hib⟩:=hc
   rw[itemK] at hA
   have hib:(if k=1 then decide (t.size≤32)&&n==0&&!decide (0<l.length) else if k=2 then em t&&numB n&&!decide (0<l.length) else if k=3 then em t&&n==0&&!decide (0<l.length) else if k=4 then em t&&n==0&&!decide (0<l.length) else if k=5 then em t&&numB n else if k=6 then em t&&n==0 else false)=true:=hib
   have nilc:∀ {m:Nat} (hl:(!decide (0<l.length))=true),l=[]:=fun hl=>by
    cases l with
    | nil=>rfl
    | cons x l=>simp at hl
   by_cases k1:k=1
   ·rw[if_pos k1] at hA hib
    simp only[Bool.and_eq_true,decide_eq_true_eq,beq_iff_eq] at hib
    obtain⟨⟨h1,h2⟩,h3⟩:=hib
    obtain rfl:=nilc (m:=0) h3
    subst h2 k1
    obtain⟨a,rfl,ha⟩:=hA.one
    have hk:itemKB (a::R)=1:=by unfold itemKB;rw[wd_cons,(cw_fields ha).1];rfl
    rw[List.singleton_append,itemsR,hk,if_neg (by decide),if_neg (by omega),if_pos rfl,text_back ha h1,itsR]
    rfl
   rw[if_neg k1] at hA hib
   by_cases k2:k=2
   ·rw[if_pos k2] at hA hib
    simp only[Bool.and_eq_true] at hib
    obtain⟨⟨h1,h2⟩,h3⟩:=hib
    obtain rfl:=nilc (m:=0) h3
    obtain rfl:=em_iff.1 h1
    subst k2
    unfold numB at h2
    simp only[Bool.and_eq_true,decide_eq_true_eq] at h2
    obtain⟨a,rfl,ha⟩:=hA.one
    have hk:itemKB (a::R)=2:=by unfold itemKB;rw[wd_cons,(cw_fields ha).1];rfl
    rw[List.singleton_append,itemsR,hk,if_neg (by decide),if_neg (by omega),if_neg (by decide),if_pos rfl,num_back ha,itsR]
    simp only[PR.bind]
    rw[show ((n.toNat:Nat):Int)=n by omega]
   rw[if_neg k2] at hA hib
   by_cases k3:k=3
   ·rw[if_pos k3] at hA hib
    simp only[Bool.and_eq_true,beq_iff_eq] at hib
    obtain⟨⟨h1,h2⟩,h3⟩:=hib
    obtain rfl:=nilc (m:=0) h3
    obtain rfl:=em_iff.1 h1
    subst h2 k3
    obtain⟨a,rfl,ha⟩:=hA.one
    have hk:itemKB (a::R)=3:=by unfold itemKB;rw[wd_cons,(cw_fields ha).1,isT_yes (cw_fields ha).2.1];rfl
    rw[List.singleton_append,itemsR,hk,if_neg (by decide),if_neg (by omega),if_neg (by decide),if_neg (by decide),if_pos rfl,itsR]
    rfl
   rw[if_neg k3] at hA hib
   by_cases k4:k=4
   ·rw[if_pos k4] at hA hib
    simp only[Bool.and_eq_true,beq_iff_eq] at hib
    obtain⟨⟨h1,h2⟩,h3⟩:=hib
    obtain rfl:=nilc (m:=0) h3
    obtain rfl:=em_iff.1 h1
    subst h2 k4
    obtain⟨a,rfl,ha⟩:=hA.one
    have hk:itemKB (a::R)=4:=by unfold itemKB;rw[wd_cons,(cw_fields ha).1,tx_no (cw_fields ha).2.1 (by decide),isT_yes (cw_fields ha).2.1];rfl
    rw[List.singleton_append,itemsR,hk,if_neg (by decide),if_neg (by omega),if_neg (by decide),if_neg (by decide),if_neg (by decide),if_pos rfl,itsR]
    rfl
   rw[if_neg k4] at hA hib
   have within:∀(A:List Wd) (R:List Wd),Says A (sgT [40]::(itemsK l++[sgT [41]]))→∀ {β:Type} (K:Nat×List It→List Wd→PR β),((wantR [40] (A++R)).bind fun _ L=>(itemsR f (h+1) [] L).bind fun q L=>(wantR [41] L).bind fun _ L=>K q L)=K ((itsR (h+1) l).1,l) R:=fun A R hA β K=>by
    obtain⟨a,A,rfl,ha,hA⟩:=hA.cons
    obtain⟨A1,A2,rfl,hA1,hA2⟩:=hA.app
    obtain⟨b,rfl,hb⟩:=hA2.one
    have hk:itemKB (b::R)=0:=itemKB_end (cw_fields hb).1 (by rw[(cw_fields hb).2.1];decide) (by rw[(cw_fields hb).2.1];decide) (by rw[(cw_fields hb).2.1];decide) (by rw[(cw_fields hb).2.1];decide)
    rw[List.cons_append,want_back ha]
    simp only[PR.bind]
    rw[List.append_assoc,List.singleton_append,items_back l f (h+1) [] A1 (b::R) hr hA1 hk (by omega) hh]
    simp only[List.nil_append]
    rw[want_back hb]
   by_cases k5:k=5
   ·rw[if_pos k5] at hA hib
    simp only[Bool.and_eq_true] at hib
    obtain⟨h1,h2⟩:=hib
    obtain rfl:=em_iff.1 h1
    subst k5
    unfold numB at h2
    simp only[Bool.and_eq_true,decide_eq_true_eq] at h2
    obtain⟨a,A,rfl,ha,hA⟩:=hA.cons
    obtain⟨b,A,rfl,hb,hA⟩:=hA.cons
    have hk:itemKB (a::(b::A++R))=5:=by unfold itemKB;rw[wd_cons,(cw_fields ha).1,tx_no (cw_fields ha).2.1 (by decide),tx_no (cw_fields ha).2.1 (by decide),isT_yes (cw_fields ha).2.1];rfl
    rw[List.cons_append,itemsR,hk,if_neg (by decide),if_neg (by omega),if_neg (by decide),if_neg (by decide),if_neg (by decide),if_neg (by decide),if_pos rfl,List.tail_cons,List.cons_append,num_back hb]
    show ((wantR [40] (A++R)).bind fun _ L=>(itemsR f (h+1) [] L).bind fun q L=>(wantR [41] L).bind fun _ L=>itemsR f q.1 (acc++[.mk 5 ⟨#[]⟩ (n.toNat:Int) q.2]) L)=_
    refine (within A R hA (fun q L=>itemsR f q.1 (acc++[.mk 5 ⟨#[]⟩ (n.toNat:Int) q.2]) L)).trans ?_
    show itemsR f (itsR (h+1) l).1 (acc++[.mk 5 ⟨#[]⟩ (n.toNat:Int) l]) R=_
    rw[show ((n.toNat:Nat):Int)=n by omega]
   rw[if_neg k5] at hA hib
   by_cases k6:k=6
   ·rw[if_pos k6] at hA hib
    simp only[Bool.and_eq_true,beq_iff_eq] at hib
    obtain⟨h1,h2⟩:=hib
    obtain rfl:=em_iff.1 h1
    subst h2 k6
    obtain⟨a,A,rfl,ha,hA⟩:=hA.cons
    have hk:itemKB (a::(A++R))=6:=by unfold itemKB;rw[wd_cons,(cw_fields ha).1,tx_no (cw_fields ha).2.1 (by decide),tx_no (cw_fields ha).2.1 (by decide),tx_no (cw_fields ha).2.1 (by decide),isT_yes (cw_fields ha).2.1];rfl
    rw[List.cons_append,itemsR,hk,if_neg (by decide),if_neg (by omega),if_neg (by decide),if_neg (by decide),if_neg (by decide),if_neg (by decide),if_neg (by decide),List.tail_cons]
    exact within A R hA (fun q L=>itemsR f q.1 (acc++[.mk 6 ⟨#[]⟩ 0 q.2]) L)
   rw[if_neg k6] at hib
   cases hib
  ·cases hr
theorem items_back:∀(l:List It) (f h:Nat) (acc:List It) (A R:List Wd),(itsR h l).2=true→Says A (itemsK l)→itemKB R=0→66≤f+h→h≤64→itemsR f h acc (A++R)=.ok ((itsR h l).1,acc++l) R
 | [],f,h,acc,A,R,_,hA,hk,hf,hh=>by
  obtain⟨f,rfl⟩:∃g,f=g+1:=⟨f-1,by omega⟩
  rw[itemsK] at hA
  rw[hA.nil,List.nil_append,itemsR,if_pos hk,itsR,List.append_nil]
 | i::l,f,h,acc,A,R,hr,hA,hk,hf,hh=>by
  obtain⟨f,rfl⟩:∃g,f=g+1:=⟨f-1,by omega⟩
  rw[itemsK] at hA
  obtain⟨A1,A2,rfl,hA1,hA2⟩:=hA.app
  rw[itsR] at hr ⊢
  split at hr
  ·rename_i hq
   rw[if_pos hq,List.append_assoc,item_back i f h acc A1 (A2++R) hq hA1 hf]
   have hle:=(itR_le h i hh).2 hq
   have hgt:=itR_up h i
   rw[items_back l f (itR h i).1 (acc++[i]) A2 R hr hA2 hk (by omega) hle]
   simp
  ·cases hr
end
theorem box_back {b:Bo} (hb:boxB b=true) {A:List Wd} (hA:Says A (boxK b)) {e:Wd} (he:EndW e) (R:List Wd):((nameR (A++e::R).tail).bind fun s L=>(wantR [61] L).bind fun _ L=>(itemsR 66 0 [] L).bind fun q L=>PR.ok (⟨s,q.2⟩:Bo) L)=.ok b (e::R):=by
 unfold boxB at hb
 simp only[Bool.and_eq_true] at hb
 unfold boxK at hA
 obtain⟨a1,A,rfl,_,hA⟩:=hA.cons
 obtain⟨a2,A,rfl,ha2,hA⟩:=hA.cons
 obtain⟨a3,A,rfl,ha3,hA⟩:=hA.cons
 simp only[List.cons_append,List.tail_cons]
 rw[name_back ha2]
 simp only[PR.bind]
 rw[want_back ha3]
 simp only
 rw[items_back b.items 66 0 [] A (e::R) hb.2 hA (itemKB_end he.kind (by rw[he.text];decide) (by rw[he.text];decide) (by rw[he.text];decide) (by rw[he.text];decide)) (by omega) (by omega)]
 rfl
structure StepK (s:List Tk) (d d':Df):Prop where
 head:∀A,Says A s→∃a A',A=a::A'∧a.kind≠7
 run:∀A b R,Says A s→EndW b→stmtR d (A++b::R)=.ok d' (b::R)
def K_start:List UInt8:=[115,116,97,114,116]
theorem key_head {t:List UInt8} {ts:List Tk}:∀A,Says A (keyT t::ts)→∃a A',A=a::A'∧a.kind≠7:=fun A h=>by
 obtain⟨a,A',rfl,ha,_⟩:=h.cons
 exact⟨a,A',rfl,by rw[(cw_fields ha).1];decide⟩
theorem stmt_key {a:Wd} {t:List UInt8} (ha:cw a=keyT t) (d:Df) (L:List Wd) :
  stmtR d (a::L)=if t=[115,116,97,114,116] then (if em d.start then (nameR L).bind fun n L=>.ok { d with start:=n } L else .bad (wd (a::L)).fro 31)
   else if t=[108,97,121,111,117,116] then (if em d.layout then (nameR L).bind fun n L=>.ok { d with layout:=n } L else .bad (wd (a::L)).fro 31)
   else if t=[108,101,120] then lexicalR d (a::L)
   else if t=[99,102] then plainR d (a::L)
   else if t=[112,114,105,111] then (groupsR 17 [] L).bind fun c L=>.ok { d with chains:=d.chains++[c] } L
   else if t=[102,111,108,108,111,119] then (nameR L).bind fun s L=>(setR L).bind fun x L=>.ok { d with follows:=d.follows++[⟨s,x⟩] } L
   else if t=[114,101,106,101,99,116] then (nameR L).bind fun s L=>(nameR L).bind fun b L=>.ok { d with rejects:=d.rejects++[⟨s,b⟩] } L
   else if t=[98,111,120] then (nameR L).bind fun s L=>(wantR [61] L).bind fun _ L=>(itemsR 66 0 [] L).bind fun q L=>.ok { d with boxes:=d.boxes++[⟨s,q.2⟩] } L
   else .bad (wd (a::L)).fro 30:=by
 have h2:=(cw_fields ha).2.1
 unfold stmtR
 simp only[isT_cons,h2,beq_iff_eq,List.tail_cons]
theorem start_step {s:ByteArray} {d:Df} (hd:em d.start=true):StepK [keyT [115,116,97,114,116],namT s] d { d with start:=s }:=⟨key_head,fun A b R hA _=>by
 obtain⟨a,A,rfl,ha,hA⟩:=hA.cons
 obtain⟨a2,rfl,ha2⟩:=hA.one
 rw[List.cons_append,stmt_key ha,if_pos rfl,if_pos hd,List.singleton_append,name_back ha2];rfl⟩
theorem layout_step {s:ByteArray} {d:Df} (hd:em d.layout=true):StepK [keyT [108,97,121,111,117,116],namT s] d { d with layout:=s }:=⟨key_head,fun A b R hA _=>by
 obtain⟨a,A,rfl,ha,hA⟩:=hA.cons
 obtain⟨a2,rfl,ha2⟩:=hA.one
 rw[List.cons_append,stmt_key ha,if_neg (by decide),if_pos rfl,if_pos hd,List.singleton_append,name_back ha2];rfl⟩
theorem prod_step {p:Pr} (hp:prodB p=true) {d:Df} (hd:d.prods.length<200):StepK (prodK p) d { d with prods:=d.prods++[p] }:=⟨key_head,fun A b R hA hb=>by
 have hA0:=hA
 unfold prodK at hA
 obtain⟨a,A,rfl,ha,hA⟩:=hA.cons
 cases hl:p.lex with
 | true=>
  rw[hl] at ha
  have ha:cw a=keyT [108,101,120]:=ha
  have:=lexical_back hp hl hA0 d hd hb R
  rw[List.cons_append] at this ⊢
  rw[stmt_key ha,if_neg (by decide),if_neg (by decide),if_pos rfl,this]
 | false=>
  rw[hl] at ha
  have ha:cw a=keyT [99,102]:=ha
  have:=plain_back hp hl hA0 d hd hb R
  rw[List.cons_append] at this ⊢
  rw[stmt_key ha,if_neg (by decide),if_neg (by decide),if_neg (by decide),if_pos rfl,this]⟩
theorem chain_step {c:List Gr} (hc:chainB c=true) {d:Df}:StepK (prioK c) d { d with chains:=d.chains++[c] }:=⟨key_head,fun A b R hA hb=>by
 have hA0:=hA
 unfold prioK at hA
 obtain⟨a,A,rfl,ha,hA⟩:=hA.cons
 have:=chain_back hc hA0 hb R
 rw[List.cons_append,List.tail_cons] at this
 rw[List.cons_append,stmt_key ha,if_neg (by decide),if_neg (by decide),if_neg (by decide),if_neg (by decide),if_pos rfl,this];rfl⟩
theorem follow_step {f:Fo} {d:Df}:StepK (followK f) d { d with follows:=d.follows++[f] }:=⟨key_head,fun A b R hA _=>by
 unfold followK at hA
 obtain⟨a,A,rfl,ha,hA⟩:=hA.cons
 obtain⟨a2,A,rfl,ha2,hA⟩:=hA.cons
 obtain⟨a3,rfl,ha3⟩:=hA.one
 rw[List.cons_append,stmt_key ha,if_neg (by decide),if_neg (by decide),if_neg (by decide),if_neg (by decide),if_neg (by decide),if_pos rfl]
 simp only[List.cons_append,List.nil_append]
 rw[name_back ha2]
 simp only[PR.bind]
 rw[set_back ha3]⟩
theorem reject_step {f:Re} {d:Df}:StepK (rejectK f) d { d with rejects:=d.rejects++[f] }:=⟨key_head,fun A b R hA _=>by
 unfold rejectK at hA
 obtain⟨a,A,rfl,ha,hA⟩:=hA.cons
 obtain⟨a2,A,rfl,ha2,hA⟩:=hA.cons
 obtain⟨a3,rfl,ha3⟩:=hA.one
 rw[List.cons_append,stmt_key ha,if_neg (by decide),if_neg (by decide),if_neg (by decide),if_neg (by decide),if_neg (by decide),if_neg (by decide),if_pos rfl]
 simp only[List.cons_append,List.nil_append]
 rw[name_back ha2]
 simp only[PR.bind]
 rw[name_back ha3]⟩
theorem box_step {x:Bo} (hx:boxB x=true) {d:Df}:StepK (boxK x) d { d with boxes:=d.boxes++[x] }:=⟨key_head,fun A b R hA hb=>by
 have hA0:=hA
 unfold boxK at hA
 obtain⟨a,A,rfl,ha,hA⟩:=hA.cons
 have:=box_back hx hA0 hb R
 rw[List.cons_append,List.tail_cons] at this
 rw[List.cons_append,stmt_key ha,if_neg (by decide),if_neg (by decide),if_neg (by decide),if_neg (by decide),if_neg (by decide),if_neg (by decide),if_neg (by decide),if_pos rfl]
 cases h1:nameR (A++b::R) with
 | bad p c=>rw[h1] at this;cases this
 | ok s L=>
  rw[h1] at this
  simp only[PR.bind] at this ⊢
  cases h2:wantR [61] L with
  | bad p c=>rw[h2] at this;cases this
  | ok u L=>
   rw[h2] at this
   simp only at this ⊢
   cases h3:itemsR 66 0 [] L with
   | bad p c=>rw[h3] at this;cases this
   | ok q L=>
    rw[h3] at this
    simp only[PR.ok.injEq] at this ⊢
    obtain⟨rfl,rfl⟩:=this
    exact⟨rfl,rfl⟩⟩
inductive StepsK:List (List Tk)→Df→Df→Prop
 | nil (d:Df):StepsK [] d d
 | cons {s:List Tk} {ss:List (List Tk)} {d d1 d2:Df} (h:StepK s d d1) (t:StepsK ss d1 d2):StepsK (s::ss) d d2
theorem StepsK.app {ss ts:List (List Tk)} {d d1 d2:Df} (h:StepsK ss d d1) (t:StepsK ts d1 d2):StepsK (ss++ts) d d2:=by
 induction h with
 | nil d=>exact t
 | cons h _ ih=>exact .cons h (ih t)
def Ends (ss:List (List Tk)):List Tk:=ss.flatMap fun s=>s++[sgT [59]]
theorem StepsK.run {ss:List (List Tk)} {d d':Df} (h:StepsK ss d d'):∀(f:Nat) (A R:List Wd),Says A (Ends ss)→stmtsR (f+ss.length) d (A++R)=stmtsR f d' R:=by
 induction h with
 | nil d=>intro f A R hA;rw[hA.nil];rfl
 | @cons s ss d d1 d2 h t ih=>
  intro f A R hA
  unfold Ends at hA
  rw[List.flatMap_cons,List.append_assoc] at hA
  obtain⟨A1,A2,rfl,hA1,hA2⟩:=hA.app
  rw[List.singleton_append] at hA2
  obtain⟨b,A2,rfl,hb,hA2⟩:=hA2.cons
  have he:EndW b:=⟨(cw_fields hb).2.1,(cw_fields hb).1⟩
  obtain⟨a,A',e,hk⟩:=h.head A1 hA1
  have hr:=h.run A1 b (A2++R) hA1 he
  rw[List.length_cons,←Nat.add_assoc,List.append_assoc,List.cons_append,stmtsR]
  rw[if_neg (by rw[e,List.cons_append,wd_cons];exact hk),hr]
  simp only[PR.bind]
  rw[want_back hb]
  exact ih f A2 R hA2
theorem prods_steps:∀(ps:List Pr) (d:Df),(∀p∈ps,prodB p=true)→d.prods.length+ps.length≤200→StepsK (ps.map prodK) d { d with prods:=d.prods++ps }
 | [],d,_,_=>by rw[List.append_nil];exact .nil d
 | p::ps,d,hp,hl=>by
  simp only[List.length_cons] at hl
  have:=prods_steps ps { d with prods:=d.prods++[p] } (fun q hq=>hp q (by simp[hq])) (by simp;omega)
  rw[List.append_assoc,List.singleton_append] at this
  exact .cons (prod_step (hp p (by simp)) (by omega)) this
theorem chains_steps:∀(l:List (List Gr)) (d:Df),(∀p∈l,chainB p=true)→StepsK (l.map prioK) d { d with chains:=d.chains++l }
 | [],d,_=>by rw[List.append_nil];exact .nil d
 | p::l,d,hp=>by
  have:=chains_steps l { d with chains:=d.chains++[p] } (fun q hq=>hp q (by simp[hq]))
  rw[List.append_assoc,List.singleton_append] at this
  exact .cons (chain_step (hp p (by simp))) this
theorem follows_steps:∀(l:List Fo) (d:Df),StepsK (l.map followK) d { d with follows:=d.follows++l }
 | [],d=>by rw[List.append_nil];exact .nil d
 | p::l,d=>by
  have:=follows_steps l { d with follows:=d.follows++[p] }
  rw[List.append_assoc,List.singleton_append] at this
  exact .cons follow_step this
theorem rejects_steps:∀(l:List Re) (d:Df),StepsK (l.map rejectK) d { d with rejects:=d.rejects++l }
 | [],d=>by rw[List.append_nil];exact .nil d
 | p::l,d=>by
  have:=rejects_steps l { d with rejects:=d.rejects++[p] }
  rw[List.append_assoc,List.singleton_append] at this
  exact .cons reject_step this
theorem boxes_steps:∀(l:List Bo) (d:Df),(∀p∈l,boxB p=true)→StepsK (l.map boxK) d { d with boxes:=d.boxes++l }
 | [],d,_=>by rw[List.append_nil];exact .nil d
 | p::l,d,hp=>by
  have:=boxes_steps l { d with boxes:=d.boxes++[p] } (fun q hq=>hp q (by simp[hq]))
  rw[List.append_assoc,List.singleton_append] at this
  exact .cons (box_step (hp p (by simp))) this
end Go.Proofs.YtcpakcffiopfjaaGreatDoor
