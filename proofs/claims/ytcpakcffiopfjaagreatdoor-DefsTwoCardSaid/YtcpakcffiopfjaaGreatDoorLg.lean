/- What is read is right; plain. -/
import Derived.Test.YtcpakcffiopfjaaGreatDoorE1
import Derived.Test.YtcpakcffiopfjaaGreatDoorE2
import Derived.Test.YtcpakcffiopfjaaGreatDoorC6
namespace Go.Proofs.YtcpakcffiopfjaaGreatDoor
open Go.RowKit
set_option linter.unusedVariables false
set_option linter.unusedSimpArgs false
set_option maxRecDepth 100000
set_option maxHeartbeats 16000000
def FL (L:List Wd):Prop:=∀d∈L,Fine d
theorem FL.rest {α:Type} {f:List Wd→PR α} (hf:Rdr f) {L R:List Wd} {a:α} (h:FL L) (e:f L=.ok a R):FL R:=by
 obtain⟨C,e,_⟩:=hf.loc L a R e
 intro d hd
 exact h d (by rw[e];exact List.mem_append_right _ hd)
theorem FL.tail {L:List Wd} (h:FL L):FL L.tail:=fun d hd=>h d (List.mem_of_mem_tail hd)
theorem FL.head {L:List Wd} (h:FL L) {k:Nat} (hk:(wd L).kind=k) (h0:k≠0):Fine (wd L):=by
 cases L with
 | nil=>exact absurd hk.symm h0
 | cons x L=>exact h x (by simp)
theorem taken_ok {k:Nat} {α:Type} {g:Wd→α} {L R:List Wd} {a:α} (e:((takeR k L).bind fun x L=>.ok (g x) L)=.ok a R):(wd L).kind=k∧a=g (wd L)∧R=L.tail:=by
 unfold takeR at e
 split at e
 ·rename_i hk
  cases e
  exact⟨hk,rfl,rfl⟩
 ·cases e
theorem name_right {L R:List Wd} {s:ByteArray} (h:FL L) (e:nameR L=.ok s R):nm s=true:=by
 obtain⟨h1,rfl,_⟩:=taken_ok e
 exact (h.head h1 (by decide)).name h1
theorem num_right {L R:List Wd} {n:Nat} (h:FL L) (e:numR L=.ok n R):n≤999999:=by
 obtain⟨h1,rfl,_⟩:=taken_ok e
 exact (h.head h1 (by decide)).num h1
theorem bytB_size (l:List Nat):(bytB l).size=l.length:=by simp[bytB,ByteArray.size]
theorem text_right {L R:List Wd} {t:ByteArray} (e:textR L=.ok t R):t.size≤32∧t.size=(wd L).bytes.length:=by
 unfold textR at e
 split at e
 ·cases e
 ·rename_i hn
  obtain⟨h1,rfl,_⟩:=taken_ok e
  rw[bytB_size]
  exact⟨by omega,rfl⟩
theorem oftened_ok {s x:Sy} {L R:List Wd} (e:oftenR s L=.ok x R):x=⟨x.kind,s.text,s.set,s.name,s.sep⟩∧((x.kind=s.kind∧isT [63] L=false∧isT [42] L=false∧isT [43] L=false)∨x.kind=4∧isT [63] L=true∨x.kind=5∧isT [42] L=true∨x.kind=6∧isT [43] L=true):=by
 unfold oftenR at e
 split at e
 ·rename_i h;cases e;exact⟨rfl,.inr (.inl ⟨rfl,h⟩)⟩
 ·rename_i h1
  split at e
  ·rename_i h;cases e;exact⟨rfl,.inr (.inr (.inl ⟨rfl,h⟩))⟩
  ·rename_i h2
   split at e
   ·rename_i h;cases e;exact⟨rfl,.inr (.inr (.inr ⟨rfl,h⟩))⟩
   ·rename_i h3;cases e;exact⟨rfl,.inl ⟨rfl,by simpa using h1,by simpa using h2,by simpa using h3⟩⟩
theorem eqS_self (x:Sy):eqS x x=true:=eqS_iff.2 rfl
theorem em_nil:em (⟨#[]⟩:ByteArray)=true:=rfl
theorem size_nil:(⟨#[]⟩:ByteArray).size≤32:=by decide
theorem numB_nat {n:Nat} (h:n≤999999):numB (n:Int)=true:=by
 unfold numB
 simp only[Bool.and_eq_true,decide_eq_true_eq];omega
theorem sym_name (n:ByteArray) (hn:nm n=true) (k:Int) (hk:k=3∨k=4∨k=5∨k=6):symB ⟨k,⟨#[]⟩,⟨0,0,0,0⟩,n,⟨#[]⟩⟩=true:=by
 have h0:em n=false:=nm_ne hn
 unfold symB oftenB
 rcases hk with rfl | rfl | rfl | rfl<;>simp[eqS_self,hn,h0,em_nil,size_nil]
theorem sym_set' (s:St) (k:Int) (hk:k=2∨k=4∨k=5∨k=6):symB ⟨k,⟨#[]⟩,s,⟨#[]⟩,⟨#[]⟩⟩=true:=by
 unfold symB oftenB
 rcases hk with rfl | rfl | rfl | rfl<;>simp[eqS_self,em_nil]
theorem sym_sep (n p:ByteArray) (hn:nm n=true) (hp:p.size≤32) (k:Int) (hk:k=5∨k=6):symB ⟨k,⟨#[]⟩,⟨0,0,0,0⟩,n,p⟩=true:=by
 have h0:em n=false:=nm_ne hn
 unfold symB oftenB
 rcases hk with rfl | rfl<;>simp[eqS_self,hn,h0,hp]
theorem sym_right {L R:List Wd} {x:Sy} (h:FL L) (e:symR L=.ok x R):symB x=true:=by
 unfold symR at e
 split at e
 ·obtain⟨t,L1,h1,e⟩:=PR.bind_ok e
  cases e
  have:=(text_right h1).1
  unfold symB
  simp[eqS_self,this]
 split at e
 ·obtain⟨n,L1,h1,e⟩:=PR.bind_ok e
  obtain⟨e1,e2⟩:=oftened_ok e
  rw[e1]
  refine sym_name n (name_right h h1) _ ?_
  rcases e2 with ⟨k,_⟩ | ⟨k,_⟩ | ⟨k,_⟩ | ⟨k,_⟩<;>simp[k]
 split at e
 ·obtain⟨n,L1,h1,e⟩:=PR.bind_ok e
  obtain⟨e1,e2⟩:=oftened_ok e
  rw[e1]
  refine sym_set' n _ ?_
  rcases e2 with ⟨k,_⟩ | ⟨k,_⟩ | ⟨k,_⟩ | ⟨k,_⟩<;>simp[k]
 ·unfold bracesR at e
  obtain⟨u,L1,h1,e⟩:=PR.bind_ok e
  have f1:=h.rest (rdr_want (by simp)) h1
  obtain⟨n,L2,h2,e⟩:=PR.bind_ok e
  split at e
  ·cases e
  obtain⟨p,L3,h3,e⟩:=PR.bind_ok e
  obtain⟨u,L4,h4,e⟩:=PR.bind_ok e
  split at e
  ·cases e
  rename_i hs
  obtain⟨e1,e2⟩:=oftened_ok e
  rw[e1]
  refine sym_sep n p (name_right f1 h2) (text_right h3).1 _ ?_
  rcases e2 with ⟨_,_,a,b⟩ | ⟨k,q⟩ | ⟨k,_⟩ | ⟨k,_⟩
  ·exact absurd ⟨a,b⟩ hs
  ·exfalso
   have hx:(wd L4).text=[63]:=by simpa [isT] using q
   exact hs ⟨by unfold isT;rw[hx];rfl,by unfold isT;rw[hx];rfl⟩
  ·exact .inl k
  ·exact .inr k
theorem syms_right:∀(f:Nat) (acc:List Sy) (L:List Wd) (l:List Sy) (R:List Wd),FL L→(∀x∈acc,symB x=true)→1≤acc.length→acc.length≤12→symsR f acc L=.ok l R→(∀x∈l,symB x=true)∧1≤l.length∧l.length≤12
 | 0,acc,L,l,R,_,_,_,_,e=>by rw[symsR] at e;cases e
 | f+1,acc,L,l,R,h,ha,h1,h12,e=>by
  rw[symsR] at e
  split at e
  ·split at e
   ·cases e
   ·obtain⟨x,L1,hx,e⟩:=PR.bind_ok e
    exact syms_right f _ L1 l R (h.rest rdr_sym hx) (fun y hy=>by
     rcases List.mem_append.1 hy with hy | hy
     ·exact ha y hy
     ·simp at hy;rw[hy];exact sym_right h hx) (by simp) (by simp;omega) e
  ·cases e;exact⟨ha,h1,h12⟩
theorem syms1_right {L R:List Wd} {l:List Sy} (h:FL L) (e:syms1 L=.ok l R):(∀x∈l,symB x=true)∧1≤l.length∧l.length≤12:=by
 unfold syms1 at e
 obtain⟨x,L1,hx,e⟩:=PR.bind_ok e
 exact syms_right 13 [x] L1 l R (h.rest rdr_sym hx) (fun y hy=>by simp at hy;rw[hy];exact sym_right h hx) (by simp) (by simp) e
theorem cons_right {L R:List Wd} {c:ByteArray} (h:FL L) (e:consR L=.ok c R):nmN c=true:=by
 unfold consR at e
 split at e
 ·unfold nmN;rw[name_right h.tail e];simp
 ·cases e;rfl
theorem btw_nat {n m:Nat} (h1:1≤n) (h2:n≤m):btw (n:Int) (m:Int)=true:=by
 unfold btw
 simp only[Bool.and_eq_true,decide_eq_true_eq];omega
theorem prod_lex {s c:ByteArray} {y:List Sy} (hs:nm s=true) (hc:nmN c=true) (hy:(∀x∈y,symB x=true)∧1≤y.length∧y.length≤12):prodB ⟨true,s,c,false,y⟩=true:=by
 unfold prodB
 simp only[Bool.and_eq_true,List.all_eq_true]
 exact⟨⟨⟨⟨hs,hc⟩,rfl⟩,btw_nat (m:=12) hy.2.1 hy.2.2⟩,hy.1⟩
theorem prod_plain {s c:ByteArray} {y:List Sy} (hs:nm s=true) (hc:nmN c=true) (hy:(∀x∈y,symB x=true)∧1≤y.length∧y.length≤12):prodB ⟨false,s,c,em c,y⟩=true:=by
 unfold prodB
 simp only[Bool.and_eq_true,List.all_eq_true]
 exact⟨⟨⟨⟨hs,hc⟩,by cases em c<;>rfl⟩,btw_nat (m:=12) hy.2.1 hy.2.2⟩,hy.1⟩
theorem lex_right:∀(f:Nat) (s c:ByteArray) (ps:List Pr) (L:List Wd) (qs:List Pr) (R:List Wd),FL L→nm s=true→nmN c=true→(∀p∈ps,prodB p=true)→lexR f s c ps L=.ok qs R→∀p∈qs,prodB p=true
 | 0,s,c,ps,L,qs,R,_,_,_,_,e=>by rw[lexR] at e;cases e
 | f+1,s,c,ps,L,qs,R,h,hs,hc,hp,e=>by
  rw[lexR] at e
  obtain⟨y,L1,hy,e⟩:=PR.bind_ok e
  have f1:=h.rest rdr_syms1 hy
  have hq:∀p∈ps++[(⟨true,s,c,false,y⟩:Pr)],prodB p=true:=fun p hm=>by
   rcases List.mem_append.1 hm with hm | hm
   ·exact hp p hm
   ·simp at hm;rw[hm];exact prod_lex hs hc (syms1_right h hy)
  split at e
  ·split at e
   ·cases e
   ·exact lex_right f s c _ L1.tail qs R f1.tail hs hc hq e
  ·cases e;exact hq
theorem names_right:∀(f:Nat) (acc:List ByteArray) (L:List Wd) (l:List ByteArray) (R:List Wd),FL L→(∀x∈acc,nm x=true)→1≤acc.length→acc.length≤16→namesR f acc L=.ok l R→(∀x∈l,nm x=true)∧1≤l.length∧l.length≤16
 | 0,acc,L,l,R,_,_,_,_,e=>by rw[namesR] at e;cases e
 | f+1,acc,L,l,R,h,ha,h1,h12,e=>by
  rw[namesR] at e
  split at e
  ·split at e
   ·cases e
   ·obtain⟨x,L1,hx,e⟩:=PR.bind_ok e
    exact names_right f _ L1 l R (h.rest rdr_name hx) (fun y hy=>by
     rcases List.mem_append.1 hy with hy | hy
     ·exact ha y hy
     ·simp at hy;rw[hy];exact name_right h hx) (by simp) (by simp;omega) e
  ·cases e;exact⟨ha,h1,h12⟩
theorem assocB_le (L:List Wd):0≤assocB L∧assocB L≤3:=by
 unfold assocB
 split
 ·decide
 ·split
  ·decide
  ·split<;>decide
theorem group_right {h0:Nat} {L R:List Wd} {g:Gr} (h:FL L) (e:groupR h0 L=.ok g R):groupB g=true:=by
 unfold groupR at e
 split at e
 ·cases e
 split at e
 ·cases e
 have hL:FL (if assocB L=0 then L else L.tail):=by
  split
  ·exact h
  ·exact h.tail
 obtain⟨n,L1,h1,e⟩:=PR.bind_ok e
 obtain⟨ns,L2,h2,e⟩:=PR.bind_ok e
 cases e
 obtain⟨a,b,c⟩:=names_right 17 [n] L1 ns _ (hL.rest rdr_name h1) (fun y hy=>by simp at hy;rw[hy];exact name_right hL h1) (by simp) (by simp) h2
 obtain⟨p,q⟩:=assocB_le L
 unfold groupB
 simp only[Bool.and_eq_true,decide_eq_true_eq,List.all_eq_true]
 exact⟨⟨⟨p,q⟩,btw_nat (m:=16) b c⟩,a⟩
theorem groups_right:∀(f:Nat) (acc:List Gr) (L:List Wd) (l:List Gr) (R:List Wd),FL L→(∀x∈acc,groupB x=true)→acc.length≤16→groupsR f acc L=.ok l R→(∀x∈l,groupB x=true)∧1≤l.length∧l.length≤16
 | 0,acc,L,l,R,_,_,_,e=>by rw[groupsR] at e;cases e
 | f+1,acc,L,l,R,h,ha,h16,e=>by
  rw[groupsR] at e
  obtain⟨g,L1,hg,e⟩:=PR.bind_ok e
  have hr:=group_room hg
  have f1:=h.rest (rdr_group _) hg
  have hq:∀p∈acc++[g],groupB p=true:=fun p hm=>by
   rcases List.mem_append.1 hm with hm | hm
   ·exact ha p hm
   ·simp at hm;rw[hm];exact group_right h hg
  split at e
  ·exact groups_right f _ L1.tail l R f1.tail hq (by simp;omega) e
  ·cases e;exact⟨hq,by simp,by simp;omega⟩
theorem itsR_cons {c:Nat} {i:It} {l:List It} (h:(itR c i).2=true):itsR c (i::l)=itsR (itR c i).1 l:=by rw[itsR,if_pos h]
theorem itR_ok {c:Nat} {i:It} (hc:c+1≤64) (hi:itemB i=true):itR c i=itsR (c+1) i.items:=by rw[itR_eq,if_pos ⟨hc,hi⟩]
theorem items_right:∀(f h:Nat) (acc:List It) (L:List Wd) (q:Nat×List It) (R:List Wd),FL L→h≤64→itemsR f h acc L=.ok q R→∃l,q.2=acc++l∧itsR h l=(q.1,true)
 | 0,h,acc,L,q,R,_,_,e=>by rw[itemsR] at e;cases e
 | f+1,h,acc,L,q,R,hL,hh,e=>by
  have ih:=items_right f
  rw[itemsR] at e
  -- one item more
  have one:∀(i:It) (h':Nat) (L1:List Wd),FL L1→itemB i=true→h+1≤64→itsR (h+1) i.items=(h',true)→itemsR f h' (acc++[i]) L1=.ok q R→∃l,q.2=acc++l∧itsR h l=(q.1,true):=fun i h' L1 f1 hi h64 hk e=>by
   have h3:=(itsR_le (h+1) i.items h64).2 (by rw[hk])
   rw[hk] at h3
   obtain⟨l,e1,e2⟩:=ih h' (acc++[i]) L1 q R f1 h3 e
   refine⟨i::l,by rw[e1];simp,?_⟩
   have h4:=itR_ok h64 hi
   rw[hk] at h4
   rw[itsR_cons (by rw[h4]),h4]
   exact e2
  split at e
  ·cases e;exact⟨[],by simp,by rw[itsR]⟩
  split at e
  ·cases e
  rename_i h64
  have nil:∀c,itsR c []=(c,true):=fun c=>by rw[itsR]
  split at e
  ·obtain⟨t,L1,h1,e⟩:=PR.bind_ok e
   have:=(text_right h1).1
   exact one (.mk 1 t 0 []) (h+1) L1 (hL.rest rdr_text h1) (by simp[itemB,It.kind,It.text,It.n,It.items,this]) (by omega) (nil _) e
  split at e
  ·obtain⟨n,L1,h1,e⟩:=PR.bind_ok e
   have:=num_right hL h1
   exact one (.mk 2 ⟨#[]⟩ n []) (h+1) L1 (hL.rest rdr_num h1) (by simp[itemB,It.kind,It.text,It.n,It.items,numB_nat this,em_nil]) (by omega) (nil _) e
  split at e
  ·exact one (.mk 3 ⟨#[]⟩ 0 []) (h+1) L.tail hL.tail (by decide) (by omega) (nil _) e
  split at e
  ·exact one (.mk 4 ⟨#[]⟩ 0 []) (h+1) L.tail hL.tail (by decide) (by omega) (nil _) e
  split at e
  ·obtain⟨n,L1,h1,e⟩:=PR.bind_ok e
   have f1:=hL.tail.rest rdr_num h1
   obtain⟨u,L2,h2,e⟩:=PR.bind_ok e
   have f2:=f1.rest (rdr_want (by simp)) h2
   obtain⟨q2,L3,h3,e⟩:=PR.bind_ok e
   have f3:=f2.rest (rdr_items _ _ _) h3
   obtain⟨u,L4,h4,e⟩:=PR.bind_ok e
   have f4:=f3.rest (rdr_want (by simp)) h4
   have:=num_right hL.tail h1
   obtain⟨l,e1,e2⟩:=ih (h+1) [] L2 q2 L3 f2 (by omega) h3
   rw[List.nil_append] at e1
   exact one (.mk 5 ⟨#[]⟩ n q2.2) q2.1 L4 f4 (by simp[itemB,It.kind,It.text,It.n,numB_nat this,em_nil]) (by omega) (by rw[show It.items (.mk 5 ⟨#[]⟩ n q2.2)=q2.2 from rfl,e1];exact e2) e
  ·obtain⟨u,L2,h2,e⟩:=PR.bind_ok e
   have f2:=hL.tail.rest (rdr_want (by simp)) h2
   obtain⟨q2,L3,h3,e⟩:=PR.bind_ok e
   have f3:=f2.rest (rdr_items _ _ _) h3
   obtain⟨u,L4,h4,e⟩:=PR.bind_ok e
   have f4:=f3.rest (rdr_want (by simp)) h4
   obtain⟨l,e1,e2⟩:=ih (h+1) [] L2 q2 L3 f2 (by omega) h3
   rw[List.nil_append] at e1
   exact one (.mk 6 ⟨#[]⟩ 0 q2.2) q2.1 L4 f4 (by simp[itemB,It.kind,It.text,It.n,em_nil]) (by omega) (by rw[show It.items (.mk 6 ⟨#[]⟩ 0 q2.2)=q2.2 from rfl,e1];exact e2) e
structure RightD (d:Df):Prop where
 s:nmN d.start=true
 l:nmN d.layout=true
 n:d.prods.length≤200
 p:∀x∈d.prods,prodB x=true
 c:∀x∈d.chains,chainB x=true
 f:∀x∈d.follows,nm x.sort=true
 r:∀x∈d.rejects,nm x.sort=true∧nm x.by'=true
 b:∀x∈d.boxes,boxB x=true
theorem right_iff (d:Df):rightB d=true↔RightD d:=by
 unfold rightB
 simp only[Bool.and_eq_true,List.all_eq_true,decide_eq_true_eq]
 constructor
 ·rintro⟨⟨⟨⟨⟨⟨⟨a,b⟩,c⟩,d⟩,e⟩,f⟩,g⟩,h⟩;exact⟨a,b,c,d,e,f,g,h⟩
 ·rintro⟨a,b,c,d,e,f,g,h⟩;exact⟨⟨⟨⟨⟨⟨⟨a,b⟩,c⟩,d⟩,e⟩,f⟩,g⟩,h⟩
theorem nmN_of {s:ByteArray} (h:nm s=true):nmN s=true:=by unfold nmN;rw[h];simp
theorem mem_snoc {α:Type} {P:α→Prop} {l:List α} {a:α} (h:∀x∈l,P x) (ha:P a):∀x∈l++[a],P x:=fun x hx=>by
 rcases List.mem_append.1 hx with hx | hx
 ·exact h x hx
 ·simp at hx;rw[hx];exact ha
theorem stmt_right {d d':Df} {L R:List Wd} (h:FL L) (hd:RightD d) (e:stmtR d L=.ok d' R):RightD d':=by
 have ad:=stmt_adds e
 have hn:=ad.p hd.n
 unfold stmtR at e
 split at e
 ·split at e
  ·obtain⟨n,L1,h1,e⟩:=PR.bind_ok e
   have:=name_right h.tail h1
   cases e;exact { hd with s:=nmN_of this }
  ·cases e
 split at e
 ·split at e
  ·obtain⟨n,L1,h1,e⟩:=PR.bind_ok e
   have:=name_right h.tail h1
   cases e;exact { hd with l:=nmN_of this }
  ·cases e
 split at e
 ·unfold lexicalR at e
  split at e
  ·cases e
  ·obtain⟨s,L1,h1,e⟩:=PR.bind_ok e
   obtain⟨c,L2,h2,e⟩:=PR.bind_ok e
   obtain⟨u,L3,h3,e⟩:=PR.bind_ok e
   obtain⟨ps,L4,h4,e⟩:=PR.bind_ok e
   have f1:=h.tail.rest rdr_name h1
   have f2:=f1.rest rdr_cons h2
   have f3:=f2.rest (rdr_want (by simp)) h3
   have:=lex_right _ _ _ _ _ _ _ f3 (name_right h.tail h1) (cons_right f1 h2) hd.p h4
   cases e;exact { hd with n:=hn,p:=this }
 split at e
 ·unfold plainR at e
  split at e
  ·cases e
  ·obtain⟨s,L1,h1,e⟩:=PR.bind_ok e
   obtain⟨c,L2,h2,e⟩:=PR.bind_ok e
   obtain⟨u,L3,h3,e⟩:=PR.bind_ok e
   obtain⟨y,L4,h4,e⟩:=PR.bind_ok e
   have f1:=h.tail.rest rdr_name h1
   have f2:=f1.rest rdr_cons h2
   have f3:=f2.rest (rdr_want (by simp)) h3
   have hp:=prod_plain (name_right h.tail h1) (cons_right f1 h2) (syms1_right f3 h4)
   split at e
   ·rename_i hc
    obtain⟨u,L5,_,e⟩:=PR.bind_ok e
    rw[hc] at hp
    cases e;exact { hd with n:=hn,p:=mem_snoc hd.p hp }
   ·rename_i hc
    rw[show em c=false by simpa using hc] at hp
    cases e;exact { hd with n:=hn,p:=mem_snoc hd.p hp }
 split at e
 ·obtain⟨c,L1,h1,e⟩:=PR.bind_ok e
  obtain⟨a,b,q⟩:=groups_right 17 [] L.tail c L1 h.tail (fun x hx=>(by cases hx)) (by simp) h1
  have hc:chainB c=true:=by
   unfold chainB
   simp only[Bool.and_eq_true,List.all_eq_true]
   exact⟨btw_nat (m:=16) b q,a⟩
  cases e;exact { hd with c:=mem_snoc hd.c hc }
 split at e
 ·obtain⟨n,L1,h1,e⟩:=PR.bind_ok e
  obtain⟨x,L2,_,e⟩:=PR.bind_ok e
  have:=name_right h.tail h1
  cases e;exact { hd with f:=mem_snoc hd.f this }
 split at e
 ·obtain⟨n,L1,h1,e⟩:=PR.bind_ok e
  obtain⟨x,L2,h2,e⟩:=PR.bind_ok e
  have a:=name_right h.tail h1
  have b:=name_right (h.tail.rest rdr_name h1) h2
  cases e;exact { hd with r:=mem_snoc hd.r ⟨a,b⟩ }
 split at e
 ·obtain⟨n,L1,h1,e⟩:=PR.bind_ok e
  obtain⟨u,L2,h2,e⟩:=PR.bind_ok e
  obtain⟨q,L3,h3,e⟩:=PR.bind_ok e
  have f1:=h.tail.rest rdr_name h1
  have f2:=f1.rest (rdr_want (by simp)) h2
  obtain⟨l,e1,e2⟩:=items_right 66 0 [] L2 q L3 f2 (by omega) h3
  rw[List.nil_append] at e1
  have hb:boxB ⟨n,q.2⟩=true:=by
   unfold boxB
   simp only[Bool.and_eq_true]
   exact⟨name_right h.tail h1,by rw[e1,e2]⟩
  cases e;exact { hd with b:=mem_snoc hd.b hb }
 ·cases e
theorem stmts_right:∀(f:Nat) (d:Df) (L:List Wd) (d':Df) (R:List Wd),FL L→RightD d→stmtsR f d L=.ok d' R→RightD d'
 | 0,d,L,d',R,_,_,e=>by rw[stmtsR] at e;cases e
 | f+1,d,L,d',R,h,hd,e=>by
  rw[stmtsR] at e
  split at e
  ·cases e;exact hd
  ·obtain⟨d1,L1,h1,e⟩:=PR.bind_ok e
   obtain⟨u,L2,h2,e⟩:=PR.bind_ok e
   exact stmts_right f d1 L2 d' R ((h.rest (rdr_stmt d) h1).rest (rdr_want (by simp)) h2) (stmt_right h hd h1) e
theorem par_right {s:List UInt8} {d:Df} {R:List Wd} (e:parR s=.ok d R):rightB d=true:=by
 unfold parR at e
 split at e
 ·rename_i h
  obtain⟨ws,we,hs⟩:=scn_of s h
  refine (right_iff d).2 (stmts_right _ _ _ _ _ hs.all ?_ e)
  exact⟨rfl,rfl,by decide,fun x h=>(by cases h),fun x h=>(by cases h),fun x h=>(by cases h),fun x h=>(by cases h),fun x h=>(by cases h)⟩
 ·cases e
end Go.Proofs.YtcpakcffiopfjaaGreatDoor
