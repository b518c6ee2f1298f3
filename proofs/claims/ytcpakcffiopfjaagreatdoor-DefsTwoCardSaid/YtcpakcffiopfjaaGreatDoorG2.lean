/- A fault that is told has a code; how many lists a text has; plain. A definition's text is read as the definition; what is read has a text that is read so: the law's walk. -/
import Derived.Test.YtcpakcffiopfjaaGreatDoorE1
import Derived.Test.YtcpakcffiopfjaaGreatDoorG1
import Derived.Test.YtcpakcffiopfjaaGreatDoorB3
import Derived.Test.YtcpakcffiopfjaaGreatDoorA1
namespace Go.Proofs.YtcpakcffiopfjaaGreatDoor
open Go.RowKit
set_option linter.unusedVariables false
set_option linter.unusedSimpArgs false
set_option maxRecDepth 100000
set_option maxHeartbeats 16000000
def NZ {α:Type} (r:PR α):Prop:=∀p c,r=.bad p c→c≠0
section
variable {α β:Type}
theorem NZ.ok (a:α) (L:List Wd):NZ (.ok a L):=fun p c h=>by cases h
theorem NZ.bad {p c:Nat} (h:c≠0):NZ (.bad p c:PR α):=fun _ _ e=>by cases e;exact h
theorem NZ.bind {r:PR α} {g:α→List Wd→PR β} (h:NZ r) (hg:∀a L,r=.ok a L→NZ (g a L)):NZ (r.bind g):=by
 cases r with
 | ok a L=>exact hg a L rfl
 | bad p c=>exact .bad (h p c rfl)
theorem NZ.ite {c:Prop} [Decidable c] {r s:PR α} (h:c→NZ r) (k:¬c→NZ s):NZ (if c then r else s):=by
 by_cases hc:c
 ·rw[if_pos hc];exact h hc
 ·rw[if_neg hc];exact k hc
end
theorem nz_want (t:List UInt8) (L:List Wd):NZ (wantR t L):=NZ.ite (fun _=>.ok _ _) (fun _=>.bad (by decide))
theorem nz_take (k:Nat) (L:List Wd):NZ (takeR k L):=NZ.ite (fun _=>.ok _ _) (fun _=>.bad (by decide))
theorem nz_name (L:List Wd):NZ (nameR L):=.bind (nz_take 1 L) (fun _ _ _=>.ok _ _)
theorem nz_set (L:List Wd):NZ (setR L):=.bind (nz_take 5 L) (fun _ _ _=>.ok _ _)
theorem nz_num (L:List Wd):NZ (numR L):=.bind (nz_take 3 L) (fun _ _ _=>.ok _ _)
theorem nz_text (L:List Wd):NZ (textR L):=NZ.ite (fun _=>.bad (by decide)) (fun _=>.bind (nz_take 4 L) (fun _ _ _=>.ok _ _))
theorem nz_often (s:Sy) (L:List Wd):NZ (oftenR s L):=NZ.ite (fun _=>.ok _ _) (fun _=>NZ.ite (fun _=>.ok _ _) (fun _=>NZ.ite (fun _=>.ok _ _) (fun _=>.ok _ _)))
theorem nz_braces (L:List Wd):NZ (bracesR L):=.bind (nz_want _ _) (fun _ _ _=>.bind (nz_name _) (fun _ _ _=>NZ.ite (fun _=>.bad (by decide)) (fun _=>.bind (nz_text _) (fun _ _ _=>.bind (nz_want _ _) (fun _ _ _=>NZ.ite (fun _=>.bad (by decide)) (fun _=>nz_often _ _))))))
theorem nz_sym (L:List Wd):NZ (symR L):=NZ.ite (fun _=>.bind (nz_text _) (fun _ _ _=>.ok _ _)) (fun _=>NZ.ite (fun _=>.bind (nz_name _) (fun _ _ _=>nz_often _ _)) (fun _=>NZ.ite (fun _=>.bind (nz_set _) (fun _ _ _=>nz_often _ _)) (fun _=>nz_braces _)))
theorem nz_syms:∀(f:Nat) (acc:List Sy) (L:List Wd),acc.length≤12→13≤f+acc.length→NZ (symsR f acc L)
 | 0,acc,L,h,k=>absurd k (by omega)
 | f+1,acc,L,h,k=>by
  rw[symsR]
  refine NZ.ite (fun _=>NZ.ite (fun _=>.bad (by decide)) (fun h12=>.bind (nz_sym _) (fun s L1 _=>nz_syms f _ L1 ?_ ?_))) (fun _=>.ok _ _)
  ·rw[List.length_append,List.length_singleton];omega
  ·rw[List.length_append,List.length_singleton];omega
theorem nz_syms1 (L:List Wd):NZ (syms1 L):=.bind (nz_sym _) (fun _ _ _=>nz_syms 13 _ _ (by simp) (by simp))
theorem nz_names:∀(f:Nat) (acc:List ByteArray) (L:List Wd),acc.length≤16→17≤f+acc.length→NZ (namesR f acc L)
 | 0,acc,L,h,k=>absurd k (by omega)
 | f+1,acc,L,h,k=>by
  rw[namesR]
  refine NZ.ite (fun _=>NZ.ite (fun _=>.bad (by decide)) (fun h12=>.bind (nz_name _) (fun s L1 _=>nz_names f _ L1 ?_ ?_))) (fun _=>.ok _ _)
  ·rw[List.length_append,List.length_singleton];omega
  ·rw[List.length_append,List.length_singleton];omega
theorem nz_group (h:Nat) (L:List Wd):NZ (groupR h L):=NZ.ite (fun _=>.bad (by decide)) (fun _=>NZ.ite (fun _=>.bad (by decide)) (fun _=>.bind (nz_name _) (fun _ _ _=>.bind (nz_names 17 _ _ (by simp) (by simp)) (fun _ _ _=>.ok _ _))))
theorem group_lt {h:Nat} {L R:List Wd} {g:Gr} (e:groupR h L=.ok g R):h<16:=by
 unfold groupR at e
 split at e
 ·cases e
 ·split at e
  ·cases e
  ·omega
theorem nz_groups:∀(f:Nat) (acc:List Gr) (L:List Wd),acc.length≤16→17≤f+acc.length→NZ (groupsR f acc L)
 | 0,acc,L,h,k=>absurd k (by omega)
 | f+1,acc,L,h,k=>by
  rw[groupsR]
  refine .bind (nz_group _ _) (fun g L1 e=>NZ.ite (fun _=>nz_groups f _ _ ?_ ?_) (fun _=>.ok _ _))
  ·have:=group_lt e
   rw[List.length_append,List.length_singleton];omega
  ·rw[List.length_append,List.length_singleton];omega
theorem items_mono:∀(f h:Nat) (acc:List It) (L:List Wd) (q:Nat×List It) (R:List Wd),h≤64→itemsR f h acc L=.ok q R→h≤q.1∧q.1≤64
 | 0,h,acc,L,q,R,_,e=>by rw[itemsR] at e;cases e
 | f+1,h,acc,L,q,R,h64,e=>by
  rw[itemsR] at e
  split at e
  ·cases e;exact⟨Nat.le_refl _,h64⟩
  split at e
  ·cases e
  rename_i hlt
  split at e
  ·obtain⟨t,L1,_,e⟩:=PR.bind_ok e
   have:=items_mono f _ _ _ _ _ (by omega) e
   omega
  split at e
  ·obtain⟨t,L1,_,e⟩:=PR.bind_ok e
   have:=items_mono f _ _ _ _ _ (by omega) e
   omega
  split at e
  ·have:=items_mono f _ _ _ _ _ (by omega) e
   omega
  split at e
  ·have:=items_mono f _ _ _ _ _ (by omega) e
   omega
  split at e
  ·obtain⟨t,L1,_,e⟩:=PR.bind_ok e
   obtain⟨u,L2,_,e⟩:=PR.bind_ok e
   obtain⟨q1,L3,e1,e⟩:=PR.bind_ok e
   obtain⟨u2,L4,_,e⟩:=PR.bind_ok e
   have:=items_mono f _ _ _ _ _ (by omega) e1
   have:=items_mono f _ _ _ _ _ (by omega) e
   omega
  ·obtain⟨u,L2,_,e⟩:=PR.bind_ok e
   obtain⟨q1,L3,e1,e⟩:=PR.bind_ok e
   obtain⟨u2,L4,_,e⟩:=PR.bind_ok e
   have:=items_mono f _ _ _ _ _ (by omega) e1
   have:=items_mono f _ _ _ _ _ (by omega) e
   omega
theorem nz_items:∀(f h:Nat) (acc:List It) (L:List Wd),h≤64→65≤f+h→NZ (itemsR f h acc L)
 | 0,h,acc,L,h64,k=>absurd k (by omega)
 | f+1,h,acc,L,h64,k=>by
  rw[itemsR]
  refine NZ.ite (fun _=>.ok _ _) (fun _=>NZ.ite (fun _=>.bad (by decide)) (fun hlt=>?_))
  refine NZ.ite (fun _=>.bind (nz_text _) (fun _ _ _=>nz_items f _ _ _ (by omega) (by omega))) (fun _=>?_)
  refine NZ.ite (fun _=>.bind (nz_num _) (fun _ _ _=>nz_items f _ _ _ (by omega) (by omega))) (fun _=>?_)
  refine NZ.ite (fun _=>nz_items f _ _ _ (by omega) (by omega)) (fun _=>?_)
  refine NZ.ite (fun _=>nz_items f _ _ _ (by omega) (by omega)) (fun _=>?_)
  refine NZ.ite (fun _=>.bind (nz_num _) (fun _ _ _=>.bind (nz_want _ _) (fun _ _ _=>.bind (nz_items f _ _ _ (by omega) (by omega)) (fun q L1 e=>.bind (nz_want _ _) (fun _ _ _=>?_))))) (fun _=>.bind (nz_want _ _) (fun _ _ _=>.bind (nz_items f _ _ _ (by omega) (by omega)) (fun q L1 e=>.bind (nz_want _ _) (fun _ _ _=>?_))))
  ·have:=items_mono f _ _ _ _ _ (by omega) e
   exact nz_items f _ _ _ (by omega) (by omega)
  ·have:=items_mono f _ _ _ _ _ (by omega) e
   exact nz_items f _ _ _ (by omega) (by omega)
theorem nz_lex:∀(f:Nat) (s c:ByteArray) (ps:List Pr) (L:List Wd),ps.length≤199→200≤f+ps.length→NZ (lexR f s c ps L)
 | 0,s,c,ps,L,h,k=>absurd k (by omega)
 | f+1,s,c,ps,L,h,k=>by
  rw[lexR]
  refine .bind (nz_syms1 _) (fun y L1 _=>NZ.ite (fun _=>NZ.ite (fun _=>.bad (by decide)) (fun hl=>nz_lex f s c _ _ ?_ ?_)) (fun _=>.ok _ _))
  ·rw[List.length_append,List.length_singleton];omega
  ·rw[List.length_append,List.length_singleton];omega
theorem nz_cons (L:List Wd):NZ (consR L):=NZ.ite (fun _=>nz_name _) (fun _=>.ok _ _)
theorem nz_lexical (d:Df) (L:List Wd):NZ (lexicalR d L):=NZ.ite (fun _=>.bad (by decide)) (fun hl=>.bind (nz_name _) (fun _ _ _=>.bind (nz_cons _) (fun _ _ _=>.bind (nz_want _ _) (fun _ _ _=>.bind (nz_lex 201 _ _ _ _ (by omega) (by omega)) (fun _ _ _=>.ok _ _)))))
theorem nz_plain (d:Df) (L:List Wd):NZ (plainR d L):=NZ.ite (fun _=>.bad (by decide)) (fun hl=>.bind (nz_name _) (fun _ _ _=>.bind (nz_cons _) (fun _ _ _=>.bind (nz_want _ _) (fun _ _ _=>.bind (nz_syms1 _) (fun _ _ _=>NZ.ite (fun _=>.bind (nz_want _ _) (fun _ _ _=>.ok _ _)) (fun _=>.ok _ _))))))
theorem nz_stmt (d:Df) (L:List Wd):NZ (stmtR d L):=by
 unfold stmtR
 refine NZ.ite (fun _=>NZ.ite (fun _=>.bind (nz_name _) (fun _ _ _=>.ok _ _)) (fun _=>.bad (by decide))) (fun _=>?_)
 refine NZ.ite (fun _=>NZ.ite (fun _=>.bind (nz_name _) (fun _ _ _=>.ok _ _)) (fun _=>.bad (by decide))) (fun _=>?_)
 refine NZ.ite (fun _=>nz_lexical _ _) (fun _=>?_)
 refine NZ.ite (fun _=>nz_plain _ _) (fun _=>?_)
 refine NZ.ite (fun _=>.bind (nz_groups 17 [] _ (by simp) (by simp)) (fun _ _ _=>.ok _ _)) (fun _=>?_)
 refine NZ.ite (fun _=>.bind (nz_name _) (fun _ _ _=>.bind (nz_set _) (fun _ _ _=>.ok _ _))) (fun _=>?_)
 refine NZ.ite (fun _=>.bind (nz_name _) (fun _ _ _=>.bind (nz_name _) (fun _ _ _=>.ok _ _))) (fun _=>?_)
 exact NZ.ite (fun _=>.bind (nz_name _) (fun _ _ _=>.bind (nz_want _ _) (fun _ _ _=>.bind (nz_items 66 0 [] _ (by decide) (by decide)) (fun _ _ _=>.ok _ _)))) (fun _=>.bad (by decide))
theorem nz_stmts:∀(f:Nat) (d:Df) (L:List Wd),L.length<f→NZ (stmtsR f d L)
 | 0,d,L,h=>absurd h (by omega)
 | f+1,d,L,h=>by
  rw[stmtsR]
  refine NZ.ite (fun _=>.ok _ _) (fun _=>.bind (nz_stmt _ _) (fun d1 L1 e1=>.bind (nz_want _ _) (fun _ L2 e2=>nz_stmts f d1 L2 ?_)))
  have h1:=(rdr_stmt d).loc.len e1
  have h2:=(want_len (by simp) e2).1
  omega
theorem nz_par (s:List UInt8):NZ (parR s):=by
 unfold parR
 exact NZ.ite (fun _=>nz_stmts _ _ _ (by omega)) (fun h=>.bad h)
theorem stmts_adds:∀(f:Nat) (d d':Df) (L R:List Wd),stmtsR f d L=.ok d' R→d'.chains.length≤d.chains.length+f∧d'.follows.length≤d.follows.length+f∧d'.rejects.length≤d.rejects.length+f∧d'.boxes.length≤d.boxes.length+f
 | 0,d,d',L,R,e=>by rw[stmtsR] at e;cases e
 | f+1,d,d',L,R,e=>by
  rw[stmtsR] at e
  split at e
  ·cases e;exact⟨by omega,by omega,by omega,by omega⟩
  ·obtain⟨d1,L1,e1,e⟩:=PR.bind_ok e
   obtain⟨u,L2,e2,e⟩:=PR.bind_ok e
   have h1:=stmt_adds e1
   have h2:=stmts_adds f d1 d' L2 R e
   have:=h1.c;have:=h1.f;have:=h1.r;have:=h1.b
   exact⟨by omega,by omega,by omega,by omega⟩
theorem par_few {s:List UInt8} {d:Df} {R:List Wd} (e:parR s=.ok d R):d.chains.length≤65538∧d.follows.length≤65538∧d.rejects.length≤65538∧d.boxes.length≤65538:=by
 unfold parR at e
 split at e
 ·rename_i h
  obtain⟨ws,we,hs⟩:=scn_of s h
  have h1:=stmts_adds _ _ _ _ _ e
  have h2:=hs.len
  have h3:(scan s).1.length=ws.length+1:=by rw[hs.eq,List.length_append,List.length_singleton]
  rw[h3] at h1
  simp only[Df0,List.length_nil] at h1
  exact⟨by omega,by omega,by omega,by omega⟩
 ·cases e
theorem rsame_two {w:World} {a b:Df} {us vs:List Value} (ha:DA w a us) (hb:DA w b vs):Calls Tryz.prog 15 #[.agg ⟨us⟩,.agg ⟨vs⟩] w fun e w'=>e=.returned (.bool (eqD a b))∧Below w.heap.size w w':=by
 obtain⟨f,hf⟩:=ha.at'
 obtain⟨g,hg⟩:=hb.at'
 obtain⟨a2,a3,a4,a5,a6,rfl,x2,x3,x4,x5,x6⟩:=hf.ups (Nat.le_add_right f g)
 obtain⟨b2,b3,b4,b5,b6,rfl,y2,y3,y4,y5,y6⟩:=hg.ups (Nat.le_add_left g f)
 exact rsameDf_any a b (f+g) a2 a3 a4 a5 a6 b2 b3 b4 b5 b6 w x2 x3 x4 x5 x6 y2 y3 y4 y5 y6
end Go.Proofs.YtcpakcffiopfjaaGreatDoor
