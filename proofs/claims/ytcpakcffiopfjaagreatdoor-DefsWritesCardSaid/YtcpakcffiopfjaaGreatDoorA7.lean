/- A word hangs on its own bytes alone, and on that no letter or digit stands behind it: plain. Scans of texts: of two texts behind each other, of joined words: plain. Two texts behind each other have the words of both; joined words are the same words: plain. A text's words, put together with single blanks, are the same words again: plain. What is written in quotes is read as it was: plain. A set's text with a quoted text behind it: their words. -/
import Derived.Test.YtcpakcffiopfjaaGreatDoorA6
import Derived.Test.YtcpakcffiopfjaaGreatDoorA4
import Derived.Test.YtcpakcffiopfjaaGreatDoorA5
import Derived.Test.YtcpakcffiopfjaaGreatDoorA3
namespace Go.Proofs.YtcpakcffiopfjaaGreatDoor
open Go.RowKit
set_option linter.unusedVariables false
set_option linter.unusedSimpArgs false
set_option maxRecDepth 100000
set_option maxHeartbeats 16000000
set_option linter.unusedVariables false
set_option linter.unusedSimpArgs false
set_option maxRecDepth 100000
set_option maxHeartbeats 16000000
def stop (p:Nat→Bool) (l:List UInt8):Prop:=∀c t,l=c::t→p c.toNat=false
theorem lspan_zero {p:Nat→Bool} {l:List UInt8} (h:stop p l):lspan p l=0:=by
 cases l with
 | nil=>rfl
 | cons c t=>simp[lspan,h c t rfl]
theorem lspan_take (p:Nat→Bool):∀(l r:List UInt8),stop p r→lspan p (l.take (lspan p l)++r)=lspan p l
 | [],r,h=>by simpa [lspan] using lspan_zero h
 | c::l,r,h=>by
  by_cases hc:p c.toNat=true
  ·have:=lspan_take p l r h
   simp[lspan,hc,this]
  ·have hc':p c.toNat=false:=by simpa using hc
   simpa [lspan,hc'] using lspan_zero h
theorem take_app {l:List UInt8} {n:Nat} (h:n≤l.length) (r:List UInt8):(l.take n++r).take n=l.take n:=by
 rw[List.take_append_of_le_length (by rw[List.length_take];omega),List.take_take,Nat.min_self]
theorem bt_mk' (l:List UInt8) (i:Nat):bt ⟨l.toArray⟩ i=(l.getD i 0).toNat:=by rw[bt_list]
theorem size_mk' (l:List UInt8):(⟨l.toArray⟩:ByteArray).size=l.length:=rfl
theorem rdql_pre (l l':List UInt8) (hn:(rdql l).2≠0) (ht:l'.take (rdql l).2=l.take (rdql l).2) (hl:(rdql l).2≤l'.length):rdql l'=rdql l:=by
 have hg:∀i,i<(rdql l).2→l'.getD i 0=l.getD i 0:=by
  intro i hi
  have h1:=congrArg (fun x=>x.getD i 0) ht
  simp only[List.getD_eq_getElem?_getD,List.getElem?_take,hi,if_true] at h1
  simpa [List.getD_eq_getElem?_getD] using h1
 revert hn hl hg
 clear ht
 unfold rdql rdq
 simp only[bt_mk',size_mk']
 by_cases h1:l.length<2∨(l.getD 0 0).toNat≠92
 ·rw[if_pos h1];intro h;exact absurd rfl h
 rw[if_neg h1]
 by_cases h2:0≤shortq (l.getD 1 0).toNat
 ·rw[if_pos h2]
  intro _ hl hg
  simp only at hl hg
  rw[hg 0 (by omega),hg 1 (by omega)]
  rw[if_neg (by omega),if_pos h2]
 rw[if_neg h2]
 by_cases h3:l.length<4∨(l.getD 1 0).toNat≠120
 ·rw[if_pos h3];intro h;exact absurd rfl h
 rw[if_neg h3]
 by_cases h4:dig (l.getD 2 0).toNat<0∨dig (l.getD 3 0).toNat<0
 ·rw[if_pos h4];intro h;exact absurd rfl h
 rw[if_neg h4]
 intro _ hl hg
 simp only at hl hg
 rw[hg 0 (by omega),hg 1 (by omega),hg 2 (by omega),hg 3 (by omega)]
 rw[if_neg (by omega),if_neg h2,if_neg (by omega),if_neg h4]
theorem quo_pre:∀(f:Nat) (l:List UInt8) (k:Nat) (acc:List Nat),(quo f l k acc).code=0→∀(f':Nat) (r:List UInt8),(l.take ((quo f l k acc).fin-k)).length≤f'→quo f' (l.take ((quo f l k acc).fin-k)++r) k acc=quo f l k acc
 | 0,l,k,acc,h,f',r,hf=>by simp[quo] at h
 | f+1,[],k,acc,h,f',r,hf=>by simp[quo] at h
 | f+1,c::l,k,acc,h,f',r,hf=>by
  have hpos:=quo_pos _ _ _ _ h
  have hfin:=quo_fin _ _ _ _ h
  have ih:=quo_pre f
  obtain⟨m,hm⟩:∃m,(quo (f+1) (c::l) k acc).fin-k=m+1:=⟨(quo (f+1) (c::l) k acc).fin-k-1,by omega⟩
  rw[hm] at hf ⊢
  rw[List.take_succ_cons] at hf ⊢
  obtain⟨f',rfl⟩:∃g,f'=g+1:=⟨f' - 1,by simp at hf;omega⟩
  simp only[List.cons_append]
  have hq:quo (f+1) (c::l) k acc=if c.toNat=34 then ⟨acc,k+1,0,0⟩ else if c.toNat=92 then (if (rdql (c::l)).2=0 then ⟨[],0,k,12⟩ else quo f ((c::l).drop (rdql (c::l)).2) (k+(rdql (c::l)).2) (acc++[(rdql (c::l)).1])) else if plainq c.toNat then quo f l (k+1) (acc++[c.toNat]) else ⟨[],0,k,11⟩:=rfl
  have hq':∀t,quo (f'+1) (c::t) k acc=if c.toNat=34 then ⟨acc,k+1,0,0⟩ else if c.toNat=92 then (if (rdql (c::t)).2=0 then ⟨[],0,k,12⟩ else quo f' ((c::t).drop (rdql (c::t)).2) (k+(rdql (c::t)).2) (acc++[(rdql (c::t)).1])) else if plainq c.toNat then quo f' t (k+1) (acc++[c.toNat]) else ⟨[],0,k,11⟩:=fun t=>rfl
  rw[hq',hq]
  rw[hq] at h hm hfin
  by_cases h34:c.toNat=34
  ·rw[if_pos h34,if_pos h34]
  rw[if_neg h34] at h hm hfin ⊢
  rw[if_neg h34]
  by_cases h92:c.toNat=92
  ·rw[if_pos h92] at h hm hfin ⊢
   rw[if_pos h92]
   by_cases hz:(rdql (c::l)).2=0
   ·rw[if_pos hz] at h;simp at h
   ·rw[if_neg hz] at h hm hfin ⊢
    have hp2:=quo_pos _ _ _ _ h
    have hle:(rdql (c::l)).2≤(c::l).length:=rdq_le ⟨(c::l).toArray⟩
    have hmn:(rdql (c::l)).2≤m+1:=by omega
    have hfin':=quo_fin _ _ _ _ h
    rw[List.length_drop] at hfin'
    have hml:m+1≤(c::l).length:=by omega
    have hpre:=rdql_pre (c::l) (c::(l.take m++r)) hz (by
     rw[←List.cons_append,←List.take_succ_cons,List.take_append_of_le_length (by rw[List.length_take];omega),List.take_take,Nat.min_eq_left hmn]) (by
     rw[←List.cons_append,←List.take_succ_cons,List.length_append,List.length_take];omega)
    rw[hpre,if_neg hz]
    have hd:List.drop (rdql (c::l)).2 (c::(l.take m++r))=((c::l).drop (rdql (c::l)).2).take (m+1-(rdql (c::l)).2)++r:=by
     rw[←List.cons_append,←List.take_succ_cons,List.drop_append_of_le_length (by rw[List.length_take];omega),List.drop_take]
    rw[hd]
    have e:m+1-(rdql (c::l)).2=(quo f ((c::l).drop (rdql (c::l)).2) (k+(rdql (c::l)).2) (acc++[(rdql (c::l)).1])).fin-(k+(rdql (c::l)).2):=by omega
    rw[e]
    refine ih _ _ _ h f' r ?_
    rw[←e,List.length_take,List.length_drop]
    simp only[List.length_cons,List.length_take] at hf ⊢;omega
  ·rw[if_neg h92] at h hm hfin ⊢
   rw[if_neg h92]
   by_cases hp:plainq c.toNat=true
   ·rw[if_pos hp] at h hm hfin ⊢
    rw[if_pos hp]
    have hp2:=quo_pos _ _ _ _ h
    have e:m=(quo f l (k+1) (acc++[c.toNat])).fin-(k+1):=by omega
    rw[e]
    refine ih _ _ _ h f' r ?_
    rw[←e];simp only[List.length_cons] at hf;omega
   ·rw[if_neg hp] at h;simp at h
theorem clo_pos:∀(l:List UInt8) (k:Nat),clo l k≠0→k<clo l k
 | [],k,h=>by simp[clo] at h
 | [c],k,h=>by
  unfold clo at h ⊢
  split at h
  ·rename_i h1;rw[if_pos h1];omega
  ·simp at h
 | c::d::l,k,h=>by
  have h1:=clo_pos l (k+2)
  have h2:=clo_pos (d::l) (k+1)
  unfold clo at h ⊢
  split at h
  ·rename_i h3;rw[if_pos h3];omega
  ·rename_i h3
   rw[if_neg h3]
   split at h
   ·rename_i h4;rw[if_pos h4];have:=h1 h;omega
   ·rename_i h4;rw[if_neg h4];have:=h2 h;omega
theorem clo_pre:∀(l:List UInt8) (k:Nat),clo l k≠0→∀r,clo (l.take (clo l k-k)++r) k=clo l k
 | [],k,h,r=>by simp[clo] at h
 | [c],k,h,r=>by
  unfold clo at h
  split at h
  ·rename_i h1
   rw[clo_end c [] k h1]
   rw[show k+1-k=1 by omega]
   exact clo_end c r k h1
  ·simp at h
 | c::d::l,k,h,r=>by
  have hp:=clo_pos _ _ h
  by_cases h1:c.toNat=93
  ·rw[clo_end c _ k h1,show k+1-k=1 by omega]
   exact clo_end c r k h1
  by_cases h2:c.toNat=92
  ·have e:clo (c::d::l) k=clo l (k+2):=clo_esc c (d::l) k h2
   rw[e] at h ⊢
   have hp2:=clo_pos _ _ h
   have ih:=clo_pre l (k+2) h r
   obtain⟨m,hm⟩:∃m,clo l (k+2)-k=m+2:=⟨clo l (k+2)-k-2,by omega⟩
   rw[hm,List.take_succ_cons,List.take_succ_cons,List.cons_append,clo_esc c _ k h2,List.cons_append,List.drop_succ_cons,List.drop_zero]
   rw[show clo l (k+2)-(k+2)=m by omega] at ih
   exact ih
  ·have e:clo (c::d::l) k=clo (d::l) (k+1):=clo_on c (d::l) k h1 h2
   rw[e] at h ⊢
   have hp2:=clo_pos _ _ h
   have ih:=clo_pre (d::l) (k+1) h r
   obtain⟨m,hm⟩:∃m,clo (d::l) (k+1)-k=m+1:=⟨clo (d::l) (k+1)-k-1,by omega⟩
   rw[hm,List.take_succ_cons,List.cons_append,clo_on c _ k h1 h2]
   rw[show clo (d::l) (k+1)-(k+1)=m by omega] at ih
   exact ih
theorem rdw_pre (l r:List UInt8) (h:(rdw l).code=0) (h7:(rdw l).kind≠7) (ha:(rdw l).kind≤2→stop alnum r) (hd:(rdw l).kind=3→stop digB r):rdw (l.take (rdw l).len++r)=rdw l:=by
 obtain⟨hle,hpos,_⟩:=rdw_len l h
 have hpos:=hpos h7
 cases l with
 | nil=>exact absurd rfl h7
 | cons c l=>
  obtain⟨m,hm⟩:∃m,(rdw (c::l)).len=m+1:=⟨(rdw (c::l)).len-1,by omega⟩
  have key:∀q:RW,rdw (c::l)=q→q.len=m+1:=fun q e=>by rw[←e];exact hm
  have hT:(c::l).take (rdw (c::l)).len++r=c::(l.take m++r):=by rw[hm,List.take_succ_cons,List.cons_append]
  rw[hT,rdw_cons]
  rw[hm] at hle
  clear hT
  revert h ha hd key
  rw[rdw_cons]
  clear hm hpos h7
  have hT1:c::(l.take m++r)=(c::l).take (m+1)++r:=by rw[List.take_succ_cons,List.cons_append]
  rw[hT1]
  intro h ha hd key
  by_cases hg:great c.toNat=true
  ·rw[if_pos hg] at h ha hd ⊢
   rw[if_pos hg]
   have kk:=key _ (if_pos hg)
   unfold rdLet at h ha hd kk ⊢
   split at h
   ·simp[RW.fault] at h
   ·rename_i h1
    rw[if_neg h1] at ha kk ⊢
    have hn:lspan alnum (c::l)=m+1:=kk
    have:=lspan_take alnum (c::l) r (ha (by simp[RW.plain]))
    rw[hn] at this
    rw[this,if_neg (by omega),hn]
  rw[if_neg hg] at h ha hd ⊢
  rw[if_neg hg]
  by_cases hs:small c.toNat=true
  ·rw[if_pos hs] at h ha hd ⊢
   rw[if_pos hs]
   have kk:=key _ (by rw[if_neg hg,if_pos hs])
   unfold rdLet at h ha hd kk ⊢
   split at h
   ·simp[RW.fault] at h
   ·rename_i h1
    rw[if_neg h1] at ha kk ⊢
    have hn:lspan alnum (c::l)=m+1:=kk
    have:=lspan_take alnum (c::l) r (ha (by simp[RW.plain]))
    rw[hn] at this
    rw[this,if_neg (by omega),hn]
  rw[if_neg hs] at h ha hd ⊢
  rw[if_neg hs]
  by_cases hdg:digB c.toNat=true
  ·rw[if_pos hdg] at h ha hd ⊢
   rw[if_pos hdg]
   have kk:=key _ (by rw[if_neg hg,if_neg hs,if_pos hdg])
   unfold rdNum at h ha hd kk ⊢
   split at h
   ·simp[RW.fault] at h
   ·rename_i h1
    rw[if_neg h1] at hd kk ⊢
    have hn:lspan digB (c::l)=m+1:=kk
    have:=lspan_take digB (c::l) r (hd rfl)
    rw[hn] at this h1
    rw[this,if_neg (by rw[List.take_succ_cons,List.cons_append];exact h1),hn,take_app hle]
  rw[if_neg hdg] at h ha hd ⊢
  rw[if_neg hdg]
  by_cases h34:c.toNat=34
  ·rw[if_pos h34] at h ha hd ⊢
   rw[if_pos h34]
   have kk:=key _ (by rw[if_neg hg,if_neg hs,if_neg hdg,if_pos h34])
   unfold rdText at h kk ⊢
   split at h
   ·rename_i h1
    rw[if_pos h1] at kk
    have hn:(quoted (c::l)).fin=m+1:=kk
    have e:quoted ((c::l).take (m+1)++r)=quoted (c::l):=by
     unfold quoted at h1 hn ⊢
     rw[List.drop_succ_cons,List.drop_zero] at h1 hn ⊢
     have:=quo_pre _ _ _ _ h1 ((c::l).take (m+1)++r).length r (by rw[hn,List.take_succ_cons];simp;omega)
     rw[hn,Nat.add_sub_cancel] at this
     rw[List.take_succ_cons,List.cons_append,List.drop_succ_cons,List.drop_zero]
     rw[List.take_succ_cons,List.cons_append] at this
     exact this
    rw[e]
   ·rename_i h1;exact absurd h h1
  rw[if_neg h34] at h ha hd ⊢
  rw[if_neg h34]
  by_cases h91:c.toNat=91
  ·rw[if_pos h91] at h ha hd ⊢
   rw[if_pos h91]
   have kk:=key _ (by rw[if_neg hg,if_neg hs,if_neg hdg,if_neg h34,if_pos h91])
   unfold rdSet at h kk ⊢
   split at h
   ·simp[RW.fault] at h
   ·rename_i h1
    rw[if_neg h1] at kk
    split at h
    ·rename_i h2
     rw[if_pos h2] at kk
     have hn:clo ((c::l).drop 1) 1=m+1:=kk
     have e:clo (((c::l).take (m+1)++r).drop 1) 1=m+1:=by
      rw[List.drop_succ_cons,List.drop_zero] at h1 hn
      have:=clo_pre l 1 h1 r
      rw[hn,Nat.add_sub_cancel] at this
      rw[List.take_succ_cons,List.cons_append,List.drop_succ_cons,List.drop_zero]
      exact this
     rw[e,hn,take_app hle]
    ·rename_i h2;exact absurd h h2
  rw[if_neg h91] at h ha hd ⊢
  rw[if_neg h91]
def cw (d:Wd):Nat×List UInt8×List Nat×St×Nat:=(d.kind,d.text,d.bytes,d.set,d.n)
theorem skp_len:∀(l:List UInt8) (r:Bool) (p ln bg:Nat),(skp l r p ln bg).2.1+(skp l r p ln bg).1.length=p+l.length∧(skp l r p ln bg).1.length≤l.length
 | [],r,p,ln,bg=>by simp[skp]
 | c::l,r,p,ln,bg=>by
  have h1:=skp_len l false (p+1) (ln+1) (p+1)
  have h2:=skp_len l true (p+1) ln bg
  have h3:=skp_len l false (p+1) ln bg
  unfold skp
  simp only[List.length_cons]
  split
  ·omega
  ·split
   ·omega
   ·split
    ·omega
    ·split
     ·omega
     ·exact⟨rfl,Nat.le_refl _⟩
theorem scn_step (f:Nat) (l:List UInt8) (p ln bg:Nat) (acc:List Wd):scn (f+1) l p ln bg acc =
  (if (rdw (skp l false p ln bg).1).code≠0 then ([],(skp l false p ln bg).2.1+(rdw (skp l false p ln bg).1).fat,(rdw (skp l false p ln bg).1).code)
  else if (rdw (skp l false p ln bg).1).kind=7 then (acc++[mkWd (skp l false p ln bg).1 (rdw (skp l false p ln bg).1) (skp l false p ln bg).2.1 (skp l false p ln bg).2.2.1 (skp l false p ln bg).2.2.2],0,0)
  else scn f ((skp l false p ln bg).1.drop (rdw (skp l false p ln bg).1).len) ((skp l false p ln bg).2.1+(rdw (skp l false p ln bg).1).len) (skp l false p ln bg).2.2.1 (skp l false p ln bg).2.2.2 (acc++[mkWd (skp l false p ln bg).1 (rdw (skp l false p ln bg).1) (skp l false p ln bg).2.1 (skp l false p ln bg).2.2.1 (skp l false p ln bg).2.2.2])):=rfl

def starts (r:List UInt8):Prop:=∀c t,r=c::t→c.toNat≠10∧c.toNat≠32∧c.toNat≠9∧c.toNat≠13∧c.toNat≠35
theorem skp_starts:∀(l:List UInt8) (r:Bool) (p ln bg:Nat),starts (skp l r p ln bg).1
 | [],r,p,ln,bg=>fun c t h=>by simp[skp] at h
 | c::l,r,p,ln,bg=>by
  unfold skp
  split
  ·exact skp_starts l _ _ _ _
  ·rename_i h1
   split
   ·exact skp_starts l _ _ _ _
   ·split
    ·exact skp_starts l _ _ _ _
    ·rename_i h3
     split
     ·exact skp_starts l _ _ _ _
     ·rename_i h4
      intro c' t' e
      cases e
      exact⟨h1,by omega,by omega,by omega,h4⟩
def endW:Nat×List UInt8×List Nat×St×Nat:=(7,[],[],St.zero,0)
def GoodW (d:Wd):Prop:=∃r,(rdw r).code=0∧(rdw r).kind≠7∧starts r∧cw d=cw (mkWd r (rdw r) 0 0 0)
theorem GoodW.len {d:Wd} (h:GoodW d):1≤d.text.length∧d.kind≠7:=by
 obtain⟨r,h1,h2,_,h4⟩:=h
 obtain⟨a,b,_⟩:=rdw_len r h1
 have e1:d.text=r.take (rdw r).len:=congrArg (fun x=>x.2.1) h4
 have e2:d.kind=(rdw r).kind:=congrArg (fun x=>x.1) h4
 refine⟨?_,by rw[e2];exact h2⟩
 have:=b h2
 rw[e1,List.length_take];omega
theorem scn_good:∀(f:Nat) (l:List UInt8) (p ln bg:Nat) (acc:List Wd),l.length<f→(scn f l p ln bg acc).2.2=0 →
  ∃ws we,(scn f l p ln bg acc).1=acc++ws++[we]∧(scn f l p ln bg acc).2.1=0∧cw we=endW∧(∀d∈ws,GoodW d)∧(ws.map fun d=>d.text.length).sum≤l.length
 | 0,l,p,ln,bg,acc,h,_=>by omega
 | f+1,l,p,ln,bg,acc,h1,h0=>by
  have hl:=skp_len l false p ln bg
  have hst:=skp_starts l false p ln bg
  rw[scn_step f] at h0 ⊢
  have hlen:=rdw_len (skp l false p ln bg).1
  generalize (skp l false p ln bg).1=r at *
  generalize (skp l false p ln bg).2=s at *
  by_cases hc:(rdw r).code≠0
  ·rw[if_pos hc] at h0;exact absurd h0 hc
  rw[if_neg hc] at h0 ⊢
  have hc0:(rdw r).code=0:=by simpa using hc
  obtain⟨l1,l2,l3⟩:=hlen hc0
  by_cases h7:(rdw r).kind=7
  ·rw[if_pos h7]
   refine⟨[],_,by rw[List.append_nil],rfl,?_,by simp,by simp⟩
   obtain rfl:=l3.1 h7
   rfl
  ·rw[if_neg h7] at h0 ⊢
   have hpos:=l2 h7
   obtain⟨ws,we,e1,e2,e3,e4,e5⟩:=scn_good f (r.drop (rdw r).len) (s.1+(rdw r).len) s.2.1 s.2.2 _ (by rw[List.length_drop];omega) h0
   refine⟨mkWd r (rdw r) s.1 s.2.1 s.2.2::ws,we,by rw[e1];simp,e2,e3,?_,?_⟩
   ·intro d hd
    rcases List.mem_cons.1 hd with rfl | hd
    ·exact⟨r,hc0,h7,hst,rfl⟩
    ·exact e4 d hd
   ·have:(mkWd r (rdw r) s.1 s.2.1 s.2.2).text.length=(rdw r).len:=by
     show (r.take _).length=_
     rw[List.length_take];omega
    rw[List.map_cons,List.sum_cons,this]
    rw[List.length_drop] at e5;omega
theorem sum_pos:∀ds:List Wd,(∀d∈ds,1≤d.text.length)→ds.length≤(ds.map fun d=>d.text.length).sum
 | [],_=>by simp
 | d::ds,h=>by
  have h1:=sum_pos ds (fun e he=>h e (by simp[he]))
  have h2:=h d (by simp)
  simp only[List.length_cons,List.map_cons,List.sum_cons];omega
theorem quoteL_len (L:List Nat) (hL:∀n∈L,n<256):(quoteL L).length≤4*L.length+2:=by
 have:=flat_le L hL
 unfold quoteL;rw[List.length_append,List.length_append];simp only[List.length_cons,List.length_nil];omega
theorem print_len (s:St):(printL s).length≤2306:=by
 have h:=text_le (runsOf (upTo s 256)) (fun r hr=>⟨((runs_small s 256 (by omega)).1 r hr).1,((runs_small s 256 (by omega)).1 r hr).2.1⟩)
 have h2:=runs_count s
 unfold printL
 rw[List.length_append,List.length_singleton]
 omega
end Go.Proofs.YtcpakcffiopfjaaGreatDoor
