/- Two texts have the words of both. -/
import Derived.Test.YtcpakcffiopfjaaGreatDoorA7
namespace Go.Proofs.YtcpakcffiopfjaaGreatDoor
open Go.RowKit
set_option linter.unusedVariables false
set_option linter.unusedSimpArgs false
set_option maxRecDepth 100000
set_option maxHeartbeats 16000000
theorem lspan_drop (p:Nat→Bool):∀l:List UInt8,stop p (l.drop (lspan p l))
 | []=>by simpa [lspan] using stop_nil p
 | c::l=>by
  by_cases hc:p c.toNat=true
  ·have:=lspan_drop p l
   simpa [lspan,hc] using this
  ·have hc':p c.toNat=false:=by simpa using hc
   simpa [lspan,hc'] using stop_cons (t:=l) hc'
theorem cw_mk (r:List UInt8) (q:RW) (p ln bg p2 ln2 bg2:Nat):cw (mkWd r q p ln bg)=cw (mkWd r q p2 ln2 bg2):=rfl
theorem skp_any:∀(l:List UInt8) (r:Bool) (p ln bg p2 ln2 bg2:Nat),(skp l r p ln bg).1=(skp l r p2 ln2 bg2).1∧(skp l r p ln bg).2.1+p2=(skp l r p2 ln2 bg2).2.1+p
 | [],r,p,ln,bg,p2,ln2,bg2=>⟨rfl,by simp[skp];omega⟩
 | c::l,r,p,ln,bg,p2,ln2,bg2=>by
  have h1:=skp_any l false (p+1) (ln+1) (p+1) (p2+1) (ln2+1) (p2+1)
  have h2:=skp_any l true (p+1) ln bg (p2+1) ln2 bg2
  have h3:=skp_any l false (p+1) ln bg (p2+1) ln2 bg2
  unfold skp
  split
  ·exact⟨h1.1,by have:=h1.2;omega⟩
  ·split
   ·exact⟨h2.1,by have:=h2.2;omega⟩
   ·split
    ·exact⟨h3.1,by have:=h3.2;omega⟩
    ·split
     ·exact⟨h2.1,by have:=h2.2;omega⟩
     ·exact⟨rfl,by simp only;omega⟩
theorem scn_same:∀(f f2:Nat) (l:List UInt8) (p ln bg p2 ln2 bg2:Nat) (acc acc2:List Wd),l.length<f→l.length<f2 →
  (scn f l p ln bg acc).2.2=(scn f2 l p2 ln2 bg2 acc2).2.2 ∧
  ((scn f l p ln bg acc).2.2=0→(scn f l p ln bg acc).2.1=0∧(scn f2 l p2 ln2 bg2 acc2).2.1=0∧∃wa wb,(scn f l p ln bg acc).1=acc++wa∧(scn f2 l p2 ln2 bg2 acc2).1=acc2++wb∧wa.map cw=wb.map cw∧wa≠[]) ∧
  ((scn f l p ln bg acc).2.2≠0→(scn f l p ln bg acc).2.1+p2=(scn f2 l p2 ln2 bg2 acc2).2.1+p∧(scn f l p ln bg acc).1=[]∧(scn f2 l p2 ln2 bg2 acc2).1=[])
 | 0,_,l,p,ln,bg,p2,ln2,bg2,acc,acc2,h,_=>by omega
 | f+1,0,l,p,ln,bg,p2,ln2,bg2,acc,acc2,_,h=>by omega
 | f+1,f2+1,l,p,ln,bg,p2,ln2,bg2,acc,acc2,h1,h2=>by
  obtain⟨ha,hb⟩:=skp_any l false p ln bg p2 ln2 bg2
  have hl:=(skp_len l false p ln bg).2
  rw[scn_step f,scn_step f2,←ha]
  generalize (skp l false p ln bg).1=r at *
  generalize (skp l false p ln bg).2=s at *
  generalize (skp l false p2 ln2 bg2).2=s2 at *
  have hlen:=rdw_len r
  generalize hq:rdw r=q at *
  by_cases hc:q.code≠0
  ·rw[if_pos hc,if_pos hc]
   exact⟨rfl,fun h=>absurd h hc,fun _=>⟨by simp only;omega,rfl,rfl⟩⟩
  ·rw[if_neg hc,if_neg hc]
   obtain⟨l1,l2,l3⟩:=hlen (by simpa using hc)
   by_cases h7:q.kind=7
   ·rw[if_pos h7,if_pos h7]
    exact⟨rfl,fun _=>⟨rfl,rfl,_,_,rfl,rfl,by simp[cw_mk r q s.1 s.2.1 s.2.2 s2.1 s2.2.1 s2.2.2],by simp⟩,fun h=>absurd rfl h⟩
   ·rw[if_neg h7,if_neg h7]
    have:=l2 h7
    obtain⟨i1,i2,i3⟩:=scn_same f f2 (r.drop q.len) (s.1+q.len) s.2.1 s.2.2 (s2.1+q.len) s2.2.1 s2.2.2 (acc++[mkWd r q s.1 s.2.1 s.2.2]) (acc2++[mkWd r q s2.1 s2.2.1 s2.2.2]) (by rw[List.length_drop];omega) (by rw[List.length_drop];omega)
    refine⟨i1,fun h=>?_,fun h=>?_⟩
    ·obtain⟨a1,a2,wa,wb,e1,e2,e3,e4⟩:=i2 h
     exact⟨a1,a2,_,_,by rw[e1,List.append_assoc],by rw[e2,List.append_assoc],by simp only[List.map_append,List.map_cons,e3,cw_mk r q s.1 s.2.1 s.2.2 s2.1 s2.2.1 s2.2.2],by simp⟩
    ·obtain⟨a1,a2,a3⟩:=i3 h
     exact⟨by omega,a2,a3⟩
theorem skp_cons (c:UInt8) (l:List UInt8) (r:Bool) (p ln bg:Nat):skp (c::l) r p ln bg=if c.toNat=10 then skp l false (p+1) (ln+1) (p+1) else if r then skp l true (p+1) ln bg else if c.toNat=32∨c.toNat=9∨c.toNat=13 then skp l false (p+1) ln bg else if c.toNat=35 then skp l true (p+1) ln bg else (c::l,p,ln,bg):=rfl
theorem skp_two:∀(l:List UInt8) (r:Bool) (p ln bg:Nat) (b:List UInt8),
  ((skp l r p ln bg).1≠[]→skp (l++10::b) r p ln bg=((skp l r p ln bg).1++10::b,(skp l r p ln bg).2)) ∧
  ((skp l r p ln bg).1=[]→∃ln3,skp (l++10::b) r p ln bg=skp b false (p+l.length+1) ln3 (p+l.length+1))
 | [],r,p,ln,bg,b=>⟨fun h=>absurd rfl h,fun _=>⟨ln+1,by simp[skp]⟩⟩
 | c::l,r,p,ln,bg,b=>by
  have h1:=skp_two l false (p+1) (ln+1) (p+1) b
  have h2:=skp_two l true (p+1) ln bg b
  have h3:=skp_two l false (p+1) ln bg b
  have e:p+1+l.length+1=p+(c::l).length+1:=by simp only[List.length_cons];omega
  rw[e] at h1 h2 h3
  rw[List.cons_append,skp_cons c l,skp_cons c (l++10::b)]
  split
  ·exact h1
  ·split
   ·exact h2
   ·split
    ·exact h3
    ·split
     ·exact h2
     ·exact⟨fun _=>rfl,fun h=>by cases h⟩
theorem stop_app {p:Nat→Bool} {l:List UInt8} {c:UInt8} {t:List UInt8} (h:stop p l) (hc:p c.toNat=false):stop p (l++c::t):=by
 cases l with
 | nil=>exact stop_cons hc
 | cons d l=>exact stop_cons (h d l rfl)
theorem rdw_stop (r:List UInt8) (h:(rdw r).code=0):((rdw r).kind≤2→stop alnum (r.drop (rdw r).len))∧((rdw r).kind=3→stop digB (r.drop (rdw r).len)):=by
 cases r with
 | nil=>exact⟨fun _=>stop_nil _,fun _=>stop_nil _⟩
 | cons c l=>
  rw[rdw_cons] at h ⊢
  by_cases hg:great c.toNat=true
  ·rw[if_pos hg] at h ⊢
   unfold rdLet at h ⊢
   split at h
   ·simp[RW.fault] at h
   ·rename_i h1;rw[if_neg h1];exact⟨fun _=>lspan_drop alnum _,fun h=>by simp[RW.plain] at h⟩
  rw[if_neg hg] at h ⊢
  by_cases hs:small c.toNat=true
  ·rw[if_pos hs] at h ⊢
   unfold rdLet at h ⊢
   split at h
   ·simp[RW.fault] at h
   ·rename_i h1;rw[if_neg h1];exact⟨fun _=>lspan_drop alnum _,fun h=>by simp[RW.plain] at h⟩
  rw[if_neg hs] at h ⊢
  by_cases hd:digB c.toNat=true
  ·rw[if_pos hd] at h ⊢
   unfold rdNum at h ⊢
   split at h
   ·simp[RW.fault] at h
   ·rename_i h1;rw[if_neg h1];exact⟨fun h=>by simp at h,fun _=>lspan_drop digB _⟩
  rw[if_neg hd] at h ⊢
  by_cases h34:c.toNat=34
  ·rw[if_pos h34] at h ⊢
   unfold rdText at h ⊢
   split at h
   ·rename_i h1;rw[if_pos h1];exact⟨fun h=>by simp at h,fun h=>by simp at h⟩
   ·rename_i h1;exact absurd h h1
  rw[if_neg h34] at h ⊢
  by_cases h91:c.toNat=91
  ·rw[if_pos h91] at h ⊢
   unfold rdSet at h ⊢
   split at h
   ·simp[RW.fault] at h
   ·rename_i h1
    rw[if_neg h1]
    split at h
    ·rename_i h2;rw[if_pos h2];exact⟨fun h=>by simp at h,fun h=>by simp at h⟩
    ·rename_i h2;exact absurd h h2
  rw[if_neg h91] at h ⊢
  by_cases hsg:signB c.toNat=true
  ·rw[if_pos hsg];exact⟨fun h=>by simp[RW.plain] at h,fun h=>by simp[RW.plain] at h⟩
  ·rw[if_neg hsg] at h;simp[RW.fault] at h
theorem rdw_two (r b:List UInt8) (h:(rdw r).code=0) (h7:(rdw r).kind≠7):rdw (r++10::b)=rdw r:=by
 obtain⟨hle,_,_⟩:=rdw_len r h
 obtain⟨s1,s2⟩:=rdw_stop r h
 have:=rdw_pre r (r.drop (rdw r).len++10::b) h h7 (fun k=>stop_app (s1 k) (by decide)) (fun k=>stop_app (s2 k) (by decide))
 rw[←List.append_assoc,List.take_append_drop] at this
 exact this
theorem scn_two:∀(f:Nat) (l:List UInt8) (p ln bg:Nat) (acc:List Wd),l.length<f→(scn f l p ln bg acc).2.2=0 →
  ∃ws we,(scn f l p ln bg acc).1=acc++ws++[we]∧∀(f2:Nat) (b:List UInt8) (acc2:List Wd),(l++10::b).length<f2→∃f3 ln3,b.length<f3∧scn f2 (l++10::b) p ln bg acc2=scn f3 b (p+l.length+1) ln3 (p+l.length+1) (acc2++ws)
 | 0,l,p,ln,bg,acc,h,_=>by omega
 | f+1,l,p,ln,bg,acc,h1,h0=>by
  have hl:=skp_len l false p ln bg
  have ht:=fun b=>skp_two l false p ln bg b
  rw[scn_step f] at h0 ⊢
  have hlen:=rdw_len (skp l false p ln bg).1
  have htw:=fun b=>rdw_two (skp l false p ln bg).1 b
  generalize hr:(skp l false p ln bg).1=r at *
  generalize hs:(skp l false p ln bg).2=s at *
  generalize hq:rdw r=q at *
  by_cases hc:q.code≠0
  ·rw[if_pos hc] at h0;exact absurd h0 hc
  rw[if_neg hc] at h0 ⊢
  have hc0:q.code=0:=by simpa using hc
  obtain⟨l1,l2,l3⟩:=hlen hc0
  by_cases h7:q.kind=7
  ·rw[if_pos h7]
   refine⟨[],_,by rw[List.append_nil],?_⟩
   intro f2 b acc2 hf2
   obtain⟨f2,rfl⟩:∃g,f2=g+1:=⟨f2-1,by omega⟩
   obtain⟨ln3,e⟩:=(ht b).2 (l3.1 h7)
   refine⟨f2+1,ln3,by rw[List.length_append,List.length_cons] at hf2;omega,?_⟩
   rw[List.append_nil,scn_step f2,scn_step f2,e]
  ·rw[if_neg h7] at h0 ⊢
   have hpos:=l2 h7
   have hne:r≠[]:=fun e=>h7 (l3.2 e)
   obtain⟨ws,we,e1,e2⟩:=scn_two f (r.drop q.len) (s.1+q.len) s.2.1 s.2.2 _ (by rw[List.length_drop];omega) h0
   refine⟨mkWd r q s.1 s.2.1 s.2.2::ws,we,by rw[e1];simp,?_⟩
   intro f2 b acc2 hf2
   obtain⟨f2,rfl⟩:∃g,f2=g+1:=⟨f2-1,by omega⟩
   have hk:=(ht b).1 hne
   have hw:=htw b hc0 h7
   rw[List.length_append,List.length_cons] at hf2
   obtain⟨f3,ln3,g1,g2⟩:=e2 f2 b (acc2++[mkWd r q s.1 s.2.1 s.2.2]) (by rw[List.length_append,List.length_drop,List.length_cons];omega)
   refine⟨f3,ln3,g1,?_⟩
   have hP:s.1+q.len+(r.drop q.len).length+1=p+l.length+1:=by rw[List.length_drop];omega
   rw[hP] at g2
   have hd:(r++10::b).drop q.len=r.drop q.len++10::b:=List.drop_append_of_le_length l1
   have hm:mkWd (r++10::b) q s.1 s.2.1 s.2.2=mkWd r q s.1 s.2.1 s.2.2:=by
    unfold mkWd;rw[List.take_append_of_le_length l1]
   rw[scn_step f2,hk]
   simp only
   rw[hw,if_neg hc,if_neg h7,hd,hm,g2]
   simp
theorem words_two (a b:List UInt8) (hl:a.length+b.length≤30000) (h0:(scan a).2.2=0) :
  ∃ws we,(scan a).1=ws++[we]∧(scan (a++10::b)).2.2=(scan b).2.2 ∧
   ((scan b).2.2=0→(scan (a++10::b)).2.1=0∧(scan (a++10::b)).1.map cw=ws.map cw++(scan b).1.map cw) ∧
   ((scan b).2.2≠0→(scan (a++10::b)).2.1=(scan b).2.1+a.length+1):=by
 have e1:scan a=scn (a.length+1) a 0 1 0 []:=by unfold scan;rw[if_neg (by omega)]
 have e2:scan b=scn (b.length+1) b 0 1 0 []:=by unfold scan;rw[if_neg (by omega)]
 have e3:scan (a++10::b)=scn ((a++10::b).length+1) (a++10::b) 0 1 0 []:=by unfold scan;rw[if_neg (by rw[List.length_append,List.length_cons];omega)]
 rw[e1] at h0
 obtain⟨ws,we,g1,g2⟩:=scn_two _ _ _ _ _ _ (Nat.lt_succ_self _) h0
 obtain⟨f3,ln3,g3,g4⟩:=g2 _ b [] (Nat.lt_succ_self _)
 obtain⟨i1,i2,i3⟩:=scn_same (b.length+1) f3 b 0 1 0 (0+a.length+1) ln3 (0+a.length+1) [] ([]++ws) (Nat.lt_succ_self _) g3
 rw[e1,e2,e3,g4]
 refine⟨ws,we,by rw[g1];rfl,i1.symm,fun h=>?_,fun h=>?_⟩
 ·obtain⟨a1,a2,wa,wb,x1,x2,x3,x4⟩:=i2 h
  exact⟨a2,by rw[x1,x2,List.nil_append,List.nil_append,List.map_append,x3]⟩
 ·obtain⟨a1,_,_⟩:=i3 h
  omega
end Go.Proofs.YtcpakcffiopfjaaGreatDoor
