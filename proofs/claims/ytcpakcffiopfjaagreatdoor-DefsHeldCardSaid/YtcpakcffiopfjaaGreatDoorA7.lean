/- A word hangs on its own bytes alone, and on that no letter or digit stands behind it: plain. Scans of texts: of two texts behind each other, of joined words: plain. Two texts behind each other have the words of both; joined words are the same words: plain. A text's words, put together with single blanks, are the same words again: plain. What is written in quotes is read as it was: plain. A set's text with a quoted text behind it: their words. -/
import Derived.Test.YtcpakcffiopfjaaGreatDoorA6
import Derived.Test.YtcpakcffiopfjaaGreatDoorA4
import Derived.Test.YtcpakcffiopfjaaGreatDoorA5
import Derived.Test.YtcpakcffiopfjaaGreatDoorA3
namespace Go.Proofs.YtcpakcffiopfjaaGreatDoor
open Go.RowKit
set_option linter.unusedVariables false
set_option linter.unusedSimpArgs false
set_option maxRecDepth 100000
set_option maxHeartbeats 16000000
def stop (p:Nat→Bool) (l:List UInt8):Prop:=∀c t,l=c::t→p c.toNat=false
def cw (d:Wd):Nat×List UInt8×List Nat×St×Nat:=(d.kind,d.text,d.bytes,d.set,d.n)
theorem skp_len:∀(l:List UInt8) (r:Bool) (p ln bg:Nat),(skp l r p ln bg).2.1+(skp l r p ln bg).1.length=p+l.length∧(skp l r p ln bg).1.length≤l.length
 | [],r,p,ln,bg=>by simp[skp]
 | c::l,r,p,ln,bg=>by
  have h1:=skp_len l false (p+1) (ln+1) (p+1)
  have h2:=skp_len l true (p+1) ln bg
  have h3:=skp_len l false (p+1) ln bg
  unfold skp
  simp only[List.length_cons]
  split
  ·omega
  ·split
   ·omega
   ·split
    ·omega
    ·split
     ·omega
     ·exact⟨rfl,Nat.le_refl _⟩
theorem scn_step (f:Nat) (l:List UInt8) (p ln bg:Nat) (acc:List Wd):scn (f+1) l p ln bg acc =
  (if (rdw (skp l false p ln bg).1).code≠0 then ([],(skp l false p ln bg).2.1+(rdw (skp l false p ln bg).1).fat,(rdw (skp l false p ln bg).1).code)
  else if (rdw (skp l false p ln bg).1).kind=7 then (acc++[mkWd (skp l false p ln bg).1 (rdw (skp l false p ln bg).1) (skp l false p ln bg).2.1 (skp l false p ln bg).2.2.1 (skp l false p ln bg).2.2.2],0,0)
  else scn f ((skp l false p ln bg).1.drop (rdw (skp l false p ln bg).1).len) ((skp l false p ln bg).2.1+(rdw (skp l false p ln bg).1).len) (skp l false p ln bg).2.2.1 (skp l false p ln bg).2.2.2 (acc++[mkWd (skp l false p ln bg).1 (rdw (skp l false p ln bg).1) (skp l false p ln bg).2.1 (skp l false p ln bg).2.2.1 (skp l false p ln bg).2.2.2])):=rfl

def starts (r:List UInt8):Prop:=∀c t,r=c::t→c.toNat≠10∧c.toNat≠32∧c.toNat≠9∧c.toNat≠13∧c.toNat≠35
theorem skp_starts:∀(l:List UInt8) (r:Bool) (p ln bg:Nat),starts (skp l r p ln bg).1
 | [],r,p,ln,bg=>fun c t h=>by simp[skp] at h
 | c::l,r,p,ln,bg=>by
  unfold skp
  split
  ·exact skp_starts l _ _ _ _
  ·rename_i h1
   split
   ·exact skp_starts l _ _ _ _
   ·split
    ·exact skp_starts l _ _ _ _
    ·rename_i h3
     split
     ·exact skp_starts l _ _ _ _
     ·rename_i h4
      intro c' t' e
      cases e
      exact⟨h1,by omega,by omega,by omega,h4⟩
def endW:Nat×List UInt8×List Nat×St×Nat:=(7,[],[],St.zero,0)
def GoodW (d:Wd):Prop:=∃r,(rdw r).code=0∧(rdw r).kind≠7∧starts r∧cw d=cw (mkWd r (rdw r) 0 0 0)
theorem GoodW.len {d:Wd} (h:GoodW d):1≤d.text.length∧d.kind≠7:=by
 obtain⟨r,h1,h2,_,h4⟩:=h
 obtain⟨a,b,_⟩:=rdw_len r h1
 have e1:d.text=r.take (rdw r).len:=congrArg (fun x=>x.2.1) h4
 have e2:d.kind=(rdw r).kind:=congrArg (fun x=>x.1) h4
 refine⟨?_,by rw[e2];exact h2⟩
 have:=b h2
 rw[e1,List.length_take];omega
theorem scn_good:∀(f:Nat) (l:List UInt8) (p ln bg:Nat) (acc:List Wd),l.length<f→(scn f l p ln bg acc).2.2=0 →
  ∃ws we,(scn f l p ln bg acc).1=acc++ws++[we]∧(scn f l p ln bg acc).2.1=0∧cw we=endW∧(∀d∈ws,GoodW d)∧(ws.map fun d=>d.text.length).sum≤l.length
 | 0,l,p,ln,bg,acc,h,_=>by omega
 | f+1,l,p,ln,bg,acc,h1,h0=>by
  have hl:=skp_len l false p ln bg
  have hst:=skp_starts l false p ln bg
  rw[scn_step f] at h0 ⊢
  have hlen:=rdw_len (skp l false p ln bg).1
  generalize (skp l false p ln bg).1=r at *
  generalize (skp l false p ln bg).2=s at *
  by_cases hc:(rdw r).code≠0
  ·rw[if_pos hc] at h0;exact absurd h0 hc
  rw[if_neg hc] at h0 ⊢
  have hc0:(rdw r).code=0:=by simpa using hc
  obtain⟨l1,l2,l3⟩:=hlen hc0
  by_cases h7:(rdw r).kind=7
  ·rw[if_pos h7]
   refine⟨[],_,by rw[List.append_nil],rfl,?_,by simp,by simp⟩
   obtain rfl:=l3.1 h7
   rfl
  ·rw[if_neg h7] at h0 ⊢
   have hpos:=l2 h7
   obtain⟨ws,we,e1,e2,e3,e4,e5⟩:=scn_good f (r.drop (rdw r).len) (s.1+(rdw r).len) s.2.1 s.2.2 _ (by rw[List.length_drop];omega) h0
   refine⟨mkWd r (rdw r) s.1 s.2.1 s.2.2::ws,we,by rw[e1];simp,e2,e3,?_,?_⟩
   ·intro d hd
    rcases List.mem_cons.1 hd with rfl | hd
    ·exact⟨r,hc0,h7,hst,rfl⟩
    ·exact e4 d hd
   ·have:(mkWd r (rdw r) s.1 s.2.1 s.2.2).text.length=(rdw r).len:=by
     show (r.take _).length=_
     rw[List.length_take];omega
    rw[List.map_cons,List.sum_cons,this]
    rw[List.length_drop] at e5;omega
theorem sum_pos:∀ds:List Wd,(∀d∈ds,1≤d.text.length)→ds.length≤(ds.map fun d=>d.text.length).sum
 | [],_=>by simp
 | d::ds,h=>by
  have h1:=sum_pos ds (fun e he=>h e (by simp[he]))
  have h2:=h d (by simp)
  simp only[List.length_cons,List.map_cons,List.sum_cons];omega
theorem quoteL_len (L:List Nat) (hL:∀n∈L,n<256):(quoteL L).length≤4*L.length+2:=by
 have:=flat_le L hL
 unfold quoteL;rw[List.length_append,List.length_append];simp only[List.length_cons,List.length_nil];omega
theorem print_len (s:St):(printL s).length≤2306:=by
 have h:=text_le (runsOf (upTo s 256)) (fun r hr=>⟨((runs_small s 256 (by omega)).1 r hr).1,((runs_small s 256 (by omega)).1 r hr).2.1⟩)
 have h2:=runs_count s
 unfold printL
 rw[List.length_append,List.length_singleton]
 omega
end Go.Proofs.YtcpakcffiopfjaaGreatDoor
