/- The text of a definition is scanned as its words; plain. What is written of a definition is read as it; plain. -/
import Derived.Test.YtcpakcffiopfjaaGreatDoorF5
import Derived.Test.YtcpakcffiopfjaaGreatDoorE2
import Derived.Test.YtcpakcffiopfjaaGreatDoorLg
namespace Go.Proofs.YtcpakcffiopfjaaGreatDoor
open Go.RowKit
set_option linter.unusedVariables false
set_option linter.unusedSimpArgs false
set_option maxRecDepth 100000
set_option maxHeartbeats 16000000
structure TokOK (x:Tk):Prop where
 pos:x.2.1≠[]
 st:starts x.2.1
 kind:x.1≠7
 rd:∀R,(x.1≤3→stop alnum R)→rdw (x.2.1++R)=⟨x.1,x.2.1.length,x.2.2.1,x.2.2.2.1,x.2.2.2.2,0,0⟩
theorem stop_dig {R:List UInt8} (h:stop alnum R):stop digB R:=fun c t e=>by
 have:=alnum_parts (h c t e)
 exact this.2.2
theorem TokOK.of {x:Tk} (hp:x.2.1≠[]) (hs:starts x.2.1) (hk:x.1≠7) (h:rdw x.2.1=⟨x.1,x.2.1.length,x.2.2.1,x.2.2.2.1,x.2.2.2.2,0,0⟩):TokOK x:=⟨hp,hs,hk,fun R hR=>by
 have:=rdw_pre x.2.1 R (by rw[h]) (by rw[h];exact hk) (fun k=>hR (by rw[h] at k;exact Nat.le_trans k (by decide))) (fun k=>stop_dig (hR (by rw[h] at k;exact Nat.le_of_eq k)))
 rw[h] at this
 simpa using this⟩
theorem lspan_full {p:Nat→Bool}:∀ {l:List UInt8},(∀c∈l,p c.toNat=true)→lspan p l=l.length
 | [],_=>rfl
 | c::l,h=>by
  unfold lspan
  rw[if_pos (h c (by simp)),lspan_full (fun d hd=>h d (by simp[hd]))]
  simp
theorem alnum_no {c:UInt8} (h:alnum c.toNat=true):c.toNat≠10∧c.toNat≠32∧c.toNat≠9∧c.toNat≠13∧c.toNat≠35:=by
 unfold alnum great small digB at h
 simp only[Bool.or_eq_true,Bool.and_eq_true,decide_eq_true_eq] at h
 omega
theorem starts_head {c:UInt8} {l:List UInt8} (h:c.toNat≠10∧c.toNat≠32∧c.toNat≠9∧c.toNat≠13∧c.toNat≠35):starts (c::l):=fun d t e=>by cases e;exact h
theorem nam_ok {s:ByteArray} (h:nm s=true):TokOK (namT s):=by
 have h0:=h
 obtain⟨c,l,e,hg⟩:=nm_head h
 unfold nm nameB whole at h
 simp only[Bool.and_eq_true,decide_eq_true_eq] at h
 obtain⟨_,h32,hsp⟩:=h
 have ha:alnum c.toNat=true:=by unfold alnum;rw[hg];rfl
 refine TokOK.of (by show s.data.toList≠[];rw[e];simp) (by show starts s.data.toList;rw[e];exact starts_head (alnum_no ha)) (show (1:Nat)≠7 by decide) ?_
 show rdw s.data.toList=⟨1,s.data.toList.length,[],⟨0,0,0,0⟩,0,0,0⟩
 have hr:rdLet s.data.toList 1=⟨1,s.data.toList.length,[],⟨0,0,0,0⟩,0,0,0⟩:=by
  unfold rdLet
  rw[hsp,if_neg (by omega)];rfl
 rw[←hr,e,rdw_cons,if_pos hg]
theorem key_ok {t:List UInt8} (hp:t≠[]) (hs:starts t) (h:rdw t=⟨2,t.length,[],⟨0,0,0,0⟩,0,0,0⟩):TokOK (keyT t):=TokOK.of hp hs (show (2:Nat)≠7 by decide) h
theorem sg_ok {t:List UInt8} (hp:t≠[]) (hs:starts t) (h:rdw t=⟨6,t.length,[],⟨0,0,0,0⟩,0,0,0⟩):TokOK (sgT t):=TokOK.of hp hs (show (6:Nat)≠7 by decide) h
theorem quo_ok (s:ByteArray):TokOK (quoT s):=by
 obtain⟨q,e⟩:∃q,quoteL (bysN s)=34::q:=⟨_,rfl⟩
 refine TokOK.of (by show quoteL (bysN s)≠[];rw[e];simp) (by show starts (quoteL (bysN s));rw[e];exact starts_head (by decide)) (show (4:Nat)≠7 by decide) ?_
 exact rdw_quote (bysN s) (bysN_lt s)
theorem set_ok' {s:St} (h:s.ok):TokOK (setT s):=by
 obtain⟨q,e⟩:∃q,printL s=91::q:=⟨_,rfl⟩
 refine TokOK.of (by show printL s≠[];rw[e];simp) (by show starts (printL s);rw[e];exact starts_head (by decide)) (show (5:Nat)≠7 by decide) ?_
 have:=rdw_print s h []
 rw[List.append_nil] at this
 exact this
theorem numv_snoc' (l:List UInt8) (c:UInt8):numv (l++[c])=numv l*10+(c.toNat-48):=by unfold numv;rw[List.foldl_append];rfl
theorem dec_facts:∀(k n:Nat),n<10 ^ (k+1)→(∀c∈Lib.decDigits n,digB c.toNat=true)∧numv (Lib.decDigits n)=n∧(n≠0→((Lib.decDigits n).getD 0 0).toNat≠48)∧Lib.decDigits n≠[]:=by
 intro k
 induction k with
 | zero=>
  intro n h
  have h10:n<10:=by simpa using h
  rw[Lib.decDigits,dif_pos h10]
  have hv:(UInt8.ofNat (48+n)).toNat=48+n:=by simp;omega
  refine⟨fun c hc=>?_,?_,fun h0=>?_,by simp⟩
  ·rw[List.mem_singleton] at hc;subst hc;rw[hv];unfold digB;simp;omega
  ·unfold numv;simp only[List.foldl_cons,List.foldl_nil,hv];omega
  ·simp only[List.getD_cons_zero,hv];omega
 | succ k ih=>
  intro n h
  by_cases h10:n<10
  ·have hk:n<10 ^ (k+1):=Nat.lt_of_lt_of_le h10 (by
    have:10 ^ 1≤10 ^ (k+1):=Nat.pow_le_pow_right (by decide) (by omega)
    simpa using this)
   exact ih n hk
  ·rw[Lib.decDigits,dif_neg h10]
   obtain⟨i1,i2,i3,i4⟩:=ih (n/10) (by rw[Nat.div_lt_iff_lt_mul (by omega)];rw[Nat.pow_succ] at h;exact h)
   have hv:(UInt8.ofNat (48+n%10)).toNat=48+n%10:=by simp;omega
   refine⟨fun c hc=>?_,?_,fun _=>?_,by simp⟩
   ·rcases List.mem_append.1 hc with hc | hc
    ·exact i1 c hc
    ·rw[List.mem_singleton] at hc;subst hc;rw[hv];unfold digB;simp;omega
   ·rw[numv_snoc',i2,hv];omega
   ·have:(Lib.decDigits (n/10)++[UInt8.ofNat (48+n%10)]).getD 0 0=(Lib.decDigits (n/10)).getD 0 0:=by
     cases hd:Lib.decDigits (n/10) with
     | nil=>exact absurd hd i4
     | cons c l=>rfl
    rw[this]
    exact i3 (by omega)
theorem num_ok {n:Nat} (h:n≤999999):TokOK (numT n):=by
 have h6:(10:Nat) ^ 6=1000000:=by decide
 obtain⟨f1,f2,f3,f4⟩:=dec_facts 5 n (by rw[h6];omega)
 have fl:=dec_len 5 n (by rw[h6];omega)
 obtain⟨c,l,e⟩:∃c l,Lib.decDigits n=c::l:=by
  cases hd:Lib.decDigits n with
  | nil=>exact absurd hd f4
  | cons c l=>exact⟨c,l,rfl⟩
 have hd:digB c.toNat=true:=f1 c (by rw[e];simp)
 have ha:alnum c.toNat=true:=by unfold alnum;rw[hd];simp
 have hsp:=lspan_full f1
 refine TokOK.of (by show Lib.decDigits n≠[];exact f4) (by show starts (Lib.decDigits n);rw[e];exact starts_head (alnum_no ha)) (show (3:Nat)≠7 by decide) ?_
 show rdw (Lib.decDigits n)=⟨3,(Lib.decDigits n).length,[],⟨0,0,0,0⟩,n,0,0⟩
 have hr:rdNum (Lib.decDigits n)=⟨3,(Lib.decDigits n).length,[],⟨0,0,0,0⟩,n,0,0⟩:=by
  unfold rdNum
  rw[hsp,if_neg,List.take_length,f2];rfl
  rintro (h | ⟨h1,h2⟩)
  ·omega
  ·by_cases h0:n=0
   ·rw[h0,Lib.decDigits,dif_pos (by decide)] at h1;simp at h1
   ·exact f3 h0 h2
 have hng:great c.toNat=false:=by
  unfold digB at hd
  simp only[Bool.and_eq_true,decide_eq_true_eq] at hd
  unfold great
  simp only[Bool.and_eq_false_iff,decide_eq_false_iff_not]
  omega
 have hns:small c.toNat=false:=by
  unfold digB at hd
  simp only[Bool.and_eq_true,decide_eq_true_eq] at hd
  unfold small
  simp only[Bool.and_eq_false_iff,decide_eq_false_iff_not]
  omega
 rw[←hr,e,rdw_cons,if_neg (by rw[hng];simp),if_neg (by rw[hns];simp),if_pos hd]
def lineT:List UInt8→List Tk→List UInt8
 | _,[]=>[]
 | l,x::ts=>(if spB l x.2.1 then [32] else [])++(x.2.1++lineT x.2.1 ts)
theorem putW_mono:∀(ws:List (List UInt8)) (st:List UInt8×List UInt8),st.1.length≤(putW st ws).1.length
 | [],st=>Nat.le_refl _
 | w::ws,st=>by
  rw[putW]
  split
  ·exact Nat.le_refl _
  ·refine Nat.le_trans ?_ (putW_mono ws _)
   simp only[List.length_append];omega
theorem putW_line:∀(ts:List Tk) (st:List UInt8×List UInt8),(putW st (txs ts)).1.length≤65536→(putW st (txs ts)).1=st.1++lineT st.2 ts
 | [],st,_=>by show st.1=st.1++[];rw[List.append_nil]
 | x::ts,st,h=>by
  have hm:=putW_mono (txs (x::ts)) st
  have hn:¬ 65536<st.1.length:=by omega
  have e:putW st (txs (x::ts))=putW (st.1++(if spB st.2 x.2.1 then [32] else [])++x.2.1,x.2.1) (txs ts):=by
   show putW st (x.2.1::txs ts)=_
   rw[putW,if_neg hn]
  rw[e] at h ⊢
  rw[putW_line ts _ h,lineT]
  simp only[List.append_assoc]
def lineS (s:List Tk):List UInt8:=lineT [] (s++[sgT [59]])++[10]
theorem fin_line (s:List Tk) (t:List UInt8) (h:(finW (putW (t,[]) (txs s))).1.length≤65536):finW (putW (t,[]) (txs s))=(t++lineS s,[]):=by
 unfold finW at h ⊢
 have e:putW (putW (t,[]) (txs s)) [[59]]=putW (t,[]) (txs (s++[sgT [59]])):=by rw[txs_app,putW_app];rfl
 rw[e] at h ⊢
 rw[List.length_append] at h
 rw[putW_line _ _ (by omega)]
 unfold lineS
 rw[List.append_assoc]
theorem wrS_mono:∀(ss:List (List Tk)) (st:List UInt8×List UInt8),st.1.length≤(wrS ss st).1.length
 | [],st=>Nat.le_refl _
 | s::ss,st=>by
  rw[wrS_cons]
  refine Nat.le_trans ?_ (wrS_mono ss _)
  unfold finW
  rw[List.length_append]
  have h1:=putW_mono (txs s) st
  have h2:=putW_mono [[59]] (putW st (txs s))
  omega
theorem wrS_text:∀(ss:List (List Tk)) (t:List UInt8),(wrS ss (t,[])).1.length≤65536→(wrS ss (t,[])).1=t++ss.flatMap lineS
 | [],t,_=>by show t=t++[];rw[List.append_nil]
 | s::ss,t,h=>by
  rw[wrS_cons] at h ⊢
  have hm:=wrS_mono ss (finW (putW (t,[]) (txs s)))
  have e:=fin_line s t (by omega)
  rw[e] at h ⊢
  rw[wrS_text ss _ h,List.flatMap_cons,List.append_assoc]
theorem oneB_stop {w signs:List UInt8} (h:oneB w signs=true):∃c,w=[c]∧0≤Lib.indexByte signs c:=by
 unfold oneB at h
 split at h
 ·rename_i c
  exact⟨c,rfl,by simpa using h⟩
 ·cases h
theorem ahead_sign:∀n:Fin 256,0≤Lib.indexByte [59,46,63,42,43,125] (UInt8.ofNat n.val)→alnum n.val=false:=by decide +kernel
theorem behind_sign:∀n:Fin 256,0≤Lib.indexByte [46,123] (UInt8.ofNat n.val)→(rdw [UInt8.ofNat n.val]).kind=6:=by decide +kernel
theorem bareA_stop {w R:List UInt8} (h:bareA w=true):stop alnum (w++R):=by
 obtain⟨c,rfl,hc⟩:=oneB_stop h
 refine stop_cons ?_
 have:=ahead_sign ⟨c.toNat,c.toNat_lt⟩
 simp only[UInt8.ofNat_toNat] at this
 exact this hc
theorem TokOK.self {x:Tk} (h:TokOK x):rdw x.2.1=⟨x.1,x.2.1.length,x.2.2.1,x.2.2.2.1,x.2.2.2.2,0,0⟩:=by
 have:=h.rd [] (fun _=>stop_nil _)
 rwa [List.append_nil] at this
theorem bareB_kind {x:Tk} (hx:TokOK x) (h:bareB x.2.1=true):x.1=6:=by
 obtain⟨c,e,hc⟩:=oneB_stop h
 have:=behind_sign ⟨c.toNat,c.toNat_lt⟩
 simp only[UInt8.ofNat_toNat] at this
 have h2:=this hc
 rw[←e,hx.self] at h2
 exact h2
theorem line_stop {x:Tk} (hx:TokOK x) (ts:List Tk) (R:List UInt8) (hR:stop alnum R):x.1≤3→stop alnum (lineT x.2.1 ts++R):=fun h3=>by
 cases ts with
 | nil=>exact hR
 | cons y ts=>
  rw[lineT]
  cases hs:spB x.2.1 y.2.1 with
  | true=>exact stop_cons (by decide)
  | false=>
   rw[if_neg (by simp)]
   unfold spB at hs
   have hne:x.2.1.isEmpty=false:=by
    cases hh:x.2.1 with
    | nil=>exact absurd hh hx.pos
    | cons c l=>rfl
   rw[hne] at hs
   cases ha:bareA y.2.1 with
   | true=>
    rw[List.nil_append,List.append_assoc]
    exact bareA_stop ha
   | false=>
    cases hb:bareB x.2.1 with
    | true=>have:=bareB_kind hx hb;omega
    | false=>rw[ha,hb] at hs;cases hs
theorem starts_pre {l r:List UInt8} (h:starts l) (hl:l≠[]):starts (l++r):=by
 cases l with
 | nil=>exact absurd rfl hl
 | cons c l=>exact fun d t e=>by cases e;exact h c l rfl
theorem scn_line:∀(ts:List Tk) (l:List UInt8) (R:List UInt8) (f p ln bg:Nat) (acc:List Wd),(∀x∈ts,TokOK x)→stop alnum R→ts.length<f→∃ws p',ws.map cw=ts∧scn f (lineT l ts++R) p ln bg acc=scn (f-ts.length) R p' ln bg (acc++ws)
 | [],l,R,f,p,ln,bg,acc,_,_,_=>⟨[],p,rfl,by rw[List.append_nil];rfl⟩
 | x::ts,l,R,f,p,ln,bg,acc,hx,hR,hf=>by
  have hxk:=hx x (by simp)
  simp only[List.length_cons] at hf
  have main:∀(p:Nat),∃ws p',ws.map cw=x::ts∧scn f (x.2.1++lineT x.2.1 ts++R) p ln bg acc=scn (f-(ts.length+1)) R p' ln bg (acc++ws):=fun p=>by
   obtain⟨f,rfl⟩:∃g,f=g+1:=⟨f-1,by omega⟩
   rw[List.append_assoc]
   have hst:=line_stop hxk ts R hR
   have hrd:=hxk.rd (lineT x.2.1 ts++R) hst
   obtain⟨ws,p',h1,h2⟩:=scn_line ts x.2.1 R f (p+x.2.1.length) ln bg (acc++[mkWd (x.2.1++(lineT x.2.1 ts++R)) ⟨x.1,x.2.1.length,x.2.2.1,x.2.2.2.1,x.2.2.2.2,0,0⟩ p ln bg]) (fun y hy=>hx y (by simp[hy])) hR (by omega)
   refine⟨mkWd (x.2.1++(lineT x.2.1 ts++R)) ⟨x.1,x.2.1.length,x.2.2.1,x.2.2.2.1,x.2.2.2.2,0,0⟩ p ln bg::ws,p',?_,?_⟩
   ·rw[List.map_cons,h1]
    congr 1
    unfold cw mkWd
    simp
   ·rw[scn_step f,starts_skp (starts_pre hxk.st hxk.pos)]
    simp only
    rw[hrd]
    rw[if_neg (fun h=>h rfl),if_neg hxk.kind]
    simp only[List.drop_left]
    rw[h2,Nat.add_sub_add_right]
    simp
  rw[lineT,List.length_cons]
  cases hs:spB l x.2.1 with
  | false=>
   rw[if_neg (by simp),List.nil_append]
   exact main p
  | true=>
   rw[if_pos rfl]
   obtain⟨ws,p',h1,h2⟩:=main (p+1)
   refine⟨ws,p',h1,?_⟩
   rw[←h2,List.append_assoc,List.singleton_append,scn_blank _ _ _ _ _ _ (by omega)]
theorem scn_nl (f:Nat) (l:List UInt8) (p ln bg:Nat) (acc:List Wd) (hf:1≤f):scn f (10::l) p ln bg acc=scn f l (p+1) (ln+1) (p+1) acc:=by
 obtain⟨f,rfl⟩:∃g,f=g+1:=⟨f-1,by omega⟩
 have e:skp (10::l) false p ln bg=skp l false (p+1) (ln+1) (p+1):=by simp[skp]
 rw[scn_step f,scn_step f,e]
theorem semi_ok:TokOK (sgT [59]):=sg_ok (by simp) (starts_head (by decide)) (by kernel_rfl)
theorem scn_text:∀(ss:List (List Tk)) (R:List UInt8) (f p ln bg:Nat) (acc:List Wd),(∀s∈ss,∀x∈s,TokOK x)→(Ends ss).length<f→∃ws p' ln' bg',ws.map cw=Ends ss∧scn f (ss.flatMap lineS++R) p ln bg acc=scn (f-(Ends ss).length) R p' ln' bg' (acc++ws)
 | [],R,f,p,ln,bg,acc,_,_=>⟨[],p,ln,bg,rfl,by rw[List.append_nil];rfl⟩
 | s::ss,R,f,p,ln,bg,acc,hs,hf=>by
  have e:Ends (s::ss)=(s++[sgT [59]])++Ends ss:=rfl
  rw[e] at hf ⊢
  rw[List.length_append] at hf ⊢
  have h1:∀x∈s++[sgT [59]],TokOK x:=fun x hx=>by
   rcases List.mem_append.1 hx with hx | hx
   ·exact hs s (by simp) x hx
   ·simp at hx;rw[hx];exact semi_ok
  rw[List.flatMap_cons]
  have e2:lineS s++List.flatMap lineS ss++R=lineT [] (s++[sgT [59]])++(10::(List.flatMap lineS ss++R)):=by unfold lineS;simp
  rw[e2]
  obtain⟨ws,p1,a1,a2⟩:=scn_line (s++[sgT [59]]) [] (10::(List.flatMap lineS ss++R)) f p ln bg acc h1 (stop_cons (by decide)) (by omega)
  rw[a2,scn_nl _ _ _ _ _ _ (by omega)]
  obtain⟨us,p2,l2,b2,c1,c2⟩:=scn_text ss R (f-(s++[sgT [59]]).length) (p1+1) (ln+1) (p1+1) (acc++ws) (fun t ht=>hs t (by simp[ht])) (by omega)
  refine⟨ws++us,p2,l2,b2,by rw[List.map_append,a1,c1],?_⟩
  rw[c2,Nat.sub_sub,List.append_assoc]
structure SetsOK (d:Df):Prop where
 p:∀p∈d.prods,∀x∈p.syms,x.set.ok
 f:∀f∈d.follows,f.set.ok
def AllOK (ts:List Tk):Prop:=∀x∈ts,TokOK x
theorem AllOK.nil:AllOK []:=fun x h=>by cases h
theorem AllOK.cons {x:Tk} {ts:List Tk} (h:TokOK x) (t:AllOK ts):AllOK (x::ts):=fun y hy=>by
 rcases List.mem_cons.1 hy with rfl | hy
 ·exact h
 ·exact t y hy
theorem AllOK.app {a b:List Tk} (h:AllOK a) (t:AllOK b):AllOK (a++b):=fun y hy=>by
 rcases List.mem_append.1 hy with hy | hy
 ·exact h y hy
 ·exact t y hy
theorem AllOK.flat {α:Type} {f:α→List Tk}:∀ {l:List α},(∀x∈l,AllOK (f x))→AllOK (l.flatMap f)
 | [],_=>.nil
 | x::l,h=>by rw[List.flatMap_cons];exact (h x (by simp)).app (AllOK.flat fun y hy=>h y (by simp[hy]))
theorem sg1 (c:UInt8) (h:c.toNat≠10∧c.toNat≠32∧c.toNat≠9∧c.toNat≠13∧c.toNat≠35) (hr:rdw [c]=⟨6,1,[],⟨0,0,0,0⟩,0,0,0⟩):TokOK (sgT [c]):=sg_ok (by simp) (starts_head h) hr
theorem k_start:TokOK (keyT [115,116,97,114,116]):=key_ok (by simp) (starts_head (by decide)) (by kernel_rfl)
theorem k_layout:TokOK (keyT [108,97,121,111,117,116]):=key_ok (by simp) (starts_head (by decide)) (by kernel_rfl)
theorem k_lex:TokOK (keyT [108,101,120]):=key_ok (by simp) (starts_head (by decide)) (by kernel_rfl)
theorem k_cf:TokOK (keyT [99,102]):=key_ok (by simp) (starts_head (by decide)) (by kernel_rfl)
theorem k_prio:TokOK (keyT [112,114,105,111]):=key_ok (by simp) (starts_head (by decide)) (by kernel_rfl)
theorem k_follow:TokOK (keyT [102,111,108,108,111,119]):=key_ok (by simp) (starts_head (by decide)) (by kernel_rfl)
theorem k_reject:TokOK (keyT [114,101,106,101,99,116]):=key_ok (by simp) (starts_head (by decide)) (by kernel_rfl)
theorem k_box:TokOK (keyT [98,111,120]):=key_ok (by simp) (starts_head (by decide)) (by kernel_rfl)
theorem k_bracket:TokOK (keyT [98,114,97,99,107,101,116]):=key_ok (by simp) (starts_head (by decide)) (by kernel_rfl)
theorem k_left:TokOK (keyT [108,101,102,116]):=key_ok (by simp) (starts_head (by decide)) (by kernel_rfl)
theorem k_right:TokOK (keyT [114,105,103,104,116]):=key_ok (by simp) (starts_head (by decide)) (by kernel_rfl)
theorem k_non:TokOK (keyT [110,111,110]):=key_ok (by simp) (starts_head (by decide)) (by kernel_rfl)
theorem k_nest:TokOK (keyT [110,101,115,116]):=key_ok (by simp) (starts_head (by decide)) (by kernel_rfl)
theorem k_group:TokOK (keyT [103,114,111,117,112]):=key_ok (by simp) (starts_head (by decide)) (by kernel_rfl)
theorem s_dot:TokOK (sgT [46]):=sg1 _ (by decide) (by kernel_rfl)
theorem s_eq:TokOK (sgT [61]):=sg1 _ (by decide) (by kernel_rfl)
theorem s_lb:TokOK (sgT [123]):=sg1 _ (by decide) (by kernel_rfl)
theorem s_rb:TokOK (sgT [125]):=sg1 _ (by decide) (by kernel_rfl)
theorem s_q:TokOK (sgT [63]):=sg1 _ (by decide) (by kernel_rfl)
theorem s_st:TokOK (sgT [42]):=sg1 _ (by decide) (by kernel_rfl)
theorem s_pl:TokOK (sgT [43]):=sg1 _ (by decide) (by kernel_rfl)
theorem s_gt:TokOK (sgT [62]):=sg1 _ (by decide) (by kernel_rfl)
theorem s_un:TokOK (sgT [95]):=sg1 _ (by decide) (by kernel_rfl)
theorem s_sl:TokOK (sgT [47]):=sg1 _ (by decide) (by kernel_rfl)
theorem s_lp:TokOK (sgT [40]):=sg1 _ (by decide) (by kernel_rfl)
theorem s_rp:TokOK (sgT [41]):=sg1 _ (by decide) (by kernel_rfl)
theorem sym_named {x:Sy} (h:symB x=true) (k1:¬x.kind=1) (hn:em x.name=false):nm x.name=true:=by
 unfold symB oftenB at h
 simp only[hn,Bool.false_eq_true,if_false] at h
 have an:∀ {p q:Bool},(p&&q)=true→p=true∧q=true:=fun h=>by simpa using h
 rw[if_neg k1] at h
 by_cases k2:x.kind=2
 ·rw[if_pos k2,eqS_iff] at h
  have e:x.name=⟨#[]⟩:=by rw[h]
  rw[e] at hn;exact absurd hn (by decide)
 rw[if_neg k2] at h
 split at h
 ·exact (an h).2
 ·split at h
  ·exact (an (an (an h).2).1).2
  ·split at h
   ·exact (an (an h).1).2
   ·split at h
    ·exact (an (an h).1).2
    ·cases h
theorem sym_sepn {x:Sy} (h:symB x=true) (k1:¬x.kind=1) (hs:em x.sep=false):em x.name=false:=by
 cases hn:em x.name
 ·rfl
 exfalso
 have an:∀ {p q:Bool},(p&&q)=true→p=true∧q=true:=fun h=>by simpa using h
 have bad:∀y:Sy,x=y→y.sep=⟨#[]⟩→False:=fun y e e2=>by
  rw[e,e2] at hs;exact absurd hs (by decide)
 unfold symB oftenB at h
 simp only[hn,if_true] at h
 rw[if_neg k1] at h
 split at h
 ·exact bad _ (eqS_iff.1 h) rfl
 ·split at h
  ·exact bad _ (eqS_iff.1 (an h).1) rfl
  ·split at h
   ·exact bad _ (eqS_iff.1 (an h).2) rfl
   ·split at h
    ·exact bad _ (eqS_iff.1 h) rfl
    ·split at h
     ·exact bad _ (eqS_iff.1 h) rfl
     ·cases h
theorem symK_ok {x:Sy} (h:symB x=true) (hs:x.set.ok):AllOK (symK x):=by
 unfold symK
 split
 ·exact .cons (quo_ok _) .nil
 ·rename_i k1
  refine AllOK.app ?_ ?_
  ·split
   ·split
    ·exact .cons (set_ok' hs) .nil
    ·rename_i hn
     exact .cons (nam_ok (sym_named h k1 (by simpa using hn))) .nil
   ·rename_i he
    exact .cons s_lb (.cons (nam_ok (sym_named h k1 (sym_sepn h k1 (by simpa using he)))) (.cons (quo_ok _) (.cons s_rb .nil)))
  ·unfold oftK
   split
   ·exact .cons s_q .nil
   ·split
    ·exact .cons s_st .nil
    ·split
     ·exact .cons s_pl .nil
     ·exact .nil
theorem prodK_ok {p:Pr} (h:prodB p=true) (hs:∀x∈p.syms,x.set.ok):AllOK (prodK p):=by
 unfold prodB at h
 simp only[Bool.and_eq_true,List.all_eq_true] at h
 obtain⟨⟨⟨⟨h1,h2⟩,_⟩,_⟩,h3⟩:=h
 unfold prodK
 refine .cons ?_ (.cons (nam_ok h1) (AllOK.app ?_ (.cons s_eq (AllOK.app (AllOK.flat fun x hx=>symK_ok (h3 x hx) (hs x hx)) ?_))))
 ·cases p.lex
  ·exact k_cf
  ·exact k_lex
 ·unfold consK
  unfold nmN at h2
  split
  ·exact .nil
  ·rename_i hc
   have:nm p.cons=true:=by
    rw[Bool.or_eq_true] at h2
    rcases h2 with h2 | h2
    ·exact absurd h2 hc
    ·exact h2
   exact .cons s_dot (.cons (nam_ok this) .nil)
 ·split
  ·exact .cons k_bracket .nil
  ·exact .nil
theorem groupK_ok {g:Gr} (h:groupB g=true):AllOK (groupK g):=by
 unfold groupB at h
 simp only[Bool.and_eq_true,List.all_eq_true] at h
 unfold groupK
 refine AllOK.app ?_ ?_
 ·unfold assocK
  split
  ·exact .cons k_left .nil
  ·split
   ·exact .cons k_right .nil
   ·split
    ·exact .cons k_non .nil
    ·exact .nil
 ·intro x hx
  obtain⟨y,hy,rfl⟩:=List.mem_map.1 hx
  exact nam_ok (h.2 y hy)
theorem chainK_ok:∀(l:List Gr),(∀g∈l,groupB g=true)→AllOK (chainK l)
 | [],_=>.nil
 | [g],h=>by rw[chainK];exact groupK_ok (h g (by simp))
 | g::g2::l,h=>by
  rw[chainK]
  exact (groupK_ok (h g (by simp))).app (.cons s_gt (chainK_ok (g2::l) (fun x hx=>h x (List.mem_cons_of_mem _ hx))))
mutual
theorem itemK_ok:∀(x:It) (c:Nat),(itR c x).2=true→AllOK (itemK x)
 | .mk k t n its,c,h=>by
  rw[itR] at h
  split at h
  ·rename_i hc
   have hib:(if k=1 then decide (t.size≤32)&&n==0&&!decide (0<its.length) else if k=2 then em t&&numB n&&!decide (0<its.length) else if k=3 then em t&&n==0&&!decide (0<its.length) else if k=4 then em t&&n==0&&!decide (0<its.length) else if k=5 then em t&&numB n else if k=6 then em t&&n==0 else false)=true:=hc.2
   have ih:=itemsK_ok its (c+1) h
   have hnum:numB n=true→TokOK (numT n.toNat):=fun hn=>num_ok (by
    unfold numB at hn
    simp only[Bool.and_eq_true,decide_eq_true_eq] at hn
    omega)
   rw[itemK]
   split
   ·exact .cons (quo_ok _) .nil
   rename_i k1
   rw[if_neg k1] at hib
   split
   ·rename_i k2
    rw[if_pos k2] at hib
    simp only[Bool.and_eq_true] at hib
    exact .cons (hnum hib.1.2) .nil
   rename_i k2
   rw[if_neg k2] at hib
   split
   ·exact .cons s_un .nil
   rename_i k3
   rw[if_neg k3] at hib
   split
   ·exact .cons s_sl .nil
   rename_i k4
   rw[if_neg k4] at hib
   split
   ·rename_i k5
    rw[if_pos k5] at hib
    simp only[Bool.and_eq_true] at hib
    exact .cons k_nest (.cons (hnum hib.2) (.cons s_lp (ih.app (.cons s_rp .nil))))
   split
   ·exact .cons k_group (.cons s_lp (ih.app (.cons s_rp .nil)))
   ·exact .nil
  ·cases h
theorem itemsK_ok:∀(l:List It) (c:Nat),(itsR c l).2=true→AllOK (itemsK l)
 | [],c,_=>.nil
 | x::l,c,h=>by
  rw[itsR] at h
  split at h
  ·rename_i hq
   rw[itemsK]
   exact (itemK_ok x c hq).app (itemsK_ok l _ h)
  ·cases h
end
theorem stmtsK_ok {d:Df} (h:RightD d) (hs:SetsOK d):∀s∈stmtsK d,AllOK s:=by
 unfold stmtsK
 intro s hm
 simp only[List.mem_append] at hm
 rcases hm with (((((hm | hm) | hm) | hm) | hm) | hm) | hm
 ·unfold startK at hm
  split at hm
  ·cases hm
  ·rename_i he
   rw[List.mem_singleton] at hm;subst hm
   have h2:=h.s
   unfold nmN at h2
   rw[Bool.or_eq_true] at h2
   exact .cons k_start (.cons (nam_ok (h2.resolve_left he)) .nil)
 ·unfold layoutK at hm
  split at hm
  ·cases hm
  ·rename_i he
   rw[List.mem_singleton] at hm;subst hm
   have h2:=h.l
   unfold nmN at h2
   rw[Bool.or_eq_true] at h2
   exact .cons k_layout (.cons (nam_ok (h2.resolve_left he)) .nil)
 ·obtain⟨p,hp,rfl⟩:=List.mem_map.1 hm
  exact prodK_ok (h.p p hp) (hs.p p hp)
 ·obtain⟨c,hc,rfl⟩:=List.mem_map.1 hm
  have:=h.c c hc
  unfold chainB at this
  simp only[Bool.and_eq_true,List.all_eq_true] at this
  exact .cons k_prio (chainK_ok c this.2)
 ·obtain⟨f,hf,rfl⟩:=List.mem_map.1 hm
  exact .cons k_follow (.cons (nam_ok (h.f f hf)) (.cons (set_ok' (hs.f f hf)) .nil))
 ·obtain⟨r,hr,rfl⟩:=List.mem_map.1 hm
  exact .cons k_reject (.cons (nam_ok (h.r r hr).1) (.cons (nam_ok (h.r r hr).2) .nil))
 ·obtain⟨b,hb,rfl⟩:=List.mem_map.1 hm
  have:=h.b b hb
  unfold boxB at this
  simp only[Bool.and_eq_true] at this
  exact .cons k_box (.cons (nam_ok this.1) (.cons s_eq (itemsK_ok _ 0 this.2)))
theorem stmtsK_steps {d:Df} (h:RightD d):StepsK (stmtsK d) Df0 d:=by
 unfold stmtsK
 have a1:StepsK (startK d.start) Df0 { Df0 with start:=d.start }:=by
  unfold startK
  split
  ·rename_i he;rw[em_iff.1 he];exact .nil _
  ·exact .cons (start_step rfl) (.nil _)
 have a2:StepsK (layoutK d.layout) { Df0 with start:=d.start } { Df0 with start:=d.start,layout:=d.layout }:=by
  unfold layoutK
  split
  ·rename_i he;rw[em_iff.1 he];exact .nil _
  ·exact .cons (layout_step rfl) (.nil _)
 have a3:=prods_steps d.prods { Df0 with start:=d.start,layout:=d.layout } h.p (by have:=h.n;simp[Df0];omega)
 have a4:=chains_steps d.chains { Df0 with start:=d.start,layout:=d.layout,prods:=[]++d.prods } h.c
 have a5:=follows_steps d.follows { Df0 with start:=d.start,layout:=d.layout,prods:=[]++d.prods,chains:=[]++d.chains }
 have a6:=rejects_steps d.rejects { Df0 with start:=d.start,layout:=d.layout,prods:=[]++d.prods,chains:=[]++d.chains,follows:=[]++d.follows }
 have a7:=boxes_steps d.boxes { Df0 with start:=d.start,layout:=d.layout,prods:=[]++d.prods,chains:=[]++d.chains,follows:=[]++d.follows,rejects:=[]++d.rejects } h.b
 exact (((((a1.app a2).app a3).app a4).app a5).app a6).app a7
theorem ends_len:∀ss:List (List Tk),ss.length≤(Ends ss).length
 | []=>Nat.le_refl _
 | s::ss=>by
  have:=ends_len ss
  show ss.length+1≤((s++[sgT [59]])++Ends ss).length
  rw[List.length_append,List.length_append,List.length_singleton];omega
theorem scan_text (ss:List (List Tk)) (h:∀s∈ss,AllOK s) (hl:(ss.flatMap lineS).length≤65536):∃ws we,scan (ss.flatMap lineS)=(ws++[we],0,0)∧ws.map cw=Ends ss∧we.kind=7:=by
 have hlen:(Ends ss).length<(ss.flatMap lineS).length+1:=by
  have:∀(ts:List Tk) (l:List UInt8),AllOK ts→ts.length≤(lineT l ts).length:=by
   intro ts
   induction ts with
   | nil=>intro l _;exact Nat.le_refl _
   | cons x ts ih=>
    intro l ho
    have h1:=ih x.2.1 (fun y hy=>ho y (by simp[hy]))
    have h2:1≤x.2.1.length:=by
     have:=(ho x (by simp)).pos
     cases hx:x.2.1 with
     | nil=>exact absurd hx this
     | cons c l=>simp
    rw[lineT,List.length_append,List.length_append,List.length_cons];omega
  clear hl
  induction ss with
  | nil=>simp[Ends]
  | cons s ss ih=>
   have h1:=ih (fun t ht=>h t (by simp[ht]))
   have h2:(s++[sgT [59]]).length≤(lineT [] (s++[sgT [59]])).length:=this _ [] ((h s (by simp)).app (.cons semi_ok .nil))
   have e1:(Ends (s::ss)).length=(s++[sgT [59]]).length+(Ends ss).length:=by
    show ((s++[sgT [59]])++Ends ss).length=_
    exact List.length_append ..
   have e2:((s::ss).flatMap lineS).length=(lineT [] (s++[sgT [59]])).length+1+(ss.flatMap lineS).length:=by
    rw[List.flatMap_cons,List.length_append]
    unfold lineS
    rw[List.length_append,List.length_singleton]
   rw[e1,e2]
   omega
 have e:scan (ss.flatMap lineS)=scn ((ss.flatMap lineS).length+1) (ss.flatMap lineS++[]) 0 1 0 []:=by unfold scan;rw[if_neg (by omega),List.append_nil]
 obtain⟨ws,p',ln',bg',h1,h2⟩:=scn_text ss [] ((ss.flatMap lineS).length+1) 0 1 0 [] (fun s hs=>h s hs) hlen
 obtain⟨g,hg⟩:∃g,(ss.flatMap lineS).length+1-(Ends ss).length=g+1:=⟨(ss.flatMap lineS).length-(Ends ss).length,by omega⟩
 rw[h2,hg] at e
 exact⟨ws,_,by rw[e];rfl,h1,rfl⟩
theorem stmts_end {f:Nat} {d:Df} {we:Wd} (h:we.kind=7):stmtsR (f+1) d [we]=.ok d [we]:=by rw[stmtsR,wd_cons,if_pos h]
theorem par_back {d:Df} (h:RightD d) (hs:SetsOK d) (hl:(wrS (stmtsK d) ([],[])).1.length≤65536):∃L,parR (wrS (stmtsK d) ([],[])).1=.ok d L:=by
 have e:=wrS_text (stmtsK d) [] hl
 rw[List.nil_append] at e
 rw[e] at hl ⊢
 obtain⟨ws,we,h1,h2,h7⟩:=scan_text _ (stmtsK_ok h hs) hl
 refine⟨[we],?_⟩
 unfold parR
 rw[h1]
 rw[if_pos rfl]
 have hn:=ends_len (stmtsK d)
 rw[←h2,List.length_map] at hn
 have ef:(ws++[we]).length+1=(ws.length+1-(stmtsK d).length)+1+(stmtsK d).length:=by rw[List.length_append,List.length_singleton];omega
 simp only
 rw[ef,(stmtsK_steps h).run _ ws [we] h2]
 exact stmts_end h7
end Go.Proofs.YtcpakcffiopfjaaGreatDoor
