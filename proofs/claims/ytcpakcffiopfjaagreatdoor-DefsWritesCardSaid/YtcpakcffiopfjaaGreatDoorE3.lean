/- The text of a definition is scanned as its words; plain. What is written of a definition is read as it; plain. -/
import Derived.Test.YtcpakcffiopfjaaGreatDoorF5
import Derived.Test.YtcpakcffiopfjaaGreatDoorE2
import Derived.Test.YtcpakcffiopfjaaGreatDoorLg
namespace Go.Proofs.YtcpakcffiopfjaaGreatDoor
open Go.RowKit
set_option linter.unusedVariables false
set_option linter.unusedSimpArgs false
set_option maxRecDepth 100000
set_option maxHeartbeats 16000000
set_option linter.unusedVariables false
set_option linter.unusedSimpArgs false
set_option maxRecDepth 100000
set_option maxHeartbeats 16000000
structure TokOK (x:Tk):Prop where
 pos:x.2.1≠[]
 st:starts x.2.1
 kind:x.1≠7
 rd:∀R,(x.1≤3→stop alnum R)→rdw (x.2.1++R)=⟨x.1,x.2.1.length,x.2.2.1,x.2.2.2.1,x.2.2.2.2,0,0⟩
theorem stop_dig {R:List UInt8} (h:stop alnum R):stop digB R:=fun c t e=>by
 have:=alnum_parts (h c t e)
 exact this.2.2
theorem TokOK.of {x:Tk} (hp:x.2.1≠[]) (hs:starts x.2.1) (hk:x.1≠7) (h:rdw x.2.1=⟨x.1,x.2.1.length,x.2.2.1,x.2.2.2.1,x.2.2.2.2,0,0⟩):TokOK x:=⟨hp,hs,hk,fun R hR=>by
 have:=rdw_pre x.2.1 R (by rw[h]) (by rw[h];exact hk) (fun k=>hR (by rw[h] at k;exact Nat.le_trans k (by decide))) (fun k=>stop_dig (hR (by rw[h] at k;exact Nat.le_of_eq k)))
 rw[h] at this
 simpa using this⟩
theorem numv_snoc' (l:List UInt8) (c:UInt8):numv (l++[c])=numv l*10+(c.toNat-48):=by unfold numv;rw[List.foldl_append];rfl
theorem dec_facts:∀(k n:Nat),n<10 ^ (k+1)→(∀c∈Lib.decDigits n,digB c.toNat=true)∧numv (Lib.decDigits n)=n∧(n≠0→((Lib.decDigits n).getD 0 0).toNat≠48)∧Lib.decDigits n≠[]:=by
 intro k
 induction k with
 | zero=>
  intro n h
  have h10:n<10:=by simpa using h
  rw[Lib.decDigits,dif_pos h10]
  have hv:(UInt8.ofNat (48+n)).toNat=48+n:=by simp;omega
  refine⟨fun c hc=>?_,?_,fun h0=>?_,by simp⟩
  ·rw[List.mem_singleton] at hc;subst hc;rw[hv];unfold digB;simp;omega
  ·unfold numv;simp only[List.foldl_cons,List.foldl_nil,hv];omega
  ·simp only[List.getD_cons_zero,hv];omega
 | succ k ih=>
  intro n h
  by_cases h10:n<10
  ·have hk:n<10 ^ (k+1):=Nat.lt_of_lt_of_le h10 (by
    have:10 ^ 1≤10 ^ (k+1):=Nat.pow_le_pow_right (by decide) (by omega)
    simpa using this)
   exact ih n hk
  ·rw[Lib.decDigits,dif_neg h10]
   obtain⟨i1,i2,i3,i4⟩:=ih (n/10) (by rw[Nat.div_lt_iff_lt_mul (by omega)];rw[Nat.pow_succ] at h;exact h)
   have hv:(UInt8.ofNat (48+n%10)).toNat=48+n%10:=by simp;omega
   refine⟨fun c hc=>?_,?_,fun _=>?_,by simp⟩
   ·rcases List.mem_append.1 hc with hc | hc
    ·exact i1 c hc
    ·rw[List.mem_singleton] at hc;subst hc;rw[hv];unfold digB;simp;omega
   ·rw[numv_snoc',i2,hv];omega
   ·have:(Lib.decDigits (n/10)++[UInt8.ofNat (48+n%10)]).getD 0 0=(Lib.decDigits (n/10)).getD 0 0:=by
     cases hd:Lib.decDigits (n/10) with
     | nil=>exact absurd hd i4
     | cons c l=>rfl
    rw[this]
    exact i3 (by omega)
def lineT:List UInt8→List Tk→List UInt8
 | _,[]=>[]
 | l,x::ts=>(if spB l x.2.1 then [32] else [])++(x.2.1++lineT x.2.1 ts)
theorem putW_mono:∀(ws:List (List UInt8)) (st:List UInt8×List UInt8),st.1.length≤(putW st ws).1.length
 | [],st=>Nat.le_refl _
 | w::ws,st=>by
  rw[putW]
  split
  ·exact Nat.le_refl _
  ·refine Nat.le_trans ?_ (putW_mono ws _)
   simp only[List.length_append];omega
theorem putW_line:∀(ts:List Tk) (st:List UInt8×List UInt8),(putW st (txs ts)).1.length≤65536→(putW st (txs ts)).1=st.1++lineT st.2 ts
 | [],st,_=>by show st.1=st.1++[];rw[List.append_nil]
 | x::ts,st,h=>by
  have hm:=putW_mono (txs (x::ts)) st
  have hn:¬ 65536<st.1.length:=by omega
  have e:putW st (txs (x::ts))=putW (st.1++(if spB st.2 x.2.1 then [32] else [])++x.2.1,x.2.1) (txs ts):=by
   show putW st (x.2.1::txs ts)=_
   rw[putW,if_neg hn]
  rw[e] at h ⊢
  rw[putW_line ts _ h,lineT]
  simp only[List.append_assoc]
def lineS (s:List Tk):List UInt8:=lineT [] (s++[sgT [59]])++[10]
theorem fin_line (s:List Tk) (t:List UInt8) (h:(finW (putW (t,[]) (txs s))).1.length≤65536):finW (putW (t,[]) (txs s))=(t++lineS s,[]):=by
 unfold finW at h ⊢
 have e:putW (putW (t,[]) (txs s)) [[59]]=putW (t,[]) (txs (s++[sgT [59]])):=by rw[txs_app,putW_app];rfl
 rw[e] at h ⊢
 rw[List.length_append] at h
 rw[putW_line _ _ (by omega)]
 unfold lineS
 rw[List.append_assoc]
theorem wrS_mono:∀(ss:List (List Tk)) (st:List UInt8×List UInt8),st.1.length≤(wrS ss st).1.length
 | [],st=>Nat.le_refl _
 | s::ss,st=>by
  rw[wrS_cons]
  refine Nat.le_trans ?_ (wrS_mono ss _)
  unfold finW
  rw[List.length_append]
  have h1:=putW_mono (txs s) st
  have h2:=putW_mono [[59]] (putW st (txs s))
  omega
theorem wrS_text:∀(ss:List (List Tk)) (t:List UInt8),(wrS ss (t,[])).1.length≤65536→(wrS ss (t,[])).1=t++ss.flatMap lineS
 | [],t,_=>by show t=t++[];rw[List.append_nil]
 | s::ss,t,h=>by
  rw[wrS_cons] at h ⊢
  have hm:=wrS_mono ss (finW (putW (t,[]) (txs s)))
  have e:=fin_line s t (by omega)
  rw[e] at h ⊢
  rw[wrS_text ss _ h,List.flatMap_cons,List.append_assoc]
def AllOK (ts:List Tk):Prop:=∀x∈ts,TokOK x
theorem AllOK.nil:AllOK []:=fun x h=>by cases h
theorem AllOK.cons {x:Tk} {ts:List Tk} (h:TokOK x) (t:AllOK ts):AllOK (x::ts):=fun y hy=>by
 rcases List.mem_cons.1 hy with rfl | hy
 ·exact h
 ·exact t y hy
theorem AllOK.app {a b:List Tk} (h:AllOK a) (t:AllOK b):AllOK (a++b):=fun y hy=>by
 rcases List.mem_append.1 hy with hy | hy
 ·exact h y hy
 ·exact t y hy
end Go.Proofs.YtcpakcffiopfjaaGreatDoor
