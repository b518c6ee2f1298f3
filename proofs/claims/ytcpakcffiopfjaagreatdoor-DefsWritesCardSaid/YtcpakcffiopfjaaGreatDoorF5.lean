/- The writer: a definition. Print: a definition's text, for every definition. What must come of fixed calls. -/
import Derived.Test.YtcpakcffiopfjaaGreatDoorF4
import Derived.Test.YtcpakcffiopfjaaGreatDoorA1
import Derived.Lib.BufferRead
namespace Go.Proofs.YtcpakcffiopfjaaGreatDoor
open Go.RowKit
set_option linter.unusedVariables false
set_option linter.unusedSimpArgs false
set_option maxRecDepth 100000
set_option maxHeartbeats 16000000
set_option linter.unusedVariables false
set_option linter.unusedSimpArgs false
set_option maxRecDepth 100000
set_option maxHeartbeats 16000000
def wrS (ss:List (List Tk)) (st:List UInt8×List UInt8):List UInt8×List UInt8:=ss.foldl (fun st s=>finW (putW st (txs s))) st
theorem wrS_app (a b:List (List Tk)) (st:List UInt8×List UInt8):wrS (a++b) st=wrS b (wrS a st):=List.foldl_append
theorem wrS_cons (s:List Tk) (b:List (List Tk)) (st:List UInt8×List UInt8):wrS (s::b) st=wrS b (finW (putW st (txs s))):=rfl
theorem nmd_start (st:List UInt8×List UInt8) (s:ByteArray):nmdW st [115,116,97,114,116] s=wrS (startK s) st:=by
 unfold nmdW startK
 split<;>rfl
theorem nmd_layout (st:List UInt8×List UInt8) (s:ByteArray):nmdW st [108,97,121,111,117,116] s=wrS (layoutK s) st:=by
 unfold nmdW layoutK
 split<;>rfl
theorem nmdW_len (st:List UInt8×List UInt8) (k:List UInt8) (s:ByteArray) (hk:k.length≤4000) (hs:s.size≤4000):(nmdW st k s).1.length≤max st.1.length 69537+1:=by
 unfold nmdW
 split
 ·omega
 ·have h1:=finW_len (putW st [k,s.data.toList])
  have h2:=putW_len [k,s.data.toList] st (fun u hu=>by
   simp only[List.mem_cons,List.not_mem_nil,or_false] at hu
   rcases hu with rfl | rfl
   ·exact hk
   ·rw[list_len];exact hs)
  omega
theorem fin_len {st:List UInt8×List UInt8} {ws:List (List UInt8)} {b:Nat} (h:st.1.length≤b) (hw:∀s∈ws,s.length≤4000) (hb:69537≤b):(finW (putW st ws)).1.length≤b+1:=by
 have h1:=finW_len (putW st ws)
 have h2:=putW_len ws st hw
 omega
theorem cons_small' {a:List UInt8} {l:List (List UInt8)} (h:a.length≤4000) (hl:∀s∈l,s.length≤4000):∀s∈a::l,s.length≤4000:=fun s hs=>by
 rcases List.mem_cons.1 hs with rfl | hs
 ·exact h
 ·exact hl s hs
theorem app_small {a b:List (List UInt8)} (h:∀s∈a,s.length≤4000) (hl:∀s∈b,s.length≤4000):∀s∈a++b,s.length≤4000:=fun s hs=>by
 rcases List.mem_append.1 hs with hs | hs
 ·exact h s hs
 ·exact hl s hs
theorem nil_small:∀s∈([]:List (List UInt8)),s.length≤4000:=fun s hs=>by cases hs
theorem ba_small {s:ByteArray} (h:s.size≤32):s.data.toList.length≤4000:=by rw[list_len];omega
theorem txs_cons (t:Tk) (l:List Tk):txs (t::l)=t.2.1::txs l:=rfl
theorem flat_small {α:Type} {f:α→List Tk} {l:List α} (h:∀x∈l,∀s∈txs (f x),s.length≤4000):∀s∈txs (l.flatMap f),s.length≤4000:=by
 induction l with
 | nil=>exact nil_small
 | cons x l ih=>rw[List.flatMap_cons,txs_app];exact app_small (h x (by simp)) (ih (fun y hy=>h y (by simp[hy])))
theorem prodK_small {p:Pr} (h:prodB p=true):∀s∈txs (prodK p),s.length≤4000:=by
 unfold prodB at h
 simp only[Bool.and_eq_true,List.all_eq_true] at h
 obtain⟨⟨⟨⟨h1,h2⟩,_⟩,_⟩,h3⟩:=h
 unfold prodK
 rw[txs_cons,txs_cons,txs_app,txs_cons,txs_app]
 refine cons_small' (by cases p.lex<;>decide) (cons_small' (ba_small (nm_size h1)) (app_small ?_ (cons_small' (by decide) (app_small (flat_small (fun x hx=>symK_small (h3 x hx))) ?_))))
 ·unfold consK
  split
  ·exact nil_small
  ·exact cons_small' (by decide) (cons_small' (ba_small (nmN_size h2)) nil_small)
 ·split
  ·exact cons_small' (by decide) nil_small
  ·exact nil_small
theorem groupK_small {g:Gr} (h:groupB g=true):∀s∈txs (groupK g),s.length≤4000:=by
 unfold groupB at h
 simp only[Bool.and_eq_true,List.all_eq_true] at h
 unfold groupK
 rw[txs_app]
 refine app_small ?_ ?_
 ·unfold assocK
  split
  ·exact cons_small' (by decide) nil_small
  ·split
   ·exact cons_small' (by decide) nil_small
   ·split
    ·exact cons_small' (by decide) nil_small
    ·exact nil_small
 ·intro s hs
  unfold txs at hs
  rw[List.map_map] at hs
  obtain⟨y,hy,rfl⟩:=List.mem_map.1 hs
  exact ba_small (nm_size (h.2 y hy))
theorem chainK_small:∀(l:List Gr),(∀g∈l,groupB g=true)→∀s∈txs (chainK l),s.length≤4000
 | [],_=>nil_small
 | [g],h=>by rw[chainK];exact groupK_small (h g (by simp))
 | g::g2::l,h=>by
  rw[chainK,txs_app,txs_cons]
  exact app_small (groupK_small (h g (by simp))) (cons_small' (by decide) (chainK_small (g2::l) (fun x hx=>h x (List.mem_cons_of_mem _ hx))))
theorem prioK_small {c:List Gr} (h:chainB c=true):∀s∈txs (prioK c),s.length≤4000:=by
 unfold chainB at h
 simp only[Bool.and_eq_true,List.all_eq_true] at h
 unfold prioK
 rw[txs_cons]
 exact cons_small' (by decide) (chainK_small c h.2)
mutual
theorem itemK_small:∀(x:It) (c:Nat),(itR c x).2=true→∀s∈txs (itemK x),s.length≤4000
 | .mk k t n its,c,h=>by
  rw[itR] at h
  split at h
  ·rename_i hc
   have hib:(if k=1 then decide (t.size≤32)&&n==0&&!decide (0<its.length) else if k=2 then em t&&numB n&&!decide (0<its.length) else if k=3 then em t&&n==0&&!decide (0<its.length) else if k=4 then em t&&n==0&&!decide (0<its.length) else if k=5 then em t&&numB n else if k=6 then em t&&n==0 else false)=true:=hc.2
   have ih:=itemsK_small its (c+1) h
   have hw:∀s∈txs (itemsK its++[sgT [41]]),s.length≤4000:=by
    rw[txs_app];exact app_small ih (cons_small' (by decide) nil_small)
   have hdec:numB n=true→(Lib.decDigits n.toNat).length≤4000:=fun hn=>by have:=dec_size hn;rw[strB_size] at this;exact this
   rw[itemK]
   split
   ·rename_i k1
    rw[if_pos k1] at hib
    simp only[Bool.and_eq_true,decide_eq_true_eq] at hib
    exact cons_small' (by have:=quo_size hib.1.1;rw[strB_size] at this;exact this) nil_small
   rename_i k1
   rw[if_neg k1] at hib
   split
   ·rename_i k2
    rw[if_pos k2] at hib
    simp only[Bool.and_eq_true] at hib
    exact cons_small' (hdec hib.1.2) nil_small
   rename_i k2
   rw[if_neg k2] at hib
   split
   ·exact cons_small' (by decide) nil_small
   rename_i k3
   rw[if_neg k3] at hib
   split
   ·exact cons_small' (by decide) nil_small
   rename_i k4
   rw[if_neg k4] at hib
   split
   ·rename_i k5
    rw[if_pos k5] at hib
    simp only[Bool.and_eq_true] at hib
    exact cons_small' (by decide) (cons_small' (hdec hib.2) (cons_small' (by decide) hw))
   split
   ·exact cons_small' (by decide) (cons_small' (by decide) hw)
   ·exact nil_small
  ·cases h
theorem itemsK_small:∀(l:List It) (c:Nat),(itsR c l).2=true→∀s∈txs (itemsK l),s.length≤4000
 | [],c,_=>nil_small
 | x::l,c,h=>by
  rw[itsR] at h
  split at h
  ·rename_i hq
   rw[itemsK,txs_app]
   exact app_small (itemK_small x c hq) (itemsK_small l _ h)
  ·cases h
end
theorem wdef_any (B f:Nat) (d:Df) (t l:List UInt8) (v2 v3 v4 v5 v6:Value) (w:World) (hW:Wr w B t l) (hd:RightD d) (h2:Sl w B 5 (PrV w B) d.prods v2) (h3:Sl w B 1 (ChV w B) d.chains v3) (h4:Sl w B 5 FoV d.follows v4) (h5:Sl w B 2 ReV d.rejects v5) (h6:Sl w B 2 (BoV w B f) d.boxes v6) (hTab:Tab B w) (hl3:d.chains.length≤100000) (hl4:d.follows.length≤100000) (hl5:d.rejects.length≤100000) (hl6:d.boxes.length≤100000) (ht:t.length≤69537) :
  Calls Tryz.prog 26 #[.pointer (some ⟨B,0,none⟩),.agg #[.string d.start,.string d.layout,v2,v3,v4,v5,v6]] w (fun e w'=>WP B w (wrS (stmtsK d) (t,l)) e w'∧(wrS (stmtsK d) (t,l)).1.length≤600000):=by
 have HD:Hid (RightD d):=hd
 have HTB:Hid (Tab B w):=hTab
 obtain⟨p2,q2,rfl,hc2,hm2,hr2⟩:=h2
 have HR2:=hHi hr2
 obtain⟨n2,hn2⟩:∃n,d.prods.length=n:=⟨_,rfl⟩
 have HNN2:Hid (d.prods.length=n2):=hn2
 have HNB2:Hid (n2≤200):=by rw[←hn2];exact hd.n
 rw[hn2] at hc2 hm2 ⊢
 clear hr2 hn2
 obtain⟨p3,q3,rfl,hc3,hm3,hr3⟩:=h3
 have HR3:=hHi hr3
 obtain⟨n3,hn3⟩:∃n,d.chains.length=n:=⟨_,rfl⟩
 have HNN3:Hid (d.chains.length=n3):=hn3
 have HNB3:Hid (n3≤100000):=by rw[←hn3];exact hl3
 rw[hn3] at hc3 hm3 ⊢
 clear hr3 hn3
 obtain⟨p4,q4,rfl,hc4,hm4,hr4⟩:=h4
 have HR4:=hHi hr4
 obtain⟨n4,hn4⟩:∃n,d.follows.length=n:=⟨_,rfl⟩
 have HNN4:Hid (d.follows.length=n4):=hn4
 have HNB4:Hid (n4≤100000):=by rw[←hn4];exact hl4
 rw[hn4] at hc4 hm4 ⊢
 clear hr4 hn4
 obtain⟨p5,q5,rfl,hc5,hm5,hr5⟩:=h5
 have HR5:=hHi hr5
 obtain⟨n5,hn5⟩:∃n,d.rejects.length=n:=⟨_,rfl⟩
 have HNN5:Hid (d.rejects.length=n5):=hn5
 have HNB5:Hid (n5≤100000):=by rw[←hn5];exact hl5
 rw[hn5] at hc5 hm5 ⊢
 clear hr5 hn5
 obtain⟨p6,q6,rfl,hc6,hm6,hr6⟩:=h6
 have HR6:=hHi hr6
 obtain⟨n6,hn6⟩:∃n,d.boxes.length=n:=⟨_,rfl⟩
 have HNN6:Hid (d.boxes.length=n6):=hn6
 have HNB6:Hid (n6≤100000):=by rw[←hn6];exact hl6
 rw[hn6] at hc6 hm6 ⊢
 clear hr6 hn6
 clear hd hTab hl3 hl4 hl5 hl6
 have HW0:Hid (Wr w B t l):=hW
 have HF0:Hid (FrW w w B):=FrW.refl _ _
 have HL0:Hid (t.length≤69537):=ht
 have HBS:Hid (B<w.heap.size):=hW.lt
 clear hW ht
 have HLE2:Hid (∀k x,d.prods[k]?=some x→∃b o ga gc,p2=some ⟨b,o,none⟩∧x.syms.length≤gc∧x.syms.length≤140737488355328∧∀W,FrW w W B→W.cell? ⟨b,o+k*5,none⟩=some (.bool x.lex)∧W.cell? ⟨b,o+k*5+1,none⟩=some (.string x.sort)∧W.cell? ⟨b,o+k*5+2,none⟩=some (.string x.cons)∧W.cell? ⟨b,o+k*5+3,none⟩=some (.bool x.bracket)∧W.cell? ⟨b,o+k*5+4,none⟩=some (.slice ga x.syms.length gc)∧Sl W B 8 SyV x.syms (.slice ga x.syms.length gc)):=fun k x hx=>by
  obtain⟨b,o,us,hab,hblt,⟨v2,rfl,hv2⟩,hc⟩:=HR2.out k x hx
  have hkp:∀W,FrW w W B→Sl W B 8 SyV x.syms v2:=fun W hf=>hv2.keep (hf.below (Nat.le_of_lt HBS.out)) (Nat.le_refl _) (fun _ _ _ h=>h)
  obtain⟨ga,gc,e,h1,h2,_⟩:=hv2
  subst e
  exact⟨b,o,ga,gc,hab,h1,h2,fun W hf=>⟨((hf.below (Nat.le_of_lt HBS.out)).cell (p:=⟨b,o+k*5+0,none⟩) hblt).trans (hc 0 _ rfl),((hf.below (Nat.le_of_lt HBS.out)).cell (p:=⟨b,o+k*5+1,none⟩) hblt).trans (hc 1 _ rfl),((hf.below (Nat.le_of_lt HBS.out)).cell (p:=⟨b,o+k*5+2,none⟩) hblt).trans (hc 2 _ rfl),((hf.below (Nat.le_of_lt HBS.out)).cell (p:=⟨b,o+k*5+3,none⟩) hblt).trans (hc 3 _ rfl),((hf.below (Nat.le_of_lt HBS.out)).cell (p:=⟨b,o+k*5+4,none⟩) hblt).trans (hc 4 _ rfl),hkp W hf⟩⟩
 clear HR2
 have HLE3:Hid (∀k x,d.chains[k]?=some x→∃b o ga gc,p3=some ⟨b,o,none⟩∧x.length≤gc∧x.length≤140737488355328∧∀W,FrW w W B→W.cell? ⟨b,o+k,none⟩=some (.slice ga x.length gc)∧Sl W B 2 (GrV W B) x (.slice ga x.length gc)):=fun k x hx=>by
  obtain⟨b,o,us,hab,hblt,⟨v2,rfl,hv2⟩,hc⟩:=HR3.out k x hx
  have hkp:∀W,FrW w W B→Sl W B 2 (GrV W B) x v2:=fun W hf=>hv2.keep (hf.below (Nat.le_of_lt HBS.out)) (Nat.le_refl _) (fun _ _ _ h=>h.keep (hf.below (Nat.le_of_lt HBS.out)) (Nat.le_refl _))
  obtain⟨ga,gc,e,h1,h2,_⟩:=hv2
  subst e
  exact⟨b,o,ga,gc,hab,h1,h2,fun W hf=>⟨by have:=((hf.below (Nat.le_of_lt HBS.out)).cell (p:=⟨b,o+k*1+0,none⟩) hblt).trans (hc 0 _ rfl);simpa using this,hkp W hf⟩⟩
 clear HR3
 have HLE4:Hid (∀k x,d.follows[k]?=some x→∃b o,p4=some ⟨b,o,none⟩∧x.set.ok∧∀W,FrW w W B→W.cell? ⟨b,o+k*5,none⟩=some (.string x.sort)∧W.cell? ⟨b,o+k*5+1,none⟩=some (.int .u64 x.set.a)∧W.cell? ⟨b,o+k*5+2,none⟩=some (.int .u64 x.set.b)∧W.cell? ⟨b,o+k*5+3,none⟩=some (.int .u64 x.set.c)∧W.cell? ⟨b,o+k*5+4,none⟩=some (.int .u64 x.set.d)):=fun k x hx=>by
  obtain⟨b,o,us,hab,hblt,⟨hok,rfl⟩,hc⟩:=HR4.out k x hx
  exact⟨b,o,hab,hok,fun W hf=>⟨((hf.below (Nat.le_of_lt HBS.out)).cell (p:=⟨b,o+k*5+0,none⟩) hblt).trans (hc 0 _ rfl),((hf.below (Nat.le_of_lt HBS.out)).cell (p:=⟨b,o+k*5+1,none⟩) hblt).trans (hc 1 _ rfl),((hf.below (Nat.le_of_lt HBS.out)).cell (p:=⟨b,o+k*5+2,none⟩) hblt).trans (hc 2 _ rfl),((hf.below (Nat.le_of_lt HBS.out)).cell (p:=⟨b,o+k*5+3,none⟩) hblt).trans (hc 3 _ rfl),((hf.below (Nat.le_of_lt HBS.out)).cell (p:=⟨b,o+k*5+4,none⟩) hblt).trans (hc 4 _ rfl)⟩⟩
 clear HR4
 have HLE5:Hid (∀k x,d.rejects[k]?=some x→∃b o,p5=some ⟨b,o,none⟩∧∀W,FrW w W B→W.cell? ⟨b,o+k*2,none⟩=some (.string x.sort)∧W.cell? ⟨b,o+k*2+1,none⟩=some (.string x.by')):=fun k x hx=>by
  obtain⟨b,o,us,hab,hblt,rfl,hc⟩:=HR5.out k x hx
  exact⟨b,o,hab,fun W hf=>⟨((hf.below (Nat.le_of_lt HBS.out)).cell (p:=⟨b,o+k*2+0,none⟩) hblt).trans (hc 0 _ rfl),((hf.below (Nat.le_of_lt HBS.out)).cell (p:=⟨b,o+k*2+1,none⟩) hblt).trans (hc 1 _ rfl)⟩⟩
 clear HR5
 have HLE6:Hid (∀k x,d.boxes[k]?=some x→∃b o ga gc,p6=some ⟨b,o,none⟩∧x.items.length≤gc∧x.items.length≤140737488355328∧∀W,FrW w W B→W.cell? ⟨b,o+k*2,none⟩=some (.string x.cons)∧W.cell? ⟨b,o+k*2+1,none⟩=some (.slice ga x.items.length gc)∧Sl W B 4 (ItV W B f) x.items (.slice ga x.items.length gc)):=fun k x hx=>by
  obtain⟨b,o,us,hab,hblt,⟨v2,rfl,hv2⟩,hc⟩:=HR6.out k x hx
  have hkp:∀W,FrW w W B→Sl W B 4 (ItV W B f) x.items v2:=fun W hf=>sl_keep hv2 hf (Nat.le_of_lt HBS.out)
  obtain⟨ga,gc,e,h1,h2,_⟩:=hv2
  subst e
  exact⟨b,o,ga,gc,hab,h1,h2,fun W hf=>⟨((hf.below (Nat.le_of_lt HBS.out)).cell (p:=⟨b,o+k*2+0,none⟩) hblt).trans (hc 0 _ rfl),((hf.below (Nat.le_of_lt HBS.out)).cell (p:=⟨b,o+k*2+1,none⟩) hblt).trans (hc 1 _ rfl),hkp W hf⟩⟩
 clear HR6
 obtain⟨a1,ha1⟩:∃qW,w.alloc (.cells #[.string d.start,.string d.layout,.slice p2 n2 q2,.slice p3 n3 q3,.slice p4 n4 q4,.slice p5 n5 q5,.slice p6 n6 q6] 28)=qW:=⟨_,rfl⟩
 have HN1:=kB ha1
 have HXd:=kN ha1
 have HNEd:Hid (w.heap.size≠B):=by have:=HW0.out.lt;show _≠_;omega
 have HW1:=hHi (HW0.out.below HN1.out)
 have HF1:=hHi (HF0.out.tr (FrW.bel HN1.out))
 obtain⟨cd0_2,cd1_2,cd2_2,cd3_2,cd4_2,cd5_2,cd6_2⟩:=HXd.out.c7
 go_enter Tryz.func26,Tryz.ntmps26
 have HP3:=hU (named_any B t l ⟨#[115,116,97,114,116]⟩ d.start a1 HW1.out (by have:=HL0.out;omega) (by decide) (by have:=nmN_size HD.out.s;omega))
 go_wp2_with fail
 refine hMo HP3 ?_
 rintro e a3 ⟨rfl,hw,hf⟩
 obtain⟨s3,HS3,HL3,HW3,HN3,HF3⟩:=wnx9 HF1 (S:=nmdW (t,l) [115,116,97,114,116] d.start) (n:=69538) hw hf (Nat.le_trans (nmdW_len _ _ _ (by decide) (by have:=nmN_size HD.out.s;omega)) (by have:=HL0.out;simp only;omega))
 clear hw hf
 have HXd_3:=kF HN3 HXd HNEd
 obtain⟨cd0_4,cd1_4,cd2_4,cd3_4,cd4_4,cd5_4,cd6_4⟩:=HXd_3.out.c7
 have HP5:=hU (named_any B s3.1 s3.2 ⟨#[108,97,121,111,117,116]⟩ d.layout a3 HW3.out (by have:=HL3.out;omega) (by decide) (by have:=nmN_size HD.out.l;omega))
 go_wp2_with fail
 refine hMo HP5 ?_
 rintro e a5 ⟨rfl,hw,hf⟩
 obtain⟨s5,HS5,HL5,HW5,HN5,HF5⟩:=wnx9 HF3 (S:=nmdW s3 [108,97,121,111,117,116] d.layout) (n:=69540) hw hf (Nat.le_trans (nmdW_len _ _ _ (by decide) (by have:=nmN_size HD.out.l;omega)) (by have:=HL3.out;omega))
 clear hw hf
 have HXd_5:=kF HN5 HXd_3 HNEd
 have HG2:Hid (wrS (stmtsK d) (t,l)=wrS (d.prods.map prodK++(d.chains.map prioK++(d.follows.map followK++(d.rejects.map rejectK++d.boxes.map boxK)))) s5):=by
  show _=_
  unfold stmtsK
  rw[List.append_assoc,List.append_assoc,List.append_assoc,List.append_assoc,List.append_assoc,wrS_app,wrS_app,←nmd_start,HS3.out,←nmd_layout,HS5.out]
 obtain⟨cd0_6,cd1_6,cd2_6,cd3_6,cd4_6,cd5_6,cd6_6⟩:=HXd_5.out.c7
 go_wp2
 go_loopw[25] (fun iv W=>∃(k:Nat) (st:List UInt8×List UInt8),k≤n2∧iv=.int .i64 k∧wrS (stmtsK d) (t,l)=wrS ((d.prods.drop k).map prodK++(d.chains.map prioK++(d.follows.map followK++(d.rejects.map rejectK++d.boxes.map boxK)))) st∧Wr W B st.1 st.2∧FrW w W B∧Blk W w.heap.size 28 #[.string d.start,.string d.layout,.slice p2 n2 q2,.slice p3 n3 q3,.slice p4 n4 q4,.slice p5 n5 q5,.slice p6 n6 q6]∧st.1.length≤69540+k) (fun iv _=>n2-(intOf iv).toNat)
 case atStart=>exact⟨0,s5,Nat.zero_le _,rfl,HG2.out,HW5.out,HF5.out,HXd_5.out,HL5.out⟩
 case round=>
  obtain⟨k,st,hk,rfl,he,hwr,hfr,hbd,hlen⟩:=hrel
  have HE:Hid (wrS (stmtsK d) (t,l)=wrS ((d.prods.drop k).map prodK++(d.chains.map prioK++(d.follows.map followK++(d.rejects.map rejectK++d.boxes.map boxK)))) st):=he
  have HW250:Hid (Wr wr B st.1 st.2):=hwr
  have HF250:Hid (FrW w wr B):=hfr
  have HL250:Hid (st.1.length≤69540+k):=hlen
  have HXd_250:Hid (Blk wr w.heap.size 28 #[.string d.start,.string d.layout,.slice p2 n2 q2,.slice p3 n3 q3,.slice p4 n4 q4,.slice p5 n5 q5,.slice p6 n6 q6]):=hbd
  have HNBx:Hid (k≤200):=by have:=HNB2.out;show _≤_;omega
  clear he hwr hfr hbd hlen
  by_cases hlt:k<n2
  case pos=>
   obtain⟨x,hx⟩:∃x,d.prods[k]?=some x:=⟨d.prods[k]'(by rw[HNN2.out];exact hlt),by simp⟩
   have HXX:=hHi hx
   have HMEM:Hid (x∈d.prods):=List.mem_of_getElem? hx
   obtain⟨b,o,ga,gc,hab,hg1,hg2,hall⟩:=HLE2.out k x hx
   subst hab
   have HALL:=hHi hall
   obtain⟨e0,e1,e2,e3,e4,_⟩:=hall wr HF250.out
   have hltI:(k:Int)<n2:=by omega
   have HSTP:Hid (((d.prods.drop k).map prodK++(d.chains.map prioK++(d.follows.map followK++(d.rejects.map rejectK++d.boxes.map boxK))))=prodK x::((d.prods.drop (k+1)).map prodK++(d.chains.map prioK++(d.follows.map followK++(d.rejects.map rejectK++d.boxes.map boxK))))):=by
    show _=_
    have:=List.getElem?_eq_some_iff.1 hx
    rw[List.drop_eq_getElem_cons this.1,this.2];rfl
   clear hx hall
   obtain⟨a127,ha127⟩:∃qW,wr.alloc (.cells #[.bool x.lex,.string x.sort,.string x.cons,.bool x.bracket,.slice ga x.syms.length gc] 57)=qW:=⟨_,rfl⟩
   have HN127:=kB ha127
   have HXe:=kN ha127
   have HNEe:Hid (wr.heap.size≠B):=by have:=HW250.out.lt;show _≠_;omega
   have HW127:=hHi (HW250.out.below HN127.out)
   have HF127:=hHi (HF250.out.tr (FrW.bel HN127.out))
   have HXd_127:=kA HXd_250 HN127
   obtain⟨ce0_128,ce1_128,ce2_128,ce3_128,ce4_128⟩:=HXe.out.c5
   have HP129:=hU (wprod_any B st.1 st.2 x (.slice ga x.syms.length gc) a127 HW127.out (HD.out.p x HMEM.out) (HALL.out a127 HF127.out).2.2.2.2.2 (by have:=HL250.out;have:=HNBx.out;omega))
   go_wp2_with fail
   refine hMo HP129 ?_
   rintro e a129 ⟨rfl,hw,hf⟩
   replace hw:Wr a129 B (finW (putW st (txs (prodK x)))).1 (finW (putW st (txs (prodK x)))).2:=hw
   obtain⟨s129,hs129⟩:∃q,finW (putW st (txs (prodK x)))=q:=⟨_,rfl⟩
   rw[hs129] at hw
   have HS129:Hid (finW (putW st (txs (prodK x)))=s129):=hs129
   have HL129:Hid (s129.1.length≤69540+(k+1)):=by rw[←hs129];exact Nat.le_trans (fin_len (b:=69540+k) HL250.out (prodK_small (HD.out.p x HMEM.out)) (by omega)) (by omega)
   clear hs129
   have HW129:=hHi hw
   have HN129:=hHi hf
   have HF129:=hHi (HF127.out.tr hf)
   clear hw hf
   have HXd_129:=kF HN129 HXd_127 HNEd
   clear e0 e1 e2 e3 e4
   go_wp2
   go_roundw
   case rel=>exact⟨k+1,s129,by omega,by go_num,by rw[HE.out,HSTP.out,wrS_cons,HS129.out],HW129.out,HF129.out,HXd_129.out,HL129.out⟩
   case measure=>simp[intOf];omega
  obtain rfl:n2=k:=by omega
  have HG3:Hid (wrS (stmtsK d) (t,l)=wrS (d.chains.map prioK++(d.follows.map followK++(d.rejects.map rejectK++d.boxes.map boxK))) st):=by
   show _=_
   rw[HE.out,List.drop_eq_nil_of_le (by rw[HNN2.out];exact Nat.le_refl _)];rfl
  have HL251:Hid (st.1.length≤69740):=by have:=HL250.out;have:=HNBx.out;show _≤_;omega
  have hltI:¬(n2:Int)<(n2:Int):=by omega
  obtain⟨st2,hst2⟩:∃q,q=st:=⟨_,rfl⟩
  subst hst2
  obtain⟨cd0_107,cd1_107,cd2_107,cd3_107,cd4_107,cd5_107,cd6_107⟩:=HXd_250.out.c7
  go_wp2
  go_loopw[36] (fun iv W=>∃(k:Nat) (st:List UInt8×List UInt8),k≤n3∧iv=.int .i64 k∧wrS (stmtsK d) (t,l)=wrS ((d.chains.drop k).map prioK++(d.follows.map followK++(d.rejects.map rejectK++d.boxes.map boxK))) st∧Wr W B st.1 st.2∧FrW w W B∧Blk W w.heap.size 28 #[.string d.start,.string d.layout,.slice p2 n2 q2,.slice p3 n3 q3,.slice p4 n4 q4,.slice p5 n5 q5,.slice p6 n6 q6]∧st.1.length≤69740+k) (fun iv _=>n3-(intOf iv).toNat)
  case atStart=>exact⟨0,st2,Nat.zero_le _,rfl,HG3.out,HW250.out,HF250.out,HXd_250.out,HL251.out⟩
  case round=>
   obtain⟨k,st,hk,rfl,he,hwr,hfr,hbd,hlen⟩:=hrel
   have HE:Hid (wrS (stmtsK d) (t,l)=wrS ((d.chains.drop k).map prioK++(d.follows.map followK++(d.rejects.map rejectK++d.boxes.map boxK))) st):=he
   have HW350:Hid (Wr wr B st.1 st.2):=hwr
   have HF350:Hid (FrW w wr B):=hfr
   have HL350:Hid (st.1.length≤69740+k):=hlen
   have HXd_350:Hid (Blk wr w.heap.size 28 #[.string d.start,.string d.layout,.slice p2 n2 q2,.slice p3 n3 q3,.slice p4 n4 q4,.slice p5 n5 q5,.slice p6 n6 q6]):=hbd
   have HNBx:Hid (k≤100000):=by have:=HNB3.out;show _≤_;omega
   clear he hwr hfr hbd hlen
   by_cases hlt:k<n3
   case pos=>
    obtain⟨x,hx⟩:∃x,d.chains[k]?=some x:=⟨d.chains[k]'(by rw[HNN3.out];exact hlt),by simp⟩
    have HXX:=hHi hx
    have HMEM:Hid (x∈d.chains):=List.mem_of_getElem? hx
    obtain⟨b,o,ga,gc,hab,hg1,hg2,hall⟩:=HLE3.out k x hx
    subst hab
    have HALL:=hHi hall
    obtain⟨e0,_⟩:=hall wr HF350.out
    have hltI:(k:Int)<n3:=by omega
    have HSTP:Hid (((d.chains.drop k).map prioK++(d.follows.map followK++(d.rejects.map rejectK++d.boxes.map boxK)))=prioK x::((d.chains.drop (k+1)).map prioK++(d.follows.map followK++(d.rejects.map rejectK++d.boxes.map boxK)))):=by
     show _=_
     have:=List.getElem?_eq_some_iff.1 hx
     rw[List.drop_eq_getElem_cons this.1,this.2];rfl
    clear hx hall
    have HP228:=hU (wchain_any B st.1 st.2 x (.slice ga x.length gc) wr HW350.out (HD.out.c x HMEM.out) (HALL.out wr HF350.out).2 (by have:=HL350.out;have:=HNBx.out;omega))
    go_wp2_with fail
    refine hMo HP228 ?_
    rintro e a228 ⟨rfl,hw,hf⟩
    replace hw:Wr a228 B (finW (putW st (txs (prioK x)))).1 (finW (putW st (txs (prioK x)))).2:=hw
    obtain⟨s228,hs228⟩:∃q,finW (putW st (txs (prioK x)))=q:=⟨_,rfl⟩
    rw[hs228] at hw
    have HS228:Hid (finW (putW st (txs (prioK x)))=s228):=hs228
    have HL228:Hid (s228.1.length≤69740+(k+1)):=by rw[←hs228];exact Nat.le_trans (fin_len (b:=69740+k) HL350.out (prioK_small (HD.out.c x HMEM.out)) (by omega)) (by omega)
    clear hs228
    have HW228:=hHi hw
    have HN228:=hHi hf
    have HF228:=hHi (HF350.out.tr hf)
    clear hw hf
    have HXd_228:=kF HN228 HXd_350 HNEd
    clear e0
    go_wp2
    go_roundw
    case rel=>exact⟨k+1,s228,by omega,by go_num,by rw[HE.out,HSTP.out,wrS_cons,HS228.out],HW228.out,HF228.out,HXd_228.out,HL228.out⟩
    case measure=>simp[intOf];omega
   obtain rfl:n3=k:=by omega
   have HG4:Hid (wrS (stmtsK d) (t,l)=wrS (d.follows.map followK++(d.rejects.map rejectK++d.boxes.map boxK)) st):=by
    show _=_
    rw[HE.out,List.drop_eq_nil_of_le (by rw[HNN3.out];exact Nat.le_refl _)];rfl
   have HL351:Hid (st.1.length≤169740):=by have:=HL350.out;have:=HNBx.out;show _≤_;omega
   have hltI:¬(n3:Int)<(n3:Int):=by omega
   obtain⟨st3,hst3⟩:∃q,q=st:=⟨_,rfl⟩
   subst hst3
   obtain⟨cd0_208,cd1_208,cd2_208,cd3_208,cd4_208,cd5_208,cd6_208⟩:=HXd_350.out.c7
   go_wp2
   go_loopw[47] (fun iv W=>∃(k:Nat) (st:List UInt8×List UInt8),k≤n4∧iv=.int .i64 k∧wrS (stmtsK d) (t,l)=wrS ((d.follows.drop k).map followK++(d.rejects.map rejectK++d.boxes.map boxK)) st∧Wr W B st.1 st.2∧FrW w W B∧Blk W w.heap.size 28 #[.string d.start,.string d.layout,.slice p2 n2 q2,.slice p3 n3 q3,.slice p4 n4 q4,.slice p5 n5 q5,.slice p6 n6 q6]∧st.1.length≤169740+k) (fun iv _=>n4-(intOf iv).toNat)
   case atStart=>exact⟨0,st3,Nat.zero_le _,rfl,HG4.out,HW350.out,HF350.out,HXd_350.out,HL351.out⟩
   case round=>
    obtain⟨k,st,hk,rfl,he,hwr,hfr,hbd,hlen⟩:=hrel
    have HE:Hid (wrS (stmtsK d) (t,l)=wrS ((d.follows.drop k).map followK++(d.rejects.map rejectK++d.boxes.map boxK)) st):=he
    have HW450:Hid (Wr wr B st.1 st.2):=hwr
    have HF450:Hid (FrW w wr B):=hfr
    have HL450:Hid (st.1.length≤169740+k):=hlen
    have HXd_450:Hid (Blk wr w.heap.size 28 #[.string d.start,.string d.layout,.slice p2 n2 q2,.slice p3 n3 q3,.slice p4 n4 q4,.slice p5 n5 q5,.slice p6 n6 q6]):=hbd
    have HNBx:Hid (k≤100000):=by have:=HNB4.out;show _≤_;omega
    clear he hwr hfr hbd hlen
    by_cases hlt:k<n4
    case pos=>
     obtain⟨x,hx⟩:∃x,d.follows[k]?=some x:=⟨d.follows[k]'(by rw[HNN4.out];exact hlt),by simp⟩
     have HXX:=hHi hx
     have HMEM:Hid (x∈d.follows):=List.mem_of_getElem? hx
     obtain⟨b,o,hab,hok,hall⟩:=HLE4.out k x hx
     subst hab
     have HALL:=hHi hall
     obtain⟨e0,e1,e2,e3,e4⟩:=hall wr HF450.out
     have hltI:(k:Int)<n4:=by omega
     have HSTP:Hid (((d.follows.drop k).map followK++(d.rejects.map rejectK++d.boxes.map boxK))=followK x::((d.follows.drop (k+1)).map followK++(d.rejects.map rejectK++d.boxes.map boxK))):=by
      show _=_
      have:=List.getElem?_eq_some_iff.1 hx
      rw[List.drop_eq_getElem_cons this.1,this.2];rfl
     clear hx hall
     have HOK:Hid (x.set.ok):=hok
     clear hok
     obtain⟨a329,ha329⟩:∃qW,wr.alloc (.cells #[.string x.sort,.int .u64 x.set.a,.int .u64 x.set.b,.int .u64 x.set.c,.int .u64 x.set.d] 52)=qW:=⟨_,rfl⟩
     have HN329:=kB ha329
     have HXe:=kN ha329
     have HNEe:Hid (wr.heap.size≠B):=by have:=HW450.out.lt;show _≠_;omega
     have HW329:=hHi (HW450.out.below HN329.out)
     have HF329:=hHi (HF450.out.tr (FrW.bel HN329.out))
     have HXd_329:=kA HXd_450 HN329
     obtain⟨ce0_330,ce1_330,ce2_330,ce3_330,ce4_330⟩:=HXe.out.c5
     have HXed:Hid (Blk a329.drew wr.heap.size 52 #[.string x.sort,.int .u64 x.set.a,.int .u64 x.set.b,.int .u64 x.set.c,.int .u64 x.set.d]):=Blk.after HXe.out (below_dr _)
     have HXdd:Hid (Blk a329.drew w.heap.size 28 #[.string d.start,.string d.layout,.slice p2 n2 q2,.slice p3 n3 q3,.slice (some ⟨b,o,none⟩) n4 q4,.slice p5 n5 q5,.slice p6 n6 q6]):=Blk.after HXd_329.out (below_dr _)
     have HWd:Hid (Wr a329.drew B st.1 st.2):=HW329.out.below (below_dr _)
     have HFd:Hid (FrW w a329.drew B):=HF329.out.tr (FrW.bel (below_dr _))
     have HQ:Hid ((strB (printL x.set)).data.toList=printL x.set):=by show _=_;simp[strB]
     have HPC:=hU (print_any x.set HOK.out a329.drew)
     have HSZ:Hid (x.sort.size≤4000):=by have:=nm_size (HD.out.f x HMEM.out);show _≤_;omega
     go_wp2
     refine wp_region_held_drew (S:=fun W=>W.cell? ⟨wr.heap.size,0,none⟩=some (.string x.sort)∧W.cell? ⟨wr.heap.size,1,none⟩=some (.int .u64 x.set.a)∧W.cell? ⟨wr.heap.size,2,none⟩=some (.int .u64 x.set.b)∧W.cell? ⟨wr.heap.size,3,none⟩=some (.int .u64 x.set.c)∧W.cell? ⟨wr.heap.size,4,none⟩=some (.int .u64 x.set.d)) (by kernel_rfl) HXed.out.c5 (fun hHeld=>?_)
     refine tk 0 rfl (by assumption) ?_
     refine tk 1 rfl (by assumption) ?_
     refine tk 2 rfl (by assumption) ?_
     refine tk 3 rfl (by assumption) ?_
     refine tk 4 rfl (by assumption) ?_
     refine rd1 5 rfl (fun K hK=>?_)
     go_simp
     refine hMo HPC ?_
     rintro e w3 ⟨rfl,hb⟩
     have HX3:=kA HXed (hHi hb)
     have HXd3:=kA HXdd (hHi hb)
     have HW3:Hid (Wr w3 B st.1 st.2):=HWd.out.below hb
     have HF3:Hid (FrW w w3 B):=HFd.out.tr (FrW.bel hb)
     clear hb
     go_wp2_with fail
     refine hK.out _ _ HX3.out.c5 (fun hHeld=>?_)
     clear hK K
     refine rd1 6 rfl (fun K hK=>?_)
     have HX4:Hid (Blk (w3.alloc (.cells #[.string ⟨#[102,111,108,108,111,119]⟩,.string x.sort,.string (strB (printL x.set))] 9)) wr.heap.size 52 #[.string x.sort,.int .u64 x.set.a,.int .u64 x.set.b,.int .u64 x.set.c,.int .u64 x.set.d]):=Blk.alloc HX3.out _
     go_simp
     refine hK.out _ _ HX4.out.c5 (fun hHeld=>?_)
     clear hK K
     refine rd1 7 rfl (fun K hK=>?_)
     have HP9:=hU (wput3 ⟨#[102,111,108,108,111,119]⟩ x.sort (strB (printL x.set)) HW3.out (by have:=HL450.out;have:=HNBx.out;omega) (by decide) HSZ.out (prt_size x.set))
     go_simp
     refine hMo HP9 ?_
     rintro e w5 ⟨rfl,hw,hf⟩
     replace hw:Wr w5 B (putW st [[102,111,108,108,111,119],x.sort.data.toList,(strB (printL x.set)).data.toList]).1 (putW st [[102,111,108,108,111,119],x.sort.data.toList,(strB (printL x.set)).data.toList]).2:=hw
     have HX5:Hid (Blk w5 wr.heap.size 52 #[.string x.sort,.int .u64 x.set.a,.int .u64 x.set.b,.int .u64 x.set.c,.int .u64 x.set.d]):=FrW.blk (w:=w3) hf HX3.out HNEe.out (by decide)
     have HXd5:Hid (Blk w5 w.heap.size 28 #[.string d.start,.string d.layout,.slice p2 n2 q2,.slice p3 n3 q3,.slice (some ⟨b,o,none⟩) n4 q4,.slice p5 n5 q5,.slice p6 n6 q6]):=FrW.blk (w:=w3) hf HXd3.out HNEd.out (by decide)
     obtain⟨s9,hs9⟩:∃q,putW st [[102,111,108,108,111,119],x.sort.data.toList,(strB (printL x.set)).data.toList]=q:=⟨_,rfl⟩
     rw[hs9] at hw
     have HS9:Hid (putW st [[102,111,108,108,111,119],x.sort.data.toList,(strB (printL x.set)).data.toList]=s9):=hs9
     have HL9:Hid (s9.1.length≤169740+k):=by rw[←hs9];exact putW_bd3 HL450.out (by decide) (by rw[list_len];exact HSZ.out) (by rw[list_len];exact prt_size x.set) (by omega)
     clear hs9
     have HW9:=hHi hw
     have HF9:=hHi (HF3.out.tr hf)
     clear hw hf
     go_wp2_with fail
     refine hK.out _ _ HX5.out.c5 (fun hHeld=>?_)
     clear hK K
     refine wpAnyH_done (by kernel_rfl) ?_ _
     clear hHeld
     have HP341:=hU (end_any B s9.1 s9.2 w5 HW9.out (by have:=HL9.out;have:=HNBx.out;omega))
     go_wp2_with fail
     refine hMo HP341 ?_
     rintro e a341 ⟨rfl,hw,hf⟩
     replace hw:Wr a341 B (finW s9).1 (finW s9).2:=hw
     obtain⟨s341,hs341⟩:∃q,finW s9=q:=⟨_,rfl⟩
     rw[hs341] at hw
     have HS341:Hid (finW s9=s341):=hs341
     have HL341:Hid (s341.1.length≤169740+(k+1)):=by rw[←hs341];exact Nat.le_trans (finW_len _) (by have h2:=HL9.out;omega)
     clear hs341
     have HW341:=hHi hw
     have HN341:=hHi hf
     have HF341:=hHi (HF9.out.tr hf)
     clear hw hf
     have HXd_341:=kF HN341 HXd5 HNEd
     clear e0 e1 e2 e3 e4
     go_wp2
     go_roundw
     case rel=>exact⟨k+1,s341,by omega,by go_num,by rw[HE.out,HSTP.out,wrS_cons,show txs (followK x)=[[102,111,108,108,111,119],x.sort.data.toList,printL x.set] from rfl,←HQ.out,HS9.out,HS341.out],HW341.out,HF341.out,HXd_341.out,HL341.out⟩
     case measure=>simp[intOf];omega
    obtain rfl:n4=k:=by omega
    have HG5:Hid (wrS (stmtsK d) (t,l)=wrS (d.rejects.map rejectK++(d.boxes.map boxK)) st):=by
     show _=_
     rw[HE.out,List.drop_eq_nil_of_le (by rw[HNN4.out];exact Nat.le_refl _)];rfl
    have HL451:Hid (st.1.length≤269740):=by have:=HL450.out;have:=HNBx.out;show _≤_;omega
    have hltI:¬(n4:Int)<(n4:Int):=by omega
    obtain⟨st4,hst4⟩:∃q,q=st:=⟨_,rfl⟩
    subst hst4
    obtain⟨cd0_309,cd1_309,cd2_309,cd3_309,cd4_309,cd5_309,cd6_309⟩:=HXd_450.out.c7
    go_wp2
    go_loopw[65] (fun iv W=>∃(k:Nat) (st:List UInt8×List UInt8),k≤n5∧iv=.int .i64 k∧wrS (stmtsK d) (t,l)=wrS ((d.rejects.drop k).map rejectK++(d.boxes.map boxK)) st∧Wr W B st.1 st.2∧FrW w W B∧Blk W w.heap.size 28 #[.string d.start,.string d.layout,.slice p2 n2 q2,.slice p3 n3 q3,.slice p4 n4 q4,.slice p5 n5 q5,.slice p6 n6 q6]∧st.1.length≤269740+k) (fun iv _=>n5-(intOf iv).toNat)
    case atStart=>exact⟨0,st4,Nat.zero_le _,rfl,HG5.out,HW450.out,HF450.out,HXd_450.out,HL451.out⟩
    case round=>
     obtain⟨k,st,hk,rfl,he,hwr,hfr,hbd,hlen⟩:=hrel
     have HE:Hid (wrS (stmtsK d) (t,l)=wrS ((d.rejects.drop k).map rejectK++(d.boxes.map boxK)) st):=he
     have HW550:Hid (Wr wr B st.1 st.2):=hwr
     have HF550:Hid (FrW w wr B):=hfr
     have HL550:Hid (st.1.length≤269740+k):=hlen
     have HXd_550:Hid (Blk wr w.heap.size 28 #[.string d.start,.string d.layout,.slice p2 n2 q2,.slice p3 n3 q3,.slice p4 n4 q4,.slice p5 n5 q5,.slice p6 n6 q6]):=hbd
     have HNBx:Hid (k≤100000):=by have:=HNB5.out;show _≤_;omega
     clear he hwr hfr hbd hlen
     by_cases hlt:k<n5
     case pos=>
      obtain⟨x,hx⟩:∃x,d.rejects[k]?=some x:=⟨d.rejects[k]'(by rw[HNN5.out];exact hlt),by simp⟩
      have HXX:=hHi hx
      have HMEM:Hid (x∈d.rejects):=List.mem_of_getElem? hx
      obtain⟨b,o,hab,hall⟩:=HLE5.out k x hx
      subst hab
      have HALL:=hHi hall
      obtain⟨e0,e1⟩:=hall wr HF550.out
      have hltI:(k:Int)<n5:=by omega
      have HSTP:Hid (((d.rejects.drop k).map rejectK++(d.boxes.map boxK))=rejectK x::((d.rejects.drop (k+1)).map rejectK++(d.boxes.map boxK))):=by
       show _=_
       have:=List.getElem?_eq_some_iff.1 hx
       rw[List.drop_eq_getElem_cons this.1,this.2];rfl
      clear hx hall
      obtain⟨a430,ha430⟩:∃qW,wr.alloc (.cells #[.string x.sort,.string x.by'] 73)=qW:=⟨_,rfl⟩
      have HN430:=kB ha430
      have HXe:=kN ha430
      have HNEe:Hid (wr.heap.size≠B):=by have:=HW550.out.lt;show _≠_;omega
      have HW430:=hHi (HW550.out.below HN430.out)
      have HF430:=hHi (HF550.out.tr (FrW.bel HN430.out))
      have HXd_430:=kA HXd_550 HN430
      obtain⟨ce0_431,ce1_431⟩:=HXe.out.c2
      have HP432:=hU (wput3 (⟨#[114,101,106,101,99,116]⟩) (x.sort) (x.by') HW430.out (by have:=HL550.out;have:=HNBx.out;omega) (by decide) (by have:=nm_size (HD.out.r x HMEM.out).1;omega) (by have:=nm_size (HD.out.r x HMEM.out).2;omega))
      go_wp2_with fail
      refine hMo HP432 ?_
      rintro e a432 ⟨rfl,hw,hf⟩
      replace hw:Wr a432 B (putW st [(⟨#[114,101,106,101,99,116]⟩:ByteArray).data.toList,(x.sort:ByteArray).data.toList,(x.by':ByteArray).data.toList]).1 (putW st [(⟨#[114,101,106,101,99,116]⟩:ByteArray).data.toList,(x.sort:ByteArray).data.toList,(x.by':ByteArray).data.toList]).2:=hw
      obtain⟨s432,hs432⟩:∃q,putW st [(⟨#[114,101,106,101,99,116]⟩:ByteArray).data.toList,(x.sort:ByteArray).data.toList,(x.by':ByteArray).data.toList]=q:=⟨_,rfl⟩
      rw[hs432] at hw
      have HS432:Hid (putW st [(⟨#[114,101,106,101,99,116]⟩:ByteArray).data.toList,(x.sort:ByteArray).data.toList,(x.by':ByteArray).data.toList]=s432):=hs432
      have HL432:Hid (s432.1.length≤269740+k):=by rw[←hs432];exact putW_bd3 HL550.out (by rw[list_len];exact by decide) (by rw[list_len];exact by have:=nm_size (HD.out.r x HMEM.out).1;omega) (by rw[list_len];exact by have:=nm_size (HD.out.r x HMEM.out).2;omega) (by omega)
      clear hs432
      have HW432:=hHi hw
      have HN432:=hHi hf
      have HF432:=hHi (HF430.out.tr hf)
      clear hw hf
      have HXd_432:=kF HN432 HXd_430 HNEd
      have HP433:=hU (end_any B s432.1 s432.2 a432 HW432.out (by have:=HL432.out;have:=HNBx.out;omega))
      go_wp2_with fail
      refine hMo HP433 ?_
      rintro e a433 ⟨rfl,hw,hf⟩
      replace hw:Wr a433 B (finW s432).1 (finW s432).2:=hw
      obtain⟨s433,hs433⟩:∃q,finW s432=q:=⟨_,rfl⟩
      rw[hs433] at hw
      have HS433:Hid (finW s432=s433):=hs433
      have HL433:Hid (s433.1.length≤269740+(k+1)):=by rw[←hs433];exact Nat.le_trans (finW_len _) (by have h2:=HL432.out;omega)
      clear hs433
      have HW433:=hHi hw
      have HN433:=hHi hf
      have HF433:=hHi (HF432.out.tr hf)
      clear hw hf
      have HXd_433:=kF HN433 HXd_432 HNEd
      clear e0 e1
      go_wp2
      go_roundw
      case rel=>exact⟨k+1,s433,by omega,by go_num,by rw[HE.out,HSTP.out,wrS_cons,show txs (rejectK x)=[[114,101,106,101,99,116],x.sort.data.toList,x.by'.data.toList] from rfl,HS432.out,HS433.out],HW433.out,HF433.out,HXd_433.out,HL433.out⟩
      case measure=>simp[intOf];omega
     obtain rfl:n5=k:=by omega
     have HG6:Hid (wrS (stmtsK d) (t,l)=wrS (d.boxes.map boxK++[]) st):=by
      show _=_
      rw[HE.out,List.drop_eq_nil_of_le (by rw[HNN5.out];exact Nat.le_refl _)];rw[List.append_nil];rfl
     have HL551:Hid (st.1.length≤369740):=by have:=HL550.out;have:=HNBx.out;show _≤_;omega
     have hltI:¬(n5:Int)<(n5:Int):=by omega
     obtain⟨st5,hst5⟩:∃q,q=st:=⟨_,rfl⟩
     subst hst5
     obtain⟨cd0_410,cd1_410,cd2_410,cd3_410,cd4_410,cd5_410,cd6_410⟩:=HXd_550.out.c7
     go_wp2
     go_loopw[82] (fun iv W=>∃(k:Nat) (st:List UInt8×List UInt8),k≤n6∧iv=.int .i64 k∧wrS (stmtsK d) (t,l)=wrS ((d.boxes.drop k).map boxK++[]) st∧Wr W B st.1 st.2∧FrW w W B∧Blk W w.heap.size 28 #[.string d.start,.string d.layout,.slice p2 n2 q2,.slice p3 n3 q3,.slice p4 n4 q4,.slice p5 n5 q5,.slice p6 n6 q6]∧st.1.length≤369740+k) (fun iv _=>n6-(intOf iv).toNat)
     case atStart=>exact⟨0,st5,Nat.zero_le _,rfl,HG6.out,HW550.out,HF550.out,HXd_550.out,HL551.out⟩
     case round=>
      obtain⟨k,st,hk,rfl,he,hwr,hfr,hbd,hlen⟩:=hrel
      have HE:Hid (wrS (stmtsK d) (t,l)=wrS ((d.boxes.drop k).map boxK++[]) st):=he
      have HW650:Hid (Wr wr B st.1 st.2):=hwr
      have HF650:Hid (FrW w wr B):=hfr
      have HL650:Hid (st.1.length≤369740+k):=hlen
      have HXd_650:Hid (Blk wr w.heap.size 28 #[.string d.start,.string d.layout,.slice p2 n2 q2,.slice p3 n3 q3,.slice p4 n4 q4,.slice p5 n5 q5,.slice p6 n6 q6]):=hbd
      have HNBx:Hid (k≤100000):=by have:=HNB6.out;show _≤_;omega
      clear he hwr hfr hbd hlen
      by_cases hlt:k<n6
      case pos=>
       obtain⟨x,hx⟩:∃x,d.boxes[k]?=some x:=⟨d.boxes[k]'(by rw[HNN6.out];exact hlt),by simp⟩
       have HXX:=hHi hx
       have HMEM:Hid (x∈d.boxes):=List.mem_of_getElem? hx
       obtain⟨b,o,ga,gc,hab,hg1,hg2,hall⟩:=HLE6.out k x hx
       subst hab
       have HALL:=hHi hall
       obtain⟨e0,e1,_⟩:=hall wr HF650.out
       have hltI:(k:Int)<n6:=by omega
       have HSTP:Hid (((d.boxes.drop k).map boxK++[])=boxK x::((d.boxes.drop (k+1)).map boxK++[])):=by
        show _=_
        have:=List.getElem?_eq_some_iff.1 hx
        rw[List.drop_eq_getElem_cons this.1,this.2];rfl
       clear hx hall
       obtain⟨a531,ha531⟩:∃qW,wr.alloc (.cells #[.string x.cons,.slice ga x.items.length gc] 64)=qW:=⟨_,rfl⟩
       have HN531:=kB ha531
       have HXe:=kN ha531
       have HNEe:Hid (wr.heap.size≠B):=by have:=HW650.out.lt;show _≠_;omega
       have HW531:=hHi (HW650.out.below HN531.out)
       have HF531:=hHi (HF650.out.tr (FrW.bel HN531.out))
       have HXd_531:=kA HXd_650 HN531
       obtain⟨ce0_532,ce1_532⟩:=HXe.out.c2
       have HP533:=hU (wput3 (⟨#[98,111,120]⟩) (x.cons) (⟨#[61]⟩) HW531.out (by have:=HL650.out;have:=HNBx.out;omega) (by decide) (by have:=HD.out.b x HMEM.out;unfold boxB at this;simp only[Bool.and_eq_true] at this;have:=nm_size this.1;omega) (by decide))
       go_wp2_with fail
       refine hMo HP533 ?_
       rintro e a533 ⟨rfl,hw,hf⟩
       replace hw:Wr a533 B (putW st [(⟨#[98,111,120]⟩:ByteArray).data.toList,(x.cons:ByteArray).data.toList,(⟨#[61]⟩:ByteArray).data.toList]).1 (putW st [(⟨#[98,111,120]⟩:ByteArray).data.toList,(x.cons:ByteArray).data.toList,(⟨#[61]⟩:ByteArray).data.toList]).2:=hw
       obtain⟨s533,hs533⟩:∃q,putW st [(⟨#[98,111,120]⟩:ByteArray).data.toList,(x.cons:ByteArray).data.toList,(⟨#[61]⟩:ByteArray).data.toList]=q:=⟨_,rfl⟩
       rw[hs533] at hw
       have HS533:Hid (putW st [(⟨#[98,111,120]⟩:ByteArray).data.toList,(x.cons:ByteArray).data.toList,(⟨#[61]⟩:ByteArray).data.toList]=s533):=hs533
       have HL533:Hid (s533.1.length≤369740+k):=by rw[←hs533];exact putW_bd3 HL650.out (by rw[list_len];exact by decide) (by rw[list_len];exact by have:=HD.out.b x HMEM.out;unfold boxB at this;simp only[Bool.and_eq_true] at this;have:=nm_size this.1;omega) (by rw[list_len];exact by decide) (by omega)
       clear hs533
       have HW533:=hHi hw
       have HN533:=hHi hf
       have HF533:=hHi (HF531.out.tr hf)
       clear hw hf
       have HXd_533:=kF HN533 HXd_531 HNEd
       have HXe_533:=kF HN533 HXe HNEe
       obtain⟨ce0_534,ce1_534⟩:=HXe_533.out.c2
       have HBX:Hid ((itsR 0 x.items).2=true):=by
        have:=HD.out.b x HMEM.out
        unfold boxB at this
        simp only[Bool.and_eq_true] at this
        exact this.2
       have HP535:=hU (witems_any B f x.items 0 s533.1 s533.2 (.slice ga x.items.length gc) a533 HW533.out HBX.out (HALL.out a533 HF533.out).2.2 (HTB.out.fr HF533.out (Nat.le_of_lt HBS.out)) (by have:=HL533.out;have:=HNBx.out;omega))
       go_wp2_with fail
       refine hMo HP535 ?_
       rintro e a535 ⟨⟨rfl,hw,hf⟩,_⟩
       replace hw:Wr a535 B (putW s533 (txs (itemsK x.items))).1 (putW s533 (txs (itemsK x.items))).2:=hw
       obtain⟨s535,hs535⟩:∃q,putW s533 (txs (itemsK x.items))=q:=⟨_,rfl⟩
       rw[hs535] at hw
       have HS535:Hid (putW s533 (txs (itemsK x.items))=s535):=hs535
       have HL535:Hid (s535.1.length≤369740+k):=by rw[←hs535];exact putW_bd HL533.out (itemsK_small x.items 0 HBX.out) (by omega)
       clear hs535
       have HW535:=hHi hw
       have HN535:=hHi hf
       have HF535:=hHi (HF533.out.tr hf)
       clear hw hf
       have HXd_535:=kF HN535 HXd_533 HNEd
       have HP536:=hU (end_any B s535.1 s535.2 a535 HW535.out (by have:=HL535.out;have:=HNBx.out;omega))
       go_wp2_with fail
       refine hMo HP536 ?_
       rintro e a536 ⟨rfl,hw,hf⟩
       replace hw:Wr a536 B (finW s535).1 (finW s535).2:=hw
       obtain⟨s536,hs536⟩:∃q,finW s535=q:=⟨_,rfl⟩
       rw[hs536] at hw
       have HS536:Hid (finW s535=s536):=hs536
       have HL536:Hid (s536.1.length≤369740+(k+1)):=by rw[←hs536];exact Nat.le_trans (finW_len _) (by have h2:=HL535.out;omega)
       clear hs536
       have HW536:=hHi hw
       have HN536:=hHi hf
       have HF536:=hHi (HF535.out.tr hf)
       clear hw hf
       have HXd_536:=kF HN536 HXd_535 HNEd
       clear e0 e1
       go_wp2
       go_roundw
       case rel=>exact⟨k+1,s536,by omega,by go_num,by rw[HE.out,HSTP.out,wrS_cons,show txs (boxK x)=[[98,111,120],x.cons.data.toList,[61]]++txs (itemsK x.items) from rfl,putW_app,HS533.out,HS535.out,HS536.out],HW536.out,HF536.out,HXd_536.out,HL536.out⟩
       case measure=>simp[intOf];omega
      obtain rfl:n6=k:=by omega
      have HG7:Hid (wrS (stmtsK d) (t,l)=wrS ([]) st):=by
       show _=_
       rw[HE.out,List.drop_eq_nil_of_le (by rw[HNN6.out];exact Nat.le_refl _)];rfl
      have HL651:Hid (st.1.length≤469740):=by have:=HL650.out;have:=HNBx.out;show _≤_;omega
      have hltI:¬(n6:Int)<(n6:Int):=by omega
      go_wp2
      go_end0
      have hfin:wrS (stmtsK d) (t,l)=st:=HG7.out
      show WP B w (wrS (stmtsK d) (t,l)) _ _∧_
      rw[hfin]
      exact⟨⟨rfl,HW650.out,HF650.out⟩,by have:=HL651.out;omega⟩
theorem row_conv {W:World} {base:Nat} {v:Value} {l:List UInt8} (h:W.ownsRow base 5 1 v l.length (Lib.byteCells l)):(convert 67 9 v).run Tryz.prog W=.ok (.string (strB l)) W:=by
 rcases h.2 with ⟨rfl,h0⟩ | ⟨g,cap,cur,rfl,_⟩
 ·obtain rfl:=List.eq_nil_of_length_eq_zero h0
  exact Lib.run_convert_nil_bytes W 67 9 5 0 Tryz.underlying67 Tryz.underlying5 Tryz.underlying9
 ·refine run_convert_bytes_back _ 67 9 5 ⟨g,0,none⟩ cap l Tryz.underlying67 Tryz.underlying5 Tryz.underlying9 (fun j hj=>?_)
  exact h.cells (g:=g) rfl j _ (by unfold Lib.byteCells;rw[List.getElem?_map,List.getElem?_eq_getElem hj];rfl)
noncomputable def prtD (d:Df):List UInt8×Nat:=if rightB d=true then (if 65536<(wrS (stmtsK d) ([],[])).1.length then ([],2) else ((wrS (stmtsK d) ([],[])).1,0)) else ([],3)
structure Few (d:Df):Prop where
 c:d.chains.length≤100000
 f:d.follows.length≤100000
 r:d.rejects.length≤100000
 b:d.boxes.length≤100000
theorem dprint_any (d:Df) (vs:List Value) (w:World) (hd:DA w d vs) (hTab:Tab w.heap.size w) (hf:Few d) :
  Calls Tryz.prog 13 #[.agg ⟨vs⟩] w fun e w'=>e=.returned (.tuple #[.string (strB (prtD d).1),.int .i64 ((prtD d).2:Int)])∧Below w.heap.size w w':=by
 obtain⟨f,v2,v3,v4,v5,v6,rfl,h2,h3,h4,h5,h6⟩:=hd.at'
 have hk:∀W,Below w.heap.size w W→DfV W W.heap.size f d [.string d.start,.string d.layout,v2,v3,v4,v5,v6]:=fun W hb=>DfV.keep hb hb.size ⟨v2,v3,v4,v5,v6,rfl,h2,h3,h4,h5,h6⟩
 have HK:=hHi hk
 obtain⟨p2,q2,rfl,_⟩:=h2
 obtain⟨n2,hn2⟩:∃n,d.prods.length=n:=⟨_,rfl⟩
 rw[hn2] at HK ⊢
 clear hn2
 obtain⟨p3,q3,rfl,_⟩:=h3
 obtain⟨n3,hn3⟩:∃n,d.chains.length=n:=⟨_,rfl⟩
 rw[hn3] at HK ⊢
 clear hn3
 obtain⟨p4,q4,rfl,_⟩:=h4
 obtain⟨n4,hn4⟩:∃n,d.follows.length=n:=⟨_,rfl⟩
 rw[hn4] at HK ⊢
 clear hn4
 obtain⟨p5,q5,rfl,_⟩:=h5
 obtain⟨n5,hn5⟩:∃n,d.rejects.length=n:=⟨_,rfl⟩
 rw[hn5] at HK ⊢
 clear hn5
 obtain⟨p6,q6,rfl,_⟩:=h6
 obtain⟨n6,hn6⟩:∃n,d.boxes.length=n:=⟨_,rfl⟩
 rw[hn6] at HK ⊢
 clear hn6
 have HTB:Hid (Tab w.heap.size w):=hTab
 have HFE:=hHi hf
 clear hk hd hTab hf
 obtain⟨w1,hw1⟩:∃w1,w.alloc (.cells #[.string d.start,.string d.layout,.slice p2 n2 q2,.slice p3 n3 q3,.slice p4 n4 q4,.slice p5 n5 q5,.slice p6 n6 q6] 28)=w1:=⟨_,rfl⟩
 have HB1:=kB hw1
 have HX1:=kN hw1
 have HR:Hid (Calls Tryz.prog 16 #[.agg #[.string d.start,.string d.layout,.slice p2 n2 q2,.slice p3 n3 q3,.slice p4 n4 q4,.slice p5 n5 q5,.slice p6 n6 q6]] w1 fun e w'=>e=.returned (.bool (rightB d))∧Below w1.heap.size w1 w'):=by
  obtain⟨y2,y3,y4,y5,y6,e,k2,k3,k4,k5,k6⟩:=HK.out w1 HB1.out
  cases e
  exact right_any d f _ _ _ _ _ w1 k2 k3 k4 k5 k6
 have HPT:Hid (prtD d=if rightB d=true then (if 65536<(wrS (stmtsK d) ([],[])).1.length then ([],2) else ((wrS (stmtsK d) ([],[])).1,0)) else ([],3)):=rfl
 have HRI:Hid (rightB d=true→RightD d):=(right_iff d).1
 generalize prtD d=pt at *
 obtain⟨c0,c1,c2,c3,c4,c5,c6⟩:=HX1.out.c7
 generalize rightB d=q at *
 cases q with
 | false=>
  obtain rfl:pt=([],3):=by rw[HPT.out];rfl
  go_enter Tryz.func13,Tryz.ntmps13
  go_wp2_with fail
  refine HR.out.mono ?_
  rintro e w2 ⟨rfl,hb⟩
  have HB2:=hHi (below_tr HB1.out hb)
  clear hb
  go_wp2
  go_ret2
  exact⟨rfl,HB2.out⟩
 | true=>
 have HPT2:Hid (pt=if 65536<(wrS (stmtsK d) ([],[])).1.length then ([],2) else ((wrS (stmtsK d) ([],[])).1,0)):=by show _=_;rw[HPT.out];rfl
 go_enter Tryz.func13,Tryz.ntmps13
 go_wp2_with fail
 refine HR.out.mono ?_
 rintro e w2 ⟨rfl,hb⟩
 have HB2:=hHi (below_tr HB1.out hb)
 have HX2:=kA HX1 (hHi hb)
 clear hb c0 c1 c2 c3 c4 c5 c6
 obtain⟨w3,hw3⟩:∃w3,w2.alloc (.cells #[.slice none 0 0,.string ⟨#[]⟩] 69)=w3:=⟨_,rfl⟩
 have HB3a:=kB hw3
 have HB3:=hHi (below_tr HB2.out HB3a.out)
 have HX3:=kA HX2 HB3a
 have HWR:Hid (Wr w3 w2.heap.size [] []):=⟨.slice none 0 0,by rw[←hw3];exact Blk.new _ _ _,World.ownsRow_nil _ _ _ _⟩
 have HSZ:=hHi HB2.out.size
 have HDF:Hid _:=fun (_:Unit)=>by
  obtain⟨y2,y3,y4,y5,y6,e,k2,k3,k4,k5,k6⟩:=HK.out w2 HB2.out
  have hb:=HB3a.out
  have kk:DfV w3 w2.heap.size f d [.string d.start,.string d.layout,y2,y3,y4,y5,y6]:=DfV.keep hb (Nat.le_refl _) ⟨y2,y3,y4,y5,y6,rfl,k2,k3,k4,k5,k6⟩
  obtain⟨z2,z3,z4,z5,z6,e2,m2,m3,m4,m5,m6⟩:=kk
  cases e2
  cases e
  exact wdef_any w2.heap.size f d [] [] _ _ _ _ _ w3 HWR.out (HRI.out trivial) m2 m3 m4 m5 m6 ((HTB.out.on HB3.out).mono HSZ.out) HFE.out.c HFE.out.f HFE.out.r HFE.out.b (by simp)
 obtain⟨c0,c1,c2,c3,c4,c5,c6⟩:=HX3.out.c7
 go_wp2_with fail
 refine hMo HDF ?_
 rintro e w4 ⟨⟨rfl,hw,hfr⟩,hl⟩
 generalize wrS (stmtsK d) ([],[])=st at *
 obtain⟨t,l⟩:=st
 obtain⟨tv,hbk,hown⟩:=hw.at'
 have hcv:=row_conv hown
 obtain⟨ta,tc,rfl⟩:=own_slice hown
 have HB4:Hid (Below w.heap.size w w4):=by
  have b3:=HB3.out
  have hs:=HSZ.out
  have s3:=HB3a.out.size
  exact⟨hfr.os.trans b3.os,hfr.tape.trans b3.tape,hfr.output.trans b3.output,Nat.le_trans b3.size hfr.size,fun b hb=>(hfr.block b (by omega) (by omega) (.inr (by omega))).trans (b3.block b hb)⟩
 have e0:=hbk.cell 0 rfl
 have hlt:=hbk.lt
 clear hw hfr hbk hown hl c0 c1 c2 c3 c4 c5 c6
 by_cases hbig:65536<t.length
 ·have hbI:(t.length:Int)>65536:=by omega
  obtain rfl:pt=([],2):=by rw[HPT2.out];exact if_pos hbig
  go_wp2
  go_ret2
  exact⟨rfl,HB4.out⟩
 ·have hbI:¬(t.length:Int)>65536:=by omega
  obtain rfl:pt=(t,0):=by rw[HPT2.out];exact if_neg hbig
  go_wp2
  go_ret2
  exact⟨rfl,HB4.out⟩
def sy3 (n:ByteArray):Sy:=⟨3,⟨#[]⟩,⟨0,0,0,0⟩,n,⟨#[]⟩⟩
def d0:Df:=⟨⟨#[]⟩,⟨#[]⟩,[⟨false,⟨#[69]⟩,⟨#[65]⟩,false,[sy3 ⟨#[69]⟩,⟨1,⟨#[43]⟩,⟨0,0,0,0⟩,⟨#[]⟩,⟨#[]⟩⟩,sy3 ⟨#[69]⟩]⟩],[[⟨1,[⟨#[65]⟩]⟩]],[],[],[]⟩
theorem par_one:parR [99,102,32,69,46,65,61,69,32,34,43,34,32,69,59,112,114,105,111,32,108,101,102,116,32,65,59]=.ok d0 [⟨7,[],[],⟨0,0,0,0⟩,0,27,1,28⟩]:=by kernel_rfl
theorem par_two:parR [108,101,120,32,65,32,61,32,59]=.bad 8 30:=by kernel_rfl
theorem d0_right:rightB d0=true:=by
 have e:∀x:Sy,eqS x x=true:=fun x=>by unfold eqS;simp
 have n1:nm ⟨#[69]⟩=true:=by kernel_rfl
 have n2:nm ⟨#[65]⟩=true:=by kernel_rfl
 have s1:symB (sy3 ⟨#[69]⟩)=true:=by show (eqS (sy3 ⟨#[69]⟩) (sy3 ⟨#[69]⟩)&&nm ⟨#[69]⟩)=true;rw[e,n1];rfl
 have s2:symB ⟨1,⟨#[43]⟩,⟨0,0,0,0⟩,⟨#[]⟩,⟨#[]⟩⟩=true:=by show (eqS (⟨1,⟨#[43]⟩,⟨0,0,0,0⟩,⟨#[]⟩,⟨#[]⟩⟩:Sy) ⟨1,⟨#[43]⟩,⟨0,0,0,0⟩,⟨#[]⟩,⟨#[]⟩⟩&&true)=true;rw[e];rfl
 have p:prodB ⟨false,⟨#[69]⟩,⟨#[65]⟩,false,[sy3 ⟨#[69]⟩,⟨1,⟨#[43]⟩,⟨0,0,0,0⟩,⟨#[]⟩,⟨#[]⟩⟩,sy3 ⟨#[69]⟩]⟩=true:=by
  unfold prodB
  simp only[List.all_cons,List.all_nil,s1,s2,n1,n2,nmN]
  rfl
 unfold rightB d0
 simp only[List.all_cons,List.all_nil,p]
 rfl
theorem wr_one:(wrS (stmtsK d0) ([],[])).1=[99,102,32,69,46,65,32,61,32,69,32,34,43,34,32,69,59,10,112,114,105,111,32,108,101,102,116,32,65,59,10]:=by kernel_rfl
theorem prt_one:prtD d0=([99,102,32,69,46,65,32,61,32,69,32,34,43,34,32,69,59,10,112,114,105,111,32,108,101,102,116,32,65,59,10],0):=by
 unfold prtD
 rw[if_pos d0_right,wr_one]
 rfl
theorem d0_few:Few d0:=⟨by decide,by decide,by decide,by decide⟩
theorem alive_any (w:World) (hTab:Tab w.heap.size w):Calls Tryz.prog 11 #[] w fun e w'=>e=.returned (.bool true)∧Below w.heap.size w w':=by
 have HTB:Hid (Tab w.heap.size w):=hTab
 have HP1:Hid (∀W,Calls Tryz.prog 19 #[.string ⟨#[99,102,32,69,46,65,61,69,32,34,43,34,32,69,59,112,114,105,111,32,108,101,102,116,32,65,59]⟩] W fun e w'=>PDf W (.ok d0 [⟨7,[],[],⟨0,0,0,0⟩,0,27,1,28⟩]) e w'):=fun W=>by
  have:=dparse_any ⟨#[99,102,32,69,46,65,61,69,32,34,43,34,32,69,59,112,114,105,111,32,108,101,102,116,32,65,59]⟩ W (by kernel_rfl)
  rw[show (⟨#[99,102,32,69,46,65,61,69,32,34,43,34,32,69,59,112,114,105,111,32,108,101,102,116,32,65,59]⟩:ByteArray).data.toList=[99,102,32,69,46,65,61,69,32,34,43,34,32,69,59,112,114,105,111,32,108,101,102,116,32,65,59] from rfl,par_one] at this
  exact this
 have HP2:Hid (∀W,Calls Tryz.prog 19 #[.string ⟨#[108,101,120,32,65,32,61,32,59]⟩] W fun e w'=>PDf W (.bad 8 30) e w'):=fun W=>by
  have:=dparse_any ⟨#[108,101,120,32,65,32,61,32,59]⟩ W (by kernel_rfl)
  rw[show (⟨#[108,101,120,32,65,32,61,32,59]⟩:ByteArray).data.toList=[108,101,120,32,65,32,61,32,59] from rfl,par_two] at this
  exact this
 have HPR:Hid (∀vs W,DA W d0 vs→Tab W.heap.size W→Calls Tryz.prog 13 #[.agg ⟨vs⟩] W fun e w'=>e=.returned (.tuple #[.string ⟨#[99,102,32,69,46,65,32,61,32,69,32,34,43,34,32,69,59,10,112,114,105,111,32,108,101,102,116,32,65,59,10]⟩,.int .i64 0])∧Below W.heap.size W w'):=fun vs W hd ht=>by
  have:=dprint_any d0 vs W hd ht d0_few
  rw[prt_one] at this
  exact this
 clear hTab
 go_enter Tryz.func11,Tryz.ntmps11
 go_wp2_with fail
 refine (HP1.out _).mono ?_
 rintro e w1 ⟨⟨v2,v3,v4,v5,v6,rfl,hda⟩,hb⟩
 have HDA:Hid (DA w1 d0 [.string d0.start,.string d0.layout,v2,v3,v4,v5,v6]):=hda
 have HB1:Hid (Below w.heap.size w w1):=hb
 obtain⟨f,x2,x3,x4,x5,x6,e,h2,h3,h4,h5,h6⟩:=hda.at'
 cases e
 obtain⟨p2,q2,rfl,_⟩:=h2
 obtain⟨p3,q3,rfl,_⟩:=h3
 obtain⟨p4,q4,rfl,_⟩:=h4
 obtain⟨p5,q5,rfl,_⟩:=h5
 obtain⟨p6,q6,rfl,_⟩:=h6
 have e2:d0.prods.length=1:=rfl
 have e3:d0.chains.length=1:=rfl
 have e4:d0.follows.length=0:=rfl
 have e5:d0.rejects.length=0:=rfl
 have e6:d0.boxes.length=0:=rfl
 have e7:d0.start=⟨#[]⟩:=rfl
 have e8:d0.layout=⟨#[]⟩:=rfl
 rw[e2,e3,e4,e5,e6,e7,e8] at HDA
 simp only[e2,e3,e4,e5,e6,e7,e8]
 clear e2 e3 e4 e5 e6 e7 e8 hda hb
 go_wp2_with fail
 obtain⟨wa,hwa⟩:∃wa,(w1.alloc (.cells #[.string ⟨#[]⟩,.string ⟨#[]⟩,.slice p2 1 q2,.slice p3 1 q3,.slice p4 0 q4,.slice p5 0 q5,.slice p6 0 q6] 28)).alloc (.cells #[.int .i64 0,.int .i64 0] 37)=wa:=⟨_,rfl⟩
 have HBa:Hid (Below w1.heap.size w1 wa):=by show Below _ _ _;rw[←hwa];exact ((Below.refl _ _).alloc (Nat.le_refl _) _).alloc (by simp) _
 have HXD:Hid (Blk wa w1.heap.size 28 #[.string ⟨#[]⟩,.string ⟨#[]⟩,.slice p2 1 q2,.slice p3 1 q3,.slice p4 0 q4,.slice p5 0 q5,.slice p6 0 q6]):=by show Blk _ _ _ _;rw[←hwa];exact (Blk.new w1 28 _).alloc _
 have HXF:Hid (Blk wa (w1.heap.size+1) 37 #[.int .i64 0,.int .i64 0]):=by
  show Blk _ _ _ _
  rw[←hwa]
  have:=Blk.new (w1.alloc (.cells #[.string ⟨#[]⟩,.string ⟨#[]⟩,.slice p2 1 q2,.slice p3 1 q3,.slice p4 0 q4,.slice p5 0 q5,.slice p6 0 q6] 28)) 37 #[.int .i64 0,.int .i64 0]
  simpa using this
 have HBA:=hHi (below_tr HB1.out HBa.out)
 rw[hwa]
 clear hwa
 refine (HPR.out _ wa (HDA.out.nx HBa.out) (HTB.out.nx HBA.out)).mono ?_
 rintro e w2 ⟨rfl,hb⟩
 have HXD2:=kA HXD (hHi hb)
 have HXF2:=kA HXF (hHi hb)
 have HB2:=hHi (below_tr HBA.out hb)
 clear hb
 go_wp2_with fail
 refine (HP2.out _).mono ?_
 rintro e w3 ⟨rfl,hb⟩
 have HXD3:=kA HXD2 (hHi hb)
 have HXF3:=kA HXF2 (hHi hb)
 have HB3:=hHi (below_tr HB2.out hb)
 obtain⟨wb,hwb⟩:∃wb,(w3.alloc (.cells #[.string ⟨#[]⟩,.string ⟨#[]⟩,.slice none 0 0,.slice none 0 0,.slice none 0 0,.slice none 0 0,.slice none 0 0] 28)).alloc (.cells #[.int .i64 8,.int .i64 30] 37)=wb:=⟨_,rfl⟩
 have hbb:Below w3.heap.size w3 wb:=by rw[←hwb];exact ((Below.refl _ _).alloc (Nat.le_refl _) _).alloc (by simp) _
 have HB4:=hHi (below_tr HB3.out hbb)
 have hXF4:Blk wb (w1.heap.size+1) 37 #[.int .i64 0,.int .i64 0]:=Blk.after HXF3.out hbb
 have hXD4:=Blk.after HXD3.out hbb
 have hXG4:Blk wb (w3.heap.size+1) 37 #[.int .i64 8,.int .i64 30]:=by
  rw[←hwb]
  have:=Blk.new (w3.alloc (.cells #[.string ⟨#[]⟩,.string ⟨#[]⟩,.slice none 0 0,.slice none 0 0,.slice none 0 0,.slice none 0 0,.slice none 0 0] 28)) 37 #[.int .i64 8,.int .i64 30]
  simpa using this
 have c0:=hXF4.cell 0 rfl
 have c1:=hXF4.cell 1 rfl
 have c2:=hXD4.cell 2 rfl
 have c3:=hXG4.cell 0 rfl
 have c4:=hXG4.cell 1 rfl
 clear hb hbb hXF4 hXD4 hXG4
 go_wp2
 go_ret
 exact⟨rfl,HB4.out⟩
end Go.Proofs.YtcpakcffiopfjaaGreatDoor
