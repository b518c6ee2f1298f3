/- How a line is told: word by word (plain). How the lines of symbols, items and boxes are told (plain). How the lines of symbols and productions are told (plain). How the lines of productions, follows and boxes are told (plain). The document's lines are the writer's (plain). The writer's text is no longer than its lines; so both sides say alike that a text is too great (plain). How great the document's lines are (plain). -/
import Derived.Test.YtcpakcffiopfjaaGreatDoorJ8
import Derived.Test.YtcpakcffiopfjaaGreatDoorG4
import Derived.Test.YtcpakcffiopfjaaGreatDoorJ9
namespace Go.Proofs.YtcpakcffiopfjaaGreatDoor
open Go.RowKit
set_option linter.unusedVariables false
set_option linter.unusedSimpArgs false
set_option maxRecDepth 100000
set_option maxHeartbeats 16000000
section
set_option linter.unusedVariables false
set_option linter.unusedSimpArgs false
def lastT:List UInt8→List Tk→List UInt8
 | l,[]=>l
 | _,x::ts=>lastT x.2.1 ts
theorem lineT_app:∀(a:List Tk) (l:List UInt8) (b:List Tk),lineT l (a++b)=lineT l a++lineT (lastT l a) b
 | [],l,b=>rfl
 | x::a,l,b=>by
  rw[List.cons_append,lineT,lineT,lineT_app a _ b,lastT]
  simp only[List.append_assoc]
theorem lastT_app:∀(a:List Tk) (l:List UInt8) (b:List Tk),lastT l (a++b)=lastT (lastT l a) b
 | [],_,_=>rfl
 | x::a,_,b=>lastT_app a _ b
/- A word before which and behind which a blank stands. -/
structure Gd (w:List UInt8):Prop where
 a:bareA w=false
 b:bareB w=false
 e:w.isEmpty=false
theorem lineT_gd {l:List UInt8} {x:Tk} {ts:List Tk} (hl:Gd l) (hx:Gd x.2.1):lineT l (x::ts)=32::(x.2.1++lineT x.2.1 ts):=by
 rw[lineT,if_pos (by unfold spB;rw[hl.e,hl.b,hx.a];rfl)]
 rfl
theorem lineT_first {x:Tk} {ts:List Tk}:lineT [] (x::ts)=x.2.1++lineT x.2.1 ts:=by
 rw[lineT,if_neg (by unfold spB;simp)]
 rfl
theorem lineT_bare {l:List UInt8} {x:Tk} {ts:List Tk} (hx:bareA x.2.1=true):lineT l (x::ts)=x.2.1++lineT x.2.1 ts:=by
 rw[lineT,if_neg (by unfold spB;rw[hx];simp)]
 rfl
theorem gd_long {w:List UInt8} (h:2≤w.length):Gd w:=by
 match w,h with
 | _::_::_,_=>exact⟨rfl,rfl,rfl⟩
theorem gd_nm {s:ByteArray} (h:nm s=true):Gd s.data.toList:=⟨(nm_bare h).1,(nm_bare h).2.1,(nm_bare h).2.2⟩
theorem line_semi (ts:List Tk):lineT [] (ts++[sgT [59]])=lineT [] ts++[59]:=by
 rw[lineT_app,lineT_bare (by decide)]
 rfl
theorem lineS_eq (s:List Tk):lineS s=lineT [] s++[59,10]:=by
 unfold lineS
 rw[line_semi,List.append_assoc]
 rfl
theorem line_reject {r:Re} (h1:nm r.sort=true) (h2:nm r.by'=true):lineT [] (rejectK r)=[114,101,106,101,99,116]++(32::(r.sort.data.toList++(32::r.by'.data.toList))):=by
 unfold rejectK
 rw[lineT_first,lineT_gd (x:=namT r.sort) (gd_long (by decide)) (gd_nm h1),lineT_gd (l:=(namT r.sort).2.1) (x:=namT r.by') (gd_nm h1) (gd_nm h2)]
 show _++(32::(r.sort.data.toList++(32::(r.by'.data.toList++[]))))=_
 rw[List.append_nil]
 rfl
theorem line_names:∀{l:List ByteArray} {w:List UInt8},(∀s∈l,nm s=true)→Gd w→lineT w (l.map namT)=rnsT l∧Gd (lastT w (l.map namT))
 | [],w,_,hw=>⟨rfl,hw⟩
 | s::l,w,h,hw=>by
  have g:=gd_nm (h s (by simp))
  have i:=line_names (l:=l) (fun x hx=>h x (List.mem_cons_of_mem _ hx)) g
  rw[List.map_cons,lineT_gd hw g]
  exact⟨by show 32::(s.data.toList++lineT s.data.toList (l.map namT))=_;rw[i.1];rfl,i.2⟩
theorem line_assoc {a:Int} {w:List UInt8} (hw:Gd w):lineT w (assocK a)=rasT a∧Gd (lastT w (assocK a)):=by
 unfold assocK rasT
 split
 ·rw[lineT_gd hw (gd_long (by decide))];exact⟨rfl,gd_long (by simp[lastT,keyT])⟩
 split
 ·rw[lineT_gd hw (gd_long (by decide))];exact⟨rfl,gd_long (by simp[lastT,keyT])⟩
 split
 ·rw[lineT_gd hw (gd_long (by decide))];exact⟨rfl,gd_long (by simp[lastT,keyT])⟩
 ·exact⟨rfl,hw⟩
theorem line_group {g:Gr} {w:List UInt8} (h:groupB g=true) (hw:Gd w):lineT w (groupK g)=rgrpT g∧Gd (lastT w (groupK g)):=by
 unfold groupB at h
 simp only[Bool.and_eq_true,List.all_eq_true] at h
 have a:=line_assoc (a:=g.assoc) hw
 have n:=line_names h.2 a.2
 unfold groupK rgrpT
 rw[lineT_app,lastT_app,a.1,n.1]
 exact⟨rfl,n.2⟩
theorem line_chain:∀{c:List Gr} {w:List UInt8},(∀g∈c,groupB g=true)→Gd w→lineT w (chainK c)=rchS true c
 | [],w,_,_=>rfl
 | [g],w,h,hw=>by
  rw[chainK,(line_group (h g (by simp)) hw).1]
  simp[rchS]
 | g::k::l,w,h,hw=>by
  have a:=line_group (h g (by simp)) hw
  have gt:Gd [62]:=⟨by decide,by decide,rfl⟩
  have i:=line_chain (c:=k::l) (w:=[62]) (fun x hx=>h x (List.mem_cons_of_mem _ hx)) gt
  rw[chainK,lineT_app,a.1,lineT_gd (x:=sgT [62]) a.2 gt]
  show rgrpT g++32::([62]++lineT [62] (chainK (k::l)))=_
  rw[i]
  simp[rchS]
theorem line_prio {c:List Gr} (h:chainB c=true):lineT [] (prioK c)=rchainT c:=by
 unfold chainB at h
 simp only[Bool.and_eq_true,List.all_eq_true] at h
 unfold prioK
 rw[lineT_first]
 show [112,114,105,111]++lineT [112,114,105,111] (chainK c)=_
 rw[line_chain h.2 (gd_long (by decide))]
 rfl
end
section
set_option linter.unusedVariables false
set_option linter.unusedSimpArgs false
theorem gd_quo (l:List Nat):Gd (quoteL l):=gd_long (by unfold quoteL;simp only[List.length_append,List.length_singleton];omega)
theorem gd_set (s:St):Gd (printL s):=by
 obtain⟨a,b,l,e⟩:=print_two s
 rw[e]
 exact⟨rfl,rfl,rfl⟩
theorem dig_bare {c:UInt8} (h:digB c.toNat=true):bareA [c]=false∧bareB [c]=false:=by
 have:∀n:Fin 256,digB n.val=true→bareA [UInt8.ofNat n.val]=false∧bareB [UInt8.ofNat n.val]=false:=by decide +kernel
 have h2:=this ⟨c.toNat,c.toNat_lt⟩ h
 simpa using h2
theorem gd_dec {n:Int} (h:numB n=true):Gd (Lib.decDigits n.toNat):=by
 unfold numB at h
 simp only[Bool.and_eq_true,decide_eq_true_eq] at h
 obtain⟨f1,_,_,f4⟩:=dec_facts 5 n.toNat (by omega)
 generalize Lib.decDigits n.toNat=l at *
 match l,f1,f4 with
 | [],_,f4=>exact absurd rfl f4
 | [c],f1,_=>exact⟨(dig_bare (f1 c (by simp))).1,(dig_bare (f1 c (by simp))).2,rfl⟩
 | _::_::_,_,_=>exact⟨rfl,rfl,rfl⟩
theorem gd40:Gd [40]:=⟨by decide,by decide,rfl⟩
theorem gd41:Gd [41]:=⟨by decide,by decide,rfl⟩
theorem line_one {w:List UInt8} {x:Tk} (hw:Gd w) (hx:Gd x.2.1):lineT w [x]=32::x.2.1:=by
 rw[lineT_gd hw hx]
 show 32::(x.2.1++[])=_
 rw[List.append_nil]
mutual
theorem line_item:∀(c:Nat) (i:It) (w:List UInt8),(itR c i).2=true→Gd w→lineT w (itemK i)=ritT i∧Gd (lastT w (itemK i))
 | c,.mk k t n l,w,h,hw=>by
  rw[itR] at h
  split at h
  ·rename_i hc
   rcases itemB_of hc.2 with ⟨e,q⟩ | ⟨e,q⟩ | e | e | ⟨e,q⟩ | e
   ·obtain rfl:k=1:=e
    rw[itemK,ritT,if_pos rfl,if_pos rfl,line_one hw (gd_quo _)]
    exact⟨rfl,gd_quo _⟩
   ·obtain rfl:k=2:=e
    rw[itemK,ritT,if_neg (by decide),if_pos rfl,if_neg (by decide),if_pos rfl,line_one (x:=numT n.toNat) hw (gd_dec q)]
    exact⟨rfl,gd_dec q⟩
   ·obtain rfl:k=3:=e
    rw[itemK,ritT,if_neg (by decide),if_neg (by decide),if_pos rfl,if_neg (by decide),if_neg (by decide),if_pos rfl,line_one hw ⟨by decide,by decide,rfl⟩]
    exact⟨rfl,show Gd [95] from ⟨by decide,by decide,rfl⟩⟩
   ·obtain rfl:k=4:=e
    rw[itemK,ritT,if_neg (by decide),if_neg (by decide),if_neg (by decide),if_pos rfl,if_neg (by decide),if_neg (by decide),if_neg (by decide),if_pos rfl,line_one hw ⟨by decide,by decide,rfl⟩]
    exact⟨rfl,show Gd [47] from ⟨by decide,by decide,rfl⟩⟩
   ·obtain rfl:k=5:=e
    have i:=line_items (c+1) l [40] h gd40
    rw[itemK,ritT,if_neg (by decide),if_neg (by decide),if_neg (by decide),if_neg (by decide),if_pos rfl,if_neg (by decide),if_neg (by decide),if_neg (by decide),if_neg (by decide),if_pos rfl]
    rw[lineT_gd (x:=keyT [110,101,115,116]) hw (gd_long (by decide)),lineT_gd (x:=numT n.toNat) (gd_long (by decide)) (gd_dec q),lineT_gd (l:=(numT n.toNat).2.1) (x:=sgT [40]) (gd_dec q) gd40]
    show _∧Gd (lastT [40] (itemsK l++[sgT [41]]))
    rw[lastT_app]
    refine⟨?_,gd41⟩
    show 32::([110,101,115,116]++(32::(Lib.decDigits n.toNat++(32::([40]++lineT [40] (itemsK l++[sgT [41]]))))))=_
    rw[lineT_app,i.1,line_one (x:=sgT [41]) i.2 gd41]
    simp[sgT]
   ·obtain rfl:k=6:=e
    have i:=line_items (c+1) l [40] h gd40
    rw[itemK,ritT,if_neg (by decide),if_neg (by decide),if_neg (by decide),if_neg (by decide),if_neg (by decide),if_pos rfl,if_neg (by decide),if_neg (by decide),if_neg (by decide),if_neg (by decide),if_neg (by decide),if_pos rfl]
    rw[lineT_gd (x:=keyT [103,114,111,117,112]) hw (gd_long (by decide)),lineT_gd (l:=(keyT [103,114,111,117,112]).2.1) (x:=sgT [40]) (gd_long (by decide)) gd40]
    show _∧Gd (lastT [40] (itemsK l++[sgT [41]]))
    rw[lastT_app]
    refine⟨?_,gd41⟩
    show 32::([103,114,111,117,112]++(32::([40]++lineT [40] (itemsK l++[sgT [41]]))))=_
    rw[lineT_app,i.1,line_one (x:=sgT [41]) i.2 gd41]
    simp[sgT]
  ·cases h
theorem line_items:∀(c:Nat) (l:List It) (w:List UInt8),(itsR c l).2=true→Gd w→lineT w (itemsK l)=ritsT l∧Gd (lastT w (itemsK l))
 | c,[],w,_,hw=>by
  rw[itemsK,ritsT]
  exact⟨rfl,hw⟩
 | c,i::l,w,h,hw=>by
  rw[itsR] at h
  split at h
  ·rename_i hq
   have a:=line_item c i w hq hw
   have b:=line_items _ l _ h a.2
   rw[itemsK,ritsT,lineT_app,lastT_app,a.1,b.1]
   exact⟨rfl,b.2⟩
  ·cases h
end
end
section
set_option linter.unusedVariables false
set_option linter.unusedSimpArgs false
structure Ls (w:List UInt8):Prop where
 b:bareB w=false
 e:w.isEmpty=false
theorem Gd.ls {w:List UInt8} (h:Gd w):Ls w:=⟨h.b,h.e⟩
theorem lineT_ls {l:List UInt8} {x:Tk} {ts:List Tk} (hl:Ls l) (hx:bareA x.2.1=false):lineT l (x::ts)=32::(x.2.1++lineT x.2.1 ts):=by
 rw[lineT,if_pos (by unfold spB;rw[hl.e,hl.b,hx];rfl)]
 rfl
theorem ls_one {l:List UInt8} {x:Tk} (hl:Ls l) (hx:bareA x.2.1=false):lineT l [x]=32::x.2.1:=by
 rw[lineT_ls hl hx]
 show 32::(x.2.1++[])=_
 rw[List.append_nil]
theorem lineT_open {x:Tk} {ts:List Tk}:lineT [123] (x::ts)=x.2.1++lineT x.2.1 ts:=by
 rw[lineT,if_neg (by unfold spB;rw[show bareB [123]=true from by decide];simp)]
 rfl
theorem lineT_dot {x:Tk} {ts:List Tk}:lineT [46] (x::ts)=x.2.1++lineT x.2.1 ts:=by
 rw[lineT,if_neg (by unfold spB;rw[show bareB [46]=true from by decide];simp)]
 rfl
def partK (x:Sy):List Tk:=if em x.sep then (if em x.name then [setT x.set] else [namT x.name]) else [sgT [123],namT x.name,quoT x.sep,sgT [125]]
theorem line_part {x:Sy} {w:List UInt8} (h1:em x.name=false→nm x.name=true) (h2:em x.sep=false→em x.name=false) (hw:Ls w):lineT w (partK x)=32::rpart x∧Ls (lastT w (partK x)):=by
 unfold partK rpart rpart1
 cases hs:em x.sep with
 | true=>
  cases hn:em x.name with
  | true=>
   simp only[if_true]
   rw[ls_one (x:=setT x.set) hw (gd_set _).a]
   exact⟨rfl,(gd_set x.set).ls⟩
  | false=>
   simp only[if_true,Bool.false_eq_true,if_false]
   rw[ls_one (x:=namT x.name) hw (gd_nm (h1 hn)).a]
   exact⟨rfl,(gd_nm (h1 hn)).ls⟩
 | false=>
  have hn:=h2 hs
  have g:=gd_nm (h1 hn)
  rw[hn]
  simp only[Bool.false_eq_true,if_false]
  rw[lineT_ls (x:=sgT [123]) hw (by decide)]
  refine⟨?_,show Ls [125] from ⟨by decide,rfl⟩⟩
  show 32::([123]++lineT [123] (namT x.name::[quoT x.sep,sgT [125]]))=_
  rw[lineT_open,lineT_ls (l:=(namT x.name).2.1) (x:=quoT x.sep) g.ls (gd_quo _).a,lineT_bare (x:=sgT [125]) (by decide)]
  show 32::([123]++(x.name.data.toList++(32::(quoteL (bysN x.sep)++([125]++[])))))=_
  simp
theorem eqS_eq {x y:Sy} (h:eqS x y=true):x=y:=by
 unfold eqS at h
 exact @of_decide_eq_true _ (Classical.propDecidable _) h
theorem often_of {x:Sy} (h:oftenB x=true):(em x.name=false→nm x.name=true)∧(em x.sep=false→em x.name=false):=by
 unfold oftenB at h
 cases hn:em x.name with
 | true=>
  rw[hn,if_pos rfl] at h
  have e:=congrArg Sy.sep (eqS_eq h)
  refine⟨fun h=>(by cases h),fun h2=>?_⟩
  rw[e] at h2
  cases h2
 | false=>
  rw[hn,if_neg (by decide)] at h
  simp only[Bool.and_eq_true] at h
  exact⟨fun _=>h.1.2,fun _=>rfl⟩
theorem sym_of {x:Sy} (h:symB x=true):x.kind=1∨(x.kind≠1∧(em x.name=false→nm x.name=true)∧(em x.sep=false→em x.name=false)):=by
 by_cases h1:x.kind=1
 ·exact .inl h1
 refine .inr ⟨h1,?_⟩
 unfold symB at h
 rw[if_neg h1] at h
 split at h
 ·have a:=congrArg Sy.name (eqS_eq h)
  have b:=congrArg Sy.sep (eqS_eq h)
  refine⟨fun h=>?_,fun h=>?_⟩
  ·rw[a] at h;cases h
  ·rw[b] at h;cases h
 split at h
 ·simp only[Bool.and_eq_true] at h
  have b:=congrArg Sy.sep (eqS_eq h.1)
  refine⟨fun _=>h.2,fun h=>?_⟩
  rw[b] at h;cases h
 split at h
 ·simp only[Bool.and_eq_true] at h
  exact often_of h.2
 split at h
 ·exact often_of h
 split at h
 ·exact often_of h
 ·cases h
theorem line_sym {x:Sy} {w:List UInt8} (h:symB x=true) (hw:Ls w):lineT w (symK x)=32::rsymT x∧Ls (lastT w (symK x)):=by
 rcases sym_of h with h1 | ⟨h1,h2,h3⟩
 ·unfold symK rsymT
  rw[if_pos h1,if_pos h1,ls_one (x:=quoT x.text) hw (gd_quo _).a]
  exact⟨rfl,(gd_quo _).ls⟩
 ·have p:=line_part h2 h3 hw
  have e:symK x=partK x++oftK x.kind:=by unfold symK partK;rw[if_neg h1]
  rw[e,lineT_app,lastT_app,p.1]
  unfold oftK rsymT
  rw[if_neg h1]
  split
  ·rw[lineT_bare (x:=sgT [63]) (by decide)]
   exact⟨rfl,show Ls [63] from ⟨by decide,rfl⟩⟩
  split
  ·rw[lineT_bare (x:=sgT [42]) (by decide)]
   exact⟨rfl,show Ls [42] from ⟨by decide,rfl⟩⟩
  split
  ·rw[lineT_bare (x:=sgT [43]) (by decide)]
   exact⟨rfl,show Ls [43] from ⟨by decide,rfl⟩⟩
  ·exact⟨by show 32::rpart x++[]=_;rw[List.append_nil],p.2⟩
theorem line_syms:∀{l:List Sy} {w:List UInt8},(∀x∈l,symB x=true)→Ls w→lineT w (l.flatMap symK)=(l.flatMap fun x=>32::rsymT x)∧Ls (lastT w (l.flatMap symK))
 | [],w,_,hw=>⟨rfl,hw⟩
 | x::l,w,h,hw=>by
  have a:=line_sym (h x (by simp)) hw
  have b:=line_syms (l:=l) (fun y hy=>h y (List.mem_cons_of_mem _ hy)) a.2
  rw[List.flatMap_cons,List.flatMap_cons,lineT_app,lastT_app,a.1,b.1]
  exact⟨rfl,b.2⟩
end
section
set_option linter.unusedVariables false
set_option linter.unusedSimpArgs false
theorem gd61:Gd [61]:=⟨by decide,by decide,rfl⟩
theorem line_cons {c:ByteArray} {w:List UInt8} (h:nmN c=true) (hw:Gd w):lineT w (consK c)=(if em c then [] else [46]++c.data.toList)∧Gd (lastT w (consK c)):=by
 unfold consK
 cases he:em c with
 | true=>exact⟨rfl,hw⟩
 | false=>
  unfold nmN at h
  rw[he,Bool.false_or] at h
  simp only[Bool.false_eq_true,if_false]
  rw[lineT_bare (x:=sgT [46]) (by decide)]
  refine⟨?_,gd_nm h⟩
  show [46]++lineT [46] [namT c]=_
  rw[lineT_dot]
  show [46]++(c.data.toList++[])=_
  rw[List.append_nil]
theorem line_prod {p:Pr} (h:prodB p=true):lineT [] (prodK p)=rprodT p:=by
 unfold prodB at h
 simp only[Bool.and_eq_true,List.all_eq_true] at h
 obtain⟨⟨⟨⟨p1,p2⟩,_⟩,_⟩,p5⟩:=h
 have g:=gd_nm p1
 have c:=line_cons p2 g
 have s:=line_syms (w:=[61]) p5 gd61.ls
 have hk:Gd (keyT (if p.lex then [108,101,120] else [99,102])).2.1:=by cases p.lex<;>exact gd_long (by decide)
 unfold prodK rprodT rprodA
 rw[lineT_first,lineT_gd (x:=namT p.sort) hk g]
 show (if p.lex then [108,101,120] else [99,102])++32::(p.sort.data.toList++lineT p.sort.data.toList (consK p.cons++sgT [61]::(p.syms.flatMap symK++if p.bracket then [keyT [98,114,97,99,107,101,116]] else [])))=_
 rw[lineT_app,c.1,lineT_gd (x:=sgT [61]) c.2 gd61]
 show _++32::(p.sort.data.toList++(_++32::([61]++lineT [61] (p.syms.flatMap symK++if p.bracket then [keyT [98,114,97,99,107,101,116]] else []))))=_
 rw[lineT_app,s.1]
 have hb:lineT (lastT [61] (p.syms.flatMap symK)) (if p.bracket then [keyT [98,114,97,99,107,101,116]] else [])=if p.bracket then [32,98,114,97,99,107,101,116] else []:=by
  cases p.bracket
  ·rfl
  ·simp only[if_true]
   rw[ls_one (x:=keyT [98,114,97,99,107,101,116]) s.2 (by decide)]
   rfl
 rw[hb]
 cases p.lex<;>simp
theorem line_follow {f:Fo} (h:nm f.sort=true):lineT [] (followK f)=[102,111,108,108,111,119]++(32::(f.sort.data.toList++(32::printL f.set))):=by
 unfold followK
 rw[lineT_first,lineT_gd (x:=namT f.sort) (gd_long (by decide)) (gd_nm h),line_one (w:=(namT f.sort).2.1) (x:=setT f.set) (gd_nm h) (gd_set _)]
 rfl
theorem line_box {b:Bo} (h:boxB b=true):lineT [] (boxK b)=[98,111,120]++(32::(b.cons.data.toList++(32::([61]++ritsT b.items)))):=by
 unfold boxB at h
 simp only[Bool.and_eq_true] at h
 have i:=line_items 0 b.items [61] h.2 gd61
 unfold boxK
 rw[lineT_first,lineT_gd (x:=namT b.cons) (gd_long (by decide)) (gd_nm h.1),lineT_gd (l:=(namT b.cons).2.1) (x:=sgT [61]) (gd_nm h.1) gd61]
 show _++32::(_++32::([61]++lineT [61] (itemsK b.items)))=_
 rw[i.1]
 rfl
end
section
set_option linter.unusedVariables false
set_option linter.unusedSimpArgs false
theorem line_sta {k:List UInt8} {s:ByteArray} (hk:2≤k.length) (h:nmN s=true):(if em s then ([]:List (List Tk)) else [[keyT k,namT s]]).map (lineT [])=rstaT (k++[32]) s:=by
 unfold rstaT
 cases he:em s with
 | true=>rfl
 | false=>
  unfold nmN at h
  rw[he,Bool.false_or] at h
  simp only[Bool.false_eq_true,if_false,List.map_cons,List.map_nil]
  rw[lineT_first,line_one (w:=(keyT k).2.1) (x:=namT s) (gd_long hk) (gd_nm h)]
  show [k++32::s.data.toList]=_
  simp
theorem map_same {α β:Type} {l:List α} {f g:α→β} (h:∀x∈l,f x=g x):l.map f=l.map g:=List.map_congr_left h
theorem lines_eq {d:Df} (h:RightD d):rlinesT d=(stmtsK d).map (lineT []):=by
 unfold rlinesT stmtsK startK layoutK
 simp only[List.map_append,List.map_map]
 rw[line_sta (k:=[115,116,97,114,116]) (by decide) h.s,line_sta (k:=[108,97,121,111,117,116]) (by decide) h.l]
 rw[map_same (l:=d.prods) (f:=lineT []∘prodK) (g:=rprodT) (fun x hx=>line_prod (h.p x hx)),
  map_same (l:=d.chains) (f:=lineT []∘prioK) (g:=rchainT) (fun x hx=>line_prio (h.c x hx)),
  map_same (l:=d.follows) (f:=lineT []∘followK) (g:=rfolT) (fun x hx=>by show lineT [] (followK x)=_;rw[line_follow (h.f x hx)];unfold rfolT;simp),
  map_same (l:=d.rejects) (f:=lineT []∘rejectK) (g:=rrejT) (fun x hx=>by show lineT [] (rejectK x)=_;rw[line_reject (h.r x hx).1 (h.r x hx).2];unfold rrejT;simp),
  map_same (l:=d.boxes) (f:=lineT []∘boxK) (g:=rboxT) (fun x hx=>by show lineT [] (boxK x)=_;rw[line_box (h.b x hx)];unfold rboxT;simp)]
 rfl
end
section
set_option linter.unusedVariables false
set_option linter.unusedSimpArgs false
theorem putW_up:∀(ts:List Tk) (st:List UInt8×List UInt8),(putW st (txs ts)).1.length≤st.1.length+(lineT st.2 ts).length
 | [],st=>Nat.le_refl _
 | x::ts,st=>by
  show (putW st (x.2.1::txs ts)).1.length≤_
  rw[putW,lineT]
  split
  ·omega
  ·have i:=putW_up ts (st.1++(if spB st.2 x.2.1 then [32] else [])++x.2.1,x.2.1)
   simp only[List.length_append] at i ⊢
   omega
theorem finW_up (s:List Tk) (t:List UInt8):(finW (putW (t,[]) (txs s))).1.length≤t.length+(lineS s).length:=by
 unfold finW lineS
 have e:putW (putW (t,[]) (txs s)) [[59]]=putW (t,[]) (txs (s++[sgT [59]])):=by rw[txs_app,putW_app];rfl
 rw[e]
 have i:=putW_up (s++[sgT [59]]) (t,[])
 simp only[List.length_append] at i ⊢
 omega
theorem wrS_up:∀(ss:List (List Tk)) (t:List UInt8),(wrS ss (t,[])).1.length≤t.length+(ss.flatMap lineS).length
 | [],t=>Nat.le_refl _
 | s::ss,t=>by
  have a:=finW_up s t
  have b:=wrS_up ss (finW (putW (t,[]) (txs s))).1
  have e:(wrS (s::ss) (t,[]))=wrS ss ((finW (putW (t,[]) (txs s))).1,[]):=rfl
  rw[e,List.flatMap_cons,List.length_append]
  omega
/- What the document's Print tells of right definitions. -/
noncomputable def rtext (d:Df):List UInt8:=(rlinesT d).flatMap fun l=>l++[59,10]
theorem rtext_eq {d:Df} (h:RightD d):rtext d=(stmtsK d).flatMap lineS:=by
 unfold rtext
 rw[lines_eq h,List.flatMap_map]
 congr 1
 funext s
 exact (lineS_eq s).symm
theorem prt_rtext {d:Df} (h:RightD d):prtD d=if 65536<(rtext d).length then ([],2) else (rtext d,0):=by
 unfold prtD
 rw[if_pos ((right_iff d).2 h),rtext_eq h]
 have a:=wrS_up (stmtsK d) []
 have b:=wrS_text (stmtsK d) []
 by_cases hl:(wrS (stmtsK d) ([],[])).1.length≤65536
 ·have e:=b hl
  rw[List.nil_append] at e
  rw[e]
 ·simp only[List.length_nil,Nat.zero_add] at a
  rw[if_pos (by omega),if_pos (by omega)]
end
section
set_option linter.unusedVariables false
set_option linter.unusedSimpArgs false
theorem rprodT_le {p:Pr} (h:prodB p=true):(rprodT p).length≤1000000:=by
 unfold prodB at h
 simp only[Bool.and_eq_true,List.all_eq_true] at h
 obtain⟨⟨⟨⟨p1,p2⟩,_⟩,p4⟩,p5⟩:=h
 have q1:=nm_size p1
 have q2:=nmN_size p2
 have n:p.syms.length≤12:=by unfold btw at p4;simp only[Bool.and_eq_true,decide_eq_true_eq] at p4;omega
 have f:=flat_take p5 12
 rw[List.take_of_length_le n] at f
 have a:(if p.lex=true then ([108,101,120,32]:List UInt8) else [99,102,32]).length≤4:=by split<;>simp
 have b:(if em p.cons=true then ([]:List UInt8) else [46]++p.cons.data.toList).length≤33:=by
  split
  ·simp
  ·rw[List.length_append,list_len];simp;omega
 have c:(if p.bracket=true then ([32,98,114,97,99,107,101,116]:List UInt8) else []).length≤8:=by split<;>simp
 unfold rprodT rprodA
 simp only[List.length_append,list_len,List.length_cons,List.length_nil] at *
 omega
theorem rsta_le {k:List UInt8} {s:ByteArray} (hk:k.length≤10) (h:nmN s=true):∀l∈rstaT k s,l.length≤1000000:=by
 have q:=nmN_size h
 intro l hl
 unfold rstaT at hl
 split at hl
 ·cases hl
 ·simp only[List.mem_singleton] at hl
  rw[hl,List.length_append,list_len]
  omega
theorem rlines_le {d:Df} (h:RightD d):∀l∈rlinesT d,l.length≤1000000:=by
 intro l hl
 unfold rlinesT at hl
 simp only[List.mem_append,List.mem_map] at hl
 rcases hl with (((((hl | hl) | ⟨x,hx,rfl⟩) | ⟨x,hx,rfl⟩) | ⟨x,hx,rfl⟩) | ⟨x,hx,rfl⟩) | ⟨x,hx,rfl⟩
 ·exact rsta_le (by decide) h.s l hl
 ·exact rsta_le (by decide) h.l l hl
 ·exact rprodT_le (h.p x hx)
 ·have:=rchainT_le (h.c x hx);omega
 ·have q:=nm_size (h.f x hx)
  have p:=print_le x.set
  unfold rfolT
  simp only[List.length_append,list_len,List.length_cons,List.length_nil]
  omega
 ·have q:=nm_size (h.r x hx).1
  have p:=nm_size (h.r x hx).2
  unfold rrejT
  simp only[List.length_append,list_len,List.length_cons,List.length_nil]
  omega
 ·have hb:=h.b x hx
  unfold boxB at hb
  simp only[Bool.and_eq_true] at hb
  have q:=nm_size hb.1
  have p:=rits_bd (Nat.zero_le 64) hb.2
  unfold rboxT
  simp only[List.length_append,list_len,List.length_cons,List.length_nil]
  omega
end
end Go.Proofs.YtcpakcffiopfjaaGreatDoor
