/- A definition's lists, appended to those of a copy. -/
import Derived.Test.YtcpakcffiopfjaaGreatDoorH3
import Derived.Test.YtcpakcffiopfjaaGreatDoorTm
namespace Go.Proofs.YtcpakcffiopfjaaGreatDoor
open Go.RowKit
set_option linter.unusedVariables false
set_option linter.unusedSimpArgs false
set_option maxRecDepth 100000
set_option maxHeartbeats 8000000
theorem run_app_slm {α:Type} {w:World} (t ty e k bytes:Nat) {z:Value} (ht:Tryz.prog.underlying t=some (.slice e)) (hinfo:(Tryz.prog.info? e).map (fun i=>(i.zero,i.size,i.bytes))=some (some z,k,bytes)) (hzs:z.cells.size=k) (hk0:0<k)
  (cf:α→List Value) (hcf:∀x,(cf x).length=k) (lo:Nat) (v:Value) (n:Nat) (xs:List Value) (hown:w.ownsRow lo e k v n xs) (l:List α) (ad:Option Addr) (c:Nat)
  (hr:∀j x,l[j]?=some x→∃b o,ad=some ⟨b,o,none⟩∧∀i u,(cf x)[i]?=some u→w.cell? ⟨b,o+j*k+i,none⟩=some u) (h1:∀x∈l,∀u∈cf x,u.oneCell'=true) (h63:n+l.length≤maxLen) (hby:(n+l.length)*bytes≤140737488355328) (hbase:lo≤w.heap.size) :
  ∃va vc w',(Builtin.append_ #[t,t] ty #[v,.slice ad l.length c]).run Tryz.prog w=.ok (.slice va (n+l.length) vc) w'∧w'.ownsRow lo e k (.slice va (n+l.length) vc) (n+l.length) (xs++l.flatMap cf)∧w.grownBy w' v.ownBlock:=by
 obtain⟨i0,hinf,hz0,hz1,hz2⟩:=info_parts hinfo
 cases ad with
 | none=>
  cases l with
  | cons x l=>obtain⟨b,o,e,_⟩:=hr 0 x rfl;cases e
  | nil=>
   obtain⟨va,vc,rfl⟩:=own_slice hown
   refine⟨va,vc,w,run_none0 lo t ty e i0 k ht hinf _ n c xs hown,by simpa using hown,World.grownBy.refl _ _⟩
 | some a=>
  obtain⟨v',w',hrun,h2,h3,_⟩:=run_append_own_at (P:=Tryz.prog) w lo t ty e i0 z k bytes ht hinf hz0 hz1 hz2 hzs hk0 v n xs hown a l.length c (l.flatMap cf) (flat_len hcf l) (fun q u hq=>by
   obtain⟨j,x,i,hj,hi,rfl⟩:=flat_of hcf l q u hq
   obtain⟨b,o,e,hc⟩:=hr j x hj
   cases e
   have e:(⟨b,o,none⟩:Addr).add (j*k+i)=⟨b,o+j*k+i,none⟩:=by unfold Addr.add;split<;>simp_all [Nat.add_assoc]
   rw[e];exact hc i u hi) (fun u hu=>by
   obtain⟨x,hm,hx⟩:=List.mem_flatMap.1 hu
   exact h1 x hm u hx) h63 hby hbase
  obtain⟨va,vc,rfl⟩:=own_slice h2
  exact⟨va,vc,w',hrun,h2,h3⟩
theorem wp_app_slm {α:Type} {w:World} {o:Oper} {a:Act} {K:Act→World→Prop} {Q:Exit→Act→World→Prop} (s x:Operand) (t e k bytes:Nat) {z:Value} (ho:o.op=.call { callee:=.builtin .append,args:=#[s,x],argTypes:=#[t,t] }) (ht:Tryz.prog.underlying t=some (.slice e)) (hinfo:(Tryz.prog.info? e).map (fun i=>(i.zero,i.size,i.bytes))=some (some z,k,bytes)) (hzs:z.cells.size=k) (hk0:0<k)
  (cf:α→List Value) (hcf:∀x,(cf x).length=k) (lo:Nat) (v:Value) (n:Nat) (xs:List Value) (hs:a.eval s=v) (hown:w.ownsRow lo e k v n xs) (l:List α) (ad:Option Addr) (c:Nat) (hx:a.eval x=.slice ad l.length c)
  (hr:∀j x,l[j]?=some x→∃b o,ad=some ⟨b,o,none⟩∧∀i u,(cf x)[i]?=some u→w.cell? ⟨b,o+j*k+i,none⟩=some u) (h1:∀x∈l,∀u∈cf x,u.oneCell'=true) (h63:n+l.length≤maxLen) (hby:(n+l.length)*bytes≤140737488355328) (hbase:lo≤w.heap.size)
  (h:∀va vc w',w'.ownsRow lo e k (.slice va (n+l.length) vc) (n+l.length) (xs++l.flatMap cf)→w.grownBy w' v.ownBlock→K (a.put o.dst (.slice va (n+l.length) vc)) w'):o.wp Tryz.prog a w K Q:=by
 obtain⟨va,vc,w',hrun,h2,h3⟩:=run_app_slm (w:=w) t o.type e k bytes ht hinfo hzs hk0 cf hcf lo v n xs hown l ad c hr h1 h63 hby hbase
 unfold Oper.wp execOp
 simp only[ho,resolve,invoke,builtin,Sem.run_bind,Sem.run_pure,Result.andThen_ok,List.map_toArray,List.map_cons,List.map_nil,hs,hx,hrun]
 exact h va vc w' h2 h3
theorem wpList_app_slm {α:Type} {w:World} {ops:Array Oper} {rest:List Oper} {o:Oper} {a:Act} {Q:Exit→Act→World→Prop} (hgd:o.guard=none) (s x:Operand) (t e k bytes:Nat) {z:Value} (ho:o.op=.call { callee:=.builtin .append,args:=#[s,x],argTypes:=#[t,t] }) (ht:Tryz.prog.underlying t=some (.slice e)) (hinfo:(Tryz.prog.info? e).map (fun i=>(i.zero,i.size,i.bytes))=some (some z,k,bytes)) (hzs:z.cells.size=k) (hk0:0<k)
  (cf:α→List Value) (hcf:∀x,(cf x).length=k) (lo:Nat) (v:Value) (n:Nat) (xs:List Value) (hs:a.eval s=v) (hown:w.ownsRow lo e k v n xs) (l:List α) (ad:Option Addr) (c:Nat) (hx:a.eval x=.slice ad l.length c)
  (hr:∀j x,l[j]?=some x→∃b o,ad=some ⟨b,o,none⟩∧∀i u,(cf x)[i]?=some u→w.cell? ⟨b,o+j*k+i,none⟩=some u) (h1:∀x∈l,∀u∈cf x,u.oneCell'=true) (h63:n+l.length≤maxLen) (hby:(n+l.length)*bytes≤140737488355328) (hbase:lo≤w.heap.size)
  (h:∀va vc w',w'.ownsRow lo e k (.slice va (n+l.length) vc) (n+l.length) (xs++l.flatMap cf)→w.grownBy w' v.ownBlock→wpList Tryz.prog ops Q rest (a.put o.dst (.slice va (n+l.length) vc)) w'):wpList Tryz.prog ops Q (o::rest) a w:=
 wpList_plain hgd fun _ hK=>wp_app_slm s x t e k bytes ho ht hinfo hzs hk0 cf hcf lo v n xs hs hown l ad c hx hr h1 h63 hby hbase fun va vc w' h2 h3=>hK _ _ (h va vc w' h2 h3)
mutual
theorem itz:∀ (c:Nat) (i:It),(itR c i).2=true→c<(itR c i).1∧∃f,ItZ f i
 | c,.mk k tx n l,h=>by
  rw[itR] at h ⊢
  split at h
  ·rename_i hc
   rw[if_pos hc]
   have k1:=itsz (c+1) l h
   have k2:=(itsR_le (c+1) l hc.1).2 h
   obtain⟨f,hf⟩:=k1.2
   exact⟨by omega,f+1,by show l.length*56≤140737488355328;omega,hf⟩
  ·cases h
theorem itsz:∀ (c:Nat) (l:List It),(itsR c l).2=true→c+l.length≤(itsR c l).1∧∃f,∀x∈l,ItZ f x
 | c,[],h=>by rw[itsR];exact⟨Nat.le_refl _,0,fun x hx=>(by cases hx)⟩
 | c,i::l,h=>by
  rw[itsR] at h ⊢
  split at h
  ·rename_i hi
   rw[if_pos hi]
   obtain⟨h1,f1,g1⟩:=itz c i hi
   obtain⟨h2,f2,g2⟩:=itsz _ l h
   refine⟨by rw[List.length_cons];omega,f1+f2,fun x hx=>?_⟩
   rcases List.mem_cons.1 hx with rfl | hx
   ·exact g1.ups (by omega)
   ·exact (g2 x hx).ups (by omega)
  ·cases h
end
theorem box_fuel:∀ {l:List Bo},(∀b∈l,∃f,BoZ f b)→∃f,∀b∈l,BoZ f b
 | [],_=>⟨0,fun b h=>by cases h⟩
 | x::l,h=>by
  obtain⟨f,hf⟩:=box_fuel (l:=l) (fun b hb=>h b (List.mem_cons_of_mem _ hb))
  obtain⟨g,hg⟩:=h x (by simp)
  refine⟨f+g,fun b hb=>?_⟩
  rcases List.mem_cons.1 hb with rfl | hb
  ·exact hg.ups (by omega)
  ·exact (hf b hb).ups (by omega)
theorem btw_le {n:Nat} {m:Int} (h:btw (n:Int) m=true):(n:Int)≤m:=by
 unfold btw at h
 simp only[Bool.and_eq_true,decide_eq_true_eq] at h
 omega
theorem szd_of {d:Df} (h:RightD d) (hc:d.chains.length≤1000000) (hf:d.follows.length≤1000000) (hr:d.rejects.length≤1000000) (hb:d.boxes.length≤1000000):∃f,SzD f d:=by
 obtain⟨f,hbz⟩:=box_fuel (l:=d.boxes) (fun b hm=>by
  have k:=h.b b hm
  unfold boxB at k
  simp only[Bool.and_eq_true] at k
  obtain⟨h1,f,h2⟩:=itsz 0 b.items k.2
  have h3:=(itsR_le 0 b.items (by omega)).2 k.2
  exact⟨f,by show b.items.length*56≤140737488355328;omega,h2⟩)
 refine⟨f,by have:=h.n;omega,by omega,by omega,by omega,by omega,fun p hp=>?_,fun c hcm=>?_,hbz⟩
 ·have k:=h.p p hp
  unfold prodB at k
  simp only[Bool.and_eq_true] at k
  have:=btw_le k.1.2
  omega
 ·have k:=h.c c hcm
  unfold chainB at k
  simp only[Bool.and_eq_true,List.all_eq_true] at k
  have h1:=btw_le k.1
  refine⟨by omega,fun g hg=>?_⟩
  have k2:=k.2 g hg
  unfold groupB at k2
  simp only[Bool.and_eq_true] at k2
  have:=btw_le k2.1.2
  omega
theorem row_pairs {α:Type} [Inhabited α] {w:World} {B n:Nat} {V:α→List Value→Prop} {P:α→Value→Prop} {cf:α×Value→List Value} {a:Option Addr} {l:List α} (h:Row w B n V a l) (hV:∀x vs,V x vs→∃v,vs=cf (x,v)∧P x v):
  ∃L:List (α×Value),L.map (·.1)=l∧(∀q∈L,P q.1 q.2)∧∀j q,L[j]?=some q→∃b o,a=some ⟨b,o,none⟩∧b<B∧∀i u,(cf q)[i]?=some u→w.cell? ⟨b,o+j*n+i,none⟩=some u:=by
 haveI:Inhabited (α×Value):=⟨(default,.bool false)⟩
 obtain⟨L,hl,hp⟩:=list_of (α:=α×Value) (n:=l.length) (p:=fun i q=>l[i]?=some q.1∧P q.1 q.2∧∃b o,a=some ⟨b,o,none⟩∧b<B∧∀k u,(cf q)[k]?=some u→w.cell? ⟨b,o+i*n+k,none⟩=some u) (fun i hi=>by
  obtain⟨b,o,vs,e,hlt,hv,hc⟩:=h i l[i] (by simp)
  obtain⟨v,rfl,hP⟩:=hV _ _ hv
  exact⟨(l[i],v),by simp,hP,b,o,e,hlt,hc⟩)
 refine⟨L,?_,fun q hq=>?_,fun j q hq=>(hp j q hq).2.2⟩
 ·apply List.ext_getElem?
  intro i
  rw[List.getElem?_map]
  rcases Nat.lt_or_ge i l.length with hi | hi
  ·obtain⟨q,hq⟩:∃q,L[i]?=some q:=⟨L[i]'(by omega),by simp⟩
   rw[hq,(hp i q hq).1];rfl
  ·rw[List.getElem?_eq_none (by omega),List.getElem?_eq_none hi];rfl
 ·obtain⟨j,hj⟩:=List.getElem?_of_mem hq
  exact (hp j q hj).2.1
theorem own_slV {α β:Type} {W:World} {base e size:Nat} {v:Value} {cf:α→List Value} {l:List α} (g:α→β) (V:β→List Value→Prop) (hn:∀x,(cf x).length=size) (hr:W.ownsRow base e size v l.length (l.flatMap cf)) (hv:∀x∈l,V (g x) (cf x)) (hle:l.length≤140737488355328):Sl W W.heap.size size V (l.map g) v:=by
 obtain⟨a,c,rfl,hc⟩:=own_cap hr
 refine⟨a,c,by rw[List.length_map],by rw[List.length_map];exact hc,by rw[List.length_map];exact hle,fun j x hj=>?_⟩
 rw[List.getElem?_map,Option.map_eq_some_iff] at hj
 obtain⟨y,hy,rfl⟩:=hj
 obtain⟨g',cap',e',_,hg',hcl⟩:=own_rows hn hr hy
 cases e'
 exact⟨g',0,cf y,rfl,hg',hv y (List.mem_of_getElem? hy),hcl⟩
/- A copy while lists are appended to it. -/
structure TW (wc W:World) (bw base:Nat) (st lo:ByteArray) (S:Nat→Prop) (u2 u3 u4 u5 u6:Value) (Lp:List (Pr×Value)) (Lc:List (List Gr×Value)) (Lf:List Fo) (Lr:List Re) (Lb:List (Bo×Value)):Prop where
 bel:Below bw wc W
 lt:bw<base
 hb:base≤wc.heap.size
 box:Blk W bw 28 #[.string st,.string lo,u2,u3,u4,u5,u6]
 p2:W.ownsRow base 57 5 u2 Lp.length (Lp.flatMap pcell)
 p3:W.ownsRow base 58 1 u3 Lc.length (Lc.flatMap ccell)
 p4:W.ownsRow base 52 5 u4 Lf.length (Lf.flatMap fcell)
 p5:W.ownsRow base 73 2 u5 Lr.length (Lr.flatMap rcell)
 p6:W.ownsRow base 64 2 u6 Lb.length (Lb.flatMap bxcell)
 ks:∀b,S b→base≤b∧b<wc.heap.size∧W.heap[b]?=wc.heap[b]?
section
variable {wc W w7:World} {bw base:Nat} {st lo:ByteArray} {S:Nat→Prop} {u2 u3 u4 u5 u6 x:Value} {Lp:List (Pr×Value)} {Lc:List (List Gr×Value)} {Lf:List Fo} {Lr:List Re} {Lb:List (Bo×Value)}
theorem TW.a2 (h:TW wc W bw base st lo S u2 u3 u4 u5 u6 Lp Lc Lf Lr Lb) {m:List (Pr×Value)} (hg:W.grownBy w7 u2.ownBlock) (hown:w7.ownsRow base 57 5 x (Lp.length+m.length) (Lp.flatMap pcell++m.flatMap pcell)) (hs:∀b,S b→some b≠u2.ownBlock):
  Blk w7 bw 28 #[.string st,.string lo,u2,u3,u4,u5,u6]∧TW wc (w7.setCell ⟨bw,2,none⟩ x) bw base st lo S x u3 u4 u5 u6 (Lp++m) Lc Lf Lr Lb:=by
 have hlo:∀b,u2.ownBlock=some b→base≤b:=fun b hb=>(h.p2.lt b hb).1
 have hbl:=h.lt
 have hsz:=h.bel.size
 have hbb:=h.hb
 have box7:=h.box.kept hg (fun e=>by have:=hlo _ e.symm;omega)
 have hset:=grownBy_setCell w7 bw 2 x
 refine⟨box7,h.bel.trans ((below_grO hg (fun b hb=>by have:=hlo b hb;omega) (by omega)).trans (below_gr hset (Nat.le_refl _) (by have:=hg.size;omega))),h.lt,h.hb,box7.set 2 x,by rw[List.flatMap_append,List.length_append];exact own_kept hown hset h.lt,own_kept (h.p3.kept hg (row_ne h.p3 h.p2 (by decide))) hset h.lt,own_kept (h.p4.kept hg (row_ne h.p4 h.p2 (by decide))) hset h.lt,own_kept (h.p5.kept hg (row_ne h.p5 h.p2 (by decide))) hset h.lt,own_kept (h.p6.kept hg (row_ne h.p6 h.p2 (by decide))) hset h.lt,fun b hb=>?_⟩
 obtain⟨k1,k2,k3⟩:=h.ks b hb
 exact⟨k1,k2,(hset.block b (by have:=hg.size;omega) (by simp;omega)).trans ((hg.block b (by omega) (hs b hb)).trans k3)⟩
theorem TW.a3 (h:TW wc W bw base st lo S u2 u3 u4 u5 u6 Lp Lc Lf Lr Lb) {m:List (List Gr×Value)} (hg:W.grownBy w7 u3.ownBlock) (hown:w7.ownsRow base 58 1 x (Lc.length+m.length) (Lc.flatMap ccell++m.flatMap ccell)) (hs:∀b,S b→some b≠u3.ownBlock):
  Blk w7 bw 28 #[.string st,.string lo,u2,u3,u4,u5,u6]∧TW wc (w7.setCell ⟨bw,3,none⟩ x) bw base st lo S u2 x u4 u5 u6 Lp (Lc++m) Lf Lr Lb:=by
 have hlo:∀b,u3.ownBlock=some b→base≤b:=fun b hb=>(h.p3.lt b hb).1
 have hbl:=h.lt
 have hsz:=h.bel.size
 have hbb:=h.hb
 have box7:=h.box.kept hg (fun e=>by have:=hlo _ e.symm;omega)
 have hset:=grownBy_setCell w7 bw 3 x
 refine⟨box7,h.bel.trans ((below_grO hg (fun b hb=>by have:=hlo b hb;omega) (by omega)).trans (below_gr hset (Nat.le_refl _) (by have:=hg.size;omega))),h.lt,h.hb,box7.set 3 x,own_kept (h.p2.kept hg (row_ne h.p2 h.p3 (by decide))) hset h.lt,by rw[List.flatMap_append,List.length_append];exact own_kept hown hset h.lt,own_kept (h.p4.kept hg (row_ne h.p4 h.p3 (by decide))) hset h.lt,own_kept (h.p5.kept hg (row_ne h.p5 h.p3 (by decide))) hset h.lt,own_kept (h.p6.kept hg (row_ne h.p6 h.p3 (by decide))) hset h.lt,fun b hb=>?_⟩
 obtain⟨k1,k2,k3⟩:=h.ks b hb
 exact⟨k1,k2,(hset.block b (by have:=hg.size;omega) (by simp;omega)).trans ((hg.block b (by omega) (hs b hb)).trans k3)⟩
theorem TW.a4 (h:TW wc W bw base st lo S u2 u3 u4 u5 u6 Lp Lc Lf Lr Lb) {m:List (Fo)} (hg:W.grownBy w7 u4.ownBlock) (hown:w7.ownsRow base 52 5 x (Lf.length+m.length) (Lf.flatMap fcell++m.flatMap fcell)) (hs:∀b,S b→some b≠u4.ownBlock):
  Blk w7 bw 28 #[.string st,.string lo,u2,u3,u4,u5,u6]∧TW wc (w7.setCell ⟨bw,4,none⟩ x) bw base st lo S u2 u3 x u5 u6 Lp Lc (Lf++m) Lr Lb:=by
 have hlo:∀b,u4.ownBlock=some b→base≤b:=fun b hb=>(h.p4.lt b hb).1
 have hbl:=h.lt
 have hsz:=h.bel.size
 have hbb:=h.hb
 have box7:=h.box.kept hg (fun e=>by have:=hlo _ e.symm;omega)
 have hset:=grownBy_setCell w7 bw 4 x
 refine⟨box7,h.bel.trans ((below_grO hg (fun b hb=>by have:=hlo b hb;omega) (by omega)).trans (below_gr hset (Nat.le_refl _) (by have:=hg.size;omega))),h.lt,h.hb,box7.set 4 x,own_kept (h.p2.kept hg (row_ne h.p2 h.p4 (by decide))) hset h.lt,own_kept (h.p3.kept hg (row_ne h.p3 h.p4 (by decide))) hset h.lt,by rw[List.flatMap_append,List.length_append];exact own_kept hown hset h.lt,own_kept (h.p5.kept hg (row_ne h.p5 h.p4 (by decide))) hset h.lt,own_kept (h.p6.kept hg (row_ne h.p6 h.p4 (by decide))) hset h.lt,fun b hb=>?_⟩
 obtain⟨k1,k2,k3⟩:=h.ks b hb
 exact⟨k1,k2,(hset.block b (by have:=hg.size;omega) (by simp;omega)).trans ((hg.block b (by omega) (hs b hb)).trans k3)⟩
theorem TW.a5 (h:TW wc W bw base st lo S u2 u3 u4 u5 u6 Lp Lc Lf Lr Lb) {m:List (Re)} (hg:W.grownBy w7 u5.ownBlock) (hown:w7.ownsRow base 73 2 x (Lr.length+m.length) (Lr.flatMap rcell++m.flatMap rcell)) (hs:∀b,S b→some b≠u5.ownBlock):
  Blk w7 bw 28 #[.string st,.string lo,u2,u3,u4,u5,u6]∧TW wc (w7.setCell ⟨bw,5,none⟩ x) bw base st lo S u2 u3 u4 x u6 Lp Lc Lf (Lr++m) Lb:=by
 have hlo:∀b,u5.ownBlock=some b→base≤b:=fun b hb=>(h.p5.lt b hb).1
 have hbl:=h.lt
 have hsz:=h.bel.size
 have hbb:=h.hb
 have box7:=h.box.kept hg (fun e=>by have:=hlo _ e.symm;omega)
 have hset:=grownBy_setCell w7 bw 5 x
 refine⟨box7,h.bel.trans ((below_grO hg (fun b hb=>by have:=hlo b hb;omega) (by omega)).trans (below_gr hset (Nat.le_refl _) (by have:=hg.size;omega))),h.lt,h.hb,box7.set 5 x,own_kept (h.p2.kept hg (row_ne h.p2 h.p5 (by decide))) hset h.lt,own_kept (h.p3.kept hg (row_ne h.p3 h.p5 (by decide))) hset h.lt,own_kept (h.p4.kept hg (row_ne h.p4 h.p5 (by decide))) hset h.lt,by rw[List.flatMap_append,List.length_append];exact own_kept hown hset h.lt,own_kept (h.p6.kept hg (row_ne h.p6 h.p5 (by decide))) hset h.lt,fun b hb=>?_⟩
 obtain⟨k1,k2,k3⟩:=h.ks b hb
 exact⟨k1,k2,(hset.block b (by have:=hg.size;omega) (by simp;omega)).trans ((hg.block b (by omega) (hs b hb)).trans k3)⟩
theorem TW.a6 (h:TW wc W bw base st lo S u2 u3 u4 u5 u6 Lp Lc Lf Lr Lb) {m:List (Bo×Value)} (hg:W.grownBy w7 u6.ownBlock) (hown:w7.ownsRow base 64 2 x (Lb.length+m.length) (Lb.flatMap bxcell++m.flatMap bxcell)) (hs:∀b,S b→some b≠u6.ownBlock):
  Blk w7 bw 28 #[.string st,.string lo,u2,u3,u4,u5,u6]∧TW wc (w7.setCell ⟨bw,6,none⟩ x) bw base st lo S u2 u3 u4 u5 x Lp Lc Lf Lr (Lb++m):=by
 have hlo:∀b,u6.ownBlock=some b→base≤b:=fun b hb=>(h.p6.lt b hb).1
 have hbl:=h.lt
 have hsz:=h.bel.size
 have hbb:=h.hb
 have box7:=h.box.kept hg (fun e=>by have:=hlo _ e.symm;omega)
 have hset:=grownBy_setCell w7 bw 6 x
 refine⟨box7,h.bel.trans ((below_grO hg (fun b hb=>by have:=hlo b hb;omega) (by omega)).trans (below_gr hset (Nat.le_refl _) (by have:=hg.size;omega))),h.lt,h.hb,box7.set 6 x,own_kept (h.p2.kept hg (row_ne h.p2 h.p6 (by decide))) hset h.lt,own_kept (h.p3.kept hg (row_ne h.p3 h.p6 (by decide))) hset h.lt,own_kept (h.p4.kept hg (row_ne h.p4 h.p6 (by decide))) hset h.lt,own_kept (h.p5.kept hg (row_ne h.p5 h.p6 (by decide))) hset h.lt,by rw[List.flatMap_append,List.length_append];exact own_kept hown hset h.lt,fun b hb=>?_⟩
 obtain⟨k1,k2,k3⟩:=h.ks b hb
 exact⟨k1,k2,(hset.block b (by have:=hg.size;omega) (by simp;omega)).trans ((hg.block b (by omega) (hs b hb)).trans k3)⟩
end
theorem itsB_fuel {W:World} {S:Nat→Prop}:∀ {L:List (Bo×Value)},(∀q∈L,ItsAt W S q.1.items q.2)→∃f,∀q∈L,SlS W S 4 (ItS W S f) q.1.items q.2
 | [],_=>⟨0,fun q h=>by cases h⟩
 | x::L,h=>by
  obtain⟨f,hf⟩:=itsB_fuel (L:=L) (fun q hq=>h q (List.mem_cons_of_mem _ hq))
  obtain⟨g,hg⟩:=h x (by simp)
  refine⟨f+g,fun q hq=>?_⟩
  rcases List.mem_cons.1 hq with rfl | hq
  ·exact hg.keep (fun _ _ _=>rfl) (fun _ h=>h) (fun _ _ h=>h.ups (by omega))
  ·exact (hf q hq).keep (fun _ _ _=>rfl) (fun _ h=>h) (fun _ _ h=>h.ups (by omega))
/- A definition's lists with what they lead to. -/
structure YP (w:World) (f:Nat) (y:Df) (a2 a3 a4 a5 a6:Option Addr) (Mp:List (Pr×Value)) (Mc:List (List Gr×Value)) (Mb:List (Bo×Value)):Prop where
 ep:Mp.map (·.1)=y.prods
 ec:Mc.map (·.1)=y.chains
 eb:Mb.map (·.1)=y.boxes
 sp:∀q∈Mp,Sl w w.heap.size 8 SyV q.1.syms q.2
 sc:∀q∈Mc,Sl w w.heap.size 2 (GrV w w.heap.size) q.1 q.2
 sb:∀q∈Mb,Sl w w.heap.size 4 (ItV w w.heap.size f) q.1.items q.2
 c2:∀j q,Mp[j]?=some q→∃b o,a2=some ⟨b,o,none⟩∧b<w.heap.size∧∀i u,(pcell q)[i]?=some u→w.cell? ⟨b,o+j*5+i,none⟩=some u
 c3:∀j q,Mc[j]?=some q→∃b o,a3=some ⟨b,o,none⟩∧b<w.heap.size∧∀i u,(ccell q)[i]?=some u→w.cell? ⟨b,o+j*1+i,none⟩=some u
 c4:∀j q,y.follows[j]?=some q→∃b o,a4=some ⟨b,o,none⟩∧b<w.heap.size∧∀i u,(fcell q)[i]?=some u→w.cell? ⟨b,o+j*5+i,none⟩=some u
 c5:∀j q,y.rejects[j]?=some q→∃b o,a5=some ⟨b,o,none⟩∧b<w.heap.size∧∀i u,(rcell q)[i]?=some u→w.cell? ⟨b,o+j*2+i,none⟩=some u
 c6:∀j q,Mb[j]?=some q→∃b o,a6=some ⟨b,o,none⟩∧b<w.heap.size∧∀i u,(bxcell q)[i]?=some u→w.cell? ⟨b,o+j*2+i,none⟩=some u
 ok:∀x∈y.follows,x.set.ok
theorem cells_at {α:Type} {w W:World} {n:Nat} {cf:α→List Value} {a:Option Addr} {l:List α} (h:∀j q,l[j]?=some q→∃b o,a=some ⟨b,o,none⟩∧b<w.heap.size∧∀i u,(cf q)[i]?=some u→w.cell? ⟨b,o+j*n+i,none⟩=some u) (hb:Below w.heap.size w W):∀j q,l[j]?=some q→∃b o,a=some ⟨b,o,none⟩∧∀i u,(cf q)[i]?=some u→W.cell? ⟨b,o+j*n+i,none⟩=some u:=fun j q hq=>by
 obtain⟨b,o,e,hlt,hc⟩:=h j q hq
 exact⟨b,o,e,fun i u hu=>(hb.cell (p:=⟨b,o+j*n+i,none⟩) hlt).trans (hc i u hu)⟩
theorem yp_of {w:World} {y:Df} {vs:List Value} (h:DA w y vs):∃f a2 p2 a3 p3 a4 p4 a5 p5 a6 p6 Mp Mc Mb,vs=[.string y.start,.string y.layout,.slice a2 y.prods.length p2,.slice a3 y.chains.length p3,.slice a4 y.follows.length p4,.slice a5 y.rejects.length p5,.slice a6 y.boxes.length p6]∧YP w f y a2 a3 a4 a5 a6 Mp Mc Mb:=by
 obtain⟨f,v2,v3,v4,v5,v6,rfl,h2,h3,h4,h5,h6⟩:=h.at'
 obtain⟨a2,p2,rfl,_,_,hr2⟩:=h2
 obtain⟨a3,p3,rfl,_,_,hr3⟩:=h3
 obtain⟨a4,p4,rfl,_,_,hr4⟩:=h4
 obtain⟨a5,p5,rfl,_,_,hr5⟩:=h5
 obtain⟨a6,p6,rfl,_,_,hr6⟩:=h6
 obtain⟨Mp,e2,q2,c2⟩:=row_pairs (cf:=pcell) (P:=fun p v=>Sl w w.heap.size 8 SyV p.syms v) hr2 (fun x vs ⟨v,e,h⟩=>⟨v,e,h⟩)
 obtain⟨Mc,e3,q3,c3⟩:=row_pairs (cf:=ccell) (P:=fun p v=>Sl w w.heap.size 2 (GrV w w.heap.size) p v) hr3 (fun x vs ⟨v,e,h⟩=>⟨v,e,h⟩)
 obtain⟨Mb,e6,q6,c6⟩:=row_pairs (cf:=bxcell) (P:=fun p v=>Sl w w.heap.size 4 (ItV w w.heap.size f) p.items v) hr6 (fun x vs ⟨v,e,h⟩=>⟨v,e,h⟩)
 refine⟨f,a2,p2,a3,p3,a4,p4,a5,p5,a6,p6,Mp,Mc,Mb,rfl,e2,e3,e6,q2,q3,q6,c2,c3,fun j q hq=>?_,fun j q hq=>?_,c6,fun x hx=>?_⟩
 ·obtain⟨b,o,vs,e,hlt,hv,hc⟩:=hr4 j q hq
  have:=hv.2
  subst this
  exact⟨b,o,e,hlt,hc⟩
 ·obtain⟨b,o,vs,e,hlt,hv,hc⟩:=hr5 j q hq
  have hv:vs=rcell q:=hv
  subst hv
  exact⟨b,o,e,hlt,hc⟩
 ·obtain⟨j,hj⟩:=List.getElem?_of_mem hx
  obtain⟨_,_,_,_,_,hv,_⟩:=hr4 j x hj
  exact hv.1
theorem TW.da {wc W wy:World} {bw base H f:Nat} {x y:Df} {v2 v3 v4 v5 v6 u2 u3 u4 u5 u6:Value} {a2 a3 a4 a5 a6:Option Addr} {Lp Mp:List (Pr×Value)} {Lc Mc:List (List Gr×Value)} {Lb Mb:List (Bo×Value)} (h:TW wc W bw base x.start x.layout (SS base H [v2,v3,v4,v5,v6]) u2 u3 u4 u5 u6 (Lp++Mp) (Lc++Mc) (x.follows++y.follows) (x.rejects++y.rejects) (Lb++Mb))
  (hx:DefIn wc base H x v2 v3 v4 v5 v6 Lp Lc Lb) (hy:YP wy f y a2 a3 a4 a5 a6 Mp Mc Mb) (hb:Below wy.heap.size wy W)
  (n2:(Lp++Mp).length≤1000000) (n3:(Lc++Mc).length≤1000000) (n4:(x.follows++y.follows).length≤1000000) (n5:(x.rejects++y.rejects).length≤1000000) (n6:(Lb++Mb).length≤1000000):
  DA W (addD x y) [.string x.start,.string x.layout,u2,u3,u4,u5,u6]:=by
 have hc:∀b,SS base H [v2,v3,v4,v5,v6] b→∀q,W.cell? ⟨b,q,none⟩=wc.cell? ⟨b,q,none⟩:=fun b hS q=>World.cell?_of_block (a:=⟨b,q,none⟩) (h.ks b hS).2.2
 have hS:∀b,SS base H [v2,v3,v4,v5,v6] b→b<W.heap.size:=fun b hS=>Nat.lt_of_lt_of_le (h.ks b hS).2.1 h.bel.size
 obtain⟨fb,hfb⟩:=itsB_fuel hx.sb
 refine⟨fb+f,u2,u3,u4,u5,u6,rfl,?_,?_,?_,?_,?_⟩
 ·have k:=own_slV (cf:=pcell) (fun q:Pr×Value=>q.1) (PrV W W.heap.size) (fun _=>rfl) h.p2 (fun q hq=>by
   rcases List.mem_append.1 hq with hq | hq
   ·exact⟨q.2,rfl,((hx.sp q hq).keep hc (fun _ h=>h) (fun _ _ h=>h)).sl hS (fun _ _ h=>h)⟩
   ·exact⟨q.2,rfl,(hy.sp q hq).keep hb hb.size (fun _ _ _ h=>h)⟩) (by omega)
  rw[List.map_append,hx.ep,hy.ep] at k
  exact k
 ·have k:=own_slV (cf:=ccell) (fun q:List Gr×Value=>q.1) (ChV W W.heap.size) (fun _=>rfl) h.p3 (fun q hq=>by
   rcases List.mem_append.1 hq with hq | hq
   ·exact⟨q.2,rfl,((hx.sc q hq).keep hc (fun _ h=>h) (fun _ _ h=>h.keep hc (fun _ h=>h))).sl hS (fun g vs h=>by
     obtain⟨v,e,h⟩:=h
     exact⟨v,e,h.sl hS (fun _ _ h=>h)⟩)⟩
   ·exact⟨q.2,rfl,(hy.sc q hq).keep hb hb.size (fun _ _ _ h=>h.keep hb hb.size)⟩) (by omega)
  rw[List.map_append,hx.ec,hy.ec] at k
  exact k
 ·have k:=own_slV (cf:=fcell) id FoV (fun _=>rfl) h.p4 (fun q hq=>by
   rcases List.mem_append.1 hq with hq | hq
   ·exact⟨hx.ok q hq,rfl⟩
   ·exact⟨hy.ok q hq,rfl⟩) (by omega)
  rw[List.map_id] at k
  exact k
 ·have k:=own_slV (cf:=rcell) id ReV (fun _=>rfl) h.p5 (fun q hq=>rfl) (by omega)
  rw[List.map_id] at k
  exact k
 ·have k:=own_slV (cf:=bxcell) (fun q:Bo×Value=>q.1) (BoV W W.heap.size (fb+f)) (fun _=>rfl) h.p6 (fun q hq=>by
   rcases List.mem_append.1 hq with hq | hq
   ·exact⟨q.2,rfl,((hfb q hq).keep hc (fun _ h=>h) (fun _ _ h=>(h.keep hc (fun _ h=>h)).ups (by omega))).sl hS (fun _ _ h=>ItS.it hS h)⟩
   ·exact⟨q.2,rfl,(hy.sb q hq).keep hb hb.size (fun _ _ _ h=>(h.keep hb hb.size).ups (by omega))⟩) (by omega)
  rw[List.map_append,hx.eb,hy.eb] at k
  exact k
end Go.Proofs.YtcpakcffiopfjaaGreatDoor
