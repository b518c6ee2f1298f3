/- A list of an argument appended whole; what a copy in the making is in memory. -/
import Derived.Test.YtcpakcffiopfjaaGreatDoorH1
import Derived.Test.YtcpakcffiopfjaaGreatDoorC6
namespace Go.Proofs.YtcpakcffiopfjaaGreatDoor
open Go.RowKit
set_option linter.unusedVariables false
set_option linter.unusedSimpArgs false
set_option maxRecDepth 100000
set_option maxHeartbeats 16000000
set_option linter.unusedVariables false
set_option linter.unusedSimpArgs false
set_option maxRecDepth 100000
set_option maxHeartbeats 16000000
theorem run_none0 {P:Program} {w:World} (base t ty e:Nat) (i:TypeInfo) (size:Nat) (ht:P.underlying t=some (.slice e)) (hi:P.info? e=some i) (v:Value) (n c:Nat) (xs:List Value) (hown:w.ownsRow base e size v n xs) :
  (Builtin.append_ #[t,t] ty #[v,.slice none 0 c]).run P w=.ok v w:=by
 rcases hown.2 with ⟨rfl,rfl⟩ | ⟨g,cap,cur,rfl,_,_,hnc,_⟩
 ·simp [Builtin.append_,run_underlying ht,sizeOf,typeInfo,hi,Builtin.lenOf,Builtin.firstCells]
 ·simp [Builtin.append_,run_underlying ht,sizeOf,typeInfo,hi,Builtin.lenOf,Builtin.firstCells,hnc,storeCells]
theorem flat_of {α:Type} {n:Nat} {cf:α→List Value} (hn:∀x,(cf x).length=n):∀(l:List α) (q:Nat) (u:Value),(l.flatMap cf)[q]?=some u→∃j x i,l[j]?=some x∧(cf x)[i]?=some u∧q=j*n+i
 | [],q,u,h=>by simp at h
 | x::l,q,u,h=>by
  rw[List.flatMap_cons] at h
  by_cases hq:q<n
  ·rw[List.getElem?_append_left (by rw[hn];exact hq)] at h
   exact⟨0,x,q,rfl,h,by omega⟩
  ·rw[List.getElem?_append_right (by rw[hn];omega),hn] at h
   obtain⟨j,y,i,h1,h2,h3⟩:=flat_of hn l (q-n) u h
   exact⟨j+1,y,i,by simpa using h1,h2,by rw[Nat.add_mul,Nat.one_mul];omega⟩
theorem flat_len {α:Type} {n:Nat} {cf:α→List Value} (hn:∀x,(cf x).length=n):∀l:List α,(l.flatMap cf).length=l.length*n
 | []=>by simp
 | x::l=>by rw[List.flatMap_cons,List.length_append,hn,flat_len hn l,List.length_cons,Nat.add_mul,Nat.one_mul,Nat.add_comm]
/- A list appended whole, at a run. -/
theorem run_app_sl {α:Type} {w:World} (t ty e k bytes:Nat) {z:Value} (ht:Tryz.prog.underlying t=some (.slice e)) (hinfo:(Tryz.prog.info? e).map (fun i=>(i.zero,i.size,i.bytes))=some (some z,k,bytes)) (hzs:z.cells.size=k) (hk0:0<k)
  (cf:α→List Value) (hcf:∀x,(cf x).length=k) (h1:∀x,∀u∈cf x,u.oneCell'=true) (lo:Nat) (v:Value) (n:Nat) (xs:List Value) (hown:w.ownsRow lo e k v n xs) (l:List α) (ad:Option Addr) (c:Nat)
  (hr:∀j x,l[j]?=some x→∃b o,ad=some ⟨b,o,none⟩∧∀i u,(cf x)[i]?=some u→w.cell? ⟨b,o+j*k+i,none⟩=some u) (h63:n+l.length≤maxLen) (hby:(n+l.length)*bytes≤140737488355328) (hbase:lo≤w.heap.size) :
  ∃va vc w',(Builtin.append_ #[t,t] ty #[v,.slice ad l.length c]).run Tryz.prog w=.ok (.slice va (n+l.length) vc) w'∧w'.ownsRow lo e k (.slice va (n+l.length) vc) (n+l.length) (xs++l.flatMap cf)∧w.grownBy w' v.ownBlock:=by
 obtain⟨i0,hinf,hz0,hz1,hz2⟩:=info_parts hinfo
 cases ad with
 | none=>
  cases l with
  | cons x l=>obtain⟨b,o,e,_⟩:=hr 0 x rfl;cases e
  | nil=>
   obtain⟨va,vc,rfl⟩:=own_slice hown
   refine⟨va,vc,w,run_none0 lo t ty e i0 k ht hinf _ n c xs hown,by simpa using hown,World.grownBy.refl _ _⟩
 | some a=>
  obtain⟨v',w',hrun,h2,h3,_⟩:=run_append_own_at (P:=Tryz.prog) w lo t ty e i0 z k bytes ht hinf hz0 hz1 hz2 hzs hk0 v n xs hown a l.length c (l.flatMap cf) (flat_len hcf l) (fun q u hq=>by
   obtain⟨j,x,i,hj,hi,rfl⟩:=flat_of hcf l q u hq
   obtain⟨b,o,e,hc⟩:=hr j x hj
   cases e
   have e:(⟨b,o,none⟩:Addr).add (j*k+i)=⟨b,o+j*k+i,none⟩:=by unfold Addr.add;split<;>simp_all [Nat.add_assoc]
   rw[e];exact hc i u hi) (fun u hu=>by
   obtain⟨x,_,hx⟩:=List.mem_flatMap.1 hu
   exact h1 x u hx) h63 hby hbase
  obtain⟨va,vc,rfl⟩:=own_slice h2
  exact⟨va,vc,w',hrun,h2,h3⟩
theorem wp_app_sl {α:Type} {w:World} {o:Oper} {a:Act} {K:Act→World→Prop} {Q:Exit→Act→World→Prop} (s x:Operand) (t e k bytes:Nat) {z:Value} (ho:o.op=.call { callee:=.builtin .append,args:=#[s,x],argTypes:=#[t,t] }) (ht:Tryz.prog.underlying t=some (.slice e)) (hinfo:(Tryz.prog.info? e).map (fun i=>(i.zero,i.size,i.bytes))=some (some z,k,bytes)) (hzs:z.cells.size=k) (hk0:0<k)
  (cf:α→List Value) (hcf:∀x,(cf x).length=k) (h1:∀x,∀u∈cf x,u.oneCell'=true) (lo:Nat) (v:Value) (n:Nat) (xs:List Value) (hs:a.eval s=v) (hown:w.ownsRow lo e k v n xs) (l:List α) (ad:Option Addr) (c:Nat) (hx:a.eval x=.slice ad l.length c)
  (hr:∀j x,l[j]?=some x→∃b o,ad=some ⟨b,o,none⟩∧∀i u,(cf x)[i]?=some u→w.cell? ⟨b,o+j*k+i,none⟩=some u) (h63:n+l.length≤maxLen) (hby:(n+l.length)*bytes≤140737488355328) (hbase:lo≤w.heap.size)
  (h:∀va vc w',w'.ownsRow lo e k (.slice va (n+l.length) vc) (n+l.length) (xs++l.flatMap cf)→w.grownBy w' v.ownBlock→K (a.put o.dst (.slice va (n+l.length) vc)) w'):o.wp Tryz.prog a w K Q:=by
 obtain⟨va,vc,w',hrun,h2,h3⟩:=run_app_sl (w:=w) t o.type e k bytes ht hinfo hzs hk0 cf hcf h1 lo v n xs hown l ad c hr h63 hby hbase
 unfold Oper.wp execOp
 simp only[ho,resolve,invoke,builtin,Sem.run_bind,Sem.run_pure,Result.andThen_ok,List.map_toArray,List.map_cons,List.map_nil,hs,hx,hrun]
 exact h va vc w' h2 h3
theorem wpList_app_sl {α:Type} {w:World} {ops:Array Oper} {rest:List Oper} {o:Oper} {a:Act} {Q:Exit→Act→World→Prop} (hgd:o.guard=none) (s x:Operand) (t e k bytes:Nat) {z:Value} (ho:o.op=.call { callee:=.builtin .append,args:=#[s,x],argTypes:=#[t,t] }) (ht:Tryz.prog.underlying t=some (.slice e)) (hinfo:(Tryz.prog.info? e).map (fun i=>(i.zero,i.size,i.bytes))=some (some z,k,bytes)) (hzs:z.cells.size=k) (hk0:0<k)
  (cf:α→List Value) (hcf:∀x,(cf x).length=k) (h1:∀x,∀u∈cf x,u.oneCell'=true) (lo:Nat) (v:Value) (n:Nat) (xs:List Value) (hs:a.eval s=v) (hown:w.ownsRow lo e k v n xs) (l:List α) (ad:Option Addr) (c:Nat) (hx:a.eval x=.slice ad l.length c)
  (hr:∀j x,l[j]?=some x→∃b o,ad=some ⟨b,o,none⟩∧∀i u,(cf x)[i]?=some u→w.cell? ⟨b,o+j*k+i,none⟩=some u) (h63:n+l.length≤maxLen) (hby:(n+l.length)*bytes≤140737488355328) (hbase:lo≤w.heap.size)
  (h:∀va vc w',w'.ownsRow lo e k (.slice va (n+l.length) vc) (n+l.length) (xs++l.flatMap cf)→w.grownBy w' v.ownBlock→wpList Tryz.prog ops Q rest (a.put o.dst (.slice va (n+l.length) vc)) w'):wpList Tryz.prog ops Q (o::rest) a w:=
 wpList_plain hgd fun _ hK=>wp_app_sl s x t e k bytes ho ht hinfo hzs hk0 cf hcf h1 lo v n xs hs hown l ad c hx hr h63 hby hbase fun va vc w' h2 h3=>hK _ _ (h va vc w' h2 h3)
theorem step_app_sl {α:Type} {w:World} {ops:Array Oper} {o:Oper} {a:Act} {K:Act→World→Prop} {Q:Exit→Act→World→Prop} {E:Prop} (hgd:o.guard=none) (s x:Operand) (t e k bytes:Nat) {z:Value} (ho:o.op=.call { callee:=.builtin .append,args:=#[s,x],argTypes:=#[t,t] }) (ht:Tryz.prog.underlying t=some (.slice e)) (hinfo:(Tryz.prog.info? e).map (fun i=>(i.zero,i.size,i.bytes))=some (some z,k,bytes)) (hzs:z.cells.size=k) (hk0:0<k)
  (cf:α→List Value) (hcf:∀x,(cf x).length=k) (h1:∀x,∀u∈cf x,u.oneCell'=true) (lo:Nat) (v:Value) (n:Nat) (xs:List Value) (hs:a.eval s=v) (hown:w.ownsRow lo e k v n xs) (l:List α) (ad:Option Addr) (c:Nat) (hx:a.eval x=.slice ad l.length c)
  (hr:∀j x,l[j]?=some x→∃b o,ad=some ⟨b,o,none⟩∧∀i u,(cf x)[i]?=some u→w.cell? ⟨b,o+j*k+i,none⟩=some u) (h63:n+l.length≤maxLen) (hby:(n+l.length)*bytes≤140737488355328) (hbase:lo≤w.heap.size)
  (h:∀va vc w',w'.ownsRow lo e k (.slice va (n+l.length) vc) (n+l.length) (xs++l.flatMap cf)→w.grownBy w' v.ownBlock→K (a.put o.dst (.slice va (n+l.length) vc)) w') :
  if Region.wanted o (yielded ops a.tmps)=true then Oper.wp Tryz.prog o a w K Q else E:=by
 have hw:Region.wanted o (yielded ops a.tmps)=true:=by simp[Region.wanted,hgd]
 rw[if_pos hw]
 exact wp_app_sl s x t e k bytes ho ht hinfo hzs hk0 cf hcf h1 lo v n xs hs hown l ad c hx hr h63 hby hbase h
theorem row_cells {α:Type} {w:World} {B n:Nat} {V:α→List Value→Prop} {cf:α→List Value} {a:Option Addr} {l:List α} (h:Row w B n V a l) (hV:∀x vs,V x vs→vs=cf x) {W:World} {C:Nat} (hb:Below C w W) (hB:B≤C):∀j x,l[j]?=some x→∃b o,a=some ⟨b,o,none⟩∧∀i u,(cf x)[i]?=some u→W.cell? ⟨b,o+j*n+i,none⟩=some u:=fun j x hj=>by
 obtain⟨b,o,vs,e,hlt,hv,hc⟩:=h j x hj
 have:=hV x vs hv
 subst this
 exact⟨b,o,e,fun i u hu=>(hb.cell (p:=⟨b,o+j*n+i,none⟩) (Nat.lt_of_lt_of_le hlt hB)).trans (hc i u hu)⟩
theorem sls_own {α:Type} {W:World} {base e n:Nat} {V:α→List Value→Prop} {cf:α→List Value} {l:List α} {v:Value} (hn:∀x,(cf x).length=n) (h:W.ownsRow base e n v l.length (l.flatMap cf)) (hV:∀x∈l,V x (cf x)) (hl:l.length≤140737488355328):SlS W (fun b=>base≤b∧b<W.heap.size) n V l v:=by
 obtain⟨a,c,rfl,hc⟩:=own_cap h
 refine⟨a,c,rfl,hc,hl,fun j x hj=>?_⟩
 obtain⟨g,cap,e,hb,hg,hcl⟩:=own_rows hn h hj
 cases e
 exact⟨g,0,cf x,rfl,⟨hb,hg⟩,hV x (List.mem_of_getElem? hj),hcl⟩
theorem Grs.slsB {W:World} {base:Nat} {lv:Value} {L:List (Gr×Value)} (h:Grs W base lv L) (hl:L.length≤140737488355328) (hn:∀q∈L,q.1.cons.length≤140737488355328):SlS W (fun b=>base≤b∧b<W.heap.size) 2 (GrS W (fun b=>base≤b∧b<W.heap.size)) (L.map (·.1)) lv:=by
 obtain⟨a,c,rfl,hc⟩:=own_cap h.row
 refine⟨a,c,by rw[List.length_map],by rw[List.length_map];exact hc,by rw[List.length_map];omega,fun j x hj=>?_⟩
 rw[List.getElem?_map,Option.map_eq_some_iff] at hj
 obtain⟨q,hq,rfl⟩:=hj
 obtain⟨g,cap,e,hb,hg,hcl⟩:=own_rows (cf:=gcell) (fun _=>rfl) h.row hq
 cases e
 refine⟨g,0,gcell q,rfl,⟨hb,hg⟩,⟨q.2,rfl,?_⟩,hcl⟩
 have hm:=List.mem_of_getElem? hq
 have hq2:=(h.subs q hm).row
 have e:(q.1.cons.flatMap fun s=>[Value.string s])=ncells q.1.cons:=by unfold ncells;rw[List.map_eq_flatMap]
 rw[←e] at hq2
 exact sls_own (cf:=fun s:ByteArray=>[Value.string s]) (fun _=>rfl) hq2 (fun _ _=>rfl) (hn q hm)
/- The three boxes of a copy in the making. -/
structure CB (w W:World) (src o:Array Value):Prop where
 bel:Below w.heap.size w W
 sz:w.heap.size+3≤W.heap.size
 s:Blk W w.heap.size 28 src
 z:Blk W (w.heap.size+1) 28 #[.string ⟨#[]⟩,.string ⟨#[]⟩,.slice none 0 0,.slice none 0 0,.slice none 0 0,.slice none 0 0,.slice none 0 0]
 o:Blk W (w.heap.size+2) 28 o
theorem CB.after {w W W':World} {src o:Array Value} (h:CB w W src o) (hb:Below W.heap.size W W'):CB w W' src o:=⟨below_tr h.bel hb,Nat.le_trans h.sz hb.size,h.s.after hb,h.z.after hb,h.o.after hb⟩
theorem CB.grow {w W W':World} {src o:Array Value} {r:Option Nat} (h:CB w W src o) (hg:W.grownBy W' r) (hr:∀b,r=some b→w.heap.size+3≤b):CB w W' src o:=
 ⟨h.bel.trans (below_grO hg (fun b hb=>by have:=hr b hb;omega) h.bel.size),Nat.le_trans h.sz hg.size,h.s.kept hg (fun e=>by have:=hr _ e.symm;omega),h.z.kept hg (fun e=>by have:=hr _ e.symm;omega),h.o.kept hg (fun e=>by have:=hr _ e.symm;omega)⟩
theorem CB.set {w W:World} {src o:Array Value} (h:CB w W src o) (i:Nat) (v:Value):CB w (W.setCell ⟨w.heap.size+2,i,none⟩ v) src (o.setIfInBounds i v):=
 ⟨h.bel.trans (below_gr (grownBy_setCell _ _ _ _) (by omega) h.bel.size),by have:=h.sz;have h2:=(grownBy_setCell W (w.heap.size+2) i v).size;omega,h.s.put _ _ _ (by omega),h.z.put _ _ _ (by omega),h.o.set i v⟩
theorem CB.start (w:World) (src o:Array Value):CB w (((w.alloc (.cells src 28)).alloc (.cells #[.string ⟨#[]⟩,.string ⟨#[]⟩,.slice none 0 0,.slice none 0 0,.slice none 0 0,.slice none 0 0,.slice none 0 0] 28)).alloc (.cells o 28)) src o:=by
 refine⟨((((Below.refl _ _).alloc (Nat.le_refl _) _).alloc (by simp) _).alloc (by simp;omega) _),by simp,((Blk.new w 28 src).alloc _).alloc _,?_,?_⟩
 ·have:=(Blk.new (w.alloc (.cells src 28)) 28 #[.string ⟨#[]⟩,.string ⟨#[]⟩,.slice none 0 0,.slice none 0 0,.slice none 0 0,.slice none 0 0,.slice none 0 0]).alloc (.cells o 28)
  simpa using this
 ·have:=Blk.new ((w.alloc (.cells src 28)).alloc (.cells #[.string ⟨#[]⟩,.string ⟨#[]⟩,.slice none 0 0,.slice none 0 0,.slice none 0 0,.slice none 0 0,.slice none 0 0] 28)) 28 o
  simpa using this
theorem DefIn.nil (W:World) (d:Df) (base:Nat) (hb:base≤W.heap.size):DefIn W base base ⟨d.start,d.layout,[],[],[],[],[]⟩ (.slice none 0 0) (.slice none 0 0) (.slice none 0 0) (.slice none 0 0) (.slice none 0 0) [] [] []:=
 ⟨World.ownsRow_nil _ _ _ _,World.ownsRow_nil _ _ _ _,World.ownsRow_nil _ _ _ _,World.ownsRow_nil _ _ _ _,World.ownsRow_nil _ _ _ _,rfl,rfl,rfl,fun _ h=>(by cases h),fun _ h=>(by cases h),fun _ h=>(by cases h),fun _ h=>(by cases h),fun v hv b hb=>(by simp only[List.mem_cons,List.not_mem_nil,or_false] at hv;rcases hv with rfl | rfl | rfl | rfl | rfl<;>simp[Value.ownBlock] at hb),hb⟩
section
variable {W w7:World} {base hi:Nat} {d:Df} {v2 v3 v4 v5 v6:Value} {Lp:List (Pr×Value)} {Lc:List (List Gr×Value)} {Lb:List (Bo×Value)}
theorem ss_fol (h:DefIn W base hi d v2 v3 v4 v5 v6 Lp Lc Lb) {u:Value} (hu:∀b,u.ownBlock=some b→W.heap.size≤b) {x4 x5:Value} (hx:x4=u∧x5=v5∨x4=v4∧x5=u) {H:Nat} (hH:hi≤H):∀b,SS base hi [v2,v3,v4,v5,v6] b→SS base H [v2,v3,x4,x5,v6] b:=fun b hb=>⟨hb.1,Nat.lt_of_lt_of_le hb.2.1 hH,fun y hy=>by
 have h3:=hb.2.2
 have hlt:b<W.heap.size:=Nat.lt_of_lt_of_le hb.2.1 h.up
 have hnu:some b≠u.ownBlock:=fun e=>by have:=hu b e.symm;omega
 simp only[List.mem_cons,List.not_mem_nil,or_false] at hy h3
 rcases hx with ⟨rfl,rfl⟩ | ⟨rfl,rfl⟩
 ·rcases hy with rfl | rfl | rfl | rfl | rfl
  ·exact h3 _ (by simp)
  ·exact h3 _ (by simp)
  ·exact hnu
  ·exact h3 _ (by simp)
  ·exact h3 _ (by simp)
 ·rcases hy with rfl | rfl | rfl | rfl | rfl
  ·exact h3 _ (by simp)
  ·exact h3 _ (by simp)
  ·exact h3 _ (by simp)
  ·exact hnu
  ·exact h3 _ (by simp)⟩
theorem own_lt {B e size n:Nat} {v:Value} {xs:List Value} (h:w7.ownsRow B e size v n xs):∀b,v.ownBlock=some b→B≤b∧b<w7.heap.size:=fun b hb=>h.lt b hb
theorem DefIn.setf (h:DefIn W base hi d v2 v3 v4 v5 v6 Lp Lc Lb) (hb:Below W.heap.size W w7) (hbw:base≤W.heap.size) {u:Value} {fs:List Fo} (hown:w7.ownsRow W.heap.size 52 5 u fs.length (fs.flatMap fcell)) (hok:∀f∈fs,f.set.ok):DefIn w7 base w7.heap.size ⟨d.start,d.layout,d.prods,d.chains,fs,d.rejects,d.boxes⟩ v2 v3 u v5 v6 Lp Lc Lb:=by
 have k:=h.below hb
 have hS:=ss_fol h (u:=u) (fun b hb=>(own_lt hown b hb).1) (x4:=u) (x5:=v5) (.inl ⟨rfl,rfl⟩) (H:=w7.heap.size) (Nat.le_trans h.up hb.size)
 have hc:∀b,SS base hi [v2,v3,v4,v5,v6] b→∀q,w7.cell? ⟨b,q,none⟩=w7.cell? ⟨b,q,none⟩:=fun _ _ _=>rfl
 have hlo:=k.lo
 have hup:=k.up
 refine⟨k.rp,k.rc,row_mono hown hbw,k.rr,k.rb,k.ep,k.ec,k.eb,fun q hq=>(k.sp q hq).keep hc hS (fun _ _ h=>h),fun q hq=>(k.sc q hq).keep hc hS (fun _ _ h=>h.keep hc hS),fun q hq=>(k.sb q hq).keep hc hS,hok,fun y hy b hb=>?_,Nat.le_refl _⟩
 simp only[List.mem_cons,List.not_mem_nil,or_false] at hy
 rcases hy with rfl | rfl | rfl | rfl | rfl
 ·have:=hlo _ (by simp) b hb;omega
 ·have:=hlo _ (by simp) b hb;omega
 ·exact (own_lt hown b hb).2
 ·have:=hlo _ (by simp) b hb;omega
 ·have:=hlo _ (by simp) b hb;omega
theorem DefIn.setr (h:DefIn W base hi d v2 v3 v4 v5 v6 Lp Lc Lb) (hb:Below W.heap.size W w7) (hbw:base≤W.heap.size) {u:Value} {rs:List Re} (hown:w7.ownsRow W.heap.size 73 2 u rs.length (rs.flatMap rcell)):DefIn w7 base w7.heap.size ⟨d.start,d.layout,d.prods,d.chains,d.follows,rs,d.boxes⟩ v2 v3 v4 u v6 Lp Lc Lb:=by
 have k:=h.below hb
 have hS:=ss_fol h (u:=u) (fun b hb=>(own_lt hown b hb).1) (x4:=v4) (x5:=u) (.inr ⟨rfl,rfl⟩) (H:=w7.heap.size) (Nat.le_trans h.up hb.size)
 have hc:∀b,SS base hi [v2,v3,v4,v5,v6] b→∀q,w7.cell? ⟨b,q,none⟩=w7.cell? ⟨b,q,none⟩:=fun _ _ _=>rfl
 have hlo:=k.lo
 have hup:=k.up
 refine⟨k.rp,k.rc,k.rf,row_mono hown hbw,k.rb,k.ep,k.ec,k.eb,fun q hq=>(k.sp q hq).keep hc hS (fun _ _ h=>h),fun q hq=>(k.sc q hq).keep hc hS (fun _ _ h=>h.keep hc hS),fun q hq=>(k.sb q hq).keep hc hS,k.ok,fun y hy b hb=>?_,Nat.le_refl _⟩
 simp only[List.mem_cons,List.not_mem_nil,or_false] at hy
 rcases hy with rfl | rfl | rfl | rfl | rfl
 ·have:=hlo _ (by simp) b hb;omega
 ·have:=hlo _ (by simp) b hb;omega
 ·have:=hlo _ (by simp) b hb;omega
 ·exact (own_lt hown b hb).2
 ·have:=hlo _ (by simp) b hb;omega
end
end Go.Proofs.YtcpakcffiopfjaaGreatDoor
