/- Items, copied: the document's. A list of an argument appended whole; what a copy in the making is in memory. -/
import Derived.Test.YtilpgpcgcpedjaaGreatC1
import Derived.Test.YtilpgpcgcpedjaaGreatD1
namespace Go.Proofs.YtilpgpcgcpedjaaGreat
open Go.RowKit
set_option linter.unusedVariables false
set_option linter.unusedSimpArgs false
set_option maxRecDepth 100000
set_option maxHeartbeats 16000000
section
set_option linter.unusedVariables false
set_option linter.unusedSimpArgs false
set_option maxRecDepth 100000
set_option maxHeartbeats 8000000
theorem below_gr {B b:Nat} {W W':World} (hg:W.grownBy W' (some b)) (hb:B≤b) (hB:B≤W.heap.size):Below B W W':=⟨hg.os,hg.tape,hg.output,hg.size,fun c hc=>hg.block c (Nat.lt_of_lt_of_le hc hB) (by simp;omega)⟩
theorem below_grO {B:Nat} {o:Option Nat} {W W':World} (hg:W.grownBy W' o) (ho:∀b,o=some b→B≤b) (hB:B≤W.heap.size):Below B W W':=⟨hg.os,hg.tape,hg.output,hg.size,fun c hc=>hg.block c (Nat.lt_of_lt_of_le hc hB) (fun e=>by have:=ho c e.symm;omega)⟩
theorem below_al {B:Nat} {W:World} (o:Obj) (hB:B≤W.heap.size):Below B W (W.alloc o):=(Below.refl _ _).alloc hB _
theorem take_snoc {α β:Type} {f:β→α} {l:List α} {k:Nat} {x:α} {acc:List β} {y:β} (h:acc.map f=l.take k) (hx:l[k]?=some x) (hy:f y=x):(acc++[y]).map f=l.take (k+1):=by
 have e:=List.getElem?_eq_some_iff.1 hx
 rw[List.map_append,h,List.take_succ_eq_append_getElem e.1,e.2,List.map_singleton,hy]
theorem rcopyItems_step (V:It→List Value→Prop) (l:List It) (v:Value) (w:World) (h:Sl w w.heap.size 4 V l v) (hz:l.length*56≤140737488355328)
  (HV:Hid (∀x∈l,∀vs,V x vs→∃ua uc,vs=[.int .i64 x.kind,.string x.text,.int .i64 x.n,.slice ua x.items.length uc]∧∀W,Below w.heap.size w W→Calls Tryz.prog 33 #[.slice ua x.items.length uc] W fun e w'=>(∃va vc,e=.returned (.slice va x.items.length vc)∧ItsAt w' (fun b=>W.heap.size≤b∧b<w'.heap.size) x.items (.slice va x.items.length vc))∧Below W.heap.size W w')) :
  Calls Tryz.prog 33 #[v] w fun e w'=>(∃va vc,e=.returned (.slice va l.length vc)∧ItsAt w' (fun b=>w.heap.size≤b∧b<w'.heap.size) l (.slice va l.length vc))∧Below w.heap.size w w':=by
 obtain⟨i0,hi,hz0,hz1,hz2⟩:=info_parts info124
 obtain⟨a1,p1,rfl,_,hl1,hr1⟩:=h
 obtain⟨N,hN⟩:∃N,l.length=N:=⟨_,rfl⟩
 have HR1:=hHi hr1
 have HN:=hHi hN
 have HZ:Hid (N*56≤140737488355328):=by show _≤_;rw[←hN];exact hz
 rw[hN] at hl1 ⊢
 clear hr1 hN hz
 go_enter Tryz.func33,Tryz.ntmps33
 go_wp2
 go_loopw[3,4] (fun lv iv W=>∃(k:Nat) (acc:List (It×Value)) (va:Option Addr) (vc:Nat),k≤N∧acc.length=k∧lv=.slice va acc.length vc∧iv=.int .i64 k∧acc.map (·.1)=l.take k∧Its W w.heap.size (.slice va acc.length vc) acc∧Below w.heap.size w W) (fun _ iv _=>N-(intOf iv).toNat)
 case atStart=>exact⟨0,[],none,0,Nat.zero_le _,rfl,rfl,rfl,rfl,Its.nil _ _,Below.refl _ _⟩
 case round=>
  obtain⟨k,acc,va,vc,hk,hka,rfl,rfl,hm,hI,hB⟩:=hrel
  have HM:=hHi hm
  have HI:=hHi hI
  have HB:=hHi hB
  have HKA:=hHi hka
  clear hm hI hB hka
  by_cases hlt:k<N
  case pos=>
   obtain⟨x,hx⟩:∃x,l[k]?=some x:=⟨l[k]'(by rw[HN.out];exact hlt),by simp⟩
   obtain⟨b,o,us,hb,hlb,hus,hc⟩:=HR1.out k x hx
   obtain⟨ua,uc,rfl,hC⟩:=HV.out x (List.mem_of_getElem? hx) us hus
   subst hb
   have HX:=hHi hx
   have hq_:=hcb HB.out hlb hc
   have s0:=hq_ 0 _ rfl
   have s1:=hq_ 1 _ rfl
   have s2:=hq_ 2 _ rfl
   have s3:=hq_ 3 _ rfl
   rw[Nat.add_zero] at s0
   have hltI:(k:Int)<N:=by omega
   have HCC:Hid _:=hC
   clear hq_ hc hx hus hC
   obtain⟨w1,hw1⟩:∃qW,wr.alloc (.cells #[.int .i64 x.kind,.string x.text,.int .i64 x.n,.slice ua x.items.length uc] 98)=qW:=⟨_,rfl⟩
   have HN1:=kB hw1
   have HX1:=kN hw1
   have HB1:Hid (Below w.heap.size w w1):=below_tr HB.out HN1.out
   have HS1:Hid (w1.heap.size=wr.heap.size+1):=by show _=_;rw[←hw1];simp
   obtain⟨d0,d1,d2,d3⟩:=HX1.out.c4
   have HC:=hU (HCC.out w1 HB1.out)
   clear HCC
   go_wp2_with fail
   refine hMo HC ?_
   rintro e w2 ⟨⟨xa,xc,rfl,hk2⟩,hb2⟩
   have HB2:=hHi hb2
   have HK2:Hid (ItsAt w2 (fun b=>w1.heap.size≤b∧b<w2.heap.size) x.items (.slice xa x.items.length xc)):=hk2
   have HX2:=kA HX1 HB2
   clear hb2 hk2 d0 d1 d2 d3
   obtain⟨e0,e1,e2,e3⟩:=HX2.out.c4
   have zf:=HX2.out.frozen
   have lf:=HX2.out.lt
   obtain⟨w3,hw3⟩:∃qW,w2.setCell ⟨wr.heap.size,3,none⟩ (.slice xa x.items.length xc)=qW:=⟨_,rfl⟩
   have HN3:Hid (w2.grownBy w3 (some wr.heap.size)):=by show World.grownBy _ _ _;rw[←hw3];exact grownBy_setCell _ _ _ _
   have HX3:Hid (Blk w3 wr.heap.size 98 #[.int .i64 x.kind,.string x.text,.int .i64 x.n,.slice xa x.items.length xc]):=by show Blk _ _ _ _;rw[←hw3];exact Blk.set HX2.out 3 _
   have HK3:Hid (ItsAt w3 (fun b=>w1.heap.size≤b∧b<w3.heap.size) x.items (.slice xa x.items.length xc)):=HK2.out.keep (fun b hb q=>World.cell?_of_block (a:=⟨b,q,none⟩) (HN3.out.block b hb.2 (by have:=hb.1;have:=HS1.out;simp;omega))) (fun b hb=>⟨hb.1,Nat.lt_of_lt_of_le hb.2 HN3.out.size⟩)
   have HW3:Hid (Below wr.heap.size wr w3):=(below_tr HN1.out HB2.out).trans (below_gr HN3.out (Nat.le_refl _) (Nat.le_of_lt lf))
   have HI3:Hid (Its w3 w.heap.size (.slice va acc.length vc) acc):=HI.out.after HW3.out
   have HB3:Hid (Below w.heap.size w w3):=below_tr HB.out HW3.out
   have HOB:Hid (∀b,(Value.slice va acc.length vc).ownBlock=some b→w.heap.size≤b∧b<w1.heap.size):=fun b hb=>by have:=HI.out.row.lt b hb;have:=HS1.out;omega
   have HGW:Hid (w.heap.size≤w1.heap.size):=HB1.out.size
   have HROW:=hU HI3.out.row
   obtain⟨q0,q1,q2,q3⟩:=HX3.out.c4
   clear HC
   have h56:(acc.length+1)*56≤140737488355328:=by have:=HZ.out;have:=HKA.out;omega
   go_wp2_with (at_builtin;refine wpList_append_lies _ rfl _ _ 57 rfl w.heap.size 98 i0 _ 4 56 Tryz.underlying57 hi hz0 hz1 hz2 rfl (by decide) (.slice va acc.length vc) acc.length (acc.flatMap icell) rfl ((HROW.out ()).alloc _) ⟨w3.heap.size,0,none⟩ 1 1 (icell (x,.slice xa x.items.length xc)) rfl rfl ?ca1 ?ca2 (by decide) ?ca3 ?ca4 ?ca5 (w3.heap.size+1) (by simp) ?_)
   case ca1=>exact new_cells _ _ (icell (x,.slice xa x.items.length xc))
   case ca2=>intro u hu;simp[icell] at hu;rcases hu with rfl | rfl | rfl | rfl<;>rfl
   case ca3=>unfold maxLen;omega
   case ca4=>exact h56
   case ca5=>have:=HB3.out.size;simp;omega
   intro g1 cap1 w7 hown hgrow hat hlt7
   have HI5:Hid (Its w7 w.heap.size (.slice (some ⟨g1,0,none⟩) (acc.length+1) cap1) (acc++[(x,.slice xa x.items.length xc)])):=HI3.out.push HK3.out (fun b hb=>(HOB.out b hb).2) HGW.out hown hgrow hat
   have HB7:Hid (Below w.heap.size w w7):=HB3.out.trans ((below_al _ HB3.out.size).trans (below_grO hgrow (fun b hb=>(HOB.out b hb).1) (by have:=HB3.out.size;simp;omega)))
   clear hown hgrow hat hlt7 q0 q1 q2 q3 s0 s1 s2 s3
   go_wp2
   go_roundw
   case rel=>exact⟨k+1,acc++[(x,.slice xa x.items.length xc)],_,_,by omega,by rw[List.length_append,HKA.out];rfl,by rw[List.length_append];rfl,by go_num,take_snoc HM.out HX.out rfl,by rw[List.length_append];exact HI5.out,HB7.out⟩
   case measure=>simp[intOf];omega
  obtain rfl:k=N:=by omega
  have HE:Hid (acc.map (·.1)=l):=by show _=_;rw[HM.out,List.take_of_length_le (by rw[HN.out];exact Nat.le_refl _)]
  go_wp2
  go_ret
  have hat:=HI.out.at' (by have:=HKA.out;omega)
  rw[HE.out,HKA.out] at hat
  exact⟨⟨va,vc,by rw[HKA.out];rfl,hat⟩,HB.out⟩
theorem rcopyItems_any:∀(f:Nat) (l:List It) (v:Value) (w:World),Sl w w.heap.size 4 (ItV w w.heap.size f) l v→l.length*56≤140737488355328→(∀x∈l,ItZ f x)→
  Calls Tryz.prog 33 #[v] w fun e w'=>(∃va vc,e=.returned (.slice va l.length vc)∧ItsAt w' (fun b=>w.heap.size≤b∧b<w'.heap.size) l (.slice va l.length vc))∧Below w.heap.size w w'
 | 0,l,v,w,h,hz,hi=>rcopyItems_step _ l v w h hz (fun x hx _ hv=>hv.elim)
 | f+1,l,v,w,h,hz,hi=>rcopyItems_step _ l v w h hz (fun x hx vs hv=>by
  obtain⟨u,e,hs⟩:=hv
  obtain⟨ua,uc,rfl,hu⟩:=hs
  have hs:Sl w w.heap.size 4 (ItV w w.heap.size f) x.items (.slice ua x.items.length uc):=⟨ua,uc,rfl,hu⟩
  exact⟨ua,uc,e,fun W hW=>rcopyItems_any f x.items _ W (hs.keep hW hW.size (fun _ _ _ h=>h.keep hW hW.size)) (hi x hx).1 (hi x hx).2⟩)
end
section
set_option linter.unusedVariables false
set_option linter.unusedSimpArgs false
set_option maxRecDepth 100000
set_option maxHeartbeats 16000000
theorem run_none0 {P:Program} {w:World} (base t ty e:Nat) (i:TypeInfo) (size:Nat) (ht:P.underlying t=some (.slice e)) (hi:P.info? e=some i) (v:Value) (n c:Nat) (xs:List Value) (hown:w.ownsRow base e size v n xs) :
  (Builtin.append_ #[t,t] ty #[v,.slice none 0 c]).run P w=.ok v w:=by
 rcases hown.2 with ⟨rfl,rfl⟩ | ⟨g,cap,cur,rfl,_,_,hnc,_⟩
 ·simp [Builtin.append_,run_underlying ht,sizeOf,typeInfo,hi,Builtin.lenOf,Builtin.firstCells]
 ·simp [Builtin.append_,run_underlying ht,sizeOf,typeInfo,hi,Builtin.lenOf,Builtin.firstCells,hnc,storeCells]
theorem flat_of {α:Type} {n:Nat} {cf:α→List Value} (hn:∀x,(cf x).length=n):∀(l:List α) (q:Nat) (u:Value),(l.flatMap cf)[q]?=some u→∃j x i,l[j]?=some x∧(cf x)[i]?=some u∧q=j*n+i
 | [],q,u,h=>by simp at h
 | x::l,q,u,h=>by
  rw[List.flatMap_cons] at h
  by_cases hq:q<n
  ·rw[List.getElem?_append_left (by rw[hn];exact hq)] at h
   exact⟨0,x,q,rfl,h,by omega⟩
  ·rw[List.getElem?_append_right (by rw[hn];omega),hn] at h
   obtain⟨j,y,i,h1,h2,h3⟩:=flat_of hn l (q-n) u h
   exact⟨j+1,y,i,by simpa using h1,h2,by rw[Nat.add_mul,Nat.one_mul];omega⟩
theorem flat_len {α:Type} {n:Nat} {cf:α→List Value} (hn:∀x,(cf x).length=n):∀l:List α,(l.flatMap cf).length=l.length*n
 | []=>by simp
 | x::l=>by rw[List.flatMap_cons,List.length_append,hn,flat_len hn l,List.length_cons,Nat.add_mul,Nat.one_mul,Nat.add_comm]
/- A list appended whole, at a run. -/
theorem run_app_sl {α:Type} {w:World} (t ty e k bytes:Nat) {z:Value} (ht:Tryz.prog.underlying t=some (.slice e)) (hinfo:(Tryz.prog.info? e).map (fun i=>(i.zero,i.size,i.bytes))=some (some z,k,bytes)) (hzs:z.cells.size=k) (hk0:0<k)
  (cf:α→List Value) (hcf:∀x,(cf x).length=k) (h1:∀x,∀u∈cf x,u.oneCell'=true) (lo:Nat) (v:Value) (n:Nat) (xs:List Value) (hown:w.ownsRow lo e k v n xs) (l:List α) (ad:Option Addr) (c:Nat)
  (hr:∀j x,l[j]?=some x→∃b o,ad=some ⟨b,o,none⟩∧∀i u,(cf x)[i]?=some u→w.cell? ⟨b,o+j*k+i,none⟩=some u) (h63:n+l.length≤maxLen) (hby:(n+l.length)*bytes≤140737488355328) (hbase:lo≤w.heap.size) :
  ∃va vc w',(Builtin.append_ #[t,t] ty #[v,.slice ad l.length c]).run Tryz.prog w=.ok (.slice va (n+l.length) vc) w'∧w'.ownsRow lo e k (.slice va (n+l.length) vc) (n+l.length) (xs++l.flatMap cf)∧w.grownBy w' v.ownBlock:=by
 obtain⟨i0,hinf,hz0,hz1,hz2⟩:=info_parts hinfo
 cases ad with
 | none=>
  cases l with
  | cons x l=>obtain⟨b,o,e,_⟩:=hr 0 x rfl;cases e
  | nil=>
   obtain⟨va,vc,rfl⟩:=own_slice hown
   refine⟨va,vc,w,run_none0 lo t ty e i0 k ht hinf _ n c xs hown,by simpa using hown,World.grownBy.refl _ _⟩
 | some a=>
  obtain⟨v',w',hrun,h2,h3,_⟩:=run_append_own_at (P:=Tryz.prog) w lo t ty e i0 z k bytes ht hinf hz0 hz1 hz2 hzs hk0 v n xs hown a l.length c (l.flatMap cf) (flat_len hcf l) (fun q u hq=>by
   obtain⟨j,x,i,hj,hi,rfl⟩:=flat_of hcf l q u hq
   obtain⟨b,o,e,hc⟩:=hr j x hj
   cases e
   have e:(⟨b,o,none⟩:Addr).add (j*k+i)=⟨b,o+j*k+i,none⟩:=by unfold Addr.add;split<;>simp_all [Nat.add_assoc]
   rw[e];exact hc i u hi) (fun u hu=>by
   obtain⟨x,_,hx⟩:=List.mem_flatMap.1 hu
   exact h1 x u hx) h63 hby hbase
  obtain⟨va,vc,rfl⟩:=own_slice h2
  exact⟨va,vc,w',hrun,h2,h3⟩
theorem wp_app_sl {α:Type} {w:World} {o:Oper} {a:Act} {K:Act→World→Prop} {Q:Exit→Act→World→Prop} (s x:Operand) (t e k bytes:Nat) {z:Value} (ho:o.op=.call { callee:=.builtin .append,args:=#[s,x],argTypes:=#[t,t] }) (ht:Tryz.prog.underlying t=some (.slice e)) (hinfo:(Tryz.prog.info? e).map (fun i=>(i.zero,i.size,i.bytes))=some (some z,k,bytes)) (hzs:z.cells.size=k) (hk0:0<k)
  (cf:α→List Value) (hcf:∀x,(cf x).length=k) (h1:∀x,∀u∈cf x,u.oneCell'=true) (lo:Nat) (v:Value) (n:Nat) (xs:List Value) (hs:a.eval s=v) (hown:w.ownsRow lo e k v n xs) (l:List α) (ad:Option Addr) (c:Nat) (hx:a.eval x=.slice ad l.length c)
  (hr:∀j x,l[j]?=some x→∃b o,ad=some ⟨b,o,none⟩∧∀i u,(cf x)[i]?=some u→w.cell? ⟨b,o+j*k+i,none⟩=some u) (h63:n+l.length≤maxLen) (hby:(n+l.length)*bytes≤140737488355328) (hbase:lo≤w.heap.size)
  (h:∀va vc w',w'.ownsRow lo e k (.slice va (n+l.length) vc) (n+l.length) (xs++l.flatMap cf)→w.grownBy w' v.ownBlock→K (a.put o.dst (.slice va (n+l.length) vc)) w'):o.wp Tryz.prog a w K Q:=by
 obtain⟨va,vc,w',hrun,h2,h3⟩:=run_app_sl (w:=w) t o.type e k bytes ht hinfo hzs hk0 cf hcf h1 lo v n xs hown l ad c hr h63 hby hbase
 unfold Oper.wp execOp
 simp only[ho,resolve,invoke,builtin,Sem.run_bind,Sem.run_pure,Result.andThen_ok,List.map_toArray,List.map_cons,List.map_nil,hs,hx,hrun]
 exact h va vc w' h2 h3
theorem wpList_app_sl {α:Type} {w:World} {ops:Array Oper} {rest:List Oper} {o:Oper} {a:Act} {Q:Exit→Act→World→Prop} (hgd:o.guard=none) (s x:Operand) (t e k bytes:Nat) {z:Value} (ho:o.op=.call { callee:=.builtin .append,args:=#[s,x],argTypes:=#[t,t] }) (ht:Tryz.prog.underlying t=some (.slice e)) (hinfo:(Tryz.prog.info? e).map (fun i=>(i.zero,i.size,i.bytes))=some (some z,k,bytes)) (hzs:z.cells.size=k) (hk0:0<k)
  (cf:α→List Value) (hcf:∀x,(cf x).length=k) (h1:∀x,∀u∈cf x,u.oneCell'=true) (lo:Nat) (v:Value) (n:Nat) (xs:List Value) (hs:a.eval s=v) (hown:w.ownsRow lo e k v n xs) (l:List α) (ad:Option Addr) (c:Nat) (hx:a.eval x=.slice ad l.length c)
  (hr:∀j x,l[j]?=some x→∃b o,ad=some ⟨b,o,none⟩∧∀i u,(cf x)[i]?=some u→w.cell? ⟨b,o+j*k+i,none⟩=some u) (h63:n+l.length≤maxLen) (hby:(n+l.length)*bytes≤140737488355328) (hbase:lo≤w.heap.size)
  (h:∀va vc w',w'.ownsRow lo e k (.slice va (n+l.length) vc) (n+l.length) (xs++l.flatMap cf)→w.grownBy w' v.ownBlock→wpList Tryz.prog ops Q rest (a.put o.dst (.slice va (n+l.length) vc)) w'):wpList Tryz.prog ops Q (o::rest) a w:=
 wpList_plain hgd fun _ hK=>wp_app_sl s x t e k bytes ho ht hinfo hzs hk0 cf hcf h1 lo v n xs hs hown l ad c hx hr h63 hby hbase fun va vc w' h2 h3=>hK _ _ (h va vc w' h2 h3)
theorem step_app_sl {α:Type} {w:World} {ops:Array Oper} {o:Oper} {a:Act} {K:Act→World→Prop} {Q:Exit→Act→World→Prop} {E:Prop} (hgd:o.guard=none) (s x:Operand) (t e k bytes:Nat) {z:Value} (ho:o.op=.call { callee:=.builtin .append,args:=#[s,x],argTypes:=#[t,t] }) (ht:Tryz.prog.underlying t=some (.slice e)) (hinfo:(Tryz.prog.info? e).map (fun i=>(i.zero,i.size,i.bytes))=some (some z,k,bytes)) (hzs:z.cells.size=k) (hk0:0<k)
  (cf:α→List Value) (hcf:∀x,(cf x).length=k) (h1:∀x,∀u∈cf x,u.oneCell'=true) (lo:Nat) (v:Value) (n:Nat) (xs:List Value) (hs:a.eval s=v) (hown:w.ownsRow lo e k v n xs) (l:List α) (ad:Option Addr) (c:Nat) (hx:a.eval x=.slice ad l.length c)
  (hr:∀j x,l[j]?=some x→∃b o,ad=some ⟨b,o,none⟩∧∀i u,(cf x)[i]?=some u→w.cell? ⟨b,o+j*k+i,none⟩=some u) (h63:n+l.length≤maxLen) (hby:(n+l.length)*bytes≤140737488355328) (hbase:lo≤w.heap.size)
  (h:∀va vc w',w'.ownsRow lo e k (.slice va (n+l.length) vc) (n+l.length) (xs++l.flatMap cf)→w.grownBy w' v.ownBlock→K (a.put o.dst (.slice va (n+l.length) vc)) w') :
  if Region.wanted o (yielded ops a.tmps)=true then Oper.wp Tryz.prog o a w K Q else E:=by
 have hw:Region.wanted o (yielded ops a.tmps)=true:=by simp[Region.wanted,hgd]
 rw[if_pos hw]
 exact wp_app_sl s x t e k bytes ho ht hinfo hzs hk0 cf hcf h1 lo v n xs hs hown l ad c hx hr h63 hby hbase h
theorem row_cells {α:Type} {w:World} {B n:Nat} {V:α→List Value→Prop} {cf:α→List Value} {a:Option Addr} {l:List α} (h:Row w B n V a l) (hV:∀x vs,V x vs→vs=cf x) {W:World} {C:Nat} (hb:Below C w W) (hB:B≤C):∀j x,l[j]?=some x→∃b o,a=some ⟨b,o,none⟩∧∀i u,(cf x)[i]?=some u→W.cell? ⟨b,o+j*n+i,none⟩=some u:=fun j x hj=>by
 obtain⟨b,o,vs,e,hlt,hv,hc⟩:=h j x hj
 have:=hV x vs hv
 subst this
 exact⟨b,o,e,fun i u hu=>(hb.cell (p:=⟨b,o+j*n+i,none⟩) (Nat.lt_of_lt_of_le hlt hB)).trans (hc i u hu)⟩
theorem sls_own {α:Type} {W:World} {base e n:Nat} {V:α→List Value→Prop} {cf:α→List Value} {l:List α} {v:Value} (hn:∀x,(cf x).length=n) (h:W.ownsRow base e n v l.length (l.flatMap cf)) (hV:∀x∈l,V x (cf x)) (hl:l.length≤140737488355328):SlS W (fun b=>base≤b∧b<W.heap.size) n V l v:=by
 obtain⟨a,c,rfl,hc⟩:=own_cap h
 refine⟨a,c,rfl,hc,hl,fun j x hj=>?_⟩
 obtain⟨g,cap,e,hb,hg,hcl⟩:=own_rows hn h hj
 cases e
 exact⟨g,0,cf x,rfl,⟨hb,hg⟩,hV x (List.mem_of_getElem? hj),hcl⟩
theorem Grs.slsB {W:World} {base:Nat} {lv:Value} {L:List (Gr×Value)} (h:Grs W base lv L) (hl:L.length≤140737488355328) (hn:∀q∈L,q.1.cons.length≤140737488355328):SlS W (fun b=>base≤b∧b<W.heap.size) 2 (GrS W (fun b=>base≤b∧b<W.heap.size)) (L.map (·.1)) lv:=by
 obtain⟨a,c,rfl,hc⟩:=own_cap h.row
 refine⟨a,c,by rw[List.length_map],by rw[List.length_map];exact hc,by rw[List.length_map];omega,fun j x hj=>?_⟩
 rw[List.getElem?_map,Option.map_eq_some_iff] at hj
 obtain⟨q,hq,rfl⟩:=hj
 obtain⟨g,cap,e,hb,hg,hcl⟩:=own_rows (cf:=gcell) (fun _=>rfl) h.row hq
 cases e
 refine⟨g,0,gcell q,rfl,⟨hb,hg⟩,⟨q.2,rfl,?_⟩,hcl⟩
 have hm:=List.mem_of_getElem? hq
 have hq2:=(h.subs q hm).row
 have e:(q.1.cons.flatMap fun s=>[Value.string s])=ncells q.1.cons:=by unfold ncells;rw[List.map_eq_flatMap]
 rw[←e] at hq2
 exact sls_own (cf:=fun s:ByteArray=>[Value.string s]) (fun _=>rfl) hq2 (fun _ _=>rfl) (hn q hm)
/- The three boxes of a copy in the making. -/
structure CB (w W:World) (src o:Array Value):Prop where
 bel:Below w.heap.size w W
 sz:w.heap.size+3≤W.heap.size
 s:Blk W w.heap.size 28 src
 z:Blk W (w.heap.size+1) 28 #[.string ⟨#[]⟩,.string ⟨#[]⟩,.slice none 0 0,.slice none 0 0,.slice none 0 0,.slice none 0 0,.slice none 0 0]
 o:Blk W (w.heap.size+2) 28 o
theorem CB.after {w W W':World} {src o:Array Value} (h:CB w W src o) (hb:Below W.heap.size W W'):CB w W' src o:=⟨below_tr h.bel hb,Nat.le_trans h.sz hb.size,h.s.after hb,h.z.after hb,h.o.after hb⟩
theorem CB.grow {w W W':World} {src o:Array Value} {r:Option Nat} (h:CB w W src o) (hg:W.grownBy W' r) (hr:∀b,r=some b→w.heap.size+3≤b):CB w W' src o:=
 ⟨h.bel.trans (below_grO hg (fun b hb=>by have:=hr b hb;omega) h.bel.size),Nat.le_trans h.sz hg.size,h.s.kept hg (fun e=>by have:=hr _ e.symm;omega),h.z.kept hg (fun e=>by have:=hr _ e.symm;omega),h.o.kept hg (fun e=>by have:=hr _ e.symm;omega)⟩
theorem CB.set {w W:World} {src o:Array Value} (h:CB w W src o) (i:Nat) (v:Value):CB w (W.setCell ⟨w.heap.size+2,i,none⟩ v) src (o.setIfInBounds i v):=
 ⟨h.bel.trans (below_gr (grownBy_setCell _ _ _ _) (by omega) h.bel.size),by have:=h.sz;have h2:=(grownBy_setCell W (w.heap.size+2) i v).size;omega,h.s.put _ _ _ (by omega),h.z.put _ _ _ (by omega),h.o.set i v⟩
theorem CB.start (w:World) (src o:Array Value):CB w (((w.alloc (.cells src 28)).alloc (.cells #[.string ⟨#[]⟩,.string ⟨#[]⟩,.slice none 0 0,.slice none 0 0,.slice none 0 0,.slice none 0 0,.slice none 0 0] 28)).alloc (.cells o 28)) src o:=by
 refine⟨((((Below.refl _ _).alloc (Nat.le_refl _) _).alloc (by simp) _).alloc (by simp;omega) _),by simp,((Blk.new w 28 src).alloc _).alloc _,?_,?_⟩
 ·have:=(Blk.new (w.alloc (.cells src 28)) 28 #[.string ⟨#[]⟩,.string ⟨#[]⟩,.slice none 0 0,.slice none 0 0,.slice none 0 0,.slice none 0 0,.slice none 0 0]).alloc (.cells o 28)
  simpa using this
 ·have:=Blk.new ((w.alloc (.cells src 28)).alloc (.cells #[.string ⟨#[]⟩,.string ⟨#[]⟩,.slice none 0 0,.slice none 0 0,.slice none 0 0,.slice none 0 0,.slice none 0 0] 28)) 28 o
  simpa using this
theorem DefIn.nil (W:World) (d:Df) (base:Nat) (hb:base≤W.heap.size):DefIn W base base ⟨d.start,d.layout,[],[],[],[],[]⟩ (.slice none 0 0) (.slice none 0 0) (.slice none 0 0) (.slice none 0 0) (.slice none 0 0) [] [] []:=
 ⟨World.ownsRow_nil _ _ _ _,World.ownsRow_nil _ _ _ _,World.ownsRow_nil _ _ _ _,World.ownsRow_nil _ _ _ _,World.ownsRow_nil _ _ _ _,rfl,rfl,rfl,fun _ h=>(by cases h),fun _ h=>(by cases h),fun _ h=>(by cases h),fun _ h=>(by cases h),fun v hv b hb=>(by simp only[List.mem_cons,List.not_mem_nil,or_false] at hv;rcases hv with rfl | rfl | rfl | rfl | rfl<;>simp[Value.ownBlock] at hb),hb⟩
section
variable {W w7:World} {base hi:Nat} {d:Df} {v2 v3 v4 v5 v6:Value} {Lp:List (Pr×Value)} {Lc:List (List Gr×Value)} {Lb:List (Bo×Value)}
theorem ss_fol (h:DefIn W base hi d v2 v3 v4 v5 v6 Lp Lc Lb) {u:Value} (hu:∀b,u.ownBlock=some b→W.heap.size≤b) {x4 x5:Value} (hx:x4=u∧x5=v5∨x4=v4∧x5=u) {H:Nat} (hH:hi≤H):∀b,SS base hi [v2,v3,v4,v5,v6] b→SS base H [v2,v3,x4,x5,v6] b:=fun b hb=>⟨hb.1,Nat.lt_of_lt_of_le hb.2.1 hH,fun y hy=>by
 have h3:=hb.2.2
 have hlt:b<W.heap.size:=Nat.lt_of_lt_of_le hb.2.1 h.up
 have hnu:some b≠u.ownBlock:=fun e=>by have:=hu b e.symm;omega
 simp only[List.mem_cons,List.not_mem_nil,or_false] at hy h3
 rcases hx with ⟨rfl,rfl⟩ | ⟨rfl,rfl⟩
 ·rcases hy with rfl | rfl | rfl | rfl | rfl
  ·exact h3 _ (by simp)
  ·exact h3 _ (by simp)
  ·exact hnu
  ·exact h3 _ (by simp)
  ·exact h3 _ (by simp)
 ·rcases hy with rfl | rfl | rfl | rfl | rfl
  ·exact h3 _ (by simp)
  ·exact h3 _ (by simp)
  ·exact h3 _ (by simp)
  ·exact hnu
  ·exact h3 _ (by simp)⟩
theorem own_lt {B e size n:Nat} {v:Value} {xs:List Value} (h:w7.ownsRow B e size v n xs):∀b,v.ownBlock=some b→B≤b∧b<w7.heap.size:=fun b hb=>h.lt b hb
theorem DefIn.setf (h:DefIn W base hi d v2 v3 v4 v5 v6 Lp Lc Lb) (hb:Below W.heap.size W w7) (hbw:base≤W.heap.size) {u:Value} {fs:List Fo} (hown:w7.ownsRow W.heap.size 54 5 u fs.length (fs.flatMap fcell)) (hok:∀f∈fs,f.set.ok):DefIn w7 base w7.heap.size ⟨d.start,d.layout,d.prods,d.chains,fs,d.rejects,d.boxes⟩ v2 v3 u v5 v6 Lp Lc Lb:=by
 have k:=h.below hb
 have hS:=ss_fol h (u:=u) (fun b hb=>(own_lt hown b hb).1) (x4:=u) (x5:=v5) (.inl ⟨rfl,rfl⟩) (H:=w7.heap.size) (Nat.le_trans h.up hb.size)
 have hc:∀b,SS base hi [v2,v3,v4,v5,v6] b→∀q,w7.cell? ⟨b,q,none⟩=w7.cell? ⟨b,q,none⟩:=fun _ _ _=>rfl
 have hlo:=k.lo
 have hup:=k.up
 refine⟨k.rp,k.rc,row_mono hown hbw,k.rr,k.rb,k.ep,k.ec,k.eb,fun q hq=>(k.sp q hq).keep hc hS (fun _ _ h=>h),fun q hq=>(k.sc q hq).keep hc hS (fun _ _ h=>h.keep hc hS),fun q hq=>(k.sb q hq).keep hc hS,hok,fun y hy b hb=>?_,Nat.le_refl _⟩
 simp only[List.mem_cons,List.not_mem_nil,or_false] at hy
 rcases hy with rfl | rfl | rfl | rfl | rfl
 ·have:=hlo _ (by simp) b hb;omega
 ·have:=hlo _ (by simp) b hb;omega
 ·exact (own_lt hown b hb).2
 ·have:=hlo _ (by simp) b hb;omega
 ·have:=hlo _ (by simp) b hb;omega
theorem DefIn.setr (h:DefIn W base hi d v2 v3 v4 v5 v6 Lp Lc Lb) (hb:Below W.heap.size W w7) (hbw:base≤W.heap.size) {u:Value} {rs:List Re} (hown:w7.ownsRow W.heap.size 56 2 u rs.length (rs.flatMap rcell)):DefIn w7 base w7.heap.size ⟨d.start,d.layout,d.prods,d.chains,d.follows,rs,d.boxes⟩ v2 v3 v4 u v6 Lp Lc Lb:=by
 have k:=h.below hb
 have hS:=ss_fol h (u:=u) (fun b hb=>(own_lt hown b hb).1) (x4:=v4) (x5:=u) (.inr ⟨rfl,rfl⟩) (H:=w7.heap.size) (Nat.le_trans h.up hb.size)
 have hc:∀b,SS base hi [v2,v3,v4,v5,v6] b→∀q,w7.cell? ⟨b,q,none⟩=w7.cell? ⟨b,q,none⟩:=fun _ _ _=>rfl
 have hlo:=k.lo
 have hup:=k.up
 refine⟨k.rp,k.rc,k.rf,row_mono hown hbw,k.rb,k.ep,k.ec,k.eb,fun q hq=>(k.sp q hq).keep hc hS (fun _ _ h=>h),fun q hq=>(k.sc q hq).keep hc hS (fun _ _ h=>h.keep hc hS),fun q hq=>(k.sb q hq).keep hc hS,k.ok,fun y hy b hb=>?_,Nat.le_refl _⟩
 simp only[List.mem_cons,List.not_mem_nil,or_false] at hy
 rcases hy with rfl | rfl | rfl | rfl | rfl
 ·have:=hlo _ (by simp) b hb;omega
 ·have:=hlo _ (by simp) b hb;omega
 ·have:=hlo _ (by simp) b hb;omega
 ·exact (own_lt hown b hb).2
 ·have:=hlo _ (by simp) b hb;omega
end
end
end Go.Proofs.YtilpgpcgcpedjaaGreat
