/- A definition's text, read: the whole of it; what is given up is caught. A definition's text, read: Parse at every text. -/
import Derived.Test.YtcpakcffiopfjaaGreatDoorKw
import Derived.BigRegion
import Derived.Defers
import Derived.Recover
import Derived.Test.YtcpakcffiopfjaaGreatDoorA0
import Derived.Test.YtcpakcffiopfjaaGreatDoorE1
import Derived.Test.YtcpakcffiopfjaaGreatDoorA1
namespace Go.Proofs.YtcpakcffiopfjaaGreatDoor
open Go.RowKit
set_option linter.unusedVariables false
set_option linter.unusedSimpArgs false
set_option maxRecDepth 100000
set_option maxHeartbeats 16000000
set_option linter.unusedVariables false
set_option linter.unusedSimpArgs false
set_option maxRecDepth 100000
set_option maxHeartbeats 16000000
theorem caught_none (tb fb:Nat) (w:World):CallsD Tryz.prog 54 #[.pointer (some ⟨tb,0,none⟩),.pointer (some ⟨fb,0,none⟩)] .returning w fun e u' w'=>e=.returned (.tuple #[])∧u'=.returning∧w'=w:=by
 refine callsD_of_wpS Tryz.func54 rfl fun c₀ cs hu=>?_
 apply wpS_seq
 apply wpS_region
 simp[wpOpsS,go_sem,recoverD,hu,Tryz.ntmps54,Exit.thenS]
 refine wpS_of_wp ?_
 simp only[Array.replicate_succ,Array.replicate_zero,List.push_toArray,List.append_toArray,List.nil_append,List.cons_append,List.setIfInBounds_toArray,List.set_cons_zero,List.set_cons_succ]
 go_wp2
 cases c₀
 simp_all [bodyPostS,results,Tryz.results54]
theorem assert_fault (v:Value) (w:World):(Instr.typeAssert (.iface 37 v) 20 37 true).run Tryz.prog w=.ok (.tuple #[v,.bool true]) w:=by kernel_rfl
theorem set_step {W A:World} {b o:Nat} {u:Value} (h:W.setCell ⟨b,o,none⟩ u=A):(∀k,k≠b→A.heap[k]?=W.heap[k]?)∧A.os=W.os∧A.tape=W.tape∧A.output=W.output∧A.heap.size=W.heap.size:=by
 subst h
 exact⟨fun k hk=>Below.heap_setCell W ⟨b,o,none⟩ u k hk,rfl,rfl,rfl,by simp[World.setCell]⟩
theorem two_world (tb fb:Nat) (c0 c1 c2 c3 c4 c5 c6 u0 u1:Value) (a0 a1 a2 a3 a4 a5 a6 b0 b1:Value) (w W:World) (hne:tb≠fb) (HB:Below w.heap.size w W) (hT:Blk W tb 28 #[a0,a1,a2,a3,a4,a5,a6]) (hF:Blk W fb 37 #[b0,b1]) (X:World)
  (hX:X=(((((((((W.setCell ⟨tb,0,none⟩ (c0)).setCell ⟨tb,1,none⟩ (c1)).setCell ⟨tb,2,none⟩ (c2)).setCell ⟨tb,3,none⟩ (c3)).setCell ⟨tb,4,none⟩ (c4)).setCell ⟨tb,5,none⟩ (c5)).setCell ⟨tb,6,none⟩ (c6)).setCell ⟨fb,0,none⟩ (u0)).setCell ⟨fb,1,none⟩ (u1))) :
  Blk X tb 28 #[c0,c1,c2,c3,c4,c5,c6]∧Blk X fb 37 #[u0,u1]∧X.os=w.os∧X.tape=w.tape∧X.output=w.output∧W.heap.size=X.heap.size∧(∀b,b≠tb→b≠fb→X.heap[b]?=W.heap[b]?)∧∀b,b<w.heap.size→b≠tb→b≠fb→X.heap[b]?=w.heap[b]?:=by
 obtain⟨A1,e1⟩:∃A,W.setCell ⟨tb,0,none⟩ c0=A:=⟨_,rfl⟩
 obtain⟨A2,e2⟩:∃A,A1.setCell ⟨tb,1,none⟩ c1=A:=⟨_,rfl⟩
 obtain⟨A3,e3⟩:∃A,A2.setCell ⟨tb,2,none⟩ c2=A:=⟨_,rfl⟩
 obtain⟨A4,e4⟩:∃A,A3.setCell ⟨tb,3,none⟩ c3=A:=⟨_,rfl⟩
 obtain⟨A5,e5⟩:∃A,A4.setCell ⟨tb,4,none⟩ c4=A:=⟨_,rfl⟩
 obtain⟨A6,e6⟩:∃A,A5.setCell ⟨tb,5,none⟩ c5=A:=⟨_,rfl⟩
 obtain⟨A7,e7⟩:∃A,A6.setCell ⟨tb,6,none⟩ c6=A:=⟨_,rfl⟩
 obtain⟨A8,e8⟩:∃A,A7.setCell ⟨fb,0,none⟩ u0=A:=⟨_,rfl⟩
 rw[e1,e2,e3,e4,e5,e6,e7,e8] at hX
 have e9:=hX.symm
 have T1:=hT.set 0 c0
 rw[e1] at T1
 have F1:=hF.put tb 0 c0 hne.symm
 rw[e1] at F1
 simp only[List.setIfInBounds_toArray,List.set_cons_zero] at T1
 have T2:=T1.set 1 c1
 rw[e2] at T2
 have F2:=F1.put tb 1 c1 hne.symm
 rw[e2] at F2
 simp only[List.setIfInBounds_toArray,List.set_cons_zero,List.set_cons_succ] at T2
 have T3:=T2.set 2 c2
 rw[e3] at T3
 have F3:=F2.put tb 2 c2 hne.symm
 rw[e3] at F3
 simp only[List.setIfInBounds_toArray,List.set_cons_zero,List.set_cons_succ] at T3
 have T4:=T3.set 3 c3
 rw[e4] at T4
 have F4:=F3.put tb 3 c3 hne.symm
 rw[e4] at F4
 simp only[List.setIfInBounds_toArray,List.set_cons_zero,List.set_cons_succ] at T4
 have T5:=T4.set 4 c4
 rw[e5] at T5
 have F5:=F4.put tb 4 c4 hne.symm
 rw[e5] at F5
 simp only[List.setIfInBounds_toArray,List.set_cons_zero,List.set_cons_succ] at T5
 have T6:=T5.set 5 c5
 rw[e6] at T6
 have F6:=F5.put tb 5 c5 hne.symm
 rw[e6] at F6
 simp only[List.setIfInBounds_toArray,List.set_cons_zero,List.set_cons_succ] at T6
 have T7:=T6.set 6 c6
 rw[e7] at T7
 have F7:=F6.put tb 6 c6 hne.symm
 rw[e7] at F7
 simp only[List.setIfInBounds_toArray,List.set_cons_zero,List.set_cons_succ] at T7
 have T8:=T7.put fb 0 u0 hne
 rw[e8] at T8
 have F8:=F7.set 0 u0
 rw[e8] at F8
 simp only[List.setIfInBounds_toArray,List.set_cons_zero] at F8
 have T9:=T8.put fb 1 u1 hne
 rw[e9] at T9
 have F9:=F8.set 1 u1
 rw[e9] at F9
 simp only[List.setIfInBounds_toArray,List.set_cons_zero,List.set_cons_succ] at F9
 obtain⟨k1,o1,p1,q1,r1⟩:=set_step e1
 obtain⟨k2,o2,p2,q2,r2⟩:=set_step e2
 obtain⟨k3,o3,p3,q3,r3⟩:=set_step e3
 obtain⟨k4,o4,p4,q4,r4⟩:=set_step e4
 obtain⟨k5,o5,p5,q5,r5⟩:=set_step e5
 obtain⟨k6,o6,p6,q6,r6⟩:=set_step e6
 obtain⟨k7,o7,p7,q7,r7⟩:=set_step e7
 obtain⟨k8,o8,p8,q8,r8⟩:=set_step e8
 obtain⟨k9,o9,p9,q9,r9⟩:=set_step e9
 have hk:∀b,b≠tb→b≠fb→X.heap[b]?=W.heap[b]?:=fun b h1 h2=>((k9 b h2).trans ((k8 b h2).trans ((k7 b h1).trans ((k6 b h1).trans ((k5 b h1).trans ((k4 b h1).trans ((k3 b h1).trans ((k2 b h1).trans (k1 b h1)))))))))
 clear e1 e2 e3 e4 e5 e6 e7 e8 e9 hX
 exact⟨T9,F9,((o9).trans ((o8).trans ((o7).trans ((o6).trans ((o5).trans ((o4).trans ((o3).trans ((o2).trans (o1))))))))).trans HB.os,((p9).trans ((p8).trans ((p7).trans ((p6).trans ((p5).trans ((p4).trans ((p3).trans ((p2).trans (p1))))))))).trans HB.tape,((q9).trans ((q8).trans ((q7).trans ((q6).trans ((q5).trans ((q4).trans ((q3).trans ((q2).trans (q1))))))))).trans HB.output,by omega,hk,fun b hb h1 h2=>(hk b h1 h2).trans (HB.block b hb)⟩
theorem caught_fault (tb fb:Nat) (p c:Nat) (v0 v1 v2 v3 v4 v5 v6 u0 u1:Value) (w:World) (hne:tb≠fb) (hT:Blk w tb 28 #[v0,v1,v2,v3,v4,v5,v6]) (hF:Blk w fb 37 #[u0,u1]) :
  CallsD Tryz.prog 54 #[.pointer (some ⟨tb,0,none⟩),.pointer (some ⟨fb,0,none⟩)] (.panicking [{ v:=.iface 37 (.agg #[.int .i64 (p:Int),.int .i64 (c:Int)]),recovered:=false }]) w fun e u' w'=>e=.returned (.tuple #[])∧u'=.panicking [{ v:=.iface 37 (.agg #[.int .i64 (p:Int),.int .i64 (c:Int)]),recovered:=true }] ∧
   Blk w' tb 28 #[.string ⟨#[]⟩,.string ⟨#[]⟩,.slice none 0 0,.slice none 0 0,.slice none 0 0,.slice none 0 0,.slice none 0 0]∧Blk w' fb 37 #[.int .i64 (p:Int),.int .i64 (c:Int)] ∧
   w'.os=w.os∧w'.tape=w.tape∧w'.output=w.output∧w.heap.size≤w'.heap.size∧∀b,b<w.heap.size→b≠tb→b≠fb→w'.heap[b]?=w.heap[b]?:=by
 have hta:=assert_fault
 have htl:=hT.lt
 have hfl:=hF.lt
 refine callsD_of_wpS Tryz.func54 rfl fun c₀ cs hu=>?_
 apply wpS_seq
 apply wpS_region
 simp[wpOpsS,go_sem,recoverD,hu,Tryz.ntmps54,Exit.thenS]
 refine wpS_of_wp ?_
 simp only[Array.replicate_succ,Array.replicate_zero,List.push_toArray,List.append_toArray,List.nil_append,List.cons_append,List.setIfInBounds_toArray,List.set_cons_zero,List.set_cons_succ]
 have HTF:Hid _:=(⟨hT,hF⟩:_∧_)
 clear hT hF
 go_wp2
 obtain⟨W,hW⟩:∃W,w.alloc (.cells #[.int .i64 (p:Int),.int .i64 (c:Int)] 37)=W:=⟨_,rfl⟩
 have hB:Below w.heap.size w W:=by rw[←hW];exact (Below.refl _ _).alloc (Nat.le_refl _) _
 have n0:W.cell? ⟨w.heap.size,0,none⟩=some (.int .i64 (p:Int)):=by rw[←hW];exact cell_new 0 rfl
 have n1:W.cell? ⟨w.heap.size,1,none⟩=some (.int .i64 (c:Int)):=by rw[←hW];exact cell_new 1 rfl
 rw[hW]
 have hT:=HTF.out.1.after hB
 have hF:=HTF.out.2.after hB
 have t0:=hT.cell 0 rfl
 have z0:=hT.frozen 0
 have t1:=hT.cell 1 rfl
 have z1:=hT.frozen 1
 have t2:=hT.cell 2 rfl
 have z2:=hT.frozen 2
 have t3:=hT.cell 3 rfl
 have z3:=hT.frozen 3
 have t4:=hT.cell 4 rfl
 have z4:=hT.frozen 4
 have t5:=hT.cell 5 rfl
 have z5:=hT.frozen 5
 have t6:=hT.cell 6 rfl
 have z6:=hT.frozen 6
 have g0:=hF.cell 0 rfl
 have y0:=hF.frozen 0
 have g1:=hF.cell 1 rfl
 have y1:=hF.frozen 1
 have HB:=hHi hB
 have htn:tb≠w.heap.size:=by omega
 have hfn:fb≠w.heap.size:=by omega
 have HF:Hid (∀X,X=(((((((((W.setCell ⟨tb,0,none⟩ (.string ⟨#[]⟩)).setCell ⟨tb,1,none⟩ (.string ⟨#[]⟩)).setCell ⟨tb,2,none⟩ (.slice none 0 0)).setCell ⟨tb,3,none⟩ (.slice none 0 0)).setCell ⟨tb,4,none⟩ (.slice none 0 0)).setCell ⟨tb,5,none⟩ (.slice none 0 0)).setCell ⟨tb,6,none⟩ (.slice none 0 0)).setCell ⟨fb,0,none⟩ (.int .i64 (p:Int))).setCell ⟨fb,1,none⟩ (.int .i64 (c:Int))).drew→Blk X tb 28 #[.string ⟨#[]⟩,.string ⟨#[]⟩,.slice none 0 0,.slice none 0 0,.slice none 0 0,.slice none 0 0,.slice none 0 0]∧Blk X fb 37 #[.int .i64 (p:Int),.int .i64 (c:Int)]∧X.os=w.os∧X.tape=w.tape∧X.output=w.output∧w.heap.size≤X.heap.size∧∀b,b<w.heap.size→b≠tb→b≠fb→X.heap[b]?=w.heap[b]?):=fun X hX=>by
  subst hX
  obtain⟨Y,hY⟩:∃Y,Y=(((((((((W.setCell ⟨tb,0,none⟩ (.string ⟨#[]⟩)).setCell ⟨tb,1,none⟩ (.string ⟨#[]⟩)).setCell ⟨tb,2,none⟩ (.slice none 0 0)).setCell ⟨tb,3,none⟩ (.slice none 0 0)).setCell ⟨tb,4,none⟩ (.slice none 0 0)).setCell ⟨tb,5,none⟩ (.slice none 0 0)).setCell ⟨tb,6,none⟩ (.slice none 0 0)).setCell ⟨fb,0,none⟩ (.int .i64 (p:Int))).setCell ⟨fb,1,none⟩ (.int .i64 (c:Int))):=⟨_,rfl⟩
  obtain⟨h1,h2,h3,h4,h5,h6,_,h7⟩:=two_world tb fb (.string ⟨#[]⟩) (.string ⟨#[]⟩) (.slice none 0 0) (.slice none 0 0) (.slice none 0 0) (.slice none 0 0) (.slice none 0 0) (.int .i64 (p:Int)) (.int .i64 (c:Int)) v0 v1 v2 v3 v4 v5 v6 u0 u1 w W hne HB.out hT hF Y hY
  rw[←hY]
  exact⟨h1,h2,h3,h4,h5,Nat.le_trans HB.out.size (Nat.le_of_eq h6),h7⟩
 clear hW hB hT hF HTF
 go_region
 go_wp2
 exact⟨rfl,_,rfl,.tuple #[],by simp[results,Tryz.results54,go_sem],rfl,rfl,HF.out _ rfl⟩
theorem rd_made {W:World} {base:Nat} {lv:Value} {L:List (Wd×Value)} (h:Words W base lv L) (hf:∀d∈L.map (·.1),Fine d) (hbl:∀d∈L.map (·.1),d.bytes.length≤65536) (hfin:Fin' (L.map (·.1))) (hlen:L.length≤65537):Rd (W.alloc (.cells #[lv,.string ⟨#[]⟩,.string ⟨#[]⟩,.slice none 0 0,.slice none 0 0,.slice none 0 0,.slice none 0 0,.slice none 0 0] 100)) W.heap.size [.string ⟨#[]⟩,.string ⟨#[]⟩,.slice none 0 0,.slice none 0 0,.slice none 0 0,.slice none 0 0,.slice none 0 0] (L.map (·.1)):=by
 obtain⟨a,c,rfl,hc⟩:=own_cap h.row
 have hB:Below W.heap.size W (W.alloc (.cells #[.slice a L.length c,.string ⟨#[]⟩,.string ⟨#[]⟩,.slice none 0 0,.slice none 0 0,.slice none 0 0,.slice none 0 0,.slice none 0 0] 100)):=(Below.refl _ _).alloc (Nat.le_refl _) _
 refine⟨⟨a,c,by rw[List.length_map];exact Blk.new _ _ _,by rw[List.length_map];exact hc,fun j x hj=>?_⟩,hfin,by rw[List.length_map];exact hlen⟩
 rw[List.getElem?_map,Option.map_eq_some_iff] at hj
 obtain⟨q,hq,rfl⟩:=hj
 have hm:=List.mem_of_getElem? hq
 obtain⟨g,cap,e,hb,hg,hcl⟩:=own_rows (cf:=fun q:Wd×Value=>wcell q.1 q.2) (fun _=>rfl) h.row hq
 cases e
 refine⟨g,0,wcell q.1 q.2,rfl,hg,⟨(hf q.1 (List.mem_map_of_mem hm)).set,q.2,rfl,?_⟩,fun i v hi=>(hB.cell (p:=⟨g,_,none⟩) hg).trans (hcl i v hi)⟩
 have hby:=h.bytes q hm
 obtain⟨a2,c2,e2,hc2⟩:=own_cap hby
 have hmx:q.1.bytes.length≤140737488355328:=by have:=hbl q.1 (List.mem_map_of_mem hm);omega
 refine⟨a2,c2,e2,hc2,hmx,fun i y hy=>?_⟩
 have e3:bytesV q.1.bytes=q.1.bytes.flatMap fun n:Nat=>[Value.int .u8 (n:Int)]:=by unfold bytesV;rw[List.map_eq_flatMap]
 rw[e3] at hby
 obtain⟨g',cap',e',hb',hg',hcl'⟩:=own_rows (cf:=fun n:Nat=>[Value.int .u8 (n:Int)]) (fun _=>rfl) hby hy
 rw[e2] at e'
 cases e'
 exact⟨g',0,_,rfl,hg',⟨(hf q.1 (List.mem_map_of_mem hm)).bytes y (List.mem_of_getElem? hy),rfl⟩,fun k v hk=>(hB.cell (p:=⟨g',_,none⟩) hg').trans (hcl' k v hk)⟩
theorem def_made (W:World) (base hi:Nat) (h:hi≤W.heap.size):DefAt W base hi Df0 [.string ⟨#[]⟩,.string ⟨#[]⟩,.slice none 0 0,.slice none 0 0,.slice none 0 0,.slice none 0 0,.slice none 0 0]:=
 ⟨_,_,_,_,_,[],[],[],rfl,⟨World.ownsRow_nil _ _ _ _,World.ownsRow_nil _ _ _ _,World.ownsRow_nil _ _ _ _,World.ownsRow_nil _ _ _ _,World.ownsRow_nil _ _ _ _,rfl,rfl,rfl,fun q h=>(by cases h),fun q h=>(by cases h),fun q h=>(by cases h),fun q h=>(by cases h),fun v hv b hb=>(by
  simp only[List.mem_cons,List.not_mem_nil,or_false] at hv
  rcases hv with rfl | rfl | rfl | rfl | rfl<;>cases hb),h⟩⟩
theorem stmts_lens:∀(f:Nat) (d:Df) (L:List Wd) (d':Df) (R:List Wd),Lens d L.length→stmtsR f d L=.ok d' R→Lens d' R.length
 | 0,d,L,d',R,_,h=>by rw[stmtsR] at h;cases h
 | f+1,d,L,d',R,hl,h=>by
  rw[stmtsR] at h
  split at h
  ·cases h;exact hl
  ·obtain⟨d1,L1,h1,h⟩:=PR.bind_ok h
   obtain⟨u,L2,h2,h⟩:=PR.bind_ok h
   have a:=(rdr_stmt d).loc.len h1
   have b:=(want_len (by simp) h2).1
   exact stmts_lens f d1 L2 d' R (hl.step (stmt_adds h1) (by omega)) h
theorem lens0 {n:Nat} (h:n≤65537):Lens Df0 n:=⟨by decide,by show 0+n≤65537;omega,by show 0+n≤65537;omega,by show 0+n≤65537;omega,by show 0+n≤65537;omega⟩
def PDf (w:World):PR Df→Ending→World→Prop
 | .ok d _,e,w'=>(∃v2 v3 v4 v5 v6,e=.returned (.tuple #[.agg #[.string d.start,.string d.layout,v2,v3,v4,v5,v6],.agg #[.int .i64 0,.int .i64 0]])∧DA w' d [.string d.start,.string d.layout,v2,v3,v4,v5,v6])∧Below w.heap.size w w'
 | .bad q c,e,w'=>e=.returned (.tuple #[.agg #[.string ⟨#[]⟩,.string ⟨#[]⟩,.slice none 0 0,.slice none 0 0,.slice none 0 0,.slice none 0 0,.slice none 0 0],.agg #[.int .i64 (q:Int),.int .i64 (c:Int)]])∧Below w.heap.size w w'
theorem dparse_any (s:ByteArray) (w:World) (hsf:safeS ((scan s.data.toList).1.length+1) Df0 (scan s.data.toList).1=true):Calls Tryz.prog 19 #[.string s] w fun e w'=>PDf w (parR s.data.toList) e w':=by
 have hmf:∀(fn:Fn) (first cap:Array Value) (w:World),(Instr.makeFunc fn first cap).run Tryz.prog w=.ok (.func fn first cap) w:=fun _ _ _ _=>rfl
 obtain⟨w2,hw2⟩:∃w2,(w.alloc (.cells #[.string ⟨#[]⟩,.string ⟨#[]⟩,.slice none 0 0,.slice none 0 0,.slice none 0 0,.slice none 0 0,.slice none 0 0] 28)).alloc (.cells #[.int .i64 0,.int .i64 0] 37)=w2:=⟨_,rfl⟩
 have s2:w2.heap.size=w.heap.size+2:=by rw[←hw2];simp
 have hB2:Below w.heap.size w w2:=by rw[←hw2];exact ((Below.refl _ _).alloc (Nat.le_refl _) _).alloc (by simp) _
 have hT2:Blk w2 w.heap.size 28 #[.string ⟨#[]⟩,.string ⟨#[]⟩,.slice none 0 0,.slice none 0 0,.slice none 0 0,.slice none 0 0,.slice none 0 0]:=by rw[←hw2];exact (Blk.new w 28 _).alloc _
 have hF2:Blk w2 (w.heap.size+1) 37 #[.int .i64 0,.int .i64 0]:=by
  rw[←hw2]
  have:=Blk.new (w.alloc (.cells #[.string ⟨#[]⟩,.string ⟨#[]⟩,.slice none 0 0,.slice none 0 0,.slice none 0 0,.slice none 0 0,.slice none 0 0] 28)) 37 #[.int .i64 0,.int .i64 0]
  simpa using this
 have hsc:Calls Tryz.prog 20 #[.string s] w2 (Scans w2 (scan s.data.toList)):=scan_any s w2
 have HTF2:Hid (Blk w2 w.heap.size 28 #[.string ⟨#[]⟩,.string ⟨#[]⟩,.slice none 0 0,.slice none 0 0,.slice none 0 0,.slice none 0 0,.slice none 0 0]∧Blk w2 (w.heap.size+1) 37 #[.int .i64 0,.int .i64 0]):=⟨hT2,hF2⟩
 have HB2:Hid (Below w.heap.size w w2):=hB2
 have HS2:Hid (w2.heap.size=w.heap.size+2):=s2
 by_cases hc:(scan s.data.toList).2.2=0
 case neg=>
  have HP:Hid (parR s.data.toList=.bad (scan s.data.toList).2.1 (scan s.data.toList).2.2):=by show _=_;unfold parR;rw[if_neg hc]
  obtain⟨q,hq⟩:∃q,(scan s.data.toList).2.1=q:=⟨_,rfl⟩
  obtain⟨c,hcc⟩:∃c,(scan s.data.toList).2.2=c:=⟨_,rfl⟩
  unfold Scans fv at hsc
  rw[hq,hcc] at hsc HP
  rw[hcc] at hc
  have HSC:=hU hsc
  have cb:((c:Int) != 0)=true:=by simp;omega
  clear hq hcc hsc hT2 hF2 hB2 s2 hc
  go_enter_defers Tryz.func19,Tryz.ntmps19
  go_wp2_with (go_at_call 20;refine hMo HSC ?_)
  rintro e w3 ⟨lv,L,rfl,_,_,hb⟩
  have HT3:Hid (Blk w3 w.heap.size 28 #[.string ⟨#[]⟩,.string ⟨#[]⟩,.slice none 0 0,.slice none 0 0,.slice none 0 0,.slice none 0 0,.slice none 0 0]):=HTF2.out.1.after hb
  have HF3:Hid (Blk w3 (w.heap.size+1) 37 #[.int .i64 0,.int .i64 0]):=HTF2.out.2.after hb
  have HB3:Hid (Below w2.heap.size w2 w3):=hb
  have hs3:=hb.size
  clear hb
  obtain⟨W,hW⟩:∃W,w3.alloc (.cells #[.int .i64 (q:Int),.int .i64 (c:Int)] 37)=W:=⟨_,rfl⟩
  have hB:Below w3.heap.size w3 W:=by rw[←hW];exact (Below.refl _ _).alloc (Nat.le_refl _) _
  have n0:W.cell? ⟨w3.heap.size,0,none⟩=some (.int .i64 (q:Int)):=by rw[←hW];exact cell_new 0 rfl
  have n1:W.cell? ⟨w3.heap.size,1,none⟩=some (.int .i64 (c:Int)):=by rw[←hW];exact cell_new 1 rfl
  have hT:Blk W w.heap.size 28 #[.string ⟨#[]⟩,.string ⟨#[]⟩,.slice none 0 0,.slice none 0 0,.slice none 0 0,.slice none 0 0,.slice none 0 0]:=Blk.after HT3.out hB
  have hF:Blk W (w.heap.size+1) 37 #[.int .i64 0,.int .i64 0]:=Blk.after HF3.out hB
  have t0:=hT.cell 0 rfl
  have z0:=hT.frozen 0
  have t1:=hT.cell 1 rfl
  have z1:=hT.frozen 1
  have t2:=hT.cell 2 rfl
  have z2:=hT.frozen 2
  have t3:=hT.cell 3 rfl
  have z3:=hT.frozen 3
  have t4:=hT.cell 4 rfl
  have z4:=hT.frozen 4
  have t5:=hT.cell 5 rfl
  have z5:=hT.frozen 5
  have t6:=hT.cell 6 rfl
  have z6:=hT.frozen 6
  have g0:=hF.cell 0 rfl
  have y0:=hF.frozen 0
  have g1:=hF.cell 1 rfl
  have y1:=hF.frozen 1
  have HB:=hHi hB
  have HF:Hid (∀X,X=(((((((((W.setCell ⟨w.heap.size,0,none⟩ (.string ⟨#[]⟩)).setCell ⟨w.heap.size,1,none⟩ (.string ⟨#[]⟩)).setCell ⟨w.heap.size,2,none⟩ (.slice none 0 0)).setCell ⟨w.heap.size,3,none⟩ (.slice none 0 0)).setCell ⟨w.heap.size,4,none⟩ (.slice none 0 0)).setCell ⟨w.heap.size,5,none⟩ (.slice none 0 0)).setCell ⟨w.heap.size,6,none⟩ (.slice none 0 0)).setCell ⟨w.heap.size+1,0,none⟩ (.int .i64 (q:Int))).setCell ⟨w.heap.size+1,1,none⟩ (.int .i64 (c:Int))).drew→Blk X w.heap.size 28 #[.string ⟨#[]⟩,.string ⟨#[]⟩,.slice none 0 0,.slice none 0 0,.slice none 0 0,.slice none 0 0,.slice none 0 0]∧Blk X (w.heap.size+1) 37 #[.int .i64 (q:Int),.int .i64 (c:Int)]∧Below w.heap.size w X):=fun X hX=>by
   subst hX
   obtain⟨Y,hY⟩:∃Y,Y=(((((((((W.setCell ⟨w.heap.size,0,none⟩ (.string ⟨#[]⟩)).setCell ⟨w.heap.size,1,none⟩ (.string ⟨#[]⟩)).setCell ⟨w.heap.size,2,none⟩ (.slice none 0 0)).setCell ⟨w.heap.size,3,none⟩ (.slice none 0 0)).setCell ⟨w.heap.size,4,none⟩ (.slice none 0 0)).setCell ⟨w.heap.size,5,none⟩ (.slice none 0 0)).setCell ⟨w.heap.size,6,none⟩ (.slice none 0 0)).setCell ⟨w.heap.size+1,0,none⟩ (.int .i64 (q:Int))).setCell ⟨w.heap.size+1,1,none⟩ (.int .i64 (c:Int))):=⟨_,rfl⟩
   obtain⟨h1,h2,h3,h4,h5,h6,h7,_⟩:=two_world w.heap.size (w.heap.size+1) (.string ⟨#[]⟩) (.string ⟨#[]⟩) (.slice none 0 0) (.slice none 0 0) (.slice none 0 0) (.slice none 0 0) (.slice none 0 0) (.int .i64 (q:Int)) (.int .i64 (c:Int)) (.string ⟨#[]⟩) (.string ⟨#[]⟩) (.slice none 0 0) (.slice none 0 0) (.slice none 0 0) (.slice none 0 0) (.slice none 0 0) (.int .i64 0) (.int .i64 0) w3 W (by omega) HB.out hT hF Y hY
   rw[←hY]
   have b2:=HB2.out
   have b3:=HB3.out
   have bw:=HB.out
   have s2:=HS2.out
   refine⟨h1,h2,⟨h3.trans (b3.os.trans b2.os),h4.trans (b3.tape.trans b2.tape),h5.trans (b3.output.trans b2.output),by have:=b3.size;have:=bw.size;show _≤Y.heap.size;omega,fun b hb=>(h7 b (by omega) (by omega)).trans ((bw.block b (by have:=b3.size;omega)).trans ((b3.block b (by omega)).trans (b2.block b hb)))⟩⟩
  have hne3:w3.heap.size≠w.heap.size:=by have:=HS2.out;have:=HB3.out.size;omega
  have hne4:w3.heap.size≠w.heap.size+1:=by have:=HS2.out;have:=HB3.out.size;omega
  have htl:w.heap.size<W.heap.size:=hT.lt
  have hfl:w.heap.size+1<W.heap.size:=hF.lt
  clear hB hT hF
  go_wp2
  clear hW hw2
  go_region
  go_wp2
  refine gen (fun X=>Blk X w.heap.size 28 #[.string ⟨#[]⟩,.string ⟨#[]⟩,.slice none 0 0,.slice none 0 0,.slice none 0 0,.slice none 0 0,.slice none 0 0]∧Blk X (w.heap.size+1) 37 #[.int .i64 (q:Int),.int .i64 (c:Int)]∧Below w.heap.size w X) (HF.out _ rfl) ?_
  rintro X ⟨r0,r1,hbX⟩
  refine⟨.tuple #[.agg #[.string ⟨#[]⟩,.string ⟨#[]⟩,.slice none 0 0,.slice none 0 0,.slice none 0 0,.slice none 0 0,.slice none 0 0],.agg #[.int .i64 (q:Int),.int .i64 (c:Int)]],by simp[results,Tryz.results19,go_sem,r0.cell 0 rfl,r0.cell 1 rfl,r0.cell 2 rfl,r0.cell 3 rfl,r0.cell 4 rfl,r0.cell 5 rfl,r0.cell 6 rfl,r1.cell 0 rfl,r1.cell 1 rfl],?_⟩
  show PDf w (parR s.data.toList) _ _
  rw[HP.out]
  exact⟨rfl,hbX⟩
 have hsl:s.data.toList.length≤65536:=by
  unfold scan at hc
  split at hc
  ·cases hc
  ·omega
 obtain⟨ws,we,hscn⟩:=scn_of s.data.toList hc
 have hP:parR s.data.toList=stmtsR ((scan s.data.toList).1.length+1) Df0 (scan s.data.toList).1:=by unfold parR;rw[if_pos hc]
 have hfine:=hscn.all
 have hbln:=hscn.blen hsl
 have hfin:=hscn.fin
 have hlen:(scan s.data.toList).1.length≤65537:=by rw[hscn.eq,List.length_append];have:=hscn.len;simp;omega
 obtain⟨q,hq⟩:∃q,(scan s.data.toList).2.1=q:=⟨_,rfl⟩
 obtain⟨K,hK⟩:∃K,(scan s.data.toList).1=K:=⟨_,rfl⟩
 unfold Scans fv at hsc
 rw[hq,hc,hK] at hsc
 rw[hK] at hP hfine hbln hfin hlen hsf
 have HSC:=hU hsc
 have HFI:Hid ((∀d∈K,Fine d)∧(∀d∈K,d.bytes.length≤65536)∧Fin' K∧K.length≤65537):=⟨hfine,hbln,hfin,hlen⟩
 have HP:=hHi hP
 have HSF:=hHi hsf
 clear hsf hq hK hsc hT2 hF2 hB2 s2 hc hP hfine hbln hfin hlen hscn hsl
 go_enter_defers Tryz.func19,Tryz.ntmps19
 go_wp2_with (go_at_call 20;refine hMo HSC ?_)
 rintro e w3 ⟨lv,L,rfl,hLK,hwd,hb⟩
 subst hLK
 have HT3:Hid (Blk w3 w.heap.size 28 #[.string ⟨#[]⟩,.string ⟨#[]⟩,.slice none 0 0,.slice none 0 0,.slice none 0 0,.slice none 0 0,.slice none 0 0]):=HTF2.out.1.after hb
 have HF3:Hid (Blk w3 (w.heap.size+1) 37 #[.int .i64 0,.int .i64 0]):=HTF2.out.2.after hb
 have HB3:Hid (Below w2.heap.size w2 w3):=hb
 have HWD:Hid (Words w3 w2.heap.size lv L):=hwd
 obtain⟨la,lc,hlv⟩:=own_slice hwd.row
 subst hlv
 clear hb hwd
 go_wp2_with fail
 obtain⟨W,hW⟩:∃W,w3.alloc (.cells #[.int .i64 (q:Int),.int .i64 0] 37)=W:=⟨_,rfl⟩
 have hB:Below w3.heap.size w3 W:=by rw[←hW];exact (Below.refl _ _).alloc (Nat.le_refl _) _
 have HSW:Hid (W.heap.size=w3.heap.size+1):=by show _=_;rw[←hW,World.size_alloc]
 have HTW:=kA HT3 (hHi hB)
 have HFW:=kA HF3 (hHi hB)
 have HWW:Hid (Words W w2.heap.size (.slice la L.length lc) L):=HWD.out.after hB
 have HBW:Hid (Below w3.heap.size w3 W):=hB
 obtain⟨W4,hW4⟩:∃W4,W.alloc (.cells #[.slice la L.length lc,.string ⟨#[]⟩,.string ⟨#[]⟩,.slice none 0 0,.slice none 0 0,.slice none 0 0,.slice none 0 0,.slice none 0 0] 100)=W4:=⟨_,rfl⟩
 have HRD:Hid (Rd W4 (w3.heap.size+1) [.string ⟨#[]⟩,.string ⟨#[]⟩,.slice none 0 0,.slice none 0 0,.slice none 0 0,.slice none 0 0,.slice none 0 0] (L.map (·.1))):=by
  have:=rd_made HWW.out HFI.out.1 HFI.out.2.1 HFI.out.2.2.1 (by have:=HFI.out.2.2.2;rw[List.length_map] at this;exact this)
  rw[hW4,HSW.out] at this
  exact this
 have HB4:=kB hW4
 have HRR:Hid (W.heap.size=w3.heap.size+1∧W4.heap.size=w3.heap.size+1+1):=⟨HSW.out,by rw[←hW4,World.size_alloc,HSW.out]⟩
 have HT4:=kA HTW HB4
 have HF4:=kA HFW HB4
 have HBA:Hid (Below w.heap.size w W4):=by
  have b2:=HB2.out
  have b3:=HB3.out
  have bw:=HBW.out
  have b4:=HB4.out
  have s2:=HS2.out
  exact⟨b4.os.trans (bw.os.trans (b3.os.trans b2.os)),b4.tape.trans (bw.tape.trans (b3.tape.trans b2.tape)),b4.output.trans (bw.output.trans (b3.output.trans b2.output)),by have:=b4.size;have:=bw.size;have:=b3.size;have:=b2.size;omega,fun b hb=>(b4.block b (by have:=bw.size;have:=b3.size;omega)).trans ((bw.block b (by have:=b3.size;omega)).trans ((b3.block b (by omega)).trans (b2.block b hb)))⟩
 have HRG:Hid (w.heap.size+1<(w3.heap.size+1)):=by have:=HS2.out;have:=HB3.out.size;have:=HSW.out;have:=HRR.out.1;show _<_;omega
 have HST:=hU (stmts_any (w3.heap.size+1) _ (L.map (·.1)) Df0 ((L.map (·.1)).length+1) W4 HRD.out (def_made W4 ((w3.heap.size+1)+1) W4.heap.size (Nat.le_refl _)) (lens0 HFI.out.2.2.2) (Nat.lt_succ_self _) HSF.out)
 have HKP:Hid (∀w5,FrS W4 w5 (w3.heap.size+1)→Blk w5 w.heap.size 28 #[.string ⟨#[]⟩,.string ⟨#[]⟩,.slice none 0 0,.slice none 0 0,.slice none 0 0,.slice none 0 0,.slice none 0 0]∧Blk w5 (w.heap.size+1) 37 #[.int .i64 0,.int .i64 0]∧Below w.heap.size w w5):=fun w5 hf=>by
  have hg:=HRG.out
  have ba:=HBA.out
  have hr:=HRR.out.2
  exact⟨(hf.block _ (Blk.lt HT4.out) (by omega) (.inr (by omega))).trans HT4.out,(hf.block _ (Blk.lt HF4.out) (by omega) (.inr (by omega))).trans HF4.out,⟨hf.os.trans ba.os,hf.tape.trans ba.tape,hf.output.trans ba.output,Nat.le_trans ba.size hf.size,fun b hb=>(hf.block b (by omega) (by omega) (.inr (by omega))).trans (ba.block b hb)⟩⟩
 rw[hW,hW4]
 clear hB hW hW4 hw2
 cases hs:stmtsR ((L.map (·.1)).length+1) Df0 (L.map (·.1)) with
 | bad p c=>
  rw[hs] at HST
  have HPB:Hid (parR s.data.toList=.bad p c):=HP.out.trans hs
  clear hs
  refine hMo HST ?_
  rintro e w5 ⟨rfl,hf⟩
  obtain⟨hT5,hF5,hB5⟩:=HKP.out w5 hf
  have HB5:Hid (Below w.heap.size w w5):=hB5
  have hgt:w.heap.size+1<w5.heap.size:=hF5.lt
  clear hf hB5
  simp only[FE]
  go_wp2
  refine leaves_cons (f:=54) (args:=#[.pointer (some ⟨w.heap.size,0,none⟩),.pointer (some ⟨w.heap.size+1,0,none⟩)]) (by simp) (by simp[go_sem]) ?_
  refine (caught_fault w.heap.size (w.heap.size+1) p c (.string ⟨#[]⟩) (.string ⟨#[]⟩) (.slice none 0 0) (.slice none 0 0) (.slice none 0 0) (.slice none 0 0) (.slice none 0 0) (.int .i64 0) (.int .i64 0) w5 (by omega) hT5 hF5).mono ?_
  rintro e u' w6 ⟨rfl,rfl,r0,r1,ho,htp,hou,hsz,hbl⟩
  refine⟨.tuple #[.agg #[.string ⟨#[]⟩,.string ⟨#[]⟩,.slice none 0 0,.slice none 0 0,.slice none 0 0,.slice none 0 0,.slice none 0 0],.agg #[.int .i64 (p:Int),.int .i64 (c:Int)]],by simp[results,Tryz.results19,go_sem,r0.cell 0 rfl,r0.cell 1 rfl,r0.cell 2 rfl,r0.cell 3 rfl,r0.cell 4 rfl,r0.cell 5 rfl,r0.cell 6 rfl,r1.cell 0 rfl,r1.cell 1 rfl],?_⟩
  show PDf w (parR s.data.toList) _ _
  rw[HPB.out]
  have h5:=HB5.out
  exact⟨rfl,⟨ho.trans h5.os,htp.trans h5.tape,hou.trans h5.output,Nat.le_trans h5.size hsz,fun b hb=>(hbl b (by omega) (by omega) (by omega)).trans (h5.block b hb)⟩⟩
 | ok d K'=>
  rw[hs] at HST
  have HPB:Hid (parR s.data.toList=.ok d K'):=HP.out.trans hs
  have hln:Lens d K'.length:=stmts_lens _ Df0 _ d K' (lens0 HFI.out.2.2.2) hs
  have HLN:=hHi hln
  clear hs hln
  refine hMo HST ?_
  rintro e w5 ⟨rfl,⟨D',hi',hr5,v2,v3,v4,v5,v6,Lp,Lc,Lb,rfl,hd5⟩,hf⟩
  obtain⟨x2,y2,rfl⟩:=own_slice hd5.rp
  obtain⟨x3,y3,rfl⟩:=own_slice hd5.rc
  obtain⟨x4,y4,rfl⟩:=own_slice hd5.rf
  obtain⟨x5,y5,rfl⟩:=own_slice hd5.rr
  obtain⟨x6,y6,rfl⟩:=own_slice hd5.rb
  obtain⟨hT5,hF5,hB5⟩:=HKP.out w5 hf
  have d0:=Rd.cellD hr5 0 rfl
  have d1:=Rd.cellD hr5 1 rfl
  have d2:=Rd.cellD hr5 2 rfl
  have d3:=Rd.cellD hr5 3 rfl
  have d4:=Rd.cellD hr5 4 rfl
  have d5:=Rd.cellD hr5 5 rfl
  have d6:=Rd.cellD hr5 6 rfl
  have t0:=hT5.cell 0 rfl
  have z0:=hT5.frozen 0
  have t1:=hT5.cell 1 rfl
  have z1:=hT5.frozen 1
  have t2:=hT5.cell 2 rfl
  have z2:=hT5.frozen 2
  have t3:=hT5.cell 3 rfl
  have z3:=hT5.frozen 3
  have t4:=hT5.cell 4 rfl
  have z4:=hT5.frozen 4
  have t5:=hT5.cell 5 rfl
  have z5:=hT5.frozen 5
  have t6:=hT5.cell 6 rfl
  have z6:=hT5.frozen 6
  have g0:=hF5.cell 0 rfl
  have y0:=hF5.frozen 0
  have g1:=hF5.cell 1 rfl
  have y1:=hF5.frozen 1
  have HD5:=hHi hd5
  have HB5:Hid (Below w.heap.size w w5):=hB5
  have hgt:w.heap.size+1<w5.heap.size:=hF5.lt
  have hR5:=hr5.lt
  have hne1:(w3.heap.size+1)≠w.heap.size:=by have:=HRG.out;omega
  have hne2:(w3.heap.size+1)≠w.heap.size+1:=by have:=HRG.out;omega
  have HFIN:Hid _:=fun X hX=>two_world w.heap.size (w.heap.size+1) (.string d.start) (.string d.layout) (.slice x2 Lp.length y2) (.slice x3 Lc.length y3) (.slice x4 d.follows.length y4) (.slice x5 d.rejects.length y5) (.slice x6 Lb.length y6) (.int .i64 0) (.int .i64 0) (.string ⟨#[]⟩) (.string ⟨#[]⟩) (.slice none 0 0) (.slice none 0 0) (.slice none 0 0) (.slice none 0 0) (.slice none 0 0) (.int .i64 0) (.int .i64 0) w5 w5 (by omega) (Below.refl _ _) hT5 hF5 X hX
  clear hf hr5 hd5 hT5 hF5 hB5
  go_wp2
  refine leaves_cons (f:=54) (args:=#[.pointer (some ⟨w.heap.size,0,none⟩),.pointer (some ⟨w.heap.size+1,0,none⟩)]) (by simp) (by simp[go_sem]) ?_
  obtain⟨X,hX⟩:∃X,X=(((((((((w5.setCell ⟨w.heap.size,0,none⟩ (.string d.start)).setCell ⟨w.heap.size,1,none⟩ (.string d.layout)).setCell ⟨w.heap.size,2,none⟩ (.slice x2 Lp.length y2)).setCell ⟨w.heap.size,3,none⟩ (.slice x3 Lc.length y3)).setCell ⟨w.heap.size,4,none⟩ (.slice x4 d.follows.length y4)).setCell ⟨w.heap.size,5,none⟩ (.slice x5 d.rejects.length y5)).setCell ⟨w.heap.size,6,none⟩ (.slice x6 Lb.length y6)).setCell ⟨w.heap.size+1,0,none⟩ (.int .i64 0)).setCell ⟨w.heap.size+1,1,none⟩ (.int .i64 0)):=⟨_,rfl⟩
  obtain⟨r0,r1,ho,htp,hou,hsz,hk6,hbl⟩:=HFIN.out X hX
  rw[←hX]
  refine (caught_none w.heap.size (w.heap.size+1) X).mono ?_
  rintro e u' w7 ⟨rfl,rfl,rfl⟩
  refine⟨.tuple #[.agg #[.string d.start,.string d.layout,(.slice x2 Lp.length y2),(.slice x3 Lc.length y3),(.slice x4 d.follows.length y4),(.slice x5 d.rejects.length y5),(.slice x6 Lb.length y6)],.agg #[.int .i64 0,.int .i64 0]],by simp[results,Tryz.results19,go_sem,r0.cell 0 rfl,r0.cell 1 rfl,r0.cell 2 rfl,r0.cell 3 rfl,r0.cell 4 rfl,r0.cell 5 rfl,r0.cell 6 rfl,r1.cell 0 rfl,r1.cell 1 rfl],?_⟩
  show PDf w (parR s.data.toList) _ _
  rw[HPB.out]
  have h5:=HB5.out
  have hd:=HD5.out
  have hg:=HRG.out
  have hd7:=hd.keep (W':=w7) (fun b h1 h2=>hk6 b (by omega) (by omega)) (by omega)
  have hl:=HLN.out
  exact⟨⟨(.slice x2 Lp.length y2),(.slice x3 Lc.length y3),(.slice x4 d.follows.length y4),(.slice x5 d.rejects.length y5),(.slice x6 Lb.length y6),rfl,⟨hd7.df (by have:=hl.p;rw[←hd.ep,List.length_map] at this;omega) (by have:=hl.c;rw[←hd.ec,List.length_map] at this;omega) (by have:=hl.f;omega) (by have:=hl.r;omega) (by have:=hl.b;rw[←hd.eb,List.length_map] at this;omega)⟩⟩,⟨ho.trans h5.os,htp.trans h5.tape,hou.trans h5.output,by have:=h5.size;omega,fun b hb=>(hbl b (by have:=h5.size;omega) (by omega) (by omega)).trans (h5.block b hb)⟩⟩
end Go.Proofs.YtcpakcffiopfjaaGreatDoor
