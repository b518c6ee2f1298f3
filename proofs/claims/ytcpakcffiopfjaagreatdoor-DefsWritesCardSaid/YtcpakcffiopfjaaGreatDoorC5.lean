/- What a reader has read, in memory: five rows of their own, and what they lead to. Statements read: follow restrictions, rejects. -/
import Derived.Test.YtcpakcffiopfjaaGreatDoorC4
import Derived.Test.YtcpakcffiopfjaaGreatDoorA1
namespace Go.Proofs.YtcpakcffiopfjaaGreatDoor
open Go.RowKit
set_option linter.unusedVariables false
set_option linter.unusedSimpArgs false
set_option maxRecDepth 100000
set_option maxHeartbeats 16000000
set_option linter.unusedVariables false
set_option linter.unusedSimpArgs false
set_option maxRecDepth 100000
set_option maxHeartbeats 16000000
def SS (base hi:Nat) (vs:List Value) (b:Nat):Prop:=base≤b∧b<hi∧∀v∈vs,some b≠v.ownBlock
def GrS (w:World) (S:Nat→Prop) (g:Gr) (vs:List Value):Prop:=∃v,vs=[.int .i64 g.assoc,v]∧SlS w S 1 StrV g.cons v
theorem GrS.keep {w w':World} {S S':Nat→Prop} (hc:∀b,S b→∀q,w'.cell? ⟨b,q,none⟩=w.cell? ⟨b,q,none⟩) (hS:∀b,S b→S' b) {g:Gr} {vs:List Value} (h:GrS w S g vs):GrS w' S' g vs:=by
 obtain⟨v,e,h⟩:=h
 exact⟨v,e,h.keep hc hS (fun _ _ h=>h)⟩
def pcell (q:Pr×Value):List Value:=[.bool q.1.lex,.string q.1.sort,.string q.1.cons,.bool q.1.bracket,q.2]
def ccell (q:List Gr×Value):List Value:=[q.2]
def gcell (q:Gr×Value):List Value:=[.int .i64 q.1.assoc,q.2]
def fcell (f:Fo):List Value:=[.string f.sort,.int .u64 f.set.a,.int .u64 f.set.b,.int .u64 f.set.c,.int .u64 f.set.d]
def rcell (r:Re):List Value:=[.string r.sort,.string r.by']
def bxcell (q:Bo×Value):List Value:=[.string q.1.cons,q.2]
structure DefIn (W:World) (base hi:Nat) (d:Df) (v2 v3 v4 v5 v6:Value) (Lp:List (Pr×Value)) (Lc:List (List Gr×Value)) (Lb:List (Bo×Value)):Prop where
 rp:W.ownsRow base 57 5 v2 Lp.length (Lp.flatMap pcell)
 rc:W.ownsRow base 58 1 v3 Lc.length (Lc.flatMap ccell)
 rf:W.ownsRow base 52 5 v4 d.follows.length (d.follows.flatMap fcell)
 rr:W.ownsRow base 73 2 v5 d.rejects.length (d.rejects.flatMap rcell)
 rb:W.ownsRow base 64 2 v6 Lb.length (Lb.flatMap bxcell)
 ep:Lp.map (·.1)=d.prods
 ec:Lc.map (·.1)=d.chains
 eb:Lb.map (·.1)=d.boxes
 sp:∀q∈Lp,SlS W (SS base hi [v2,v3,v4,v5,v6]) 8 SyV q.1.syms q.2
 sc:∀q∈Lc,SlS W (SS base hi [v2,v3,v4,v5,v6]) 2 (GrS W (SS base hi [v2,v3,v4,v5,v6])) q.1 q.2
 sb:∀q∈Lb,ItsAt W (SS base hi [v2,v3,v4,v5,v6]) q.1.items q.2
 ok:∀f∈d.follows,f.set.ok
 lo:∀v∈[v2,v3,v4,v5,v6],∀b,v.ownBlock=some b→b<hi
 up:hi≤W.heap.size
theorem own_same {W W':World} {base hi e size n:Nat} {v:Value} {xs:List Value} (h:W.ownsRow base e size v n xs) (hl:∀b,v.ownBlock=some b→b<hi) (hb:∀b,base≤b→b<hi→W'.heap[b]?=W.heap[b]?):W'.ownsRow base e size v n xs:=by
 refine⟨h.1,?_⟩
 rcases h.2 with h0 | ⟨g,cap,cur,hv,hbg,hgb,rest⟩
 ·exact .inl h0
 ·exact .inr ⟨g,cap,cur,hv,hbg,(hb g hbg (hl g (by rw[hv];rfl))).trans hgb,rest⟩
section
variable {W W':World} {base hi:Nat} {d:Df} {v2 v3 v4 v5 v6:Value} {Lp:List (Pr×Value)} {Lc:List (List Gr×Value)} {Lb:List (Bo×Value)}
theorem DefIn.keep (h:DefIn W base hi d v2 v3 v4 v5 v6 Lp Lc Lb) (hb:∀b,base≤b→b<hi→W'.heap[b]?=W.heap[b]?) (hs:W.heap.size≤W'.heap.size):DefIn W' base hi d v2 v3 v4 v5 v6 Lp Lc Lb:=by
 have hc:∀b,SS base hi [v2,v3,v4,v5,v6] b→∀q,W'.cell? ⟨b,q,none⟩=W.cell? ⟨b,q,none⟩:=fun b h q=>World.cell?_of_block (a:=⟨b,q,none⟩) (hb b h.1 h.2.1)
 have hi':∀b,SS base hi [v2,v3,v4,v5,v6] b→SS base hi [v2,v3,v4,v5,v6] b:=fun _ h=>h
 exact⟨own_same h.rp (h.lo v2 (by simp)) hb,own_same h.rc (h.lo v3 (by simp)) hb,own_same h.rf (h.lo v4 (by simp)) hb,own_same h.rr (h.lo v5 (by simp)) hb,own_same h.rb (h.lo v6 (by simp)) hb,h.ep,h.ec,h.eb,fun q hq=>(h.sp q hq).keep hc hi' (fun _ _ h=>h),fun q hq=>(h.sc q hq).keep hc hi' (fun _ _ h=>h.keep hc hi'),fun q hq=>(h.sb q hq).keep hc hi',h.ok,h.lo,Nat.le_trans h.up hs⟩
theorem DefIn.below (h:DefIn W base hi d v2 v3 v4 v5 v6 Lp Lc Lb) (hb:Below W.heap.size W W'):DefIn W' base hi d v2 v3 v4 v5 v6 Lp Lc Lb:=h.keep (fun b _ hlt=>hb.block b (Nat.lt_of_lt_of_le hlt h.up)) hb.size
theorem DefIn.gr {R:Nat} (h:DefIn W base hi d v2 v3 v4 v5 v6 Lp Lc Lb) (hg:W.grownBy W' (some R)) (hR:R<base∨hi≤R):DefIn W' base hi d v2 v3 v4 v5 v6 Lp Lc Lb:=h.keep (fun b h1 h2=>hg.block b (Nat.lt_of_lt_of_le h2 h.up) (by simp;omega)) hg.size
end
theorem DefIn.push_prod {W w7:World} {base hi g1 cap:Nat} {d:Df} {v2 v3 v4 v5 v6:Value} {Lp:List (Pr×Value)} {Lc:List (List Gr×Value)} {Lb:List (Bo×Value)} {tmp:Obj} (h:DefIn W base hi d v2 v3 v4 v5 v6 Lp Lc Lb) (p:Pr) (sv:Value) (hf:SlS W (fun b=>hi≤b∧b<W.heap.size) 8 SyV p.syms sv) (hbh:base≤hi)
  (hown:w7.ownsRow base 57 5 (.slice (some ⟨g1,0,none⟩) (Lp.length+1) cap) (Lp.length+1) (Lp.flatMap pcell++pcell (p,sv))) (hgrow:(W.alloc tmp).grownBy w7 v2.ownBlock) (hat:v2.ownBlock=some g1∨g1=W.heap.size+1) (hlt:g1<w7.heap.size):DefIn w7 base w7.heap.size { d with prods:=d.prods++[p] } (.slice (some ⟨g1,0,none⟩) (Lp.length+1) cap) v3 v4 v5 v6 (Lp++[(p,sv)]) Lc Lb:=by
 have hs:W.heap.size+1≤w7.heap.size:=by have:=hgrow.size;rw[World.size_alloc] at this;exact this
 have hup:=h.up
 have hcell:∀b,b<W.heap.size→some b≠v2.ownBlock→∀c,w7.cell? ⟨b,c,none⟩=W.cell? ⟨b,c,none⟩:=fun b hb hne c=>by
  have h1:=hgrow.block b (by rw[World.size_alloc];omega) hne
  have h2:(W.alloc tmp).heap[b]?=W.heap[b]?:=Below.heap_alloc _ _ _ hb
  exact World.cell?_of_block (a:=⟨b,c,none⟩) (h1.trans h2)
 have hl:=h.lo
 have hS:∀b,SS base hi [v2,v3,v4,v5,v6] b→SS base w7.heap.size [(.slice (some ⟨g1,0,none⟩) (Lp.length+1) cap),v3,v4,v5,v6] b:=fun b hb=>⟨hb.1,by have:=hb.2.1;omega,fun u hu=>by
  have h3:=hb.2.2
  simp only[List.mem_cons,List.not_mem_nil,or_false] at hu h3
  rcases hu with hu | hu | hu | hu | hu
  ·rw[hu];show some b≠some g1
   rcases hat with hat | hat
   ·rw[←hat];exact h3 _ (by simp)
   ·intro e;have:=Option.some.inj e;have:=hb.2.1;omega
  ·rw[hu];exact h3 _ (by simp)
  ·rw[hu];exact h3 _ (by simp)
  ·rw[hu];exact h3 _ (by simp)
  ·rw[hu];exact h3 _ (by simp)⟩
 have hC:∀b,SS base hi [v2,v3,v4,v5,v6] b→∀c,w7.cell? ⟨b,c,none⟩=W.cell? ⟨b,c,none⟩:=fun b hb c=>hcell b (by have:=hb.2.1;omega) (hb.2.2 v2 (by simp)) c
 have hSn:∀b,(hi≤b∧b<W.heap.size)→SS base w7.heap.size [(.slice (some ⟨g1,0,none⟩) (Lp.length+1) cap),v3,v4,v5,v6] b:=fun b hb=>⟨by omega,by omega,fun u hu=>by
  simp only[List.mem_cons,List.not_mem_nil,or_false] at hu
  rcases hu with hu | hu | hu | hu | hu
  ·rw[hu];show some b≠some g1
   rcases hat with hat | hat
   ·intro e;have:=Option.some.inj e;have:=hl v2 (by simp) g1 hat;omega
   ·intro e;have:=Option.some.inj e;omega
  ·rw[hu];intro e;have:=hl v3 (by simp) b e.symm;omega
  ·rw[hu];intro e;have:=hl v4 (by simp) b e.symm;omega
  ·rw[hu];intro e;have:=hl v5 (by simp) b e.symm;omega
  ·rw[hu];intro e;have:=hl v6 (by simp) b e.symm;omega⟩
 have hCn:∀b,(hi≤b∧b<W.heap.size)→∀c,w7.cell? ⟨b,c,none⟩=W.cell? ⟨b,c,none⟩:=fun b hb c=>hcell b hb.2 (fun e=>by have:=hl v2 (by simp) b e.symm;omega) c
 have k1:=(h.rc.alloc tmp).kept hgrow (row_ne (h.rc.alloc tmp) (h.rp.alloc tmp) (by decide))
 have k2:=(h.rf.alloc tmp).kept hgrow (row_ne (h.rf.alloc tmp) (h.rp.alloc tmp) (by decide))
 have k3:=(h.rr.alloc tmp).kept hgrow (row_ne (h.rr.alloc tmp) (h.rp.alloc tmp) (by decide))
 have k4:=(h.rb.alloc tmp).kept hgrow (row_ne (h.rb.alloc tmp) (h.rp.alloc tmp) (by decide))
 refine⟨by rw[List.flatMap_append,List.length_append];simpa using hown,k1,k2,k3,k4,by rw[List.map_append,h.ep];rfl,h.ec,h.eb,?_,?_,?_,?_,?_,Nat.le_refl _⟩
 ·exact fun q hq=>by
   rcases List.mem_append.1 hq with hq | hq
   ·exact (h.sp q hq).keep hC hS (fun _ _ h=>h)
   ·simp at hq;subst hq;exact hf.keep hCn hSn (fun _ _ h=>h)
 ·exact fun q hq=>(h.sc q hq).keep hC hS (fun _ _ h=>h.keep hC hS)
 ·exact fun q hq=>(h.sb q hq).keep hC hS
 ·exact h.ok
 ·intro u hu b hb
  simp only[List.mem_cons,List.not_mem_nil,or_false] at hu
  rcases hu with hu | hu | hu | hu | hu
  ·rw[hu] at hb;cases hb;exact hlt
  ·rw[hu] at hb;have:=hl v3 (by simp) b hb;omega
  ·rw[hu] at hb;have:=hl v4 (by simp) b hb;omega
  ·rw[hu] at hb;have:=hl v5 (by simp) b hb;omega
  ·rw[hu] at hb;have:=hl v6 (by simp) b hb;omega
theorem DefIn.push_chain {W w7:World} {base hi g1 cap:Nat} {d:Df} {v2 v3 v4 v5 v6:Value} {Lp:List (Pr×Value)} {Lc:List (List Gr×Value)} {Lb:List (Bo×Value)} {tmp:Obj} (h:DefIn W base hi d v2 v3 v4 v5 v6 Lp Lc Lb) (p:List Gr) (sv:Value) (hf:SlS W (fun b=>hi≤b∧b<W.heap.size) 2 (GrS W (fun b=>hi≤b∧b<W.heap.size)) p sv) (hbh:base≤hi)
  (hown:w7.ownsRow base 58 1 (.slice (some ⟨g1,0,none⟩) (Lc.length+1) cap) (Lc.length+1) (Lc.flatMap ccell++ccell (p,sv))) (hgrow:(W.alloc tmp).grownBy w7 v3.ownBlock) (hat:v3.ownBlock=some g1∨g1=W.heap.size+1) (hlt:g1<w7.heap.size):DefIn w7 base w7.heap.size { d with chains:=d.chains++[p] } v2 (.slice (some ⟨g1,0,none⟩) (Lc.length+1) cap) v4 v5 v6 Lp (Lc++[(p,sv)]) Lb:=by
 have hs:W.heap.size+1≤w7.heap.size:=by have:=hgrow.size;rw[World.size_alloc] at this;exact this
 have hup:=h.up
 have hcell:∀b,b<W.heap.size→some b≠v3.ownBlock→∀c,w7.cell? ⟨b,c,none⟩=W.cell? ⟨b,c,none⟩:=fun b hb hne c=>by
  have h1:=hgrow.block b (by rw[World.size_alloc];omega) hne
  have h2:(W.alloc tmp).heap[b]?=W.heap[b]?:=Below.heap_alloc _ _ _ hb
  exact World.cell?_of_block (a:=⟨b,c,none⟩) (h1.trans h2)
 have hl:=h.lo
 have hS:∀b,SS base hi [v2,v3,v4,v5,v6] b→SS base w7.heap.size [v2,(.slice (some ⟨g1,0,none⟩) (Lc.length+1) cap),v4,v5,v6] b:=fun b hb=>⟨hb.1,by have:=hb.2.1;omega,fun u hu=>by
  have h3:=hb.2.2
  simp only[List.mem_cons,List.not_mem_nil,or_false] at hu h3
  rcases hu with hu | hu | hu | hu | hu
  ·rw[hu];exact h3 _ (by simp)
  ·rw[hu];show some b≠some g1
   rcases hat with hat | hat
   ·rw[←hat];exact h3 _ (by simp)
   ·intro e;have:=Option.some.inj e;have:=hb.2.1;omega
  ·rw[hu];exact h3 _ (by simp)
  ·rw[hu];exact h3 _ (by simp)
  ·rw[hu];exact h3 _ (by simp)⟩
 have hC:∀b,SS base hi [v2,v3,v4,v5,v6] b→∀c,w7.cell? ⟨b,c,none⟩=W.cell? ⟨b,c,none⟩:=fun b hb c=>hcell b (by have:=hb.2.1;omega) (hb.2.2 v3 (by simp)) c
 have hSn:∀b,(hi≤b∧b<W.heap.size)→SS base w7.heap.size [v2,(.slice (some ⟨g1,0,none⟩) (Lc.length+1) cap),v4,v5,v6] b:=fun b hb=>⟨by omega,by omega,fun u hu=>by
  simp only[List.mem_cons,List.not_mem_nil,or_false] at hu
  rcases hu with hu | hu | hu | hu | hu
  ·rw[hu];intro e;have:=hl v2 (by simp) b e.symm;omega
  ·rw[hu];show some b≠some g1
   rcases hat with hat | hat
   ·intro e;have:=Option.some.inj e;have:=hl v3 (by simp) g1 hat;omega
   ·intro e;have:=Option.some.inj e;omega
  ·rw[hu];intro e;have:=hl v4 (by simp) b e.symm;omega
  ·rw[hu];intro e;have:=hl v5 (by simp) b e.symm;omega
  ·rw[hu];intro e;have:=hl v6 (by simp) b e.symm;omega⟩
 have hCn:∀b,(hi≤b∧b<W.heap.size)→∀c,w7.cell? ⟨b,c,none⟩=W.cell? ⟨b,c,none⟩:=fun b hb c=>hcell b hb.2 (fun e=>by have:=hl v3 (by simp) b e.symm;omega) c
 have k0:=(h.rp.alloc tmp).kept hgrow (row_ne (h.rp.alloc tmp) (h.rc.alloc tmp) (by decide))
 have k2:=(h.rf.alloc tmp).kept hgrow (row_ne (h.rf.alloc tmp) (h.rc.alloc tmp) (by decide))
 have k3:=(h.rr.alloc tmp).kept hgrow (row_ne (h.rr.alloc tmp) (h.rc.alloc tmp) (by decide))
 have k4:=(h.rb.alloc tmp).kept hgrow (row_ne (h.rb.alloc tmp) (h.rc.alloc tmp) (by decide))
 refine⟨k0,by rw[List.flatMap_append,List.length_append];simpa using hown,k2,k3,k4,h.ep,by rw[List.map_append,h.ec];rfl,h.eb,?_,?_,?_,?_,?_,Nat.le_refl _⟩
 ·exact fun q hq=>(h.sp q hq).keep hC hS (fun _ _ h=>h)
 ·exact fun q hq=>by
   rcases List.mem_append.1 hq with hq | hq
   ·exact (h.sc q hq).keep hC hS (fun _ _ h=>h.keep hC hS)
   ·simp at hq;subst hq;exact hf.keep hCn hSn (fun _ _ h=>h.keep hCn hSn)
 ·exact fun q hq=>(h.sb q hq).keep hC hS
 ·exact h.ok
 ·intro u hu b hb
  simp only[List.mem_cons,List.not_mem_nil,or_false] at hu
  rcases hu with hu | hu | hu | hu | hu
  ·rw[hu] at hb;have:=hl v2 (by simp) b hb;omega
  ·rw[hu] at hb;cases hb;exact hlt
  ·rw[hu] at hb;have:=hl v4 (by simp) b hb;omega
  ·rw[hu] at hb;have:=hl v5 (by simp) b hb;omega
  ·rw[hu] at hb;have:=hl v6 (by simp) b hb;omega
theorem DefIn.push_box {W w7:World} {base hi g1 cap:Nat} {d:Df} {v2 v3 v4 v5 v6:Value} {Lp:List (Pr×Value)} {Lc:List (List Gr×Value)} {Lb:List (Bo×Value)} {tmp:Obj} (h:DefIn W base hi d v2 v3 v4 v5 v6 Lp Lc Lb) (p:Bo) (sv:Value) (hf:ItsAt W (fun b=>hi≤b∧b<W.heap.size) p.items sv) (hbh:base≤hi)
  (hown:w7.ownsRow base 64 2 (.slice (some ⟨g1,0,none⟩) (Lb.length+1) cap) (Lb.length+1) (Lb.flatMap bxcell++bxcell (p,sv))) (hgrow:(W.alloc tmp).grownBy w7 v6.ownBlock) (hat:v6.ownBlock=some g1∨g1=W.heap.size+1) (hlt:g1<w7.heap.size):DefIn w7 base w7.heap.size { d with boxes:=d.boxes++[p] } v2 v3 v4 v5 (.slice (some ⟨g1,0,none⟩) (Lb.length+1) cap) Lp Lc (Lb++[(p,sv)]):=by
 have hs:W.heap.size+1≤w7.heap.size:=by have:=hgrow.size;rw[World.size_alloc] at this;exact this
 have hup:=h.up
 have hcell:∀b,b<W.heap.size→some b≠v6.ownBlock→∀c,w7.cell? ⟨b,c,none⟩=W.cell? ⟨b,c,none⟩:=fun b hb hne c=>by
  have h1:=hgrow.block b (by rw[World.size_alloc];omega) hne
  have h2:(W.alloc tmp).heap[b]?=W.heap[b]?:=Below.heap_alloc _ _ _ hb
  exact World.cell?_of_block (a:=⟨b,c,none⟩) (h1.trans h2)
 have hl:=h.lo
 have hS:∀b,SS base hi [v2,v3,v4,v5,v6] b→SS base w7.heap.size [v2,v3,v4,v5,(.slice (some ⟨g1,0,none⟩) (Lb.length+1) cap)] b:=fun b hb=>⟨hb.1,by have:=hb.2.1;omega,fun u hu=>by
  have h3:=hb.2.2
  simp only[List.mem_cons,List.not_mem_nil,or_false] at hu h3
  rcases hu with hu | hu | hu | hu | hu
  ·rw[hu];exact h3 _ (by simp)
  ·rw[hu];exact h3 _ (by simp)
  ·rw[hu];exact h3 _ (by simp)
  ·rw[hu];exact h3 _ (by simp)
  ·rw[hu];show some b≠some g1
   rcases hat with hat | hat
   ·rw[←hat];exact h3 _ (by simp)
   ·intro e;have:=Option.some.inj e;have:=hb.2.1;omega⟩
 have hC:∀b,SS base hi [v2,v3,v4,v5,v6] b→∀c,w7.cell? ⟨b,c,none⟩=W.cell? ⟨b,c,none⟩:=fun b hb c=>hcell b (by have:=hb.2.1;omega) (hb.2.2 v6 (by simp)) c
 have hSn:∀b,(hi≤b∧b<W.heap.size)→SS base w7.heap.size [v2,v3,v4,v5,(.slice (some ⟨g1,0,none⟩) (Lb.length+1) cap)] b:=fun b hb=>⟨by omega,by omega,fun u hu=>by
  simp only[List.mem_cons,List.not_mem_nil,or_false] at hu
  rcases hu with hu | hu | hu | hu | hu
  ·rw[hu];intro e;have:=hl v2 (by simp) b e.symm;omega
  ·rw[hu];intro e;have:=hl v3 (by simp) b e.symm;omega
  ·rw[hu];intro e;have:=hl v4 (by simp) b e.symm;omega
  ·rw[hu];intro e;have:=hl v5 (by simp) b e.symm;omega
  ·rw[hu];show some b≠some g1
   rcases hat with hat | hat
   ·intro e;have:=Option.some.inj e;have:=hl v6 (by simp) g1 hat;omega
   ·intro e;have:=Option.some.inj e;omega⟩
 have hCn:∀b,(hi≤b∧b<W.heap.size)→∀c,w7.cell? ⟨b,c,none⟩=W.cell? ⟨b,c,none⟩:=fun b hb c=>hcell b hb.2 (fun e=>by have:=hl v6 (by simp) b e.symm;omega) c
 have k0:=(h.rp.alloc tmp).kept hgrow (row_ne (h.rp.alloc tmp) (h.rb.alloc tmp) (by decide))
 have k1:=(h.rc.alloc tmp).kept hgrow (row_ne (h.rc.alloc tmp) (h.rb.alloc tmp) (by decide))
 have k2:=(h.rf.alloc tmp).kept hgrow (row_ne (h.rf.alloc tmp) (h.rb.alloc tmp) (by decide))
 have k3:=(h.rr.alloc tmp).kept hgrow (row_ne (h.rr.alloc tmp) (h.rb.alloc tmp) (by decide))
 refine⟨k0,k1,k2,k3,by rw[List.flatMap_append,List.length_append];simpa using hown,h.ep,h.ec,by rw[List.map_append,h.eb];rfl,?_,?_,?_,?_,?_,Nat.le_refl _⟩
 ·exact fun q hq=>(h.sp q hq).keep hC hS (fun _ _ h=>h)
 ·exact fun q hq=>(h.sc q hq).keep hC hS (fun _ _ h=>h.keep hC hS)
 ·exact fun q hq=>by
   rcases List.mem_append.1 hq with hq | hq
   ·exact (h.sb q hq).keep hC hS
   ·simp at hq;subst hq;exact hf.keep hCn hSn
 ·exact h.ok
 ·intro u hu b hb
  simp only[List.mem_cons,List.not_mem_nil,or_false] at hu
  rcases hu with hu | hu | hu | hu | hu
  ·rw[hu] at hb;have:=hl v2 (by simp) b hb;omega
  ·rw[hu] at hb;have:=hl v3 (by simp) b hb;omega
  ·rw[hu] at hb;have:=hl v4 (by simp) b hb;omega
  ·rw[hu] at hb;have:=hl v5 (by simp) b hb;omega
  ·rw[hu] at hb;cases hb;exact hlt
def DefAt (W:World) (base hi:Nat) (d:Df) (D:List Value):Prop:=∃v2 v3 v4 v5 v6 Lp Lc Lb,D=[.string d.start,.string d.layout,v2,v3,v4,v5,v6]∧DefIn W base hi d v2 v3 v4 v5 v6 Lp Lc Lb
theorem DefAt.keep {W W':World} {base hi:Nat} {d:Df} {D:List Value} (h:DefAt W base hi d D) (hb:∀b,base≤b→b<hi→W'.heap[b]?=W.heap[b]?) (hs:W.heap.size≤W'.heap.size):DefAt W' base hi d D:=by
 obtain⟨v2,v3,v4,v5,v6,Lp,Lc,Lb,e,h⟩:=h
 exact⟨v2,v3,v4,v5,v6,Lp,Lc,Lb,e,h.keep hb hs⟩
theorem DefIn.df {W:World} {base hi:Nat} {d:Df} {v2 v3 v4 v5 v6:Value} {Lp:List (Pr×Value)} {Lc:List (List Gr×Value)} {Lb:List (Bo×Value)} (h:DefIn W base hi d v2 v3 v4 v5 v6 Lp Lc Lb) (hlp:Lp.length≤1000000) (hlc:Lc.length≤1000000) (hlf:d.follows.length≤1000000) (hlr:d.rejects.length≤1000000) (hlb:Lb.length≤1000000):∃f,DfV W W.heap.size f d [.string d.start,.string d.layout,v2,v3,v4,v5,v6]:=by
 have hS:∀b,SS base hi [v2,v3,v4,v5,v6] b→b<W.heap.size:=fun b hb=>Nat.lt_of_lt_of_le hb.2.1 h.up
 have cap:∀ {e size n:Nat} {v:Value} {xs:List Value},W.ownsRow base e size v n xs→∃a c,v=.slice a n c∧n≤c:=fun h=>by
  rcases h.2 with ⟨rfl,rfl⟩ | ⟨g,cap,cur,rfl,_,_,hcap,_⟩
  ·exact⟨none,0,rfl,Nat.le_refl _⟩
  ·exact⟨_,cap,rfl,hcap⟩
 have rowOf:∀ {α β:Type} {e size:Nat} {v:Value} {cf:α→List Value} {l:List α} (g:α→β) (V:β→List Value→Prop),(∀x,(cf x).length=size)→W.ownsRow base e size v l.length (l.flatMap cf)→(∀x∈l,V (g x) (cf x))→l.length≤1000000→Sl W W.heap.size size V (l.map g) v:=fun {α β e size v cf l} g V hn hr hv hle=>by
  obtain⟨a,c,rfl,hc⟩:=cap hr
  refine⟨a,c,by rw[List.length_map],by rw[List.length_map];exact hc,by rw[List.length_map];omega,fun j x hj=>?_⟩
  rw[List.getElem?_map,Option.map_eq_some_iff] at hj
  obtain⟨y,hy,rfl⟩:=hj
  obtain⟨g',cap',e',_,hg',hcl⟩:=own_rows hn hr hy
  cases e'
  exact⟨g',0,cf y,rfl,hg',hv y (List.mem_of_getElem? hy),hcl⟩
 obtain⟨fb,hfb⟩:∃f,∀q∈Lb,SlS W (SS base hi [v2,v3,v4,v5,v6]) 4 (ItS W (SS base hi [v2,v3,v4,v5,v6]) f) q.1.items q.2:=by
  have:∀ {L:List (Bo×Value)},(∀q∈L,ItsAt W (SS base hi [v2,v3,v4,v5,v6]) q.1.items q.2)→∃f,∀q∈L,SlS W (SS base hi [v2,v3,v4,v5,v6]) 4 (ItS W (SS base hi [v2,v3,v4,v5,v6]) f) q.1.items q.2:=fun {L}=>by
   induction L with
   | nil=>intro _;exact⟨0,fun q h=>by cases h⟩
   | cons x L ih=>
    intro h
    obtain⟨f,hf⟩:=ih (fun q hq=>h q (List.mem_cons_of_mem _ hq))
    obtain⟨g,hg⟩:=h x (by simp)
    refine⟨f+g,fun q hq=>?_⟩
    rcases List.mem_cons.1 hq with rfl | hq
    ·exact hg.keep (fun _ _ _=>rfl) (fun _ h=>h) (fun _ _ h=>h.ups (by omega))
    ·exact (hf q hq).keep (fun _ _ _=>rfl) (fun _ h=>h) (fun _ _ h=>h.ups (by omega))
  exact this h.sb
 refine⟨fb,v2,v3,v4,v5,v6,rfl,?_,?_,?_,?_,?_⟩
 ·rw[←h.ep]
  exact rowOf (cf:=pcell) (fun q=>q.1) (PrV W W.heap.size) (fun _=>rfl) h.rp (fun q hq=>⟨q.2,rfl,(h.sp q hq).sl hS (fun _ _ h=>h)⟩) hlp
 ·rw[←h.ec]
  exact rowOf (cf:=ccell) (fun q=>q.1) (ChV W W.heap.size) (fun _=>rfl) h.rc (fun q hq=>⟨q.2,rfl,(h.sc q hq).sl hS (fun _ _ h=>by obtain⟨v,e,h⟩:=h;exact⟨v,e,h.sl hS (fun _ _ h=>h)⟩)⟩) hlc
 ·have:=rowOf (cf:=fcell) (l:=d.follows) (fun x=>x) FoV (fun _=>rfl) h.rf (fun x hx=>⟨h.ok x hx,rfl⟩) hlf
  rwa [List.map_id'] at this
 ·have:=rowOf (cf:=rcell) (l:=d.rejects) (fun x=>x) ReV (fun _=>rfl) h.rr (fun x _=>rfl) hlr
  rwa [List.map_id'] at this
 ·rw[←h.eb]
  exact rowOf (cf:=bxcell) (fun q=>q.1) (BoV W W.heap.size fb) (fun _=>rfl) h.rb (fun q hq=>⟨q.2,rfl,(hfb q hq).sl hS (fun _ _ h=>h.it hS)⟩) hlb
def NT (w:World) (b:Nat):Prop:=∀cs e,w.heap[b]?=some (.cells cs e (0,0))→¬(e=57∨e=58∨e=52∨e=73∨e=64)
structure FrS (w w':World) (R:Nat):Prop where
 os:w'.os=w.os
 tape:w'.tape=w.tape
 output:w'.output=w.output
 size:w.heap.size≤w'.heap.size
 block:∀b,b<w.heap.size→b≠R→(NT w b∨b<R)→w'.heap[b]?=w.heap[b]?
theorem FrS.of {w w':World} {R:Nat} (h:w.grownBy w' (some R)):FrS w w' R:=⟨h.os,h.tape,h.output,h.size,fun b hb hne _=>h.block b hb (by simpa using hne)⟩
theorem NT.gr {w w':World} {R b:Nat} (h:NT w b) (hf:FrS w w' R) (hb:b<w.heap.size) (hne:b≠R):NT w' b:=fun cs e he=>h cs e ((hf.block b hb hne (.inl h)).symm.trans he)
theorem FrS.tr {u v w:World} {R:Nat} (h:FrS u v R) (k:FrS v w R):FrS u w R:=⟨k.os.trans h.os,k.tape.trans h.tape,k.output.trans h.output,Nat.le_trans h.size k.size,fun b hb hne hn=>(k.block b (Nat.lt_of_lt_of_le hb h.size) hne (hn.imp (fun q=>q.gr h hb hne) (fun q=>q))).trans (h.block b hb hne hn)⟩
theorem FrS.push {w cur w7:World} {R e size n:Nat} {v:Value} {xs:List Value} {tmp:Obj} (h:FrS w cur R) (hrow:cur.ownsRow (R+1) e size v n xs) (he:e=57∨e=58∨e=52∨e=73∨e=64) (hgrow:(cur.alloc tmp).grownBy w7 v.ownBlock):FrS w w7 R:=by
 have hs:cur.heap.size+1≤w7.heap.size:=by have:=hgrow.size;rw[World.size_alloc] at this;exact this
 refine⟨hgrow.os.trans h.os,hgrow.tape.trans h.tape,hgrow.output.trans h.output,by have:=h.size;omega,fun b hb hne hn=>?_⟩
 have hb2:b<cur.heap.size:=Nat.lt_of_lt_of_le hb h.size
 have h2:(cur.alloc tmp).heap[b]?=cur.heap[b]?:=Below.heap_alloc _ _ _ hb2
 refine (hgrow.block b (by rw[World.size_alloc];omega) (fun e'=>?_)).trans (h2.trans (h.block b hb hne hn))
 rcases hrow.2 with ⟨hv,_⟩ | ⟨g,cap,cs,hv,hRg,hg,_⟩
 ·rw[hv] at e';simp[Value.ownBlock] at e'
 ·rw[hv] at e'
  obtain rfl:b=g:=by simpa [Value.ownBlock] using e'
  rcases hn with hn | hn
  ·exact hn cs e ((h.block b hb hne (.inl hn)).symm.trans hg) he
  ·omega
theorem FrS.set {w cur:World} {R i:Nat} (h:FrS w cur R) (v:Value):FrS w (cur.setCell ⟨R,i,none⟩ v) R:=h.tr (FrS.of (grownBy_setCell _ _ _ _))
theorem Rd.setD {W:World} {R i:Nat} {D:List Value} {L:List Wd} (h:Rd W R D L) (v:Value):Rd (W.setCell ⟨R,i+1,none⟩ v) R (D.set i v) L:=by
 obtain⟨a,c,h1,h2,h3⟩:=h.at'
 have hg:=grownBy_setCell W R (i+1) v
 have hb:Below R W (W.setCell ⟨R,i+1,none⟩ v):=⟨hg.os,hg.tape,hg.output,hg.size,fun b hb=>hg.block b (Nat.lt_trans hb h.lt) (by simp;omega)⟩
 have h4:=h1.set (i+1) v
 simp only[List.setIfInBounds_toArray,List.set_cons_succ] at h4
 exact⟨⟨a,c,h4,h2,h3.keep hb (Nat.le_refl _) (fun _ _ _ h=>h.keep hb (Nat.le_refl _))⟩,h.fin,h.len⟩
theorem Rd.cellD {W:World} {R:Nat} {D:List Value} {L:List Wd} (h:Rd W R D L) (i:Nat) {v:Value} (hv:D[i]?=some v):W.cell? ⟨R,i+1,none⟩=some v:=by
 obtain⟨a,c,h1,_⟩:=h.at'
 exact h1.cell (i+1) (by simpa using hv)
theorem Rd.frozenD {W:World} {R:Nat} {D:List Value} {L:List Wd} (h:Rd W R D L) (i:Nat):W.frozen? ⟨R,i,none⟩=false:=by
 obtain⟨a,c,h1,_⟩:=h.at'
 exact h1.frozen i
def RS (R:Nat) (w:World):PR Df→Ending→World→Prop
 | .ok d' L',e,w'=>e=.returned (.tuple #[])∧(∃D' hi,Rd w' R D' L'∧DefAt w' (R+1) hi d' D')∧FrS w w' R
 | .bad p c,e,w'=>e=FE p c∧FrS w w' R
structure DLen (d:Df):Prop where
 p:d.prods.length≤200
 c:d.chains.length≤65537
 f:d.follows.length≤65537
 r:d.rejects.length≤65537
 b:d.boxes.length≤65537
theorem info52:(Tryz.prog.info? 52).map (fun i=>(i.zero,i.size,i.bytes))=some (some (.agg #[.string ⟨#[]⟩,.int .u64 0,.int .u64 0,.int .u64 0,.int .u64 0]),5,48):=by kernel_rfl
theorem info73:(Tryz.prog.info? 73).map (fun i=>(i.zero,i.size,i.bytes))=some (some (.agg #[.string ⟨#[]⟩,.string ⟨#[]⟩]),2,32):=by kernel_rfl
end Go.Proofs.YtcpakcffiopfjaaGreatDoor
