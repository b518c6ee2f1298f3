/- What a reader has read, in memory: five rows of their own, and what they lead to. Statements read: follow restrictions, rejects. -/
import Derived.Test.YtcpakcffiopfjaaGreatDoorC4
import Derived.Test.YtcpakcffiopfjaaGreatDoorA1
namespace Go.Proofs.YtcpakcffiopfjaaGreatDoor
open Go.RowKit
set_option linter.unusedVariables false
set_option linter.unusedSimpArgs false
set_option maxRecDepth 100000
set_option maxHeartbeats 16000000
def SS (base hi:Nat) (vs:List Value) (b:Nat):Prop:=base≤b∧b<hi∧∀v∈vs,some b≠v.ownBlock
def GrS (w:World) (S:Nat→Prop) (g:Gr) (vs:List Value):Prop:=∃v,vs=[.int .i64 g.assoc,v]∧SlS w S 1 StrV g.cons v
theorem GrS.keep {w w':World} {S S':Nat→Prop} (hc:∀b,S b→∀q,w'.cell? ⟨b,q,none⟩=w.cell? ⟨b,q,none⟩) (hS:∀b,S b→S' b) {g:Gr} {vs:List Value} (h:GrS w S g vs):GrS w' S' g vs:=by
 obtain⟨v,e,h⟩:=h
 exact⟨v,e,h.keep hc hS (fun _ _ h=>h)⟩
def pcell (q:Pr×Value):List Value:=[.bool q.1.lex,.string q.1.sort,.string q.1.cons,.bool q.1.bracket,q.2]
def ccell (q:List Gr×Value):List Value:=[q.2]
def gcell (q:Gr×Value):List Value:=[.int .i64 q.1.assoc,q.2]
def fcell (f:Fo):List Value:=[.string f.sort,.int .u64 f.set.a,.int .u64 f.set.b,.int .u64 f.set.c,.int .u64 f.set.d]
def rcell (r:Re):List Value:=[.string r.sort,.string r.by']
def bxcell (q:Bo×Value):List Value:=[.string q.1.cons,q.2]
structure DefIn (W:World) (base hi:Nat) (d:Df) (v2 v3 v4 v5 v6:Value) (Lp:List (Pr×Value)) (Lc:List (List Gr×Value)) (Lb:List (Bo×Value)):Prop where
 rp:W.ownsRow base 57 5 v2 Lp.length (Lp.flatMap pcell)
 rc:W.ownsRow base 58 1 v3 Lc.length (Lc.flatMap ccell)
 rf:W.ownsRow base 52 5 v4 d.follows.length (d.follows.flatMap fcell)
 rr:W.ownsRow base 73 2 v5 d.rejects.length (d.rejects.flatMap rcell)
 rb:W.ownsRow base 64 2 v6 Lb.length (Lb.flatMap bxcell)
 ep:Lp.map (·.1)=d.prods
 ec:Lc.map (·.1)=d.chains
 eb:Lb.map (·.1)=d.boxes
 sp:∀q∈Lp,SlS W (SS base hi [v2,v3,v4,v5,v6]) 8 SyV q.1.syms q.2
 sc:∀q∈Lc,SlS W (SS base hi [v2,v3,v4,v5,v6]) 2 (GrS W (SS base hi [v2,v3,v4,v5,v6])) q.1 q.2
 sb:∀q∈Lb,ItsAt W (SS base hi [v2,v3,v4,v5,v6]) q.1.items q.2
 ok:∀f∈d.follows,f.set.ok
 lo:∀v∈[v2,v3,v4,v5,v6],∀b,v.ownBlock=some b→b<hi
 up:hi≤W.heap.size
theorem own_same {W W':World} {base hi e size n:Nat} {v:Value} {xs:List Value} (h:W.ownsRow base e size v n xs) (hl:∀b,v.ownBlock=some b→b<hi) (hb:∀b,base≤b→b<hi→W'.heap[b]?=W.heap[b]?):W'.ownsRow base e size v n xs:=by
 refine⟨h.1,?_⟩
 rcases h.2 with h0 | ⟨g,cap,cur,hv,hbg,hgb,rest⟩
 ·exact .inl h0
 ·exact .inr ⟨g,cap,cur,hv,hbg,(hb g hbg (hl g (by rw[hv];rfl))).trans hgb,rest⟩
section
variable {W W':World} {base hi:Nat} {d:Df} {v2 v3 v4 v5 v6:Value} {Lp:List (Pr×Value)} {Lc:List (List Gr×Value)} {Lb:List (Bo×Value)}
theorem DefIn.keep (h:DefIn W base hi d v2 v3 v4 v5 v6 Lp Lc Lb) (hb:∀b,base≤b→b<hi→W'.heap[b]?=W.heap[b]?) (hs:W.heap.size≤W'.heap.size):DefIn W' base hi d v2 v3 v4 v5 v6 Lp Lc Lb:=by
 have hc:∀b,SS base hi [v2,v3,v4,v5,v6] b→∀q,W'.cell? ⟨b,q,none⟩=W.cell? ⟨b,q,none⟩:=fun b h q=>World.cell?_of_block (a:=⟨b,q,none⟩) (hb b h.1 h.2.1)
 have hi':∀b,SS base hi [v2,v3,v4,v5,v6] b→SS base hi [v2,v3,v4,v5,v6] b:=fun _ h=>h
 exact⟨own_same h.rp (h.lo v2 (by simp)) hb,own_same h.rc (h.lo v3 (by simp)) hb,own_same h.rf (h.lo v4 (by simp)) hb,own_same h.rr (h.lo v5 (by simp)) hb,own_same h.rb (h.lo v6 (by simp)) hb,h.ep,h.ec,h.eb,fun q hq=>(h.sp q hq).keep hc hi' (fun _ _ h=>h),fun q hq=>(h.sc q hq).keep hc hi' (fun _ _ h=>h.keep hc hi'),fun q hq=>(h.sb q hq).keep hc hi',h.ok,h.lo,Nat.le_trans h.up hs⟩
theorem DefIn.below (h:DefIn W base hi d v2 v3 v4 v5 v6 Lp Lc Lb) (hb:Below W.heap.size W W'):DefIn W' base hi d v2 v3 v4 v5 v6 Lp Lc Lb:=h.keep (fun b _ hlt=>hb.block b (Nat.lt_of_lt_of_le hlt h.up)) hb.size
theorem DefIn.gr {R:Nat} (h:DefIn W base hi d v2 v3 v4 v5 v6 Lp Lc Lb) (hg:W.grownBy W' (some R)) (hR:R<base∨hi≤R):DefIn W' base hi d v2 v3 v4 v5 v6 Lp Lc Lb:=h.keep (fun b h1 h2=>hg.block b (Nat.lt_of_lt_of_le h2 h.up) (by simp;omega)) hg.size
end
theorem DefIn.push_prod {W w7:World} {base hi g1 cap:Nat} {d:Df} {v2 v3 v4 v5 v6:Value} {Lp:List (Pr×Value)} {Lc:List (List Gr×Value)} {Lb:List (Bo×Value)} {tmp:Obj} (h:DefIn W base hi d v2 v3 v4 v5 v6 Lp Lc Lb) (p:Pr) (sv:Value) (hf:SlS W (fun b=>hi≤b∧b<W.heap.size) 8 SyV p.syms sv) (hbh:base≤hi)
  (hown:w7.ownsRow base 57 5 (.slice (some ⟨g1,0,none⟩) (Lp.length+1) cap) (Lp.length+1) (Lp.flatMap pcell++pcell (p,sv))) (hgrow:(W.alloc tmp).grownBy w7 v2.ownBlock) (hat:v2.ownBlock=some g1∨g1=W.heap.size+1) (hlt:g1<w7.heap.size):DefIn w7 base w7.heap.size { d with prods:=d.prods++[p] } (.slice (some ⟨g1,0,none⟩) (Lp.length+1) cap) v3 v4 v5 v6 (Lp++[(p,sv)]) Lc Lb:=by
 have hs:W.heap.size+1≤w7.heap.size:=by have:=hgrow.size;rw[World.size_alloc] at this;exact this
 have hup:=h.up
 have hcell:∀b,b<W.heap.size→some b≠v2.ownBlock→∀c,w7.cell? ⟨b,c,none⟩=W.cell? ⟨b,c,none⟩:=fun b hb hne c=>by
  have h1:=hgrow.block b (by rw[World.size_alloc];omega) hne
  have h2:(W.alloc tmp).heap[b]?=W.heap[b]?:=Below.heap_alloc _ _ _ hb
  exact World.cell?_of_block (a:=⟨b,c,none⟩) (h1.trans h2)
 have hl:=h.lo
 have hS:∀b,SS base hi [v2,v3,v4,v5,v6] b→SS base w7.heap.size [(.slice (some ⟨g1,0,none⟩) (Lp.length+1) cap),v3,v4,v5,v6] b:=fun b hb=>⟨hb.1,by have:=hb.2.1;omega,fun u hu=>by
  have h3:=hb.2.2
  simp only[List.mem_cons,List.not_mem_nil,or_false] at hu h3
  rcases hu with hu | hu | hu | hu | hu
  ·rw[hu];show some b≠some g1
   rcases hat with hat | hat
   ·rw[←hat];exact h3 _ (by simp)
   ·intro e;have:=Option.some.inj e;have:=hb.2.1;omega
  ·rw[hu];exact h3 _ (by simp)
  ·rw[hu];exact h3 _ (by simp)
  ·rw[hu];exact h3 _ (by simp)
  ·rw[hu];exact h3 _ (by simp)⟩
 have hC:∀b,SS base hi [v2,v3,v4,v5,v6] b→∀c,w7.cell? ⟨b,c,none⟩=W.cell? ⟨b,c,none⟩:=fun b hb c=>hcell b (by have:=hb.2.1;omega) (hb.2.2 v2 (by simp)) c
 have hSn:∀b,(hi≤b∧b<W.heap.size)→SS base w7.heap.size [(.slice (some ⟨g1,0,none⟩) (Lp.length+1) cap),v3,v4,v5,v6] b:=fun b hb=>⟨by omega,by omega,fun u hu=>by
  simp only[List.mem_cons,List.not_mem_nil,or_false] at hu
  rcases hu with hu | hu | hu | hu | hu
  ·rw[hu];show some b≠some g1
   rcases hat with hat | hat
   ·intro e;have:=Option.some.inj e;have:=hl v2 (by simp) g1 hat;omega
   ·intro e;have:=Option.some.inj e;omega
  ·rw[hu];intro e;have:=hl v3 (by simp) b e.symm;omega
  ·rw[hu];intro e;have:=hl v4 (by simp) b e.symm;omega
  ·rw[hu];intro e;have:=hl v5 (by simp) b e.symm;omega
  ·rw[hu];intro e;have:=hl v6 (by simp) b e.symm;omega⟩
 have hCn:∀b,(hi≤b∧b<W.heap.size)→∀c,w7.cell? ⟨b,c,none⟩=W.cell? ⟨b,c,none⟩:=fun b hb c=>hcell b hb.2 (fun e=>by have:=hl v2 (by simp) b e.symm;omega) c
 have k1:=(h.rc.alloc tmp).kept hgrow (row_ne (h.rc.alloc tmp) (h.rp.alloc tmp) (by decide))
 have k2:=(h.rf.alloc tmp).kept hgrow (row_ne (h.rf.alloc tmp) (h.rp.alloc tmp) (by decide))
 have k3:=(h.rr.alloc tmp).kept hgrow (row_ne (h.rr.alloc tmp) (h.rp.alloc tmp) (by decide))
 have k4:=(h.rb.alloc tmp).kept hgrow (row_ne (h.rb.alloc tmp) (h.rp.alloc tmp) (by decide))
 refine⟨by rw[List.flatMap_append,List.length_append];simpa using hown,k1,k2,k3,k4,by rw[List.map_append,h.ep];rfl,h.ec,h.eb,?_,?_,?_,?_,?_,Nat.le_refl _⟩
 ·exact fun q hq=>by
   rcases List.mem_append.1 hq with hq | hq
   ·exact (h.sp q hq).keep hC hS (fun _ _ h=>h)
   ·simp at hq;subst hq;exact hf.keep hCn hSn (fun _ _ h=>h)
 ·exact fun q hq=>(h.sc q hq).keep hC hS (fun _ _ h=>h.keep hC hS)
 ·exact fun q hq=>(h.sb q hq).keep hC hS
 ·exact h.ok
 ·intro u hu b hb
  simp only[List.mem_cons,List.not_mem_nil,or_false] at hu
  rcases hu with hu | hu | hu | hu | hu
  ·rw[hu] at hb;cases hb;exact hlt
  ·rw[hu] at hb;have:=hl v3 (by simp) b hb;omega
  ·rw[hu] at hb;have:=hl v4 (by simp) b hb;omega
  ·rw[hu] at hb;have:=hl v5 (by simp) b hb;omega
  ·rw[hu] at hb;have:=hl v6 (by simp) b hb;omega
theorem DefIn.push_chain {W w7:World} {base hi g1 cap:Nat} {d:Df} {v2 v3 v4 v5 v6:Value} {Lp:List (Pr×Value)} {Lc:List (List Gr×Value)} {Lb:List (Bo×Value)} {tmp:Obj} (h:DefIn W base hi d v2 v3 v4 v5 v6 Lp Lc Lb) (p:List Gr) (sv:Value) (hf:SlS W (fun b=>hi≤b∧b<W.heap.size) 2 (GrS W (fun b=>hi≤b∧b<W.heap.size)) p sv) (hbh:base≤hi)
  (hown:w7.ownsRow base 58 1 (.slice (some ⟨g1,0,none⟩) (Lc.length+1) cap) (Lc.length+1) (Lc.flatMap ccell++ccell (p,sv))) (hgrow:(W.alloc tmp).grownBy w7 v3.ownBlock) (hat:v3.ownBlock=some g1∨g1=W.heap.size+1) (hlt:g1<w7.heap.size):DefIn w7 base w7.heap.size { d with chains:=d.chains++[p] } v2 (.slice (some ⟨g1,0,none⟩) (Lc.length+1) cap) v4 v5 v6 Lp (Lc++[(p,sv)]) Lb:=by
 have hs:W.heap.size+1≤w7.heap.size:=by have:=hgrow.size;rw[World.size_alloc] at this;exact this
 have hup:=h.up
 have hcell:∀b,b<W.heap.size→some b≠v3.ownBlock→∀c,w7.cell? ⟨b,c,none⟩=W.cell? ⟨b,c,none⟩:=fun b hb hne c=>by
  have h1:=hgrow.block b (by rw[World.size_alloc];omega) hne
  have h2:(W.alloc tmp).heap[b]?=W.heap[b]?:=Below.heap_alloc _ _ _ hb
  exact World.cell?_of_block (a:=⟨b,c,none⟩) (h1.trans h2)
 have hl:=h.lo
 have hS:∀b,SS base hi [v2,v3,v4,v5,v6] b→SS base w7.heap.size [v2,(.slice (some ⟨g1,0,none⟩) (Lc.length+1) cap),v4,v5,v6] b:=fun b hb=>⟨hb.1,by have:=hb.2.1;omega,fun u hu=>by
  have h3:=hb.2.2
  simp only[List.mem_cons,List.not_mem_nil,or_false] at hu h3
  rcases hu with hu | hu | hu | hu | hu
  ·rw[hu];exact h3 _ (by simp)
  ·rw[hu];show some b≠some g1
   rcases hat with hat | hat
   ·rw[←hat];exact h3 _ (by simp)
   ·intro e;have:=Option.some.inj e;have:=hb.2.1;omega
  ·rw[hu];exact h3 _ (by simp)
  ·rw[hu];exact h3 _ (by simp)
  ·rw[hu];exact h3 _ (by simp)⟩
 have hC:∀b,SS base hi [v2,v3,v4,v5,v6] b→∀c,w7.cell? ⟨b,c,none⟩=W.cell? ⟨b,c,none⟩:=fun b hb c=>hcell b (by have:=hb.2.1;omega) (hb.2.2 v3 (by simp)) c
 have hSn:∀b,(hi≤b∧b<W.heap.size)→SS base w7.heap.size [v2,(.slice (some ⟨g1,0,none⟩) (Lc.length+1) cap),v4,v5,v6] b:=fun b hb=>⟨by omega,by omega,fun u hu=>by
  simp only[List.mem_cons,List.not_mem_nil,or_false] at hu
  rcases hu with hu | hu | hu | hu | hu
  ·rw[hu];intro e;have:=hl v2 (by simp) b e.symm;omega
  ·rw[hu];show some b≠some g1
   rcases hat with hat | hat
   ·intro e;have:=Option.some.inj e;have:=hl v3 (by simp) g1 hat;omega
   ·intro e;have:=Option.some.inj e;omega
  ·rw[hu];intro e;have:=hl v4 (by simp) b e.symm;omega
  ·rw[hu];intro e;have:=hl v5 (by simp) b e.symm;omega
  ·rw[hu];intro e;have:=hl v6 (by simp) b e.symm;omega⟩
 have hCn:∀b,(hi≤b∧b<W.heap.size)→∀c,w7.cell? ⟨b,c,none⟩=W.cell? ⟨b,c,none⟩:=fun b hb c=>hcell b hb.2 (fun e=>by have:=hl v3 (by simp) b e.symm;omega) c
 have k0:=(h.rp.alloc tmp).kept hgrow (row_ne (h.rp.alloc tmp) (h.rc.alloc tmp) (by decide))
 have k2:=(h.rf.alloc tmp).kept hgrow (row_ne (h.rf.alloc tmp) (h.rc.alloc tmp) (by decide))
 have k3:=(h.rr.alloc tmp).kept hgrow (row_ne (h.rr.alloc tmp) (h.rc.alloc tmp) (by decide))
 have k4:=(h.rb.alloc tmp).kept hgrow (row_ne (h.rb.alloc tmp) (h.rc.alloc tmp) (by decide))
 refine⟨k0,by rw[List.flatMap_append,List.length_append];simpa using hown,k2,k3,k4,h.ep,by rw[List.map_append,h.ec];rfl,h.eb,?_,?_,?_,?_,?_,Nat.le_refl _⟩
 ·exact fun q hq=>(h.sp q hq).keep hC hS (fun _ _ h=>h)
 ·exact fun q hq=>by
   rcases List.mem_append.1 hq with hq | hq
   ·exact (h.sc q hq).keep hC hS (fun _ _ h=>h.keep hC hS)
   ·simp at hq;subst hq;exact hf.keep hCn hSn (fun _ _ h=>h.keep hCn hSn)
 ·exact fun q hq=>(h.sb q hq).keep hC hS
 ·exact h.ok
 ·intro u hu b hb
  simp only[List.mem_cons,List.not_mem_nil,or_false] at hu
  rcases hu with hu | hu | hu | hu | hu
  ·rw[hu] at hb;have:=hl v2 (by simp) b hb;omega
  ·rw[hu] at hb;cases hb;exact hlt
  ·rw[hu] at hb;have:=hl v4 (by simp) b hb;omega
  ·rw[hu] at hb;have:=hl v5 (by simp) b hb;omega
  ·rw[hu] at hb;have:=hl v6 (by simp) b hb;omega
theorem DefIn.push_follow {W w7:World} {base hi g1 cap:Nat} {d:Df} {v2 v3 v4 v5 v6:Value} {Lp:List (Pr×Value)} {Lc:List (List Gr×Value)} {Lb:List (Bo×Value)} {tmp:Obj} (h:DefIn W base hi d v2 v3 v4 v5 v6 Lp Lc Lb) (p:Fo) (hf:p.set.ok)
  (hown:w7.ownsRow base 52 5 (.slice (some ⟨g1,0,none⟩) (d.follows.length+1) cap) (d.follows.length+1) (d.follows.flatMap fcell++fcell p)) (hgrow:(W.alloc tmp).grownBy w7 v4.ownBlock) (hat:v4.ownBlock=some g1∨g1=W.heap.size+1) (hlt:g1<w7.heap.size):DefIn w7 base w7.heap.size { d with follows:=d.follows++[p] } v2 v3 (.slice (some ⟨g1,0,none⟩) (d.follows.length+1) cap) v5 v6 Lp Lc Lb:=by
 have hs:W.heap.size+1≤w7.heap.size:=by have:=hgrow.size;rw[World.size_alloc] at this;exact this
 have hup:=h.up
 have hcell:∀b,b<W.heap.size→some b≠v4.ownBlock→∀c,w7.cell? ⟨b,c,none⟩=W.cell? ⟨b,c,none⟩:=fun b hb hne c=>by
  have h1:=hgrow.block b (by rw[World.size_alloc];omega) hne
  have h2:(W.alloc tmp).heap[b]?=W.heap[b]?:=Below.heap_alloc _ _ _ hb
  exact World.cell?_of_block (a:=⟨b,c,none⟩) (h1.trans h2)
 have hl:=h.lo
 have hS:∀b,SS base hi [v2,v3,v4,v5,v6] b→SS base w7.heap.size [v2,v3,(.slice (some ⟨g1,0,none⟩) (d.follows.length+1) cap),v5,v6] b:=fun b hb=>⟨hb.1,by have:=hb.2.1;omega,fun u hu=>by
  have h3:=hb.2.2
  simp only[List.mem_cons,List.not_mem_nil,or_false] at hu h3
  rcases hu with hu | hu | hu | hu | hu
  ·rw[hu];exact h3 _ (by simp)
  ·rw[hu];exact h3 _ (by simp)
  ·rw[hu];show some b≠some g1
   rcases hat with hat | hat
   ·rw[←hat];exact h3 _ (by simp)
   ·intro e;have:=Option.some.inj e;have:=hb.2.1;omega
  ·rw[hu];exact h3 _ (by simp)
  ·rw[hu];exact h3 _ (by simp)⟩
 have hC:∀b,SS base hi [v2,v3,v4,v5,v6] b→∀c,w7.cell? ⟨b,c,none⟩=W.cell? ⟨b,c,none⟩:=fun b hb c=>hcell b (by have:=hb.2.1;omega) (hb.2.2 v4 (by simp)) c
 have k0:=(h.rp.alloc tmp).kept hgrow (row_ne (h.rp.alloc tmp) (h.rf.alloc tmp) (by decide))
 have k1:=(h.rc.alloc tmp).kept hgrow (row_ne (h.rc.alloc tmp) (h.rf.alloc tmp) (by decide))
 have k3:=(h.rr.alloc tmp).kept hgrow (row_ne (h.rr.alloc tmp) (h.rf.alloc tmp) (by decide))
 have k4:=(h.rb.alloc tmp).kept hgrow (row_ne (h.rb.alloc tmp) (h.rf.alloc tmp) (by decide))
 refine⟨k0,k1,by rw[List.flatMap_append,List.length_append];simpa using hown,k3,k4,h.ep,h.ec,h.eb,?_,?_,?_,?_,?_,Nat.le_refl _⟩
 ·exact fun q hq=>(h.sp q hq).keep hC hS (fun _ _ h=>h)
 ·exact fun q hq=>(h.sc q hq).keep hC hS (fun _ _ h=>h.keep hC hS)
 ·exact fun q hq=>(h.sb q hq).keep hC hS
 ·exact fun f hm=>by
   rcases List.mem_append.1 hm with hm | hm
   ·exact h.ok f hm
   ·simp at hm;rw[hm];exact hf
 ·intro u hu b hb
  simp only[List.mem_cons,List.not_mem_nil,or_false] at hu
  rcases hu with hu | hu | hu | hu | hu
  ·rw[hu] at hb;have:=hl v2 (by simp) b hb;omega
  ·rw[hu] at hb;have:=hl v3 (by simp) b hb;omega
  ·rw[hu] at hb;cases hb;exact hlt
  ·rw[hu] at hb;have:=hl v5 (by simp) b hb;omega
  ·rw[hu] at hb;have:=hl v6 (by simp) b hb;omega
theorem DefIn.push_reject {W w7:World} {base hi g1 cap:Nat} {d:Df} {v2 v3 v4 v5 v6:Value} {Lp:List (Pr×Value)} {Lc:List (List Gr×Value)} {Lb:List (Bo×Value)} {tmp:Obj} (h:DefIn W base hi d v2 v3 v4 v5 v6 Lp Lc Lb) (p:Re)
  (hown:w7.ownsRow base 73 2 (.slice (some ⟨g1,0,none⟩) (d.rejects.length+1) cap) (d.rejects.length+1) (d.rejects.flatMap rcell++rcell p)) (hgrow:(W.alloc tmp).grownBy w7 v5.ownBlock) (hat:v5.ownBlock=some g1∨g1=W.heap.size+1) (hlt:g1<w7.heap.size):DefIn w7 base w7.heap.size { d with rejects:=d.rejects++[p] } v2 v3 v4 (.slice (some ⟨g1,0,none⟩) (d.rejects.length+1) cap) v6 Lp Lc Lb:=by
 have hs:W.heap.size+1≤w7.heap.size:=by have:=hgrow.size;rw[World.size_alloc] at this;exact this
 have hup:=h.up
 have hcell:∀b,b<W.heap.size→some b≠v5.ownBlock→∀c,w7.cell? ⟨b,c,none⟩=W.cell? ⟨b,c,none⟩:=fun b hb hne c=>by
  have h1:=hgrow.block b (by rw[World.size_alloc];omega) hne
  have h2:(W.alloc tmp).heap[b]?=W.heap[b]?:=Below.heap_alloc _ _ _ hb
  exact World.cell?_of_block (a:=⟨b,c,none⟩) (h1.trans h2)
 have hl:=h.lo
 have hS:∀b,SS base hi [v2,v3,v4,v5,v6] b→SS base w7.heap.size [v2,v3,v4,(.slice (some ⟨g1,0,none⟩) (d.rejects.length+1) cap),v6] b:=fun b hb=>⟨hb.1,by have:=hb.2.1;omega,fun u hu=>by
  have h3:=hb.2.2
  simp only[List.mem_cons,List.not_mem_nil,or_false] at hu h3
  rcases hu with hu | hu | hu | hu | hu
  ·rw[hu];exact h3 _ (by simp)
  ·rw[hu];exact h3 _ (by simp)
  ·rw[hu];exact h3 _ (by simp)
  ·rw[hu];show some b≠some g1
   rcases hat with hat | hat
   ·rw[←hat];exact h3 _ (by simp)
   ·intro e;have:=Option.some.inj e;have:=hb.2.1;omega
  ·rw[hu];exact h3 _ (by simp)⟩
 have hC:∀b,SS base hi [v2,v3,v4,v5,v6] b→∀c,w7.cell? ⟨b,c,none⟩=W.cell? ⟨b,c,none⟩:=fun b hb c=>hcell b (by have:=hb.2.1;omega) (hb.2.2 v5 (by simp)) c
 have k0:=(h.rp.alloc tmp).kept hgrow (row_ne (h.rp.alloc tmp) (h.rr.alloc tmp) (by decide))
 have k1:=(h.rc.alloc tmp).kept hgrow (row_ne (h.rc.alloc tmp) (h.rr.alloc tmp) (by decide))
 have k2:=(h.rf.alloc tmp).kept hgrow (row_ne (h.rf.alloc tmp) (h.rr.alloc tmp) (by decide))
 have k4:=(h.rb.alloc tmp).kept hgrow (row_ne (h.rb.alloc tmp) (h.rr.alloc tmp) (by decide))
 refine⟨k0,k1,k2,by rw[List.flatMap_append,List.length_append];simpa using hown,k4,h.ep,h.ec,h.eb,?_,?_,?_,?_,?_,Nat.le_refl _⟩
 ·exact fun q hq=>(h.sp q hq).keep hC hS (fun _ _ h=>h)
 ·exact fun q hq=>(h.sc q hq).keep hC hS (fun _ _ h=>h.keep hC hS)
 ·exact fun q hq=>(h.sb q hq).keep hC hS
 ·exact h.ok
 ·intro u hu b hb
  simp only[List.mem_cons,List.not_mem_nil,or_false] at hu
  rcases hu with hu | hu | hu | hu | hu
  ·rw[hu] at hb;have:=hl v2 (by simp) b hb;omega
  ·rw[hu] at hb;have:=hl v3 (by simp) b hb;omega
  ·rw[hu] at hb;have:=hl v4 (by simp) b hb;omega
  ·rw[hu] at hb;cases hb;exact hlt
  ·rw[hu] at hb;have:=hl v6 (by simp) b hb;omega
theorem DefIn.push_box {W w7:World} {base hi g1 cap:Nat} {d:Df} {v2 v3 v4 v5 v6:Value} {Lp:List (Pr×Value)} {Lc:List (List Gr×Value)} {Lb:List (Bo×Value)} {tmp:Obj} (h:DefIn W base hi d v2 v3 v4 v5 v6 Lp Lc Lb) (p:Bo) (sv:Value) (hf:ItsAt W (fun b=>hi≤b∧b<W.heap.size) p.items sv) (hbh:base≤hi)
  (hown:w7.ownsRow base 64 2 (.slice (some ⟨g1,0,none⟩) (Lb.length+1) cap) (Lb.length+1) (Lb.flatMap bxcell++bxcell (p,sv))) (hgrow:(W.alloc tmp).grownBy w7 v6.ownBlock) (hat:v6.ownBlock=some g1∨g1=W.heap.size+1) (hlt:g1<w7.heap.size):DefIn w7 base w7.heap.size { d with boxes:=d.boxes++[p] } v2 v3 v4 v5 (.slice (some ⟨g1,0,none⟩) (Lb.length+1) cap) Lp Lc (Lb++[(p,sv)]):=by
 have hs:W.heap.size+1≤w7.heap.size:=by have:=hgrow.size;rw[World.size_alloc] at this;exact this
 have hup:=h.up
 have hcell:∀b,b<W.heap.size→some b≠v6.ownBlock→∀c,w7.cell? ⟨b,c,none⟩=W.cell? ⟨b,c,none⟩:=fun b hb hne c=>by
  have h1:=hgrow.block b (by rw[World.size_alloc];omega) hne
  have h2:(W.alloc tmp).heap[b]?=W.heap[b]?:=Below.heap_alloc _ _ _ hb
  exact World.cell?_of_block (a:=⟨b,c,none⟩) (h1.trans h2)
 have hl:=h.lo
 have hS:∀b,SS base hi [v2,v3,v4,v5,v6] b→SS base w7.heap.size [v2,v3,v4,v5,(.slice (some ⟨g1,0,none⟩) (Lb.length+1) cap)] b:=fun b hb=>⟨hb.1,by have:=hb.2.1;omega,fun u hu=>by
  have h3:=hb.2.2
  simp only[List.mem_cons,List.not_mem_nil,or_false] at hu h3
  rcases hu with hu | hu | hu | hu | hu
  ·rw[hu];exact h3 _ (by simp)
  ·rw[hu];exact h3 _ (by simp)
  ·rw[hu];exact h3 _ (by simp)
  ·rw[hu];exact h3 _ (by simp)
  ·rw[hu];show some b≠some g1
   rcases hat with hat | hat
   ·rw[←hat];exact h3 _ (by simp)
   ·intro e;have:=Option.some.inj e;have:=hb.2.1;omega⟩
 have hC:∀b,SS base hi [v2,v3,v4,v5,v6] b→∀c,w7.cell? ⟨b,c,none⟩=W.cell? ⟨b,c,none⟩:=fun b hb c=>hcell b (by have:=hb.2.1;omega) (hb.2.2 v6 (by simp)) c
 have hSn:∀b,(hi≤b∧b<W.heap.size)→SS base w7.heap.size [v2,v3,v4,v5,(.slice (some ⟨g1,0,none⟩) (Lb.length+1) cap)] b:=fun b hb=>⟨by omega,by omega,fun u hu=>by
  simp only[List.mem_cons,List.not_mem_nil,or_false] at hu
  rcases hu with hu | hu | hu | hu | hu
  ·rw[hu];intro e;have:=hl v2 (by simp) b e.symm;omega
  ·rw[hu];intro e;have:=hl v3 (by simp) b e.symm;omega
  ·rw[hu];intro e;have:=hl v4 (by simp) b e.symm;omega
  ·rw[hu];intro e;have:=hl v5 (by simp) b e.symm;omega
  ·rw[hu];show some b≠some g1
   rcases hat with hat | hat
   ·intro e;have:=Option.some.inj e;have:=hl v6 (by simp) g1 hat;omega
   ·intro e;have:=Option.some.inj e;omega⟩
 have hCn:∀b,(hi≤b∧b<W.heap.size)→∀c,w7.cell? ⟨b,c,none⟩=W.cell? ⟨b,c,none⟩:=fun b hb c=>hcell b hb.2 (fun e=>by have:=hl v6 (by simp) b e.symm;omega) c
 have k0:=(h.rp.alloc tmp).kept hgrow (row_ne (h.rp.alloc tmp) (h.rb.alloc tmp) (by decide))
 have k1:=(h.rc.alloc tmp).kept hgrow (row_ne (h.rc.alloc tmp) (h.rb.alloc tmp) (by decide))
 have k2:=(h.rf.alloc tmp).kept hgrow (row_ne (h.rf.alloc tmp) (h.rb.alloc tmp) (by decide))
 have k3:=(h.rr.alloc tmp).kept hgrow (row_ne (h.rr.alloc tmp) (h.rb.alloc tmp) (by decide))
 refine⟨k0,k1,k2,k3,by rw[List.flatMap_append,List.length_append];simpa using hown,h.ep,h.ec,by rw[List.map_append,h.eb];rfl,?_,?_,?_,?_,?_,Nat.le_refl _⟩
 ·exact fun q hq=>(h.sp q hq).keep hC hS (fun _ _ h=>h)
 ·exact fun q hq=>(h.sc q hq).keep hC hS (fun _ _ h=>h.keep hC hS)
 ·exact fun q hq=>by
   rcases List.mem_append.1 hq with hq | hq
   ·exact (h.sb q hq).keep hC hS
   ·simp at hq;subst hq;exact hf.keep hCn hSn
 ·exact h.ok
 ·intro u hu b hb
  simp only[List.mem_cons,List.not_mem_nil,or_false] at hu
  rcases hu with hu | hu | hu | hu | hu
  ·rw[hu] at hb;have:=hl v2 (by simp) b hb;omega
  ·rw[hu] at hb;have:=hl v3 (by simp) b hb;omega
  ·rw[hu] at hb;have:=hl v4 (by simp) b hb;omega
  ·rw[hu] at hb;have:=hl v5 (by simp) b hb;omega
  ·rw[hu] at hb;cases hb;exact hlt
def DefAt (W:World) (base hi:Nat) (d:Df) (D:List Value):Prop:=∃v2 v3 v4 v5 v6 Lp Lc Lb,D=[.string d.start,.string d.layout,v2,v3,v4,v5,v6]∧DefIn W base hi d v2 v3 v4 v5 v6 Lp Lc Lb
theorem DefAt.keep {W W':World} {base hi:Nat} {d:Df} {D:List Value} (h:DefAt W base hi d D) (hb:∀b,base≤b→b<hi→W'.heap[b]?=W.heap[b]?) (hs:W.heap.size≤W'.heap.size):DefAt W' base hi d D:=by
 obtain⟨v2,v3,v4,v5,v6,Lp,Lc,Lb,e,h⟩:=h
 exact⟨v2,v3,v4,v5,v6,Lp,Lc,Lb,e,h.keep hb hs⟩
theorem DefIn.df {W:World} {base hi:Nat} {d:Df} {v2 v3 v4 v5 v6:Value} {Lp:List (Pr×Value)} {Lc:List (List Gr×Value)} {Lb:List (Bo×Value)} (h:DefIn W base hi d v2 v3 v4 v5 v6 Lp Lc Lb) (hlp:Lp.length≤1000000) (hlc:Lc.length≤1000000) (hlf:d.follows.length≤1000000) (hlr:d.rejects.length≤1000000) (hlb:Lb.length≤1000000):∃f,DfV W W.heap.size f d [.string d.start,.string d.layout,v2,v3,v4,v5,v6]:=by
 have hS:∀b,SS base hi [v2,v3,v4,v5,v6] b→b<W.heap.size:=fun b hb=>Nat.lt_of_lt_of_le hb.2.1 h.up
 have cap:∀ {e size n:Nat} {v:Value} {xs:List Value},W.ownsRow base e size v n xs→∃a c,v=.slice a n c∧n≤c:=fun h=>by
  rcases h.2 with ⟨rfl,rfl⟩ | ⟨g,cap,cur,rfl,_,_,hcap,_⟩
  ·exact⟨none,0,rfl,Nat.le_refl _⟩
  ·exact⟨_,cap,rfl,hcap⟩
 have rowOf:∀ {α β:Type} {e size:Nat} {v:Value} {cf:α→List Value} {l:List α} (g:α→β) (V:β→List Value→Prop),(∀x,(cf x).length=size)→W.ownsRow base e size v l.length (l.flatMap cf)→(∀x∈l,V (g x) (cf x))→l.length≤1000000→Sl W W.heap.size size V (l.map g) v:=fun {α β e size v cf l} g V hn hr hv hle=>by
  obtain⟨a,c,rfl,hc⟩:=cap hr
  refine⟨a,c,by rw[List.length_map],by rw[List.length_map];exact hc,by rw[List.length_map];omega,fun j x hj=>?_⟩
  rw[List.getElem?_map,Option.map_eq_some_iff] at hj
  obtain⟨y,hy,rfl⟩:=hj
  obtain⟨g',cap',e',_,hg',hcl⟩:=own_rows hn hr hy
  cases e'
  exact⟨g',0,cf y,rfl,hg',hv y (List.mem_of_getElem? hy),hcl⟩
 obtain⟨fb,hfb⟩:∃f,∀q∈Lb,SlS W (SS base hi [v2,v3,v4,v5,v6]) 4 (ItS W (SS base hi [v2,v3,v4,v5,v6]) f) q.1.items q.2:=by
  have:∀ {L:List (Bo×Value)},(∀q∈L,ItsAt W (SS base hi [v2,v3,v4,v5,v6]) q.1.items q.2)→∃f,∀q∈L,SlS W (SS base hi [v2,v3,v4,v5,v6]) 4 (ItS W (SS base hi [v2,v3,v4,v5,v6]) f) q.1.items q.2:=fun {L}=>by
   induction L with
   | nil=>intro _;exact⟨0,fun q h=>by cases h⟩
   | cons x L ih=>
    intro h
    obtain⟨f,hf⟩:=ih (fun q hq=>h q (List.mem_cons_of_mem _ hq))
    obtain⟨g,hg⟩:=h x (by simp)
    refine⟨f+g,fun q hq=>?_⟩
    rcases List.mem_cons.1 hq with rfl | hq
    ·exact hg.keep (fun _ _ _=>rfl) (fun _ h=>h) (fun _ _ h=>h.ups (by omega))
    ·exact (hf q hq).keep (fun _ _ _=>rfl) (fun _ h=>h) (fun _ _ h=>h.ups (by omega))
  exact this h.sb
 refine⟨fb,v2,v3,v4,v5,v6,rfl,?_,?_,?_,?_,?_⟩
 ·rw[←h.ep]
  exact rowOf (cf:=pcell) (fun q=>q.1) (PrV W W.heap.size) (fun _=>rfl) h.rp (fun q hq=>⟨q.2,rfl,(h.sp q hq).sl hS (fun _ _ h=>h)⟩) hlp
 ·rw[←h.ec]
  exact rowOf (cf:=ccell) (fun q=>q.1) (ChV W W.heap.size) (fun _=>rfl) h.rc (fun q hq=>⟨q.2,rfl,(h.sc q hq).sl hS (fun _ _ h=>by obtain⟨v,e,h⟩:=h;exact⟨v,e,h.sl hS (fun _ _ h=>h)⟩)⟩) hlc
 ·have:=rowOf (cf:=fcell) (l:=d.follows) (fun x=>x) FoV (fun _=>rfl) h.rf (fun x hx=>⟨h.ok x hx,rfl⟩) hlf
  rwa [List.map_id'] at this
 ·have:=rowOf (cf:=rcell) (l:=d.rejects) (fun x=>x) ReV (fun _=>rfl) h.rr (fun x _=>rfl) hlr
  rwa [List.map_id'] at this
 ·rw[←h.eb]
  exact rowOf (cf:=bxcell) (fun q=>q.1) (BoV W W.heap.size fb) (fun _=>rfl) h.rb (fun q hq=>⟨q.2,rfl,(hfb q hq).sl hS (fun _ _ h=>h.it hS)⟩) hlb
def NT (w:World) (b:Nat):Prop:=∀cs e,w.heap[b]?=some (.cells cs e (0,0))→¬(e=57∨e=58∨e=52∨e=73∨e=64)
structure FrS (w w':World) (R:Nat):Prop where
 os:w'.os=w.os
 tape:w'.tape=w.tape
 output:w'.output=w.output
 size:w.heap.size≤w'.heap.size
 block:∀b,b<w.heap.size→b≠R→(NT w b∨b<R)→w'.heap[b]?=w.heap[b]?
theorem FrS.of {w w':World} {R:Nat} (h:w.grownBy w' (some R)):FrS w w' R:=⟨h.os,h.tape,h.output,h.size,fun b hb hne _=>h.block b hb (by simpa using hne)⟩
theorem NT.gr {w w':World} {R b:Nat} (h:NT w b) (hf:FrS w w' R) (hb:b<w.heap.size) (hne:b≠R):NT w' b:=fun cs e he=>h cs e ((hf.block b hb hne (.inl h)).symm.trans he)
theorem FrS.tr {u v w:World} {R:Nat} (h:FrS u v R) (k:FrS v w R):FrS u w R:=⟨k.os.trans h.os,k.tape.trans h.tape,k.output.trans h.output,Nat.le_trans h.size k.size,fun b hb hne hn=>(k.block b (Nat.lt_of_lt_of_le hb h.size) hne (hn.imp (fun q=>q.gr h hb hne) (fun q=>q))).trans (h.block b hb hne hn)⟩
theorem FrS.push {w cur w7:World} {R e size n:Nat} {v:Value} {xs:List Value} {tmp:Obj} (h:FrS w cur R) (hrow:cur.ownsRow (R+1) e size v n xs) (he:e=57∨e=58∨e=52∨e=73∨e=64) (hgrow:(cur.alloc tmp).grownBy w7 v.ownBlock):FrS w w7 R:=by
 have hs:cur.heap.size+1≤w7.heap.size:=by have:=hgrow.size;rw[World.size_alloc] at this;exact this
 refine⟨hgrow.os.trans h.os,hgrow.tape.trans h.tape,hgrow.output.trans h.output,by have:=h.size;omega,fun b hb hne hn=>?_⟩
 have hb2:b<cur.heap.size:=Nat.lt_of_lt_of_le hb h.size
 have h2:(cur.alloc tmp).heap[b]?=cur.heap[b]?:=Below.heap_alloc _ _ _ hb2
 refine (hgrow.block b (by rw[World.size_alloc];omega) (fun e'=>?_)).trans (h2.trans (h.block b hb hne hn))
 rcases hrow.2 with ⟨hv,_⟩ | ⟨g,cap,cs,hv,hRg,hg,_⟩
 ·rw[hv] at e';simp[Value.ownBlock] at e'
 ·rw[hv] at e'
  obtain rfl:b=g:=by simpa [Value.ownBlock] using e'
  rcases hn with hn | hn
  ·exact hn cs e ((h.block b hb hne (.inl hn)).symm.trans hg) he
  ·omega
theorem FrS.set {w cur:World} {R i:Nat} (h:FrS w cur R) (v:Value):FrS w (cur.setCell ⟨R,i,none⟩ v) R:=h.tr (FrS.of (grownBy_setCell _ _ _ _))
theorem Rd.setD {W:World} {R i:Nat} {D:List Value} {L:List Wd} (h:Rd W R D L) (v:Value):Rd (W.setCell ⟨R,i+1,none⟩ v) R (D.set i v) L:=by
 obtain⟨a,c,h1,h2,h3⟩:=h.at'
 have hg:=grownBy_setCell W R (i+1) v
 have hb:Below R W (W.setCell ⟨R,i+1,none⟩ v):=⟨hg.os,hg.tape,hg.output,hg.size,fun b hb=>hg.block b (Nat.lt_trans hb h.lt) (by simp;omega)⟩
 have h4:=h1.set (i+1) v
 simp only[List.setIfInBounds_toArray,List.set_cons_succ] at h4
 exact⟨⟨a,c,h4,h2,h3.keep hb (Nat.le_refl _) (fun _ _ _ h=>h.keep hb (Nat.le_refl _))⟩,h.fin,h.len⟩
theorem Rd.cellD {W:World} {R:Nat} {D:List Value} {L:List Wd} (h:Rd W R D L) (i:Nat) {v:Value} (hv:D[i]?=some v):W.cell? ⟨R,i+1,none⟩=some v:=by
 obtain⟨a,c,h1,_⟩:=h.at'
 exact h1.cell (i+1) (by simpa using hv)
theorem Rd.frozenD {W:World} {R:Nat} {D:List Value} {L:List Wd} (h:Rd W R D L) (i:Nat):W.frozen? ⟨R,i,none⟩=false:=by
 obtain⟨a,c,h1,_⟩:=h.at'
 exact h1.frozen i
def RS (R:Nat) (w:World):PR Df→Ending→World→Prop
 | .ok d' L',e,w'=>e=.returned (.tuple #[])∧(∃D' hi,Rd w' R D' L'∧DefAt w' (R+1) hi d' D')∧FrS w w' R
 | .bad p c,e,w'=>e=FE p c∧FrS w w' R
structure DLen (d:Df):Prop where
 p:d.prods.length≤200
 c:d.chains.length≤65537
 f:d.follows.length≤65537
 r:d.rejects.length≤65537
 b:d.boxes.length≤65537
def followR (d:Df) (L:List Wd):PR Df:=(nameR L.tail).bind fun s L=>(setR L).bind fun x L=>.ok { d with follows:=d.follows++[⟨s,x⟩] } L
def rejectR (d:Df) (L:List Wd):PR Df:=(nameR L.tail).bind fun s L=>(nameR L).bind fun b L=>.ok { d with rejects:=d.rejects++[⟨s,b⟩] } L
theorem info52:(Tryz.prog.info? 52).map (fun i=>(i.zero,i.size,i.bytes))=some (some (.agg #[.string ⟨#[]⟩,.int .u64 0,.int .u64 0,.int .u64 0,.int .u64 0]),5,48):=by kernel_rfl
theorem info73:(Tryz.prog.info? 73).map (fun i=>(i.zero,i.size,i.bytes))=some (some (.agg #[.string ⟨#[]⟩,.string ⟨#[]⟩]),2,32):=by kernel_rfl
theorem set_ok {W:World} {R:Nat} {D:List Value} {L L':List Wd} {s:St} (h:Rd W R D L) (e:setR L=.ok s L'):s.ok:=by
 unfold setR takeR at e
 split at e
 ·cases e;exact h.okset
 ·cases e
theorem st_follow (R rx:Nat) (D:List Value) (L:List Wd) (d:Df) (h0:Nat) (w:World) (hR:Rd w R D L) (hD:DefAt w (R+1) h0 d D) (hX:Blk w rx 98 #[.pointer (some ⟨R,0,none⟩)]) (hrx:R<rx) (hlen:DLen d) (hu0:R+1≤h0) (htx:(wd L).text≠[]) :
  Calls Tryz.prog 154 #[.pointer (some ⟨rx,0,none⟩)] w (RS R w (followR d L)):=by
 obtain⟨i0,hi,hz0,hz1,hz2⟩:=info_parts info52
 obtain⟨v2,v3,v4,v5,v6,Lp,Lc,Lb,rfl,hdi⟩:=hD
 have HDI:Hid (DefIn w (R+1) h0 d v2 v3 v4 v5 v6 Lp Lc Lb):=hdi
 have HUP:Hid (R+1≤h0):=hu0
 have hln:=hlen.f
 have HTX:=hHi htx
 have HZX:Hid (R<rx):=hrx
 have Kx_0:Hid (Blk w rx 98 #[.pointer (some ⟨R,0,none⟩)]):=hX
 obtain⟨D,hDD⟩:∃D:List Value,[.string d.start,.string d.layout,v2,v3,v4,v5,v6]=D:=⟨_,rfl⟩
 rw[hDD] at hR
 have HDE:=hHi hDD
 clear hdi hlen htx hrx hX hu0 hDD
 have HLT:Hid _:=hR.lt
 have HR0:Hid (Rd w R D L):=hR
 have HG0:Hid (w.grownBy w (some R)):=gr_refl _ _
 clear hR
 have cx0:=Kx_0.out.cell 0 rfl
 go_enter Tryz.func154,Tryz.ntmps154
 have HP:=hU (rd_pass R D L w HR0.out (.inr HTX.out))
 go_wp2_with fail
 refine hMo HP ?_
 rintro e a1 ⟨rfl,hr,hg⟩
 have HN1:=hHi hg
 have HR1:=hHi hr
 have HG1:=hHi (gr_tr HG0.out hg)
 clear hr hg
 have Kx_1:=kK Kx_0 HN1.out (by have:=HLT.out;have:=HZX.out;simp;omega)
 have cx0_2:=Kx_1.out.cell 0 rfl
 have HC3:=hU (rd_name R D L.tail a1 HR1.out)
 go_wp2_with fail
 cases hr3:nameR L.tail with
 | bad p3 c3=>
  rw[hr3] at HC3
  have HE3:=hHi hr3
  clear hr3
  refine hMo HC3 ?_
  rintro e wf ⟨rfl,hgf⟩
  simp only[FE]
  go_wp2
  refine⟨rfl,?_⟩
  have hfin:followR d L=.bad p3 c3:=by unfold followR;rw[HE3.out];try rfl
  show RS R w (followR d L) _ _
  rw[hfin]
  exact⟨rfl,FrS.of <| gr_tr HG1.out hgf⟩
 | ok n L3=>
 rw[hr3] at HC3
 have HE3:=hHi hr3
 clear hr3
 refine hMo HC3 ?_
 rintro e a3 ⟨rfl,hr,hg⟩
 have HN3:=hHi hg
 have HR3:=hHi hr
 have HG3:=hHi (gr_tr HG1.out hg)
 clear hr hg
 have Kx_3:=kK Kx_1 HN3.out (by have:=HLT.out;have:=HZX.out;simp;omega)
 have cx0_4:=Kx_3.out.cell 0 rfl
 have zx_5:=Kx_3.out.frozen
 have lx_5:=Kx_3.out.lt
 go_wp2_with fail
 obtain⟨a6,ha6⟩:∃qW,a3.alloc (.cells #[.string n,.int .u64 0,.int .u64 0,.int .u64 0,.int .u64 0] 52)=qW:=⟨_,rfl⟩
 rw[ha6]
 have HN6:=kB ha6
 have HZ6:=hHi HG3.out.size
 have HR6:=hHi (HR3.out.below HN6.out)
 have HG6:=hHi (grown_below HG3.out HN6.out)
 have Kx_6:=kA Kx_3 HN6
 have Kf_6:=kN ha6
 have HC7:=hU (rd_set R D L3 a6 HR6.out)
 cases hr7:setR L3 with
 | bad p7 c7=>
  rw[hr7] at HC7
  have HE7:=hHi hr7
  clear hr7
  refine hMo HC7 ?_
  rintro e wf ⟨rfl,hgf⟩
  simp only[FE]
  go_wp2
  refine⟨rfl,?_⟩
  have hfin:followR d L=.bad p7 c7:=by unfold followR;rw[HE3.out];try dsimp only[PR.bind];rw[HE7.out];try rfl
  show RS R w (followR d L) _ _
  rw[hfin]
  exact⟨rfl,FrS.of <| gr_tr HG6.out hgf⟩
 | ok s L7=>
 rw[hr7] at HC7
 have HE7:=hHi hr7
 clear hr7
 refine hMo HC7 ?_
 rintro e a7 ⟨rfl,hr,hg⟩
 have HN7:=hHi hg
 have HR7:=hHi hr
 have HG7:=hHi (gr_tr HG6.out hg)
 clear hr hg
 have Kx_7:=kK Kx_6 HN7.out (by have:=HLT.out;have:=HZX.out;simp;omega)
 have Kf_7:=kZ Kf_6 HN7.out HLT.out HZ6.out
 have HOK:Hid (s.ok):=set_ok HR6.out HE7.out
 obtain⟨cf0_8,cf1_9,cf2_10,cf3_11,cf4_12⟩:=Kf_7.out.c5
 have zf_13:=Kf_7.out.frozen
 have lf_13:=Kf_7.out.lt
 obtain⟨a14,ha14⟩:∃qW,(((a7.setCell ⟨a3.heap.size,1,none⟩ (.int .u64 s.a)).setCell ⟨a3.heap.size,2,none⟩ (.int .u64 s.b)).setCell ⟨a3.heap.size,3,none⟩ (.int .u64 s.c)).setCell ⟨a3.heap.size,4,none⟩ (.int .u64 s.d)=qW:=⟨_,rfl⟩
 have HN14:Hid (a7.grownBy a14 (some a3.heap.size)):=by show World.grownBy _ _ _;rw[←ha14];exact gr_tr (gr_tr (gr_tr (gr_set _ _ _ _) (gr_set _ _ _ _)) (gr_set _ _ _ _)) (gr_set _ _ _ _)
 have HR14:=hHi (Rd.kept HR7.out HN14.out (by have:=HLT.out;have:=HZ6.out;omega))
 have HG14:Hid (w.grownBy a14 (some R)):=gr_new HG7.out HN14.out HZ6.out
 have HNX:Hid ((rx:Nat)<w.heap.size):=Blk.lt Kx_0.out
 have Kx_14:=kK Kx_7 HN14.out (by have:=HNX.out;have:=HZ6.out;simp;omega)
 have Kf_14:Hid (Blk a14 a3.heap.size 52 #[.string n,.int .u64 s.a,.int .u64 s.b,.int .u64 s.c,.int .u64 s.d]):=by
  show Blk _ _ _ _
  rw[←ha14]
  have q1:=Blk.set Kf_7.out 1 (.int .u64 s.a)
  have q2:=Blk.set q1 2 (.int .u64 s.b)
  have q3:=Blk.set q2 3 (.int .u64 s.c)
  exact Blk.set q3 4 (.int .u64 s.d)
 have HR15:Hid (Rd a14 R [.string d.start,.string d.layout,v2,v3,v4,v5,v6] L7):=by have:=HR14.out;rw[←HDE.out] at this;exact this
 have cx0_16:=Kx_14.out.cell 0 rfl
 obtain⟨cf0_17,cf1_18,cf2_19,cf3_20,cf4_21⟩:=Kf_14.out.c5
 have HDI2:Hid (DefIn a14 (R+1) h0 d v2 v3 v4 v5 v6 Lp Lc Lb):=HDI.out.keep (fun b h1 h2=>HG14.out.block b (Nat.lt_of_lt_of_le h2 HDI.out.up) (by simp;omega)) HG14.out.size
 obtain⟨va,vc,hva⟩:=own_slice HDI2.out.rf
 have HVA:=hHi hva
 have HCV:Hid (a14.drew.cell? ⟨R,5,none⟩=some (.slice va d.follows.length vc)):=by
  show _=_
  have:=Rd.cellD (HR15.out.below (below_dr a14)) 4 (v:=v4) rfl
  rw[hva] at this
  exact this
 have HGD:Hid (w.grownBy a14.drew (some R)):=grown_below HG14.out (below_dr _)
 have HRD:Hid (Rd a14.drew R [.string d.start,.string d.layout,v2,v3,v4,v5,v6] L7):=HR15.out.below (below_dr _)
 have HDD:Hid (DefIn a14.drew (R+1) h0 d v2 v3 v4 v5 v6 Lp Lc Lb):=HDI2.out.below (below_dr _)
 have HKB:Hid (Blk a14.drew a3.heap.size 52 #[.string n,.int .u64 s.a,.int .u64 s.b,.int .u64 s.c,.int .u64 s.d]):=Blk.after Kf_14.out (below_dr _)
 have HKX:Hid (Blk a14.drew rx 98 #[.pointer (some ⟨R,0,none⟩)]):=Blk.after Kx_14.out (below_dr _)
 have HZB:Hid (w.heap.size≤a3.heap.size):=HZ6.out
 have cv1:=HCV.out
 clear hva
 go_wp2
 refine wp_region_held_drew (S:=fun W=>W.cell? ⟨rx,0,none⟩=some (.pointer (some ⟨R,0,none⟩))∧W.cell? ⟨a3.heap.size,0,none⟩=some (.string n)∧W.cell? ⟨a3.heap.size,1,none⟩=some (.int .u64 s.a)∧W.cell? ⟨a3.heap.size,2,none⟩=some (.int .u64 s.b)∧W.cell? ⟨a3.heap.size,3,none⟩=some (.int .u64 s.c)∧W.cell? ⟨a3.heap.size,4,none⟩=some (.int .u64 s.d)) (by kernel_rfl) ⟨Blk.cell (W:=a14.drew) HKX.out 0 rfl,Blk.cell (W:=a14.drew) HKB.out 0 rfl,Blk.cell (W:=a14.drew) HKB.out 1 rfl,Blk.cell (W:=a14.drew) HKB.out 2 rfl,Blk.cell (W:=a14.drew) HKB.out 3 rfl,Blk.cell (W:=a14.drew) HKB.out 4 rfl⟩ (fun hHeld=>?_)
 refine tk 0 rfl (by assumption) ?_
 refine tk 1 rfl (by assumption) ?_
 refine tk 2 rfl (by assumption) ?_
 refine tk 3 rfl (by assumption) ?_
 refine tk 4 rfl (by assumption) ?_
 refine tk 6 rfl (by assumption) ?_
 refine wpAnyH_ready (rs:=[5,7]) (by kernel_rfl) (by simp) ?_
 refine (AllReadyH.cons rfl (fun K hK=>?_) (AllReadyH.cons rfl (fun K hK=>?_) AllReadyH.nil))
 ·skip
  go_simp
  refine hK.out _ _ ⟨Blk.cell (W:=a14.drew) HKX.out 0 rfl,Blk.cell (W:=a14.drew) HKB.out 0 rfl,Blk.cell (W:=a14.drew) HKB.out 1 rfl,Blk.cell (W:=a14.drew) HKB.out 2 rfl,Blk.cell (W:=a14.drew) HKB.out 3 rfl,Blk.cell (W:=a14.drew) HKB.out 4 rfl⟩ (fun hHeld=>?_)
  clear hK K
  refine rd1 7 rfl (fun K hK=>?_)
  have HKB2:Hid (Blk (a14.drew.alloc (.cells #[.string n,.int .u64 s.a,.int .u64 s.b,.int .u64 s.c,.int .u64 s.d] 52)) a3.heap.size 52 #[.string n,.int .u64 s.a,.int .u64 s.b,.int .u64 s.c,.int .u64 s.d]):=Blk.alloc (W:=a14.drew) HKB.out _
  have HKX2:Hid (Blk (a14.drew.alloc (.cells #[.string n,.int .u64 s.a,.int .u64 s.b,.int .u64 s.c,.int .u64 s.d] 52)) rx 98 #[.pointer (some ⟨R,0,none⟩)]):=Blk.alloc (W:=a14.drew) HKX.out _
  have cv2:(a14.drew.alloc (.cells #[.string n,.int .u64 s.a,.int .u64 s.b,.int .u64 s.c,.int .u64 s.d] 52)).cell? ⟨R,5,none⟩=some (.slice va d.follows.length vc):=(((Below.refl _ a14.drew).alloc (Nat.le_refl _) _).cell (p:=⟨R,5,none⟩) HRD.out.lt).trans HCV.out
  go_simp
  refine hK.out _ _ ⟨Blk.cell (W:=(a14.drew.alloc (.cells #[.string n,.int .u64 s.a,.int .u64 s.b,.int .u64 s.c,.int .u64 s.d] 52))) HKX2.out 0 rfl,Blk.cell (W:=(a14.drew.alloc (.cells #[.string n,.int .u64 s.a,.int .u64 s.b,.int .u64 s.c,.int .u64 s.d] 52))) HKB2.out 0 rfl,Blk.cell (W:=(a14.drew.alloc (.cells #[.string n,.int .u64 s.a,.int .u64 s.b,.int .u64 s.c,.int .u64 s.d] 52))) HKB2.out 1 rfl,Blk.cell (W:=(a14.drew.alloc (.cells #[.string n,.int .u64 s.a,.int .u64 s.b,.int .u64 s.c,.int .u64 s.d] 52))) HKB2.out 2 rfl,Blk.cell (W:=(a14.drew.alloc (.cells #[.string n,.int .u64 s.a,.int .u64 s.b,.int .u64 s.c,.int .u64 s.d] 52))) HKB2.out 3 rfl,Blk.cell (W:=(a14.drew.alloc (.cells #[.string n,.int .u64 s.a,.int .u64 s.b,.int .u64 s.c,.int .u64 s.d] 52))) HKB2.out 4 rfl⟩ (fun hHeld=>?_)
  clear hK K
  refine rd1 8 rfl (fun K hK=>?_)
  have hrowv:a14.drew.ownsRow (R+1) 52 5 (.slice va d.follows.length vc) d.follows.length (d.follows.flatMap fcell):=by have:=HDD.out.rf;rw[HVA.out] at this;exact this
  refine step_append_lies _ rfl _ _ 24 rfl (R+1) 52 i0 _ 5 48 Tryz.underlying24 hi hz0 hz1 hz2 rfl (by decide) (.slice va d.follows.length vc) d.follows.length (d.follows.flatMap fcell) rfl (hrowv.alloc _) ⟨a14.heap.size,0,none⟩ 1 1 (fcell (⟨n,s⟩:Fo)) rfl rfl (new_cells a14.drew 52 (fcell (⟨n,s⟩:Fo))) (by intro u hu;simp[fcell] at hu;(rcases hu with rfl | rfl | rfl | rfl | rfl<;>rfl)) (by decide) (by unfold maxLen;omega) (by omega) (by have:=HRD.out.lt;simp at this ⊢;omega) (a14.heap.size+1) (by simp) ?_
  intro g1 cap1 w7 hown hgrow hat hlt7
  have hgv:(a14.drew.alloc (.cells #[.string n,.int .u64 s.a,.int .u64 s.b,.int .u64 s.c,.int .u64 s.d] 52)).grownBy w7 v4.ownBlock:=by rw[HVA.out];exact hgrow
  have HFR:Hid (FrS w w7 R):=FrS.push (FrS.of HGD.out) HDD.out.rf (by decide) hgv
  have hob:∀b,v4.ownBlock=some b→R+1≤b∧b<h0:=fun b hb=>⟨(HDD.out.rf.lt b hb).1,HDD.out.lo v4 (by simp) b hb⟩
  have HR7:Hid (Rd w7 R [.string d.start,.string d.layout,v2,v3,v4,v5,v6] L7):=(HRD.out.below ((Below.refl _ _).alloc (Nat.le_refl _) _)).keptO hgv (fun b hb=>(hob b hb).1)
  have HD7:Hid _:=HDD.out.push_follow (⟨n,s⟩:Fo) HOK.out hown hgv (by rw[HVA.out];exact hat) hlt7
  have hup0:=HUP.out
  have HKB7:=kK HKB2 hgv (fun e=>by have:=hob _ e.symm;have:=HZB.out;have:=HDI.out.up;omega)
  have HKX7:=kK HKX2 hgv (fun e=>Blk.not_row (W:=(a14.drew.alloc (.cells #[.string n,.int .u64 s.a,.int .u64 s.b,.int .u64 s.c,.int .u64 s.d] 52))) HKX2.out (by decide) (HDD.out.rf.alloc _) e)
  have cr7:w7.cell? ⟨R,5,none⟩=some (.slice va d.follows.length vc):=by have:=Rd.cellD HR7.out 4 (v:=v4) rfl;rw[HVA.out] at this;exact this
  have zr7:=Rd.frozenD HR7.out 5
  have lr7:=HR7.out.lt
  clear hown hgrow hgv hat hlt7 hob hrowv hup0
  refine hK.out _ _ ⟨Blk.cell HKX7.out 0 rfl,Blk.cell HKB7.out 0 rfl,Blk.cell HKB7.out 1 rfl,Blk.cell HKB7.out 2 rfl,Blk.cell HKB7.out 3 rfl,Blk.cell HKB7.out 4 rfl⟩ (fun hHeld=>?_)
  clear hK K
  refine tk 9 rfl (by assumption) ?_
  refine tk 10 rfl (by assumption) ?_
  refine tk 11 rfl (by assumption) ?_
  refine rd1 12 rfl (fun K hK=>?_)
  have HKB8:Hid (Blk (w7.setCell ⟨R,5,none⟩ (.slice (some ⟨g1,0,none⟩) (d.follows.length+1) cap1)) a3.heap.size 52 #[.string n,.int .u64 s.a,.int .u64 s.b,.int .u64 s.c,.int .u64 s.d]):=Blk.kept HKB7.out (grownBy_setCell _ _ _ _) (by have:=HLT.out;have:=HZB.out;simp;omega)
  have HKX8:Hid (Blk (w7.setCell ⟨R,5,none⟩ (.slice (some ⟨g1,0,none⟩) (d.follows.length+1) cap1)) rx 98 #[.pointer (some ⟨R,0,none⟩)]):=Blk.kept HKX7.out (grownBy_setCell _ _ _ _) (by have:=HZX.out;simp;omega)
  go_simp
  refine hK.out _ _ ⟨Blk.cell (W:=(w7.setCell ⟨R,5,none⟩ (.slice (some ⟨g1,0,none⟩) (d.follows.length+1) cap1))) HKX8.out 0 rfl,Blk.cell (W:=(w7.setCell ⟨R,5,none⟩ (.slice (some ⟨g1,0,none⟩) (d.follows.length+1) cap1))) HKB8.out 0 rfl,Blk.cell (W:=(w7.setCell ⟨R,5,none⟩ (.slice (some ⟨g1,0,none⟩) (d.follows.length+1) cap1))) HKB8.out 1 rfl,Blk.cell (W:=(w7.setCell ⟨R,5,none⟩ (.slice (some ⟨g1,0,none⟩) (d.follows.length+1) cap1))) HKB8.out 2 rfl,Blk.cell (W:=(w7.setCell ⟨R,5,none⟩ (.slice (some ⟨g1,0,none⟩) (d.follows.length+1) cap1))) HKB8.out 3 rfl,Blk.cell (W:=(w7.setCell ⟨R,5,none⟩ (.slice (some ⟨g1,0,none⟩) (d.follows.length+1) cap1))) HKB8.out 4 rfl⟩ (fun hHeld=>?_)
  clear hK K
  refine wpAnyH_done (by kernel_rfl) ?_ _
  clear hHeld
  have HFIN:Hid (∀W,(w7.setCell ⟨R,5,none⟩ (.slice (some ⟨g1,0,none⟩) (d.follows.length+1) cap1))=W→(∃D' hi,Rd W R D' L7∧DefAt W (R+1) hi { d with follows:=d.follows++[⟨n,s⟩] } D')∧FrS w W R):=fun W hW=>by
   have hg:w7.grownBy W (some R):=by rw[←hW];exact grownBy_setCell _ _ _ _
   refine⟨⟨_,_,by rw[←hW];exact Rd.setD (i:=4) HR7.out _,_,_,_,_,_,_,_,_,rfl,HD7.out.gr hg (.inl (Nat.lt_succ_self _))⟩,by rw[←hW];exact HFR.out.set _⟩
  go_wp2
  go_end0
  obtain⟨h1,h2⟩:=HFIN.out _ rfl
  have hfin:followR d L=.ok { d with follows:=d.follows++[⟨n,s⟩] } L7:=by unfold followR;rw[HE3.out];try dsimp only[PR.bind];rw[HE7.out];try dsimp only[PR.bind]
  show RS R w (followR d L) _ _
  rw[hfin]
  exact⟨rfl,h1,h2⟩
 ·skip
  have HKB2:Hid (Blk (a14.drew.alloc (.cells #[.string n,.int .u64 s.a,.int .u64 s.b,.int .u64 s.c,.int .u64 s.d] 52)) a3.heap.size 52 #[.string n,.int .u64 s.a,.int .u64 s.b,.int .u64 s.c,.int .u64 s.d]):=Blk.alloc (W:=a14.drew) HKB.out _
  have HKX2:Hid (Blk (a14.drew.alloc (.cells #[.string n,.int .u64 s.a,.int .u64 s.b,.int .u64 s.c,.int .u64 s.d] 52)) rx 98 #[.pointer (some ⟨R,0,none⟩)]):=Blk.alloc (W:=a14.drew) HKX.out _
  have cv2:(a14.drew.alloc (.cells #[.string n,.int .u64 s.a,.int .u64 s.b,.int .u64 s.c,.int .u64 s.d] 52)).cell? ⟨R,5,none⟩=some (.slice va d.follows.length vc):=(((Below.refl _ a14.drew).alloc (Nat.le_refl _) _).cell (p:=⟨R,5,none⟩) HRD.out.lt).trans HCV.out
  go_simp
  refine hK.out _ _ ⟨Blk.cell (W:=(a14.drew.alloc (.cells #[.string n,.int .u64 s.a,.int .u64 s.b,.int .u64 s.c,.int .u64 s.d] 52))) HKX2.out 0 rfl,Blk.cell (W:=(a14.drew.alloc (.cells #[.string n,.int .u64 s.a,.int .u64 s.b,.int .u64 s.c,.int .u64 s.d] 52))) HKB2.out 0 rfl,Blk.cell (W:=(a14.drew.alloc (.cells #[.string n,.int .u64 s.a,.int .u64 s.b,.int .u64 s.c,.int .u64 s.d] 52))) HKB2.out 1 rfl,Blk.cell (W:=(a14.drew.alloc (.cells #[.string n,.int .u64 s.a,.int .u64 s.b,.int .u64 s.c,.int .u64 s.d] 52))) HKB2.out 2 rfl,Blk.cell (W:=(a14.drew.alloc (.cells #[.string n,.int .u64 s.a,.int .u64 s.b,.int .u64 s.c,.int .u64 s.d] 52))) HKB2.out 3 rfl,Blk.cell (W:=(a14.drew.alloc (.cells #[.string n,.int .u64 s.a,.int .u64 s.b,.int .u64 s.c,.int .u64 s.d] 52))) HKB2.out 4 rfl⟩ (fun hHeld=>?_)
  clear hK K
  have cv3:a14.cell? ⟨R,5,none⟩=some (.slice va d.follows.length vc):=HCV.out
  have lz3:R<a14.heap.size:=HRD.out.lt
  have cv4:=(((Below.refl _ a14).alloc (Nat.le_refl _) (.cells #[.string n,.int .u64 s.a,.int .u64 s.b,.int .u64 s.c,.int .u64 s.d] 52)).cell (p:=⟨R,5,none⟩) lz3).trans cv3
  refine rd1 5 rfl (fun K hK=>?_)
  go_simp
  refine hK.out _ _ ⟨Blk.cell (W:=(a14.drew.alloc (.cells #[.string n,.int .u64 s.a,.int .u64 s.b,.int .u64 s.c,.int .u64 s.d] 52))) HKX2.out 0 rfl,Blk.cell (W:=(a14.drew.alloc (.cells #[.string n,.int .u64 s.a,.int .u64 s.b,.int .u64 s.c,.int .u64 s.d] 52))) HKB2.out 0 rfl,Blk.cell (W:=(a14.drew.alloc (.cells #[.string n,.int .u64 s.a,.int .u64 s.b,.int .u64 s.c,.int .u64 s.d] 52))) HKB2.out 1 rfl,Blk.cell (W:=(a14.drew.alloc (.cells #[.string n,.int .u64 s.a,.int .u64 s.b,.int .u64 s.c,.int .u64 s.d] 52))) HKB2.out 2 rfl,Blk.cell (W:=(a14.drew.alloc (.cells #[.string n,.int .u64 s.a,.int .u64 s.b,.int .u64 s.c,.int .u64 s.d] 52))) HKB2.out 3 rfl,Blk.cell (W:=(a14.drew.alloc (.cells #[.string n,.int .u64 s.a,.int .u64 s.b,.int .u64 s.c,.int .u64 s.d] 52))) HKB2.out 4 rfl⟩ (fun hHeld=>?_)
  clear hK K
  clear cv3 cv4 lz3
  refine rd1 8 rfl (fun K hK=>?_)
  have hrowv:a14.drew.ownsRow (R+1) 52 5 (.slice va d.follows.length vc) d.follows.length (d.follows.flatMap fcell):=by have:=HDD.out.rf;rw[HVA.out] at this;exact this
  refine step_append_lies _ rfl _ _ 24 rfl (R+1) 52 i0 _ 5 48 Tryz.underlying24 hi hz0 hz1 hz2 rfl (by decide) (.slice va d.follows.length vc) d.follows.length (d.follows.flatMap fcell) rfl (hrowv.alloc _) ⟨a14.heap.size,0,none⟩ 1 1 (fcell (⟨n,s⟩:Fo)) rfl rfl (new_cells a14.drew 52 (fcell (⟨n,s⟩:Fo))) (by intro u hu;simp[fcell] at hu;(rcases hu with rfl | rfl | rfl | rfl | rfl<;>rfl)) (by decide) (by unfold maxLen;omega) (by omega) (by have:=HRD.out.lt;simp at this ⊢;omega) (a14.heap.size+1) (by simp) ?_
  intro g1 cap1 w7 hown hgrow hat hlt7
  have hgv:(a14.drew.alloc (.cells #[.string n,.int .u64 s.a,.int .u64 s.b,.int .u64 s.c,.int .u64 s.d] 52)).grownBy w7 v4.ownBlock:=by rw[HVA.out];exact hgrow
  have HFR:Hid (FrS w w7 R):=FrS.push (FrS.of HGD.out) HDD.out.rf (by decide) hgv
  have hob:∀b,v4.ownBlock=some b→R+1≤b∧b<h0:=fun b hb=>⟨(HDD.out.rf.lt b hb).1,HDD.out.lo v4 (by simp) b hb⟩
  have HR7:Hid (Rd w7 R [.string d.start,.string d.layout,v2,v3,v4,v5,v6] L7):=(HRD.out.below ((Below.refl _ _).alloc (Nat.le_refl _) _)).keptO hgv (fun b hb=>(hob b hb).1)
  have HD7:Hid _:=HDD.out.push_follow (⟨n,s⟩:Fo) HOK.out hown hgv (by rw[HVA.out];exact hat) hlt7
  have hup0:=HUP.out
  have HKB7:=kK HKB2 hgv (fun e=>by have:=hob _ e.symm;have:=HZB.out;have:=HDI.out.up;omega)
  have HKX7:=kK HKX2 hgv (fun e=>Blk.not_row (W:=(a14.drew.alloc (.cells #[.string n,.int .u64 s.a,.int .u64 s.b,.int .u64 s.c,.int .u64 s.d] 52))) HKX2.out (by decide) (HDD.out.rf.alloc _) e)
  have cr7:w7.cell? ⟨R,5,none⟩=some (.slice va d.follows.length vc):=by have:=Rd.cellD HR7.out 4 (v:=v4) rfl;rw[HVA.out] at this;exact this
  have zr7:=Rd.frozenD HR7.out 5
  have lr7:=HR7.out.lt
  clear hown hgrow hgv hat hlt7 hob hrowv hup0
  refine hK.out _ _ ⟨Blk.cell HKX7.out 0 rfl,Blk.cell HKB7.out 0 rfl,Blk.cell HKB7.out 1 rfl,Blk.cell HKB7.out 2 rfl,Blk.cell HKB7.out 3 rfl,Blk.cell HKB7.out 4 rfl⟩ (fun hHeld=>?_)
  clear hK K
  refine tk 9 rfl (by assumption) ?_
  refine tk 10 rfl (by assumption) ?_
  refine tk 11 rfl (by assumption) ?_
  refine rd1 12 rfl (fun K hK=>?_)
  have HKB8:Hid (Blk (w7.setCell ⟨R,5,none⟩ (.slice (some ⟨g1,0,none⟩) (d.follows.length+1) cap1)) a3.heap.size 52 #[.string n,.int .u64 s.a,.int .u64 s.b,.int .u64 s.c,.int .u64 s.d]):=Blk.kept HKB7.out (grownBy_setCell _ _ _ _) (by have:=HLT.out;have:=HZB.out;simp;omega)
  have HKX8:Hid (Blk (w7.setCell ⟨R,5,none⟩ (.slice (some ⟨g1,0,none⟩) (d.follows.length+1) cap1)) rx 98 #[.pointer (some ⟨R,0,none⟩)]):=Blk.kept HKX7.out (grownBy_setCell _ _ _ _) (by have:=HZX.out;simp;omega)
  go_simp
  refine hK.out _ _ ⟨Blk.cell (W:=(w7.setCell ⟨R,5,none⟩ (.slice (some ⟨g1,0,none⟩) (d.follows.length+1) cap1))) HKX8.out 0 rfl,Blk.cell (W:=(w7.setCell ⟨R,5,none⟩ (.slice (some ⟨g1,0,none⟩) (d.follows.length+1) cap1))) HKB8.out 0 rfl,Blk.cell (W:=(w7.setCell ⟨R,5,none⟩ (.slice (some ⟨g1,0,none⟩) (d.follows.length+1) cap1))) HKB8.out 1 rfl,Blk.cell (W:=(w7.setCell ⟨R,5,none⟩ (.slice (some ⟨g1,0,none⟩) (d.follows.length+1) cap1))) HKB8.out 2 rfl,Blk.cell (W:=(w7.setCell ⟨R,5,none⟩ (.slice (some ⟨g1,0,none⟩) (d.follows.length+1) cap1))) HKB8.out 3 rfl,Blk.cell (W:=(w7.setCell ⟨R,5,none⟩ (.slice (some ⟨g1,0,none⟩) (d.follows.length+1) cap1))) HKB8.out 4 rfl⟩ (fun hHeld=>?_)
  clear hK K
  refine wpAnyH_done (by kernel_rfl) ?_ _
  clear hHeld
  have HFIN:Hid (∀W,(w7.setCell ⟨R,5,none⟩ (.slice (some ⟨g1,0,none⟩) (d.follows.length+1) cap1))=W→(∃D' hi,Rd W R D' L7∧DefAt W (R+1) hi { d with follows:=d.follows++[⟨n,s⟩] } D')∧FrS w W R):=fun W hW=>by
   have hg:w7.grownBy W (some R):=by rw[←hW];exact grownBy_setCell _ _ _ _
   refine⟨⟨_,_,by rw[←hW];exact Rd.setD (i:=4) HR7.out _,_,_,_,_,_,_,_,_,rfl,HD7.out.gr hg (.inl (Nat.lt_succ_self _))⟩,by rw[←hW];exact HFR.out.set _⟩
  go_wp2
  go_end0
  obtain⟨h1,h2⟩:=HFIN.out _ rfl
  have hfin:followR d L=.ok { d with follows:=d.follows++[⟨n,s⟩] } L7:=by unfold followR;rw[HE3.out];try dsimp only[PR.bind];rw[HE7.out];try dsimp only[PR.bind]
  show RS R w (followR d L) _ _
  rw[hfin]
  exact⟨rfl,h1,h2⟩
theorem st_reject (R rx:Nat) (D:List Value) (L:List Wd) (d:Df) (h0:Nat) (w:World) (hR:Rd w R D L) (hD:DefAt w (R+1) h0 d D) (hX:Blk w rx 98 #[.pointer (some ⟨R,0,none⟩)]) (hrx:R<rx) (hlen:DLen d) (hu0:R+1≤h0) (htx:(wd L).text≠[]) :
  Calls Tryz.prog 158 #[.pointer (some ⟨rx,0,none⟩)] w (RS R w (rejectR d L)):=by
 obtain⟨i0,hi,hz0,hz1,hz2⟩:=info_parts info73
 obtain⟨v2,v3,v4,v5,v6,Lp,Lc,Lb,rfl,hdi⟩:=hD
 have HDI:Hid (DefIn w (R+1) h0 d v2 v3 v4 v5 v6 Lp Lc Lb):=hdi
 have HUP:Hid (R+1≤h0):=hu0
 have hln:=hlen.r
 have HTX:=hHi htx
 have HZX:Hid (R<rx):=hrx
 have Kx_0:Hid (Blk w rx 98 #[.pointer (some ⟨R,0,none⟩)]):=hX
 obtain⟨D,hDD⟩:∃D:List Value,[.string d.start,.string d.layout,v2,v3,v4,v5,v6]=D:=⟨_,rfl⟩
 rw[hDD] at hR
 have HDE:=hHi hDD
 clear hdi hlen htx hrx hX hu0 hDD
 have HLT:Hid _:=hR.lt
 have HR0:Hid (Rd w R D L):=hR
 have HG0:Hid (w.grownBy w (some R)):=gr_refl _ _
 clear hR
 have cx0:=Kx_0.out.cell 0 rfl
 go_enter Tryz.func158,Tryz.ntmps158
 have HP:=hU (rd_pass R D L w HR0.out (.inr HTX.out))
 go_wp2_with fail
 refine hMo HP ?_
 rintro e a1 ⟨rfl,hr,hg⟩
 have HN1:=hHi hg
 have HR1:=hHi hr
 have HG1:=hHi (gr_tr HG0.out hg)
 clear hr hg
 have Kx_1:=kK Kx_0 HN1.out (by have:=HLT.out;have:=HZX.out;simp;omega)
 have cx0_2:=Kx_1.out.cell 0 rfl
 have HC3:=hU (rd_name R D L.tail a1 HR1.out)
 go_wp2_with fail
 cases hr3:nameR L.tail with
 | bad p3 c3=>
  rw[hr3] at HC3
  have HE3:=hHi hr3
  clear hr3
  refine hMo HC3 ?_
  rintro e wf ⟨rfl,hgf⟩
  simp only[FE]
  go_wp2
  refine⟨rfl,?_⟩
  have hfin:rejectR d L=.bad p3 c3:=by unfold rejectR;rw[HE3.out];try rfl
  show RS R w (rejectR d L) _ _
  rw[hfin]
  exact⟨rfl,FrS.of <| gr_tr HG1.out hgf⟩
 | ok n L3=>
 rw[hr3] at HC3
 have HE3:=hHi hr3
 clear hr3
 refine hMo HC3 ?_
 rintro e a3 ⟨rfl,hr,hg⟩
 have HN3:=hHi hg
 have HR3:=hHi hr
 have HG3:=hHi (gr_tr HG1.out hg)
 clear hr hg
 have Kx_3:=kK Kx_1 HN3.out (by have:=HLT.out;have:=HZX.out;simp;omega)
 have cx0_4:=Kx_3.out.cell 0 rfl
 have zx_5:=Kx_3.out.frozen
 have lx_5:=Kx_3.out.lt
 go_wp2_with fail
 obtain⟨a6,ha6⟩:∃qW,a3.alloc (.cells #[.string n,.string ⟨#[]⟩] 73)=qW:=⟨_,rfl⟩
 rw[ha6]
 have HN6:=kB ha6
 have HZ6:=hHi HG3.out.size
 have HR6:=hHi (HR3.out.below HN6.out)
 have HG6:=hHi (grown_below HG3.out HN6.out)
 have Kx_6:=kA Kx_3 HN6
 have Kf_6:=kN ha6
 have HC7:=hU (rd_name R D L3 a6 HR6.out)
 cases hr7:nameR L3 with
 | bad p7 c7=>
  rw[hr7] at HC7
  have HE7:=hHi hr7
  clear hr7
  refine hMo HC7 ?_
  rintro e wf ⟨rfl,hgf⟩
  simp only[FE]
  go_wp2
  refine⟨rfl,?_⟩
  have hfin:rejectR d L=.bad p7 c7:=by unfold rejectR;rw[HE3.out];try dsimp only[PR.bind];rw[HE7.out];try rfl
  show RS R w (rejectR d L) _ _
  rw[hfin]
  exact⟨rfl,FrS.of <| gr_tr HG6.out hgf⟩
 | ok b L7=>
 rw[hr7] at HC7
 have HE7:=hHi hr7
 clear hr7
 refine hMo HC7 ?_
 rintro e a7 ⟨rfl,hr,hg⟩
 have HN7:=hHi hg
 have HR7:=hHi hr
 have HG7:=hHi (gr_tr HG6.out hg)
 clear hr hg
 have Kx_7:=kK Kx_6 HN7.out (by have:=HLT.out;have:=HZX.out;simp;omega)
 have Kf_7:=kZ Kf_6 HN7.out HLT.out HZ6.out
 obtain⟨cf0_8,cf1_9⟩:=Kf_7.out.c2
 have zf_10:=Kf_7.out.frozen
 have lf_10:=Kf_7.out.lt
 obtain⟨a11,ha11⟩:∃qW,a7.setCell ⟨a3.heap.size,1,none⟩ (.string b)=qW:=⟨_,rfl⟩
 have HN11:Hid (a7.grownBy a11 (some a3.heap.size)):=by show World.grownBy _ _ _;rw[←ha11];exact gr_set _ _ _ _
 have HR11:=hHi (Rd.kept HR7.out HN11.out (by have:=HLT.out;have:=HZ6.out;omega))
 have HG11:Hid (w.grownBy a11 (some R)):=gr_new HG7.out HN11.out HZ6.out
 have HNX:Hid ((rx:Nat)<w.heap.size):=Blk.lt Kx_0.out
 have Kx_11:=kK Kx_7 HN11.out (by have:=HNX.out;have:=HZ6.out;simp;omega)
 have Kf_11:Hid (Blk a11 a3.heap.size 73 #[.string n,.string b]):=by show Blk _ _ _ _;rw[←ha11];exact Blk.set Kf_7.out 1 _
 have HR12:Hid (Rd a11 R [.string d.start,.string d.layout,v2,v3,v4,v5,v6] L7):=by have:=HR11.out;rw[←HDE.out] at this;exact this
 have cx0_13:=Kx_11.out.cell 0 rfl
 obtain⟨cf0_14,cf1_15⟩:=Kf_11.out.c2
 have HDI2:Hid (DefIn a11 (R+1) h0 d v2 v3 v4 v5 v6 Lp Lc Lb):=HDI.out.keep (fun b h1 h2=>HG11.out.block b (Nat.lt_of_lt_of_le h2 HDI.out.up) (by simp;omega)) HG11.out.size
 obtain⟨va,vc,hva⟩:=own_slice HDI2.out.rr
 have HVA:=hHi hva
 have HCV:Hid (a11.drew.cell? ⟨R,6,none⟩=some (.slice va d.rejects.length vc)):=by
  show _=_
  have:=Rd.cellD (HR12.out.below (below_dr a11)) 5 (v:=v5) rfl
  rw[hva] at this
  exact this
 have HGD:Hid (w.grownBy a11.drew (some R)):=grown_below HG11.out (below_dr _)
 have HRD:Hid (Rd a11.drew R [.string d.start,.string d.layout,v2,v3,v4,v5,v6] L7):=HR12.out.below (below_dr _)
 have HDD:Hid (DefIn a11.drew (R+1) h0 d v2 v3 v4 v5 v6 Lp Lc Lb):=HDI2.out.below (below_dr _)
 have HKB:Hid (Blk a11.drew a3.heap.size 73 #[.string n,.string b]):=Blk.after Kf_11.out (below_dr _)
 have HKX:Hid (Blk a11.drew rx 98 #[.pointer (some ⟨R,0,none⟩)]):=Blk.after Kx_11.out (below_dr _)
 have HZB:Hid (w.heap.size≤a3.heap.size):=HZ6.out
 have cv1:=HCV.out
 clear hva
 go_wp2
 refine wp_region_held_drew (S:=fun W=>W.cell? ⟨rx,0,none⟩=some (.pointer (some ⟨R,0,none⟩))∧W.cell? ⟨a3.heap.size,0,none⟩=some (.string n)∧W.cell? ⟨a3.heap.size,1,none⟩=some (.string b)) (by kernel_rfl) ⟨Blk.cell (W:=a11.drew) HKX.out 0 rfl,Blk.cell (W:=a11.drew) HKB.out 0 rfl,Blk.cell (W:=a11.drew) HKB.out 1 rfl⟩ (fun hHeld=>?_)
 refine tk 0 rfl (by assumption) ?_
 refine tk 1 rfl (by assumption) ?_
 refine tk 2 rfl (by assumption) ?_
 refine tk 3 rfl (by assumption) ?_
 refine tk 4 rfl (by assumption) ?_
 refine tk 6 rfl (by assumption) ?_
 refine wpAnyH_ready (rs:=[5,7]) (by kernel_rfl) (by simp) ?_
 refine (AllReadyH.cons rfl (fun K hK=>?_) (AllReadyH.cons rfl (fun K hK=>?_) AllReadyH.nil))
 ·skip
  go_simp
  refine hK.out _ _ ⟨Blk.cell (W:=a11.drew) HKX.out 0 rfl,Blk.cell (W:=a11.drew) HKB.out 0 rfl,Blk.cell (W:=a11.drew) HKB.out 1 rfl⟩ (fun hHeld=>?_)
  clear hK K
  refine rd1 7 rfl (fun K hK=>?_)
  have HKB2:Hid (Blk (a11.drew.alloc (.cells #[.string n,.string b] 73)) a3.heap.size 73 #[.string n,.string b]):=Blk.alloc (W:=a11.drew) HKB.out _
  have HKX2:Hid (Blk (a11.drew.alloc (.cells #[.string n,.string b] 73)) rx 98 #[.pointer (some ⟨R,0,none⟩)]):=Blk.alloc (W:=a11.drew) HKX.out _
  have cv2:(a11.drew.alloc (.cells #[.string n,.string b] 73)).cell? ⟨R,6,none⟩=some (.slice va d.rejects.length vc):=(((Below.refl _ a11.drew).alloc (Nat.le_refl _) _).cell (p:=⟨R,6,none⟩) HRD.out.lt).trans HCV.out
  go_simp
  refine hK.out _ _ ⟨Blk.cell (W:=(a11.drew.alloc (.cells #[.string n,.string b] 73))) HKX2.out 0 rfl,Blk.cell (W:=(a11.drew.alloc (.cells #[.string n,.string b] 73))) HKB2.out 0 rfl,Blk.cell (W:=(a11.drew.alloc (.cells #[.string n,.string b] 73))) HKB2.out 1 rfl⟩ (fun hHeld=>?_)
  clear hK K
  refine rd1 8 rfl (fun K hK=>?_)
  have hrowv:a11.drew.ownsRow (R+1) 73 2 (.slice va d.rejects.length vc) d.rejects.length (d.rejects.flatMap rcell):=by have:=HDD.out.rr;rw[HVA.out] at this;exact this
  refine step_append_lies _ rfl _ _ 25 rfl (R+1) 73 i0 _ 2 32 Tryz.underlying25 hi hz0 hz1 hz2 rfl (by decide) (.slice va d.rejects.length vc) d.rejects.length (d.rejects.flatMap rcell) rfl (hrowv.alloc _) ⟨a11.heap.size,0,none⟩ 1 1 (rcell (⟨n,b⟩:Re)) rfl rfl (new_cells a11.drew 73 (rcell (⟨n,b⟩:Re))) (by intro u hu;simp[rcell] at hu;(rcases hu with rfl | rfl<;>rfl)) (by decide) (by unfold maxLen;omega) (by omega) (by have:=HRD.out.lt;simp at this ⊢;omega) (a11.heap.size+1) (by simp) ?_
  intro g1 cap1 w7 hown hgrow hat hlt7
  have hgv:(a11.drew.alloc (.cells #[.string n,.string b] 73)).grownBy w7 v5.ownBlock:=by rw[HVA.out];exact hgrow
  have HFR:Hid (FrS w w7 R):=FrS.push (FrS.of HGD.out) HDD.out.rr (by decide) hgv
  have hob:∀b,v5.ownBlock=some b→R+1≤b∧b<h0:=fun b hb=>⟨(HDD.out.rr.lt b hb).1,HDD.out.lo v5 (by simp) b hb⟩
  have HR7:Hid (Rd w7 R [.string d.start,.string d.layout,v2,v3,v4,v5,v6] L7):=(HRD.out.below ((Below.refl _ _).alloc (Nat.le_refl _) _)).keptO hgv (fun b hb=>(hob b hb).1)
  have HD7:Hid _:=HDD.out.push_reject (⟨n,b⟩:Re) hown hgv (by rw[HVA.out];exact hat) hlt7
  have hup0:=HUP.out
  have HKB7:=kK HKB2 hgv (fun e=>by have:=hob _ e.symm;have:=HZB.out;have:=HDI.out.up;omega)
  have HKX7:=kK HKX2 hgv (fun e=>Blk.not_row (W:=(a11.drew.alloc (.cells #[.string n,.string b] 73))) HKX2.out (by decide) (HDD.out.rr.alloc _) e)
  have cr7:w7.cell? ⟨R,6,none⟩=some (.slice va d.rejects.length vc):=by have:=Rd.cellD HR7.out 5 (v:=v5) rfl;rw[HVA.out] at this;exact this
  have zr7:=Rd.frozenD HR7.out 6
  have lr7:=HR7.out.lt
  clear hown hgrow hgv hat hlt7 hob hrowv hup0
  refine hK.out _ _ ⟨Blk.cell HKX7.out 0 rfl,Blk.cell HKB7.out 0 rfl,Blk.cell HKB7.out 1 rfl⟩ (fun hHeld=>?_)
  clear hK K
  refine tk 9 rfl (by assumption) ?_
  refine tk 10 rfl (by assumption) ?_
  refine tk 11 rfl (by assumption) ?_
  refine rd1 12 rfl (fun K hK=>?_)
  have HKB8:Hid (Blk (w7.setCell ⟨R,6,none⟩ (.slice (some ⟨g1,0,none⟩) (d.rejects.length+1) cap1)) a3.heap.size 73 #[.string n,.string b]):=Blk.kept HKB7.out (grownBy_setCell _ _ _ _) (by have:=HLT.out;have:=HZB.out;simp;omega)
  have HKX8:Hid (Blk (w7.setCell ⟨R,6,none⟩ (.slice (some ⟨g1,0,none⟩) (d.rejects.length+1) cap1)) rx 98 #[.pointer (some ⟨R,0,none⟩)]):=Blk.kept HKX7.out (grownBy_setCell _ _ _ _) (by have:=HZX.out;simp;omega)
  go_simp
  refine hK.out _ _ ⟨Blk.cell (W:=(w7.setCell ⟨R,6,none⟩ (.slice (some ⟨g1,0,none⟩) (d.rejects.length+1) cap1))) HKX8.out 0 rfl,Blk.cell (W:=(w7.setCell ⟨R,6,none⟩ (.slice (some ⟨g1,0,none⟩) (d.rejects.length+1) cap1))) HKB8.out 0 rfl,Blk.cell (W:=(w7.setCell ⟨R,6,none⟩ (.slice (some ⟨g1,0,none⟩) (d.rejects.length+1) cap1))) HKB8.out 1 rfl⟩ (fun hHeld=>?_)
  clear hK K
  refine wpAnyH_done (by kernel_rfl) ?_ _
  clear hHeld
  have HFIN:Hid (∀W,(w7.setCell ⟨R,6,none⟩ (.slice (some ⟨g1,0,none⟩) (d.rejects.length+1) cap1))=W→(∃D' hi,Rd W R D' L7∧DefAt W (R+1) hi { d with rejects:=d.rejects++[⟨n,b⟩] } D')∧FrS w W R):=fun W hW=>by
   have hg:w7.grownBy W (some R):=by rw[←hW];exact grownBy_setCell _ _ _ _
   refine⟨⟨_,_,by rw[←hW];exact Rd.setD (i:=5) HR7.out _,_,_,_,_,_,_,_,_,rfl,HD7.out.gr hg (.inl (Nat.lt_succ_self _))⟩,by rw[←hW];exact HFR.out.set _⟩
  go_wp2
  go_end0
  obtain⟨h1,h2⟩:=HFIN.out _ rfl
  have hfin:rejectR d L=.ok { d with rejects:=d.rejects++[⟨n,b⟩] } L7:=by unfold rejectR;rw[HE3.out];try dsimp only[PR.bind];rw[HE7.out];try dsimp only[PR.bind]
  show RS R w (rejectR d L) _ _
  rw[hfin]
  exact⟨rfl,h1,h2⟩
 ·skip
  have HKB2:Hid (Blk (a11.drew.alloc (.cells #[.string n,.string b] 73)) a3.heap.size 73 #[.string n,.string b]):=Blk.alloc (W:=a11.drew) HKB.out _
  have HKX2:Hid (Blk (a11.drew.alloc (.cells #[.string n,.string b] 73)) rx 98 #[.pointer (some ⟨R,0,none⟩)]):=Blk.alloc (W:=a11.drew) HKX.out _
  have cv2:(a11.drew.alloc (.cells #[.string n,.string b] 73)).cell? ⟨R,6,none⟩=some (.slice va d.rejects.length vc):=(((Below.refl _ a11.drew).alloc (Nat.le_refl _) _).cell (p:=⟨R,6,none⟩) HRD.out.lt).trans HCV.out
  go_simp
  refine hK.out _ _ ⟨Blk.cell (W:=(a11.drew.alloc (.cells #[.string n,.string b] 73))) HKX2.out 0 rfl,Blk.cell (W:=(a11.drew.alloc (.cells #[.string n,.string b] 73))) HKB2.out 0 rfl,Blk.cell (W:=(a11.drew.alloc (.cells #[.string n,.string b] 73))) HKB2.out 1 rfl⟩ (fun hHeld=>?_)
  clear hK K
  have cv3:a11.cell? ⟨R,6,none⟩=some (.slice va d.rejects.length vc):=HCV.out
  have lz3:R<a11.heap.size:=HRD.out.lt
  have cv4:=(((Below.refl _ a11).alloc (Nat.le_refl _) (.cells #[.string n,.string b] 73)).cell (p:=⟨R,6,none⟩) lz3).trans cv3
  refine rd1 5 rfl (fun K hK=>?_)
  go_simp
  refine hK.out _ _ ⟨Blk.cell (W:=(a11.drew.alloc (.cells #[.string n,.string b] 73))) HKX2.out 0 rfl,Blk.cell (W:=(a11.drew.alloc (.cells #[.string n,.string b] 73))) HKB2.out 0 rfl,Blk.cell (W:=(a11.drew.alloc (.cells #[.string n,.string b] 73))) HKB2.out 1 rfl⟩ (fun hHeld=>?_)
  clear hK K
  clear cv3 cv4 lz3
  refine rd1 8 rfl (fun K hK=>?_)
  have hrowv:a11.drew.ownsRow (R+1) 73 2 (.slice va d.rejects.length vc) d.rejects.length (d.rejects.flatMap rcell):=by have:=HDD.out.rr;rw[HVA.out] at this;exact this
  refine step_append_lies _ rfl _ _ 25 rfl (R+1) 73 i0 _ 2 32 Tryz.underlying25 hi hz0 hz1 hz2 rfl (by decide) (.slice va d.rejects.length vc) d.rejects.length (d.rejects.flatMap rcell) rfl (hrowv.alloc _) ⟨a11.heap.size,0,none⟩ 1 1 (rcell (⟨n,b⟩:Re)) rfl rfl (new_cells a11.drew 73 (rcell (⟨n,b⟩:Re))) (by intro u hu;simp[rcell] at hu;(rcases hu with rfl | rfl<;>rfl)) (by decide) (by unfold maxLen;omega) (by omega) (by have:=HRD.out.lt;simp at this ⊢;omega) (a11.heap.size+1) (by simp) ?_
  intro g1 cap1 w7 hown hgrow hat hlt7
  have hgv:(a11.drew.alloc (.cells #[.string n,.string b] 73)).grownBy w7 v5.ownBlock:=by rw[HVA.out];exact hgrow
  have HFR:Hid (FrS w w7 R):=FrS.push (FrS.of HGD.out) HDD.out.rr (by decide) hgv
  have hob:∀b,v5.ownBlock=some b→R+1≤b∧b<h0:=fun b hb=>⟨(HDD.out.rr.lt b hb).1,HDD.out.lo v5 (by simp) b hb⟩
  have HR7:Hid (Rd w7 R [.string d.start,.string d.layout,v2,v3,v4,v5,v6] L7):=(HRD.out.below ((Below.refl _ _).alloc (Nat.le_refl _) _)).keptO hgv (fun b hb=>(hob b hb).1)
  have HD7:Hid _:=HDD.out.push_reject (⟨n,b⟩:Re) hown hgv (by rw[HVA.out];exact hat) hlt7
  have hup0:=HUP.out
  have HKB7:=kK HKB2 hgv (fun e=>by have:=hob _ e.symm;have:=HZB.out;have:=HDI.out.up;omega)
  have HKX7:=kK HKX2 hgv (fun e=>Blk.not_row (W:=(a11.drew.alloc (.cells #[.string n,.string b] 73))) HKX2.out (by decide) (HDD.out.rr.alloc _) e)
  have cr7:w7.cell? ⟨R,6,none⟩=some (.slice va d.rejects.length vc):=by have:=Rd.cellD HR7.out 5 (v:=v5) rfl;rw[HVA.out] at this;exact this
  have zr7:=Rd.frozenD HR7.out 6
  have lr7:=HR7.out.lt
  clear hown hgrow hgv hat hlt7 hob hrowv hup0
  refine hK.out _ _ ⟨Blk.cell HKX7.out 0 rfl,Blk.cell HKB7.out 0 rfl,Blk.cell HKB7.out 1 rfl⟩ (fun hHeld=>?_)
  clear hK K
  refine tk 9 rfl (by assumption) ?_
  refine tk 10 rfl (by assumption) ?_
  refine tk 11 rfl (by assumption) ?_
  refine rd1 12 rfl (fun K hK=>?_)
  have HKB8:Hid (Blk (w7.setCell ⟨R,6,none⟩ (.slice (some ⟨g1,0,none⟩) (d.rejects.length+1) cap1)) a3.heap.size 73 #[.string n,.string b]):=Blk.kept HKB7.out (grownBy_setCell _ _ _ _) (by have:=HLT.out;have:=HZB.out;simp;omega)
  have HKX8:Hid (Blk (w7.setCell ⟨R,6,none⟩ (.slice (some ⟨g1,0,none⟩) (d.rejects.length+1) cap1)) rx 98 #[.pointer (some ⟨R,0,none⟩)]):=Blk.kept HKX7.out (grownBy_setCell _ _ _ _) (by have:=HZX.out;simp;omega)
  go_simp
  refine hK.out _ _ ⟨Blk.cell (W:=(w7.setCell ⟨R,6,none⟩ (.slice (some ⟨g1,0,none⟩) (d.rejects.length+1) cap1))) HKX8.out 0 rfl,Blk.cell (W:=(w7.setCell ⟨R,6,none⟩ (.slice (some ⟨g1,0,none⟩) (d.rejects.length+1) cap1))) HKB8.out 0 rfl,Blk.cell (W:=(w7.setCell ⟨R,6,none⟩ (.slice (some ⟨g1,0,none⟩) (d.rejects.length+1) cap1))) HKB8.out 1 rfl⟩ (fun hHeld=>?_)
  clear hK K
  refine wpAnyH_done (by kernel_rfl) ?_ _
  clear hHeld
  have HFIN:Hid (∀W,(w7.setCell ⟨R,6,none⟩ (.slice (some ⟨g1,0,none⟩) (d.rejects.length+1) cap1))=W→(∃D' hi,Rd W R D' L7∧DefAt W (R+1) hi { d with rejects:=d.rejects++[⟨n,b⟩] } D')∧FrS w W R):=fun W hW=>by
   have hg:w7.grownBy W (some R):=by rw[←hW];exact grownBy_setCell _ _ _ _
   refine⟨⟨_,_,by rw[←hW];exact Rd.setD (i:=5) HR7.out _,_,_,_,_,_,_,_,_,rfl,HD7.out.gr hg (.inl (Nat.lt_succ_self _))⟩,by rw[←hW];exact HFR.out.set _⟩
  go_wp2
  go_end0
  obtain⟨h1,h2⟩:=HFIN.out _ rfl
  have hfin:rejectR d L=.ok { d with rejects:=d.rejects++[⟨n,b⟩] } L7:=by unfold rejectR;rw[HE3.out];try dsimp only[PR.bind];rw[HE7.out];try dsimp only[PR.bind]
  show RS R w (rejectR d L) _ _
  rw[hfin]
  exact⟨rfl,h1,h2⟩
end Go.Proofs.YtcpakcffiopfjaaGreatDoor
