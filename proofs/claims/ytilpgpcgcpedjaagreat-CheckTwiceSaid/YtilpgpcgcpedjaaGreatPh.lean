/- A definition in memory of its own with a production or a template more. -/
import Derived.Test.YtilpgpcgcpedjaaGreatC1
import Derived.Test.YtilpgpcgcpedjaaGreatPf
import Derived.Test.YtilpgpcgcpedjaaGreatH3
namespace Go.Proofs.YtilpgpcgcpedjaaGreat
open Go.RowKit
set_option linter.unusedVariables false
set_option linter.unusedSimpArgs false
set_option maxRecDepth 100000
set_option maxHeartbeats 16000000
theorem DefIn.push8_prod {W w7:World} {base hi g1 cap:Nat} {d:Df} {v2 v3 v4 v5 v6:Value} {Lp:List (Pr×Value)} {Lc:List (List Gr×Value)} {Lb:List (Bo×Value)} {tmp:Obj} {w8:World} {PX:Nat} (hg8:w7.grownBy w8 (some PX)) (hPX:hi≤PX) (hPl:PX<W.heap.size) (h:DefIn W base hi d v2 v3 v4 v5 v6 Lp Lc Lb) (p:Pr) (sv:Value) (hf:SlS W (SS base hi [v2,v3,v4,v5,v6]) 8 SyV p.syms sv) (hbh:base≤hi)
  (hown:w7.ownsRow base 44 5 (.slice (some ⟨g1,0,none⟩) (Lp.length+1) cap) (Lp.length+1) (Lp.flatMap pcell++pcell (p,sv))) (hgrow:(W.alloc tmp).grownBy w7 v2.ownBlock) (hat:v2.ownBlock=some g1∨g1=W.heap.size+1) (hlt:g1<w7.heap.size):DefIn w8 base w8.heap.size { d with prods:=d.prods++[p] } (.slice (some ⟨g1,0,none⟩) (Lp.length+1) cap) v3 v4 v5 v6 (Lp++[(p,sv)]) Lc Lb:=by
 have hs:W.heap.size+1≤w7.heap.size:=by have:=hgrow.size;rw[World.size_alloc] at this;exact this
 have hup:=h.up
 have hs8:w7.heap.size≤w8.heap.size:=hg8.size
 have hcell:∀b,b<W.heap.size→some b≠v2.ownBlock→b≠PX→∀c,w8.cell? ⟨b,c,none⟩=W.cell? ⟨b,c,none⟩:=fun b hb hne hp c=>by
  have h1:=hgrow.block b (by rw[World.size_alloc];omega) hne
  have h2:(W.alloc tmp).heap[b]?=W.heap[b]?:=Below.heap_alloc _ _ _ hb
  have h3:=hg8.block b (by omega) (fun e=>hp (Option.some.inj e))
  exact World.cell?_of_block (a:=⟨b,c,none⟩) (h3.trans (h1.trans h2))
 have hl:=h.lo
 have hS:∀b,SS base hi [v2,v3,v4,v5,v6] b→SS base w8.heap.size [(.slice (some ⟨g1,0,none⟩) (Lp.length+1) cap),v3,v4,v5,v6] b:=fun b hb=>⟨hb.1,by have:=hb.2.1;omega,fun u hu=>by
  have h3:=hb.2.2
  simp only[List.mem_cons,List.not_mem_nil,or_false] at hu h3
  rcases hu with hu | hu | hu | hu | hu
  ·rw[hu];show some b≠some g1
   rcases hat with hat | hat
   ·rw[←hat];exact h3 _ (by simp)
   ·intro e;have:=Option.some.inj e;have:=hb.2.1;omega
  ·rw[hu];exact h3 _ (by simp)
  ·rw[hu];exact h3 _ (by simp)
  ·rw[hu];exact h3 _ (by simp)
  ·rw[hu];exact h3 _ (by simp)⟩
 have hC:∀b,SS base hi [v2,v3,v4,v5,v6] b→∀c,w8.cell? ⟨b,c,none⟩=W.cell? ⟨b,c,none⟩:=fun b hb c=>hcell b (by have:=hb.2.1;omega) (hb.2.2 v2 (by simp)) (by have:=hb.2.1;omega) c
 have hown8:=hown.kept hg8 (Or.inr (fun e=>by
  have e:g1=PX:=Option.some.inj e
  rcases hat with h|h
  ·have:=hl v2 (by simp) g1 h
   omega
  ·omega))
 have k1:=((h.rc.alloc tmp).kept hgrow (row_ne (h.rc.alloc tmp) (h.rp.alloc tmp) (by decide))).kept hg8 (Or.inr (fun e=>by have:=hl v3 (by simp) PX e;omega))
 have k2:=((h.rf.alloc tmp).kept hgrow (row_ne (h.rf.alloc tmp) (h.rp.alloc tmp) (by decide))).kept hg8 (Or.inr (fun e=>by have:=hl v4 (by simp) PX e;omega))
 have k3:=((h.rr.alloc tmp).kept hgrow (row_ne (h.rr.alloc tmp) (h.rp.alloc tmp) (by decide))).kept hg8 (Or.inr (fun e=>by have:=hl v5 (by simp) PX e;omega))
 have k4:=((h.rb.alloc tmp).kept hgrow (row_ne (h.rb.alloc tmp) (h.rp.alloc tmp) (by decide))).kept hg8 (Or.inr (fun e=>by have:=hl v6 (by simp) PX e;omega))
 refine⟨by rw[List.flatMap_append,List.length_append];simpa using hown8,k1,k2,k3,k4,by rw[List.map_append,h.ep];rfl,h.ec,h.eb,?_,?_,?_,?_,?_,Nat.le_refl _⟩
 ·exact fun q hq=>by
   rcases List.mem_append.1 hq with hq | hq
   ·exact (h.sp q hq).keep hC hS (fun _ _ h=>h)
   ·simp at hq;subst hq;exact hf.keep hC hS (fun _ _ h=>h)
 ·exact fun q hq=>(h.sc q hq).keep hC hS (fun _ _ h=>h.keep hC hS)
 ·exact fun q hq=>(h.sb q hq).keep hC hS
 ·exact h.ok
 ·intro u hu b hb
  simp only[List.mem_cons,List.not_mem_nil,or_false] at hu
  rcases hu with hu | hu | hu | hu | hu
  ·rw[hu] at hb;cases hb;exact Nat.lt_of_lt_of_le hlt hs8
  ·rw[hu] at hb;have:=hl v3 (by simp) b hb;omega
  ·rw[hu] at hb;have:=hl v4 (by simp) b hb;omega
  ·rw[hu] at hb;have:=hl v5 (by simp) b hb;omega
  ·rw[hu] at hb;have:=hl v6 (by simp) b hb;omega
theorem DefIn.push8_box {W w7:World} {base hi g1 cap:Nat} {d:Df} {v2 v3 v4 v5 v6:Value} {Lp:List (Pr×Value)} {Lc:List (List Gr×Value)} {Lb:List (Bo×Value)} {tmp:Obj} {w8:World} {PX:Nat} (hg8:w7.grownBy w8 (some PX)) (hPX:hi≤PX) (hPl:PX<W.heap.size) (h:DefIn W base hi d v2 v3 v4 v5 v6 Lp Lc Lb) (p:Bo) (sv:Value) (hf:ItsAt W (SS base hi [v2,v3,v4,v5,v6]) p.items sv) (hbh:base≤hi)
  (hown:w7.ownsRow base 59 2 (.slice (some ⟨g1,0,none⟩) (Lb.length+1) cap) (Lb.length+1) (Lb.flatMap bxcell++bxcell (p,sv))) (hgrow:(W.alloc tmp).grownBy w7 v6.ownBlock) (hat:v6.ownBlock=some g1∨g1=W.heap.size+1) (hlt:g1<w7.heap.size):DefIn w8 base w8.heap.size { d with boxes:=d.boxes++[p] } v2 v3 v4 v5 (.slice (some ⟨g1,0,none⟩) (Lb.length+1) cap) Lp Lc (Lb++[(p,sv)]):=by
 have hs:W.heap.size+1≤w7.heap.size:=by have:=hgrow.size;rw[World.size_alloc] at this;exact this
 have hup:=h.up
 have hs8:w7.heap.size≤w8.heap.size:=hg8.size
 have hcell:∀b,b<W.heap.size→some b≠v6.ownBlock→b≠PX→∀c,w8.cell? ⟨b,c,none⟩=W.cell? ⟨b,c,none⟩:=fun b hb hne hp c=>by
  have h1:=hgrow.block b (by rw[World.size_alloc];omega) hne
  have h2:(W.alloc tmp).heap[b]?=W.heap[b]?:=Below.heap_alloc _ _ _ hb
  have h3:=hg8.block b (by omega) (fun e=>hp (Option.some.inj e))
  exact World.cell?_of_block (a:=⟨b,c,none⟩) (h3.trans (h1.trans h2))
 have hl:=h.lo
 have hS:∀b,SS base hi [v2,v3,v4,v5,v6] b→SS base w8.heap.size [v2,v3,v4,v5,(.slice (some ⟨g1,0,none⟩) (Lb.length+1) cap)] b:=fun b hb=>⟨hb.1,by have:=hb.2.1;omega,fun u hu=>by
  have h3:=hb.2.2
  simp only[List.mem_cons,List.not_mem_nil,or_false] at hu h3
  rcases hu with hu | hu | hu | hu | hu
  ·rw[hu];exact h3 _ (by simp)
  ·rw[hu];exact h3 _ (by simp)
  ·rw[hu];exact h3 _ (by simp)
  ·rw[hu];exact h3 _ (by simp)
  ·rw[hu];show some b≠some g1
   rcases hat with hat | hat
   ·rw[←hat];exact h3 _ (by simp)
   ·intro e;have:=Option.some.inj e;have:=hb.2.1;omega⟩
 have hC:∀b,SS base hi [v2,v3,v4,v5,v6] b→∀c,w8.cell? ⟨b,c,none⟩=W.cell? ⟨b,c,none⟩:=fun b hb c=>hcell b (by have:=hb.2.1;omega) (hb.2.2 v6 (by simp)) (by have:=hb.2.1;omega) c
 have hown8:=hown.kept hg8 (Or.inr (fun e=>by
  have e:g1=PX:=Option.some.inj e
  rcases hat with h|h
  ·have:=hl v6 (by simp) g1 h
   omega
  ·omega))
 have k0:=((h.rp.alloc tmp).kept hgrow (row_ne (h.rp.alloc tmp) (h.rb.alloc tmp) (by decide))).kept hg8 (Or.inr (fun e=>by have:=hl v2 (by simp) PX e;omega))
 have k1:=((h.rc.alloc tmp).kept hgrow (row_ne (h.rc.alloc tmp) (h.rb.alloc tmp) (by decide))).kept hg8 (Or.inr (fun e=>by have:=hl v3 (by simp) PX e;omega))
 have k2:=((h.rf.alloc tmp).kept hgrow (row_ne (h.rf.alloc tmp) (h.rb.alloc tmp) (by decide))).kept hg8 (Or.inr (fun e=>by have:=hl v4 (by simp) PX e;omega))
 have k3:=((h.rr.alloc tmp).kept hgrow (row_ne (h.rr.alloc tmp) (h.rb.alloc tmp) (by decide))).kept hg8 (Or.inr (fun e=>by have:=hl v5 (by simp) PX e;omega))
 refine⟨k0,k1,k2,k3,by rw[List.flatMap_append,List.length_append];simpa using hown8,h.ep,h.ec,by rw[List.map_append,h.eb];rfl,?_,?_,?_,?_,?_,Nat.le_refl _⟩
 ·exact fun q hq=>(h.sp q hq).keep hC hS (fun _ _ h=>h)
 ·exact fun q hq=>(h.sc q hq).keep hC hS (fun _ _ h=>h.keep hC hS)
 ·exact fun q hq=>by
   rcases List.mem_append.1 hq with hq | hq
   ·exact (h.sb q hq).keep hC hS
   ·simp at hq;subst hq;exact hf.keep hC hS
 ·exact h.ok
 ·intro u hu b hb
  simp only[List.mem_cons,List.not_mem_nil,or_false] at hu
  rcases hu with hu | hu | hu | hu | hu
  ·rw[hu] at hb;have:=hl v2 (by simp) b hb;omega
  ·rw[hu] at hb;have:=hl v3 (by simp) b hb;omega
  ·rw[hu] at hb;have:=hl v4 (by simp) b hb;omega
  ·rw[hu] at hb;have:=hl v5 (by simp) b hb;omega
  ·rw[hu] at hb;cases hb;exact Nat.lt_of_lt_of_le hlt hs8
theorem info44q:(Tryz.prog.info? 44).map (fun i=>(i.zero,i.size,i.bytes))=some (some (.agg #[.bool false,.string ⟨#[]⟩,.string ⟨#[]⟩,.bool false,.slice none 0 0]),5,72):=by kernel_rfl
theorem info59q:(Tryz.prog.info? 59).map (fun i=>(i.zero,i.size,i.bytes))=some (some (.agg #[.string ⟨#[]⟩,.slice none 0 0]),2,40):=by kernel_rfl
theorem dup_do {W:World} {base hi:Nat} {d:Df} {p:Pr} {v2 v3 v4 v5 v6:Value} {Lp:List (Pr×Value)} {Lc:List (List Gr×Value)} {Lb:List (Bo×Value)} (h:DefIn W base hi (dupD d p) v2 v3 v4 v5 v6 Lp Lc Lb) (hq:lists d≤400∧symsN d.prods≤400) (hp:p∈d.prods) {f:Nat} (hz:SzD f d) (hn:NmD d):DO W (dupD d p) [.string d.start,.string d.layout,v2,v3,v4,v5,v6]:=by
 have h1:=hq.1
 unfold lists at h1
 have e1:=congrArg List.length h.ep
 have e2:=congrArg List.length h.ec
 have e3:=congrArg List.length h.eb
 have e0:(dupD d p).prods.length=d.prods.length+1:=by show (d.prods++[p]).length=_;simp
 rw[List.length_map] at e1 e2 e3
 have e4:(dupD d p).chains.length=d.chains.length:=rfl
 have e5:(dupD d p).boxes.length=d.boxes.length:=rfl
 have e6:(dupD d p).follows.length=d.follows.length:=rfl
 have e7:(dupD d p).rejects.length=d.rejects.length:=rfl
 refine ⟨⟨h.df (by omega) (by omega) (by omega) (by omega) (by omega)⟩,⟨f,by omega,hz.c,hz.fo,hz.r,hz.b,fun q hq'=>hz.ps q ((mem_dup hp).1 hq'),hz.cs,hz.bs⟩,⟨hn.start,hn.layout,fun q hq'=>hn.prods q ((mem_dup hp).1 hq'),hn.chains,hn.follows,hn.rejects,hn.boxes⟩⟩
theorem box_do {W:World} {base hi:Nat} {d:Df} {n:Nm} {v2 v3 v4 v5 v6:Value} {Lp:List (Pr×Value)} {Lc:List (List Gr×Value)} {Lb:List (Bo×Value)} (h:DefIn W base hi (boxD d n) v2 v3 v4 v5 v6 Lp Lc Lb) (hq:lists d≤400∧symsN d.prods≤400) {f:Nat} (hz:SzD f d) (hn:NmD d) (hnn:n.size≤maxLen):DO W (boxD d n) [.string d.start,.string d.layout,v2,v3,v4,v5,v6]:=by
 have h1:=hq.1
 unfold lists at h1
 have e1:=congrArg List.length h.ep
 have e2:=congrArg List.length h.ec
 have e3:=congrArg List.length h.eb
 have e0:(boxD d n).boxes.length=d.boxes.length+1:=by show (d.boxes++[(⟨n,[]⟩:Bo)]).length=_;simp
 rw[List.length_map] at e1 e2 e3
 have e4:(boxD d n).chains.length=d.chains.length:=rfl
 have e5:(boxD d n).prods.length=d.prods.length:=rfl
 have e6:(boxD d n).follows.length=d.follows.length:=rfl
 have e7:(boxD d n).rejects.length=d.rejects.length:=rfl
 refine ⟨⟨h.df (by omega) (by omega) (by omega) (by omega) (by omega)⟩,⟨f,hz.p,hz.c,hz.fo,hz.r,by omega,hz.ps,hz.cs,fun b hb=>?_⟩,⟨hn.start,hn.layout,hn.prods,hn.chains,hn.follows,hn.rejects,fun b hb=>?_⟩⟩
 ·rcases List.mem_append.1 hb with hb|hb
  ·exact hz.bs b hb
  ·simp at hb
   subst hb
   exact ⟨by show 0*56≤_;decide,nofun⟩
 ·rcases List.mem_append.1 hb with hb|hb
  ·exact hn.boxes b hb
  ·simp at hb
   subst hb
   exact hnn
theorem check_more (d:Df) (vs:List Value) (w:World) (h:DO w d vs) (hq:lists d≤1000∧symsN d.prods≤1000):
  Calls Tryz.prog 14 #[.agg ⟨vs⟩] w fun e w'=>e=.returned (.tuple #[.int .i64 (chk d (rightB d)).1,.string (chk d (rightB d)).2])∧Below w.heap.size w w':=by
 refine check_any d vs w h ?_ (fun hr=>right_short hr)
 have h1:=hq.1
 unfold lists at h1
 exact ⟨by omega,by omega,by omega,by omega,by omega⟩
end Go.Proofs.YtilpgpcgcpedjaaGreat
