/- A definition whose rows are taken from another one by one. -/
import Derived.Test.YtilpgpcgcpedjaaGreatPj
namespace Go.Proofs.YtilpgpcgcpedjaaGreat
open Go.RowKit
set_option linter.unusedVariables false
set_option linter.unusedSimpArgs false
set_option maxRecDepth 100000
set_option maxHeartbeats 16000000
theorem info44t:(Tryz.prog.info? 44).map (fun i=>(i.zero,i.size,i.bytes))=some (some (.agg #[.bool false,.string ⟨#[]⟩,.string ⟨#[]⟩,.bool false,.slice none 0 0]),5,72):=by kernel_rfl
theorem info59t:(Tryz.prog.info? 59).map (fun i=>(i.zero,i.size,i.bytes))=some (some (.agg #[.string ⟨#[]⟩,.slice none 0 0]),2,40):=by kernel_rfl
structure TT (w W:World) (BS PX:Nat) (s l c3:Value) (us:Array Value) (z2 z4 z5 z6:Nat→List Value) (l2 l4 l5 l6:List Nat) (v2 v4 v5 v6:Value) (q2 q4 q5 q6:List Nat) (u2 u4 u5 u6:Value):Prop where
 bx:BX w W w.heap.size 28 us
 xb:Blk W PX 28 #[s,l,v2,c3,v4,v5,v6]
 pl:w.heap.size<PX
 pb:PX<BS
 bs:BS≤W.heap.size
 r2:W.ownsRow BS 44 5 v2 l2.length (l2.flatMap z2)
 r4:W.ownsRow BS 54 5 v4 l4.length (l4.flatMap z4)
 r5:W.ownsRow BS 56 2 v5 l5.length (l5.flatMap z5)
 r6:W.ownsRow BS 59 2 v6 l6.length (l6.flatMap z6)
 i2:IntsAt W (PX+1) q2 u2
 i4:IntsAt W (PX+1) q4 u4
 i5:IntsAt W (PX+1) q5 u5
 i6:IntsAt W (PX+1) q6 u6
theorem TT.step2 {w W:World} {BS PX:Nat} {s l c3:Value} {us:Array Value} {z2 z4 z5 z6:Nat→List Value} {l2 l4 l5 l6:List Nat} {v2 v4 v5 v6:Value} {q2 q4 q5 q6:List Nat} {u2 u4 u5 u6:Value} (h:TT w W BS PX s l c3 us z2 z4 z5 z6 l2 l4 l5 l6 v2 v4 v5 v6 q2 q4 q5 q6 u2 u4 u5 u6) {tmp:Obj} {w7:World} {g1 cap1 j:Nat} (hown:w7.ownsRow BS 44 5 (.slice (some ⟨g1,0,none⟩) (l2.length+1) cap1) (l2.length+1) (l2.flatMap z2++z2 j)) (hgrow:((W.alloc tmp).drew).grownBy w7 v2.ownBlock):
  TT w (w7.setCell ⟨PX,2,none⟩ (.slice (some ⟨g1,0,none⟩) (l2.length+1) cap1)) BS PX s l c3 us z2 z4 z5 z6 (l2++[j]) l4 l5 l6 (.slice (some ⟨g1,0,none⟩) (l2.length+1) cap1) v4 v5 v6 q2 q4 q5 q6 u2 u4 u5 u6:=by
 have hgs:=hgrow.size
 have hs:W.heap.size+1≤w7.heap.size:=by have h:((W.alloc tmp).drew).heap.size=W.heap.size+1:=World.size_alloc _ _;omega
 have hg8:w7.grownBy (w7.setCell ⟨PX,2,none⟩ (.slice (some ⟨g1,0,none⟩) (l2.length+1) cap1)) (some PX):=grownBy_setCell _ _ _ _
 have hpl:=h.pl
 have hpb:=h.pb
 have hbs:=h.bs
 have hR:∀{e k B:Nat} {v:Value} {m:Nat} {xs:List Value},W.ownsRow B e k v m xs→e≠44→PX<B→(w7.setCell ⟨PX,2,none⟩ (.slice (some ⟨g1,0,none⟩) (l2.length+1) cap1)).ownsRow B e k v m xs:=fun {e k B v m xs} hr he hB=>((row_below hr (((Below.refl _ _).alloc (Nat.le_refl _) tmp).drew)).kept hgrow (row_ne hr h.r2 he)).kept hg8 (Or.inr (fun e=>by have:=(hr.lt PX e).1;omega))
 refine ⟨?_,?_,hpl,hpb,by have:=hg8.size;omega,by rw[List.length_append,List.flatMap_append];have h1:=hown.kept hg8 (Or.inr (fun e=>by have:=(hown.lt PX e).1;omega));simpa using h1,hR h.r4 (by decide) hpb,hR h.r5 (by decide) hpb,hR h.r6 (by decide) hpb,⟨hR h.i2.row (by decide) (by omega)⟩,⟨hR h.i4.row (by decide) (by omega)⟩,⟨hR h.i5.row (by decide) (by omega)⟩,⟨hR h.i6.row (by decide) (by omega)⟩⟩
 ·refine ⟨Below.trans (b:=w7) ?_ (belG hg8 (by omega) (by have:=h.bx.bel.size;omega)),((((h.bx.box.alloc tmp).drew).kept hgrow (Blk.not_row h.bx.box (by decide) h.r2)).put PX 2 _ (by omega))⟩
  refine (h.bx.bel.trans (((Below.refl _ _).alloc h.bx.bel.size tmp).drew)).trans (belO hgrow (fun b hb=>?_) ?_)
  ·have:=(h.r2.lt b hb).1
   omega
  ·have h1:((W.alloc tmp).drew).heap.size=W.heap.size+1:=World.size_alloc _ _
   have:=h.bx.bel.size
   omega
 ·exact Blk.set (((h.xb.alloc tmp).drew).kept hgrow (Blk.not_row h.xb (by decide) h.r2)) 2 _
theorem TT.step4 {w W:World} {BS PX:Nat} {s l c3:Value} {us:Array Value} {z2 z4 z5 z6:Nat→List Value} {l2 l4 l5 l6:List Nat} {v2 v4 v5 v6:Value} {q2 q4 q5 q6:List Nat} {u2 u4 u5 u6:Value} (h:TT w W BS PX s l c3 us z2 z4 z5 z6 l2 l4 l5 l6 v2 v4 v5 v6 q2 q4 q5 q6 u2 u4 u5 u6) {tmp:Obj} {w7:World} {g1 cap1 j:Nat} (hown:w7.ownsRow BS 54 5 (.slice (some ⟨g1,0,none⟩) (l4.length+1) cap1) (l4.length+1) (l4.flatMap z4++z4 j)) (hgrow:((W.alloc tmp).drew).grownBy w7 v4.ownBlock):
  TT w (w7.setCell ⟨PX,4,none⟩ (.slice (some ⟨g1,0,none⟩) (l4.length+1) cap1)) BS PX s l c3 us z2 z4 z5 z6 l2 (l4++[j]) l5 l6 v2 (.slice (some ⟨g1,0,none⟩) (l4.length+1) cap1) v5 v6 q2 q4 q5 q6 u2 u4 u5 u6:=by
 have hgs:=hgrow.size
 have hs:W.heap.size+1≤w7.heap.size:=by have h:((W.alloc tmp).drew).heap.size=W.heap.size+1:=World.size_alloc _ _;omega
 have hg8:w7.grownBy (w7.setCell ⟨PX,4,none⟩ (.slice (some ⟨g1,0,none⟩) (l4.length+1) cap1)) (some PX):=grownBy_setCell _ _ _ _
 have hpl:=h.pl
 have hpb:=h.pb
 have hbs:=h.bs
 have hR:∀{e k B:Nat} {v:Value} {m:Nat} {xs:List Value},W.ownsRow B e k v m xs→e≠54→PX<B→(w7.setCell ⟨PX,4,none⟩ (.slice (some ⟨g1,0,none⟩) (l4.length+1) cap1)).ownsRow B e k v m xs:=fun {e k B v m xs} hr he hB=>((row_below hr (((Below.refl _ _).alloc (Nat.le_refl _) tmp).drew)).kept hgrow (row_ne hr h.r4 he)).kept hg8 (Or.inr (fun e=>by have:=(hr.lt PX e).1;omega))
 refine ⟨?_,?_,hpl,hpb,by have:=hg8.size;omega,hR h.r2 (by decide) hpb,by rw[List.length_append,List.flatMap_append];have h1:=hown.kept hg8 (Or.inr (fun e=>by have:=(hown.lt PX e).1;omega));simpa using h1,hR h.r5 (by decide) hpb,hR h.r6 (by decide) hpb,⟨hR h.i2.row (by decide) (by omega)⟩,⟨hR h.i4.row (by decide) (by omega)⟩,⟨hR h.i5.row (by decide) (by omega)⟩,⟨hR h.i6.row (by decide) (by omega)⟩⟩
 ·refine ⟨Below.trans (b:=w7) ?_ (belG hg8 (by omega) (by have:=h.bx.bel.size;omega)),((((h.bx.box.alloc tmp).drew).kept hgrow (Blk.not_row h.bx.box (by decide) h.r4)).put PX 4 _ (by omega))⟩
  refine (h.bx.bel.trans (((Below.refl _ _).alloc h.bx.bel.size tmp).drew)).trans (belO hgrow (fun b hb=>?_) ?_)
  ·have:=(h.r4.lt b hb).1
   omega
  ·have h1:((W.alloc tmp).drew).heap.size=W.heap.size+1:=World.size_alloc _ _
   have:=h.bx.bel.size
   omega
 ·exact Blk.set (((h.xb.alloc tmp).drew).kept hgrow (Blk.not_row h.xb (by decide) h.r4)) 4 _
theorem TT.step5 {w W:World} {BS PX:Nat} {s l c3:Value} {us:Array Value} {z2 z4 z5 z6:Nat→List Value} {l2 l4 l5 l6:List Nat} {v2 v4 v5 v6:Value} {q2 q4 q5 q6:List Nat} {u2 u4 u5 u6:Value} (h:TT w W BS PX s l c3 us z2 z4 z5 z6 l2 l4 l5 l6 v2 v4 v5 v6 q2 q4 q5 q6 u2 u4 u5 u6) {tmp:Obj} {w7:World} {g1 cap1 j:Nat} (hown:w7.ownsRow BS 56 2 (.slice (some ⟨g1,0,none⟩) (l5.length+1) cap1) (l5.length+1) (l5.flatMap z5++z5 j)) (hgrow:((W.alloc tmp).drew).grownBy w7 v5.ownBlock):
  TT w (w7.setCell ⟨PX,5,none⟩ (.slice (some ⟨g1,0,none⟩) (l5.length+1) cap1)) BS PX s l c3 us z2 z4 z5 z6 l2 l4 (l5++[j]) l6 v2 v4 (.slice (some ⟨g1,0,none⟩) (l5.length+1) cap1) v6 q2 q4 q5 q6 u2 u4 u5 u6:=by
 have hgs:=hgrow.size
 have hs:W.heap.size+1≤w7.heap.size:=by have h:((W.alloc tmp).drew).heap.size=W.heap.size+1:=World.size_alloc _ _;omega
 have hg8:w7.grownBy (w7.setCell ⟨PX,5,none⟩ (.slice (some ⟨g1,0,none⟩) (l5.length+1) cap1)) (some PX):=grownBy_setCell _ _ _ _
 have hpl:=h.pl
 have hpb:=h.pb
 have hbs:=h.bs
 have hR:∀{e k B:Nat} {v:Value} {m:Nat} {xs:List Value},W.ownsRow B e k v m xs→e≠56→PX<B→(w7.setCell ⟨PX,5,none⟩ (.slice (some ⟨g1,0,none⟩) (l5.length+1) cap1)).ownsRow B e k v m xs:=fun {e k B v m xs} hr he hB=>((row_below hr (((Below.refl _ _).alloc (Nat.le_refl _) tmp).drew)).kept hgrow (row_ne hr h.r5 he)).kept hg8 (Or.inr (fun e=>by have:=(hr.lt PX e).1;omega))
 refine ⟨?_,?_,hpl,hpb,by have:=hg8.size;omega,hR h.r2 (by decide) hpb,hR h.r4 (by decide) hpb,by rw[List.length_append,List.flatMap_append];have h1:=hown.kept hg8 (Or.inr (fun e=>by have:=(hown.lt PX e).1;omega));simpa using h1,hR h.r6 (by decide) hpb,⟨hR h.i2.row (by decide) (by omega)⟩,⟨hR h.i4.row (by decide) (by omega)⟩,⟨hR h.i5.row (by decide) (by omega)⟩,⟨hR h.i6.row (by decide) (by omega)⟩⟩
 ·refine ⟨Below.trans (b:=w7) ?_ (belG hg8 (by omega) (by have:=h.bx.bel.size;omega)),((((h.bx.box.alloc tmp).drew).kept hgrow (Blk.not_row h.bx.box (by decide) h.r5)).put PX 5 _ (by omega))⟩
  refine (h.bx.bel.trans (((Below.refl _ _).alloc h.bx.bel.size tmp).drew)).trans (belO hgrow (fun b hb=>?_) ?_)
  ·have:=(h.r5.lt b hb).1
   omega
  ·have h1:((W.alloc tmp).drew).heap.size=W.heap.size+1:=World.size_alloc _ _
   have:=h.bx.bel.size
   omega
 ·exact Blk.set (((h.xb.alloc tmp).drew).kept hgrow (Blk.not_row h.xb (by decide) h.r5)) 5 _
theorem TT.step6 {w W:World} {BS PX:Nat} {s l c3:Value} {us:Array Value} {z2 z4 z5 z6:Nat→List Value} {l2 l4 l5 l6:List Nat} {v2 v4 v5 v6:Value} {q2 q4 q5 q6:List Nat} {u2 u4 u5 u6:Value} (h:TT w W BS PX s l c3 us z2 z4 z5 z6 l2 l4 l5 l6 v2 v4 v5 v6 q2 q4 q5 q6 u2 u4 u5 u6) {tmp:Obj} {w7:World} {g1 cap1 j:Nat} (hown:w7.ownsRow BS 59 2 (.slice (some ⟨g1,0,none⟩) (l6.length+1) cap1) (l6.length+1) (l6.flatMap z6++z6 j)) (hgrow:((W.alloc tmp).drew).grownBy w7 v6.ownBlock):
  TT w (w7.setCell ⟨PX,6,none⟩ (.slice (some ⟨g1,0,none⟩) (l6.length+1) cap1)) BS PX s l c3 us z2 z4 z5 z6 l2 l4 l5 (l6++[j]) v2 v4 v5 (.slice (some ⟨g1,0,none⟩) (l6.length+1) cap1) q2 q4 q5 q6 u2 u4 u5 u6:=by
 have hgs:=hgrow.size
 have hs:W.heap.size+1≤w7.heap.size:=by have h:((W.alloc tmp).drew).heap.size=W.heap.size+1:=World.size_alloc _ _;omega
 have hg8:w7.grownBy (w7.setCell ⟨PX,6,none⟩ (.slice (some ⟨g1,0,none⟩) (l6.length+1) cap1)) (some PX):=grownBy_setCell _ _ _ _
 have hpl:=h.pl
 have hpb:=h.pb
 have hbs:=h.bs
 have hR:∀{e k B:Nat} {v:Value} {m:Nat} {xs:List Value},W.ownsRow B e k v m xs→e≠59→PX<B→(w7.setCell ⟨PX,6,none⟩ (.slice (some ⟨g1,0,none⟩) (l6.length+1) cap1)).ownsRow B e k v m xs:=fun {e k B v m xs} hr he hB=>((row_below hr (((Below.refl _ _).alloc (Nat.le_refl _) tmp).drew)).kept hgrow (row_ne hr h.r6 he)).kept hg8 (Or.inr (fun e=>by have:=(hr.lt PX e).1;omega))
 refine ⟨?_,?_,hpl,hpb,by have:=hg8.size;omega,hR h.r2 (by decide) hpb,hR h.r4 (by decide) hpb,hR h.r5 (by decide) hpb,by rw[List.length_append,List.flatMap_append];have h1:=hown.kept hg8 (Or.inr (fun e=>by have:=(hown.lt PX e).1;omega));simpa using h1,⟨hR h.i2.row (by decide) (by omega)⟩,⟨hR h.i4.row (by decide) (by omega)⟩,⟨hR h.i5.row (by decide) (by omega)⟩,⟨hR h.i6.row (by decide) (by omega)⟩⟩
 ·refine ⟨Below.trans (b:=w7) ?_ (belG hg8 (by omega) (by have:=h.bx.bel.size;omega)),((((h.bx.box.alloc tmp).drew).kept hgrow (Blk.not_row h.bx.box (by decide) h.r6)).put PX 6 _ (by omega))⟩
  refine (h.bx.bel.trans (((Below.refl _ _).alloc h.bx.bel.size tmp).drew)).trans (belO hgrow (fun b hb=>?_) ?_)
  ·have:=(h.r6.lt b hb).1
   omega
  ·have h1:((W.alloc tmp).drew).heap.size=W.heap.size+1:=World.size_alloc _ _
   have:=h.bx.bel.size
   omega
 ·exact Blk.set (((h.xb.alloc tmp).drew).kept hgrow (Blk.not_row h.xb (by decide) h.r6)) 6 _
theorem cells_of {α:Type} {w:World} {B n:Nat} {V:α→List Value→Prop} {a:Option Addr} {L:List α} (h:Row w B n V a L) (hV:∀x vs,V x vs→vs.length=n):∃z:Nat→List Value,(∀i,(z i).length=n)∧∀i x,L[i]?=some x→V x (z i)∧∃b o,a=some ⟨b,o,none⟩∧b<B∧∀j v,(z i)[j]?=some v→w.cell? ⟨b,o+i*n+j,none⟩=some v:=by
 have hx:∀i,∃zs:List Value,zs.length=n∧∀x,L[i]?=some x→V x zs∧∃b o,a=some ⟨b,o,none⟩∧b<B∧∀j v,zs[j]?=some v→w.cell? ⟨b,o+i*n+j,none⟩=some v:=by
  intro i
  cases hi:L[i]? with
  | none=>exact ⟨List.replicate n (.int .i64 0),by simp,fun x h=>by cases h⟩
  | some x=>
   obtain⟨b,o,vs,e,hb,hv,hc⟩:=h i x hi
   exact ⟨vs,hV x vs hv,fun y hy=>by cases hy;exact ⟨hv,b,o,e,hb,hc⟩⟩
 exact ⟨fun i=>Classical.choose (hx i),fun i=>(Classical.choose_spec (hx i)).1,fun i x h=>(Classical.choose_spec (hx i)).2 x h⟩
theorem pick_perm' {α:Type} [Inhabited α] (l:List α) {s:Nat} (hs:0<l.length→s<l.length):(pick l (rot l.length s)).Perm l:=by
 rcases Nat.eq_zero_or_pos l.length with h|h
 ·have:=List.length_eq_zero_iff.1 h
  subst this
  exact List.Perm.refl _
 ·exact pick_perm l (hs h)
theorem pick_get {α:Type} [Inhabited α] {l:List α} {q:List Nat} {j:Nat} {x:α} (h:(pick l q)[j]?=some x) (hq:∀i∈q,i<l.length):∃i,q[j]?=some i∧l[i]?=some x:=by
 unfold pick at h
 rw[List.getElem?_map] at h
 cases hi:q[j]? with
 | none=>rw[hi] at h;cases h
 | some i=>
  rw[hi] at h
  have hl:=hq i (List.mem_of_getElem? hi)
  refine ⟨i,rfl,?_⟩
  simp at h
  rw[←h,List.getElem?_eq_getElem hl]
  simp[hl]
theorem sl_pick {α:Type} [Inhabited α] {w W:World} {BS e n:Nat} {V V':α→List Value→Prop} {l:List α} {q:List Nat} {z:Nat→List Value} {v:Value} (hz:∀i,(z i).length=n) (hv:∀i x,l[i]?=some x→V x (z i)) (hV:∀x vs,V x vs→V' x vs) (hq:∀i∈q,i<l.length) (hl:l.length≤140737488355328) (hql:q.length≤140737488355328) (hr:W.ownsRow BS e n v q.length (q.flatMap z)):Sl W W.heap.size n V' (pick l q) v:=by
 obtain⟨a,c,ev,hc⟩:=own_cap hr
 have hlen:(pick l q).length=q.length:=by unfold pick;simp
 refine ⟨a,c,by rw[hlen];exact ev,by rw[hlen];exact hc,by rw[hlen];exact hql,fun j x hj=>?_⟩
 obtain⟨i,hi,hx⟩:=pick_get hj hq
 obtain⟨g,cap,e1,_,hg,hcell⟩:=own_rows hz hr hi
 rw[ev] at e1
 obtain⟨e2,-,-⟩:=Value.slice.inj e1
 exact ⟨g,0,z i,e2,hg,hV _ _ (hv i x hx),fun m u hu=>hcell m u hu⟩
theorem rot_lt {n s:Nat} (hs:0<n→s<n):∀i∈rot n s,i<n:=fun i hi=>by
 unfold rot at hi
 obtain⟨j,hj,rfl⟩:=List.mem_map.1 hi
 have:=List.mem_range.1 hj
 exact Nat.mod_lt _ (by omega)
theorem rot_len (n s:Nat):(rot n s).length=n:=by unfold rot;simp
end Go.Proofs.YtilpgpcgcpedjaaGreat
