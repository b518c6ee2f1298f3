/- The fixed definition of alive: the program's value, in memory. -/
import Derived.Test.YtilpgpcgcpedjaaGreatMn
namespace Go.Proofs.YtilpgpcgcpedjaaGreat
open Go.RowKit
set_option linter.unusedVariables false
set_option linter.unusedSimpArgs false
set_option maxRecDepth 100000
set_option maxHeartbeats 16000000
structure NumAt (W:World) (g1 g2 g3 g:Nat):Prop where
 b1:Blk W g1 62 #[.int .i64 3,.string ⟨#[]⟩,.int .u64 0,.int .u64 0,.int .u64 0,.int .u64 0,.string ⟨#[69]⟩,.string ⟨#[]⟩,.int .i64 1,.string ⟨#[43]⟩,.int .u64 0,.int .u64 0,.int .u64 0,.int .u64 0,.string ⟨#[]⟩,.string ⟨#[]⟩,.int .i64 3,.string ⟨#[]⟩,.int .u64 0,.int .u64 0,.int .u64 0,.int .u64 0,.string ⟨#[69]⟩,.string ⟨#[]⟩]
 b2:Blk W g2 62 #[.int .i64 3,.string ⟨#[]⟩,.int .u64 0,.int .u64 0,.int .u64 0,.int .u64 0,.string ⟨#[78]⟩,.string ⟨#[]⟩]
 b3:Blk W g3 62 #[.int .i64 6,.string ⟨#[]⟩,.int .u64 1,.int .u64 0,.int .u64 0,.int .u64 0,.string ⟨#[]⟩,.string ⟨#[]⟩]
 b:Blk W g 44 #[.bool false,.string ⟨#[69]⟩,.string ⟨#[65]⟩,.bool false,.slice (some ⟨g1,0,none⟩) 3 3,.bool false,.string ⟨#[69]⟩,.string ⟨#[78]⟩,.bool false,.slice (some ⟨g2,0,none⟩) 1 1,.bool true,.string ⟨#[78]⟩,.string ⟨#[]⟩,.bool false,.slice (some ⟨g3,0,none⟩) 1 1]
theorem NumAt.nx {W W':World} {g1 g2 g3 g:Nat} (h:NumAt W g1 g2 g3 g) (hb:Below W.heap.size W W'):NumAt W' g1 g2 g3 g:=⟨h.b1.after hb,h.b2.after hb,h.b3.after hb,h.b.after hb⟩
theorem set7 {W:World} {P:Nat} {t:TypeId} {z0 z1 z2 z3 z4 z5 z6:Value} (h:Blk W P t #[z0,z1,z2,z3,z4,z5,z6]) (v0 v1 v2 v3 v4 v5 v6:Value):Blk (((((((W.setCell ⟨P,0,none⟩ v0).setCell ⟨P,1,none⟩ v1).setCell ⟨P,2,none⟩ v2).setCell ⟨P,3,none⟩ v3).setCell ⟨P,4,none⟩ v4).setCell ⟨P,5,none⟩ v5).setCell ⟨P,6,none⟩ v6) P t #[v0,v1,v2,v3,v4,v5,v6]∧W.grownBy (((((((W.setCell ⟨P,0,none⟩ v0).setCell ⟨P,1,none⟩ v1).setCell ⟨P,2,none⟩ v2).setCell ⟨P,3,none⟩ v3).setCell ⟨P,4,none⟩ v4).setCell ⟨P,5,none⟩ v5).setCell ⟨P,6,none⟩ v6) (some P):=by
 have h0:Blk (W.setCell ⟨P,0,none⟩ v0) P t #[v0,z1,z2,z3,z4,z5,z6]:=Blk.set h 0 v0
 have g0:W.grownBy (W.setCell ⟨P,0,none⟩ v0) (some P):=grownBy_setCell _ _ _ _
 generalize W.setCell ⟨P,0,none⟩ v0=W0 at h0 g0 ⊢
 have h1:Blk (W0.setCell ⟨P,1,none⟩ v1) P t #[v0,v1,z2,z3,z4,z5,z6]:=Blk.set h0 1 v1
 have g1:W0.grownBy (W0.setCell ⟨P,1,none⟩ v1) (some P):=grownBy_setCell _ _ _ _
 generalize W0.setCell ⟨P,1,none⟩ v1=W1 at h1 g1 ⊢
 have h2:Blk (W1.setCell ⟨P,2,none⟩ v2) P t #[v0,v1,v2,z3,z4,z5,z6]:=Blk.set h1 2 v2
 have g2:W1.grownBy (W1.setCell ⟨P,2,none⟩ v2) (some P):=grownBy_setCell _ _ _ _
 generalize W1.setCell ⟨P,2,none⟩ v2=W2 at h2 g2 ⊢
 have h3:Blk (W2.setCell ⟨P,3,none⟩ v3) P t #[v0,v1,v2,v3,z4,z5,z6]:=Blk.set h2 3 v3
 have g3:W2.grownBy (W2.setCell ⟨P,3,none⟩ v3) (some P):=grownBy_setCell _ _ _ _
 generalize W2.setCell ⟨P,3,none⟩ v3=W3 at h3 g3 ⊢
 have h4:Blk (W3.setCell ⟨P,4,none⟩ v4) P t #[v0,v1,v2,v3,v4,z5,z6]:=Blk.set h3 4 v4
 have g4:W3.grownBy (W3.setCell ⟨P,4,none⟩ v4) (some P):=grownBy_setCell _ _ _ _
 generalize W3.setCell ⟨P,4,none⟩ v4=W4 at h4 g4 ⊢
 have h5:Blk (W4.setCell ⟨P,5,none⟩ v5) P t #[v0,v1,v2,v3,v4,v5,z6]:=Blk.set h4 5 v5
 have g5:W4.grownBy (W4.setCell ⟨P,5,none⟩ v5) (some P):=grownBy_setCell _ _ _ _
 generalize W4.setCell ⟨P,5,none⟩ v5=W5 at h5 g5 ⊢
 have h6:Blk (W5.setCell ⟨P,6,none⟩ v6) P t #[v0,v1,v2,v3,v4,v5,v6]:=Blk.set h5 6 v6
 have g6:W5.grownBy (W5.setCell ⟨P,6,none⟩ v6) (some P):=grownBy_setCell _ _ _ _
 generalize W5.setCell ⟨P,6,none⟩ v6=W6 at h6 g6 ⊢
 exact ⟨h6,(((((g0.trans g1).trans g2).trans g3).trans g4).trans g5).trans g6⟩
theorem eight (w:World) (c1 c2 c3 c4 c5 c6 c7 c8:Array Value) (t1 t2 t3 t4 t5 t6 t7 t8:TypeId):Blk ((((((((w.alloc (.cells c1 t1)).alloc (.cells c2 t2)).alloc (.cells c3 t3)).alloc (.cells c4 t4)).alloc (.cells c5 t5)).alloc (.cells c6 t6)).alloc (.cells c7 t7)).alloc (.cells c8 t8)) w.heap.size t1 c1∧Blk ((((((((w.alloc (.cells c1 t1)).alloc (.cells c2 t2)).alloc (.cells c3 t3)).alloc (.cells c4 t4)).alloc (.cells c5 t5)).alloc (.cells c6 t6)).alloc (.cells c7 t7)).alloc (.cells c8 t8)) (w.heap.size+1+1+1+1) t5 c5∧Blk ((((((((w.alloc (.cells c1 t1)).alloc (.cells c2 t2)).alloc (.cells c3 t3)).alloc (.cells c4 t4)).alloc (.cells c5 t5)).alloc (.cells c6 t6)).alloc (.cells c7 t7)).alloc (.cells c8 t8)) (w.heap.size+1+1+1+1+1) t6 c6∧Blk ((((((((w.alloc (.cells c1 t1)).alloc (.cells c2 t2)).alloc (.cells c3 t3)).alloc (.cells c4 t4)).alloc (.cells c5 t5)).alloc (.cells c6 t6)).alloc (.cells c7 t7)).alloc (.cells c8 t8)) (w.heap.size+1+1+1+1+1+1) t7 c7∧Blk ((((((((w.alloc (.cells c1 t1)).alloc (.cells c2 t2)).alloc (.cells c3 t3)).alloc (.cells c4 t4)).alloc (.cells c5 t5)).alloc (.cells c6 t6)).alloc (.cells c7 t7)).alloc (.cells c8 t8)) (w.heap.size+1+1+1+1+1+1+1) t8 c8∧Below w.heap.size w ((((((((w.alloc (.cells c1 t1)).alloc (.cells c2 t2)).alloc (.cells c3 t3)).alloc (.cells c4 t4)).alloc (.cells c5 t5)).alloc (.cells c6 t6)).alloc (.cells c7 t7)).alloc (.cells c8 t8)):=by
 have x1:=Blk.new w t1 c1
 have s1:(w.alloc (.cells c1 t1)).heap.size=w.heap.size+1:=by simp
 have b1:Below w.heap.size w (w.alloc (.cells c1 t1)):=(Below.refl _ _).alloc (Nat.le_refl _) _
 generalize w.alloc (.cells c1 t1)=w1 at x1 s1 b1 ⊢
 have x2:=Blk.new w1 t2 c2
 have s2:(w1.alloc (.cells c2 t2)).heap.size=w1.heap.size+1:=by simp
 have b2:Below w1.heap.size w1 (w1.alloc (.cells c2 t2)):=(Below.refl _ _).alloc (Nat.le_refl _) _
 generalize w1.alloc (.cells c2 t2)=w2 at x2 s2 b2 ⊢
 have x3:=Blk.new w2 t3 c3
 have s3:(w2.alloc (.cells c3 t3)).heap.size=w2.heap.size+1:=by simp
 have b3:Below w2.heap.size w2 (w2.alloc (.cells c3 t3)):=(Below.refl _ _).alloc (Nat.le_refl _) _
 generalize w2.alloc (.cells c3 t3)=w3 at x3 s3 b3 ⊢
 have x4:=Blk.new w3 t4 c4
 have s4:(w3.alloc (.cells c4 t4)).heap.size=w3.heap.size+1:=by simp
 have b4:Below w3.heap.size w3 (w3.alloc (.cells c4 t4)):=(Below.refl _ _).alloc (Nat.le_refl _) _
 generalize w3.alloc (.cells c4 t4)=w4 at x4 s4 b4 ⊢
 have x5:=Blk.new w4 t5 c5
 have s5:(w4.alloc (.cells c5 t5)).heap.size=w4.heap.size+1:=by simp
 have b5:Below w4.heap.size w4 (w4.alloc (.cells c5 t5)):=(Below.refl _ _).alloc (Nat.le_refl _) _
 generalize w4.alloc (.cells c5 t5)=w5 at x5 s5 b5 ⊢
 have x6:=Blk.new w5 t6 c6
 have s6:(w5.alloc (.cells c6 t6)).heap.size=w5.heap.size+1:=by simp
 have b6:Below w5.heap.size w5 (w5.alloc (.cells c6 t6)):=(Below.refl _ _).alloc (Nat.le_refl _) _
 generalize w5.alloc (.cells c6 t6)=w6 at x6 s6 b6 ⊢
 have x7:=Blk.new w6 t7 c7
 have s7:(w6.alloc (.cells c7 t7)).heap.size=w6.heap.size+1:=by simp
 have b7:Below w6.heap.size w6 (w6.alloc (.cells c7 t7)):=(Below.refl _ _).alloc (Nat.le_refl _) _
 generalize w6.alloc (.cells c7 t7)=w7 at x7 s7 b7 ⊢
 have x8:=Blk.new w7 t8 c8
 have s8:(w7.alloc (.cells c8 t8)).heap.size=w7.heap.size+1:=by simp
 have b8:Below w7.heap.size w7 (w7.alloc (.cells c8 t8)):=(Below.refl _ _).alloc (Nat.le_refl _) _
 generalize w7.alloc (.cells c8 t8)=w8 at x8 s8 b8 ⊢
 have e1:w1.heap.size=w.heap.size+1:=s1
 have e2:w2.heap.size=w.heap.size+1+1:=by rw[s2,e1]
 have e3:w3.heap.size=w.heap.size+1+1+1:=by rw[s3,e2]
 have e4:w4.heap.size=w.heap.size+1+1+1+1:=by rw[s4,e3]
 have e5:w5.heap.size=w.heap.size+1+1+1+1+1:=by rw[s5,e4]
 have e6:w6.heap.size=w.heap.size+1+1+1+1+1+1:=by rw[s6,e5]
 have e7:w7.heap.size=w.heap.size+1+1+1+1+1+1+1:=by rw[s7,e6]
 have e8:w8.heap.size=w.heap.size+1+1+1+1+1+1+1+1:=by rw[s8,e7]
 refine ⟨(((((((x1.after b2).after b3).after b4).after b5).after b6).after b7).after b8),?_,?_,?_,?_,?_⟩
 ·have h:=(((x5.after b6).after b7).after b8)
  rw[e4] at h
  exact h
 ·have h:=((x6.after b7).after b8)
  rw[e5] at h
  exact h
 ·have h:=(x7.after b8)
  rw[e6] at h
  exact h
 ·have h:=x8
  rw[e7] at h
  exact h
 ·exact (below_tr (below_tr (below_tr (below_tr (below_tr (below_tr (below_tr b1 b2) b3) b4) b5) b6) b7) b8)
theorem num_fix (w:World):
  Calls Tryz.prog 32 #[] w fun e w'=>(∃g1 g2 g3 g,e=.returned (.agg #[.string ⟨#[69]⟩,.string ⟨#[]⟩,.slice (some ⟨g,0,none⟩) 3 3,.slice none 0 0,.slice none 0 0,.slice none 0 0,.slice none 0 0])∧NumAt w' g1 g2 g3 g∧w.heap.size≤g1∧w.heap.size≤g2∧w.heap.size≤g3∧w.heap.size≤g∧g2≠g1∧g2≠g3∧g2≠g)∧Below w.heap.size w w':=by
 have h8:=eight w (#[.string ⟨#[69]⟩,.string ⟨#[]⟩,.slice (some ⟨w.heap.size+1+1+1+1+1+1+1,0,none⟩) 3 3,.slice none 0 0,.slice none 0 0,.slice none 0 0,.slice none 0 0]) (#[.int .i64 3,.string ⟨#[]⟩,.int .u64 0,.int .u64 0,.int .u64 0,.int .u64 0,.string ⟨#[69]⟩,.string ⟨#[]⟩]) (#[.int .i64 3,.string ⟨#[]⟩,.int .u64 0,.int .u64 0,.int .u64 0,.int .u64 0,.string ⟨#[78]⟩,.string ⟨#[]⟩]) (#[.int .i64 1,.string ⟨#[43]⟩,.int .u64 0,.int .u64 0,.int .u64 0,.int .u64 0,.string ⟨#[]⟩,.string ⟨#[]⟩]) (#[.int .i64 3,.string ⟨#[]⟩,.int .u64 0,.int .u64 0,.int .u64 0,.int .u64 0,.string ⟨#[69]⟩,.string ⟨#[]⟩,.int .i64 1,.string ⟨#[43]⟩,.int .u64 0,.int .u64 0,.int .u64 0,.int .u64 0,.string ⟨#[]⟩,.string ⟨#[]⟩,.int .i64 3,.string ⟨#[]⟩,.int .u64 0,.int .u64 0,.int .u64 0,.int .u64 0,.string ⟨#[69]⟩,.string ⟨#[]⟩]) (#[.int .i64 3,.string ⟨#[]⟩,.int .u64 0,.int .u64 0,.int .u64 0,.int .u64 0,.string ⟨#[78]⟩,.string ⟨#[]⟩]) (#[.int .i64 6,.string ⟨#[]⟩,.int .u64 1,.int .u64 0,.int .u64 0,.int .u64 0,.string ⟨#[]⟩,.string ⟨#[]⟩]) (#[.bool false,.string ⟨#[69]⟩,.string ⟨#[65]⟩,.bool false,.slice (some ⟨w.heap.size+1+1+1+1,0,none⟩) 3 3,.bool false,.string ⟨#[69]⟩,.string ⟨#[78]⟩,.bool false,.slice (some ⟨w.heap.size+1+1+1+1+1,0,none⟩) 1 1,.bool true,.string ⟨#[78]⟩,.string ⟨#[]⟩,.bool false,.slice (some ⟨w.heap.size+1+1+1+1+1+1,0,none⟩) 1 1]) 28 62 62 62 62 62 62 44
 have H8:=hHi h8
 clear h8
 go_enter Tryz.func32,Tryz.ntmps32
 go_wp2
 refine bodyPost_ret (results_cell_row rfl _ _ w.heap.size 28 _ (0,0) _ rfl H8.out.1 Tryz.underlying28 rfl (by kernel_rfl)) rfl ?_
 obtain⟨_,h1,h2,h3,h4,hb⟩:=H8.out
 exact ⟨⟨_,_,_,_,rfl,⟨h1,h2,h3,h4⟩,by omega,by omega,by omega,by omega,by omega,by omega,by omega⟩,hb⟩
end Go.Proofs.YtilpgpcgcpedjaaGreat
