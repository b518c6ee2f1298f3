/- Whether a definition is too great, told; Check at one that is not. -/
import Derived.Test.YtilpgpcgcpedjaaGreatNc
import Derived.Test.YtilpgpcgcpedjaaGreatNg
namespace Go.Proofs.YtilpgpcgcpedjaaGreat
open Go.RowKit
set_option linter.unusedVariables false
set_option linter.unusedSimpArgs false
set_option maxRecDepth 100000
set_option maxHeartbeats 16000000
theorem heavy_any (d:Df) (vs:List Value) (w:World) (h:DO w d vs):
  Calls Tryz.prog 11 #[.agg ⟨vs⟩] w fun e w'=>(∃b,e=.returned (.bool b)∧(b=false→lists d≤400∧symsN d.prods≤400))∧Below w.heap.size w w':=by
 obtain⟨a2,p2,a3,p3,a4,p4,a5,p5,a6,p6,rfl,_⟩:=h.form
 obtain⟨w1,hw1⟩:∃qW,w.alloc (.cells #[.string d.start,.string d.layout,.slice a2 d.prods.length p2,.slice a3 d.chains.length p3,.slice a4 d.follows.length p4,.slice a5 d.rejects.length p5,.slice a6 d.boxes.length p6] 28)=qW:=⟨_,rfl⟩
 have HX1:=kN hw1
 have HB1:=kB hw1
 have HP:=hU (partsq_any d _ w1 (h.da.nx HB1.out))
 obtain⟨Q,hQ⟩:∃Q,(lists d≤400∧symsN d.prods≤400)=Q:=⟨_,rfl⟩
 rw[hQ] at HP ⊢
 clear h hQ
 go_enter Tryz.func11,Tryz.ntmps11
 obtain⟨d0,d1,d2,d3,d4,d5,d6⟩:=HX1.out.c7
 go_wp2_with fail
 refine hMo HP ?_
 rintro e w2 ⟨z,rfl,hz,hb⟩
 have HZ:=hHi hz
 have HB2:=hHi (below_tr HB1.out hb)
 clear hz hb HP d0 d1 d2 d3 d4 d5 d6
 by_cases hzz:400<z
 ·go_wp2
  go_ret
  exact ⟨⟨_,rfl,fun h=>by simp at h <;> omega⟩,HB2.out⟩
 ·go_wp2
  go_ret
  exact ⟨⟨_,rfl,fun _=>HZ.out (by omega)⟩,HB2.out⟩
theorem check_do (d:Df) (vs:List Value) (w:World) (h:DO w d vs) (hq:lists d≤400∧symsN d.prods≤400):
  Calls Tryz.prog 14 #[.agg ⟨vs⟩] w fun e w'=>e=.returned (.tuple #[.int .i64 (chk d (rightB d)).1,.string (chk d (rightB d)).2])∧Below w.heap.size w w':=check_any d vs w h (few_of hq) (fun hr=>right_short hr)
theorem NamesAt.drew {W:World} {lo:Nat} {l:List ByteArray} {v:Value} (h:NamesAt W lo l v):NamesAt W.drew lo l v:=⟨h.row⟩
end Go.Proofs.YtilpgpcgcpedjaaGreat
