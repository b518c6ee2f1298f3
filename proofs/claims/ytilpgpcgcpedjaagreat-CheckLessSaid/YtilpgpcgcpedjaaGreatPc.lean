/- A right definition stays right without its templates, its chains, its rejects: the law's walk. -/
import Derived.Test.YtilpgpcgcpedjaaGreatPb
namespace Go.Proofs.YtilpgpcgcpedjaaGreat
open Go.RowKit
set_option linter.unusedVariables false
set_option linter.unusedSimpArgs false
set_option maxRecDepth 100000
set_option maxHeartbeats 16000000
theorem less_walk (d:Df) (vs:List Value) (k:Int) (w:World) (h:DO w d vs) (hlo:-9223372036854775808≤k) (hhi:k≤9223372036854775807):
  Calls Tryz.prog 7 #[.agg ⟨vs⟩,.int .i64 k] w fun e w'=>e=.returned (.bool true)∧Below w.heap.size w w':=by
 have HDO:=hHi h
 have HA:=hU (fun W=>alive_any W)
 obtain⟨a2,p2,a3,p3,a4,p4,a5,p5,a6,p6,rfl,r2,_⟩:=h.form
 obtain⟨f,hf⟩:=h.sz
 have hz72:=hf.p
 have HHV:Hid (∀W,Below w.heap.size w W→Calls Tryz.prog 11 #[.agg #[.string d.start,.string d.layout,.slice a2 d.prods.length p2,.slice a3 d.chains.length p3,.slice a4 d.follows.length p4,.slice a5 d.rejects.length p5,.slice a6 d.boxes.length p6]] W fun e w'=>(∃b,e=.returned (.bool b)∧(b=false→lists d≤400∧symsN d.prods≤400))∧Below W.heap.size W w'):=fun W hb=>heavy_any d _ W (HDO.out.nx hb)
 have HR1:=hHi r2
 obtain⟨w1,hw1⟩:∃qW,w.alloc (.cells #[.string d.start,.string d.layout,.slice a2 d.prods.length p2,.slice a3 d.chains.length p3,.slice a4 d.follows.length p4,.slice a5 d.rejects.length p5,.slice a6 d.boxes.length p6] 28)=qW:=⟨_,rfl⟩
 have T:BX w w1 w.heap.size 28 #[.string d.start,.string d.layout,.slice a2 d.prods.length p2,.slice a3 d.chains.length p3,.slice a4 d.follows.length p4,.slice a5 d.rejects.length p5,.slice a6 d.boxes.length p6]:=⟨(kB hw1).out,(kN hw1).out⟩
 have HT:=hHi T
 clear T r2 hf h
 go_enter Tryz.func7,Tryz.ntmps7
 obtain⟨d0,d1,d2,d3,d4,d5,d6⟩:=HT.out.box.c7
 go_wp2_with fail
 refine hMo (hU (HHV.out w1 HT.out.bel)) ?_
 rintro e w2 ⟨⟨b,rfl,hq⟩,hb⟩
 have HQ:=hHi hq
 replace HT:=hHi (HT.out.nx hb)
 clear hq hb d0 d1 d2 d3 d4 d5 d6 HHV hw1
 cases b with
 | true=>
  go_wp2_with fail
  refine hMo (hU (HA.out () w2)) ?_
  rintro e w3 ⟨rfl,hb⟩
  have HB3:=hHi (HT.out.bel.trans (hb.mono HT.out.bel.size))
  clear hb
  go_wp2
  go_ret
  exact ⟨rfl,HB3.out⟩
 | false=>
 have HFEW:Hid _:=hHi (HQ.out rfl)
 clear HQ
 obtain⟨ce,hce⟩:∃z,(chk d (rightB d)).1=z:=⟨_,rfl⟩
 obtain⟨cn,hcn⟩:∃z,(chk d (rightB d)).2=z:=⟨_,rfl⟩
 have HCE:=hHi hce
 have HCN:=hHi hcn
 have HCK:Hid (∀W,Below w.heap.size w W→Calls Tryz.prog 14 #[.agg #[.string d.start,.string d.layout,.slice a2 d.prods.length p2,.slice a3 d.chains.length p3,.slice a4 d.follows.length p4,.slice a5 d.rejects.length p5,.slice a6 d.boxes.length p6]] W fun e w'=>e=.returned (.tuple #[.int .i64 ce,.string cn])∧Below W.heap.size W w'):=fun W hb=>by rw[←HCE.out,←HCN.out];exact check_do d _ W (HDO.out.nx hb) HFEW.out
 clear hce hcn
 obtain⟨d0,d1,d2,d3,d4,d5,d6⟩:=HT.out.box.c7
 go_wp2_with fail
 refine hMo (hU (HCK.out w2 HT.out.bel)) ?_
 rintro e w3 ⟨rfl,hb⟩
 replace HT:=hHi (HT.out.nx hb)
 clear hb d0 d1 d2 d3 d4 d5 d6
 obtain⟨d0,d1,d2,d3,d4,d5,d6⟩:=HT.out.box.c7
 have HL1:Hid (∀W,Below w.heap.size w W→Calls Tryz.prog 14 #[.agg #[.string d.start,.string d.layout,.slice a2 d.prods.length p2,.slice a3 d.chains.length p3,.slice a4 d.follows.length p4,.slice a5 d.rejects.length p5,.slice none 0 0]] W fun e w'=>(∃c5 n5,e=.returned (.tuple #[.int .i64 c5,.string n5])∧(ce=0→c5=0))∧Below W.heap.size W w'):=fun W hb=>(check_do (lessD d false false true) _ W (less_do (HDO.out.nx hb) false false true) (less_lists HFEW.out false false true)).mono (fun e w' ⟨he,hb'⟩=>⟨⟨_,_,he,fun h0=>(chk_ok _).2 (less_ok ((chk_ok d).1 (HCE.out.trans h0)) false false true)⟩,hb'⟩)
 have HL2:Hid (∀W,Below w.heap.size w W→Calls Tryz.prog 14 #[.agg #[.string d.start,.string d.layout,.slice a2 d.prods.length p2,.slice none 0 0,.slice a4 d.follows.length p4,.slice a5 d.rejects.length p5,.slice a6 d.boxes.length p6]] W fun e w'=>(∃c5 n5,e=.returned (.tuple #[.int .i64 c5,.string n5])∧(ce=0→c5=0))∧Below W.heap.size W w'):=fun W hb=>(check_do (lessD d true false false) _ W (less_do (HDO.out.nx hb) true false false) (less_lists HFEW.out true false false)).mono (fun e w' ⟨he,hb'⟩=>⟨⟨_,_,he,fun h0=>(chk_ok _).2 (less_ok ((chk_ok d).1 (HCE.out.trans h0)) true false false)⟩,hb'⟩)
 have HL3:Hid (∀W,Below w.heap.size w W→Calls Tryz.prog 14 #[.agg #[.string d.start,.string d.layout,.slice a2 d.prods.length p2,.slice a3 d.chains.length p3,.slice a4 d.follows.length p4,.slice none 0 0,.slice a6 d.boxes.length p6]] W fun e w'=>(∃c5 n5,e=.returned (.tuple #[.int .i64 c5,.string n5])∧(ce=0→c5=0))∧Below W.heap.size W w'):=fun W hb=>(check_do (lessD d false true false) _ W (less_do (HDO.out.nx hb) false true false) (less_lists HFEW.out false true false)).mono (fun e w' ⟨he,hb'⟩=>⟨⟨_,_,he,fun h0=>(chk_ok _).2 (less_ok ((chk_ok d).1 (HCE.out.trans h0)) false true false)⟩,hb'⟩)
 have HL4:Hid (∀W,Below w.heap.size w W→Calls Tryz.prog 14 #[.agg #[.string d.start,.string d.layout,.slice a2 d.prods.length p2,.slice none 0 0,.slice a4 d.follows.length p4,.slice none 0 0,.slice none 0 0]] W fun e w'=>(∃c5 n5,e=.returned (.tuple #[.int .i64 c5,.string n5])∧(ce=0→c5=0))∧Below W.heap.size W w'):=fun W hb=>(check_do (lessD d true true true) _ W (less_do (HDO.out.nx hb) true true true) (less_lists HFEW.out true true true)).mono (fun e w' ⟨he,hb'⟩=>⟨⟨_,_,he,fun h0=>(chk_ok _).2 (less_ok ((chk_ok d).1 (HCE.out.trans h0)) true true true)⟩,hb'⟩)
 have HB4:Hid (∀cs,Below w.heap.size w (w3.alloc (.cells cs 28))):=fun cs=>below_tr HT.out.bel (kB rfl).out
 clear d0 d1 d2 d3 d4 d5 d6 HCK
 obtain⟨d0,d1,d2,d3,d4,d5,d6⟩:=HT.out.box.c7
 go_wp2_with fail
 ·refine hMo (hU (HL1.out _ (HB4.out _))) ?_
  rintro e w5 ⟨⟨c5,n5,rfl,h5⟩,hb⟩
  have HB5:=hHi (below_tr (HB4.out _) hb)
  have H5:=hHi h5
  clear hb h5 d0 d1 d2 d3 d4 d5 d6
  go_wp2_with fail
  refine hMo (hU (HA.out () w5)) ?_
  rintro e w6 ⟨rfl,hb⟩
  have HB6:=hHi (below_tr HB5.out hb)
  clear hb
  by_cases h0:ce=0
  ·have h50:=H5.out h0
   subst h50
   subst h0
   go_wp2
   go_ret
   exact ⟨rfl,HB6.out⟩
  ·have h0b:(ce==0)=false:=by simp[h0]
   go_wp2
   go_ret
   exact ⟨by simp[h0],HB6.out⟩
 ·refine hMo (hU (HL2.out _ (HB4.out _))) ?_
  rintro e w5 ⟨⟨c5,n5,rfl,h5⟩,hb⟩
  have HB5:=hHi (below_tr (HB4.out _) hb)
  have H5:=hHi h5
  clear hb h5 d0 d1 d2 d3 d4 d5 d6
  go_wp2_with fail
  refine hMo (hU (HA.out () w5)) ?_
  rintro e w6 ⟨rfl,hb⟩
  have HB6:=hHi (below_tr HB5.out hb)
  clear hb
  by_cases h0:ce=0
  ·have h50:=H5.out h0
   subst h50
   subst h0
   go_wp2
   go_ret
   exact ⟨rfl,HB6.out⟩
  ·have h0b:(ce==0)=false:=by simp[h0]
   go_wp2
   go_ret
   exact ⟨by simp[h0],HB6.out⟩
 ·refine hMo (hU (HL3.out _ (HB4.out _))) ?_
  rintro e w5 ⟨⟨c5,n5,rfl,h5⟩,hb⟩
  have HB5:=hHi (below_tr (HB4.out _) hb)
  have H5:=hHi h5
  clear hb h5 d0 d1 d2 d3 d4 d5 d6
  go_wp2_with fail
  refine hMo (hU (HA.out () w5)) ?_
  rintro e w6 ⟨rfl,hb⟩
  have HB6:=hHi (below_tr HB5.out hb)
  clear hb
  by_cases h0:ce=0
  ·have h50:=H5.out h0
   subst h50
   subst h0
   go_wp2
   go_ret
   exact ⟨rfl,HB6.out⟩
  ·have h0b:(ce==0)=false:=by simp[h0]
   go_wp2
   go_ret
   exact ⟨by simp[h0],HB6.out⟩
 ·refine hMo (hU (HL4.out _ (HB4.out _))) ?_
  rintro e w5 ⟨⟨c5,n5,rfl,h5⟩,hb⟩
  have HB5:=hHi (below_tr (HB4.out _) hb)
  have H5:=hHi h5
  clear hb h5 d0 d1 d2 d3 d4 d5 d6
  go_wp2_with fail
  refine hMo (hU (HA.out () w5)) ?_
  rintro e w6 ⟨rfl,hb⟩
  have HB6:=hHi (below_tr HB5.out hb)
  clear hb
  by_cases h0:ce=0
  ·have h50:=H5.out h0
   subst h50
   subst h0
   go_wp2
   go_ret
   exact ⟨rfl,HB6.out⟩
  ·have h0b:(ce==0)=false:=by simp[h0]
   go_wp2
   go_ret
   exact ⟨by simp[h0],HB6.out⟩
end Go.Proofs.YtilpgpcgcpedjaaGreat
