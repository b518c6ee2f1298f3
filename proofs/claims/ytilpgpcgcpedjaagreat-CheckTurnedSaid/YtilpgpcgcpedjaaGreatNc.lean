/- alive: what must come of fixed calls comes. -/
import Derived.Test.YtilpgpcgcpedjaaGreatNb
import Derived.Test.YtilpgpcgcpedjaaGreatMn
namespace Go.Proofs.YtilpgpcgcpedjaaGreat
open Go.RowKit
set_option linter.unusedVariables false
set_option linter.unusedSimpArgs false
set_option maxRecDepth 100000
set_option maxHeartbeats 16000000
theorem alive_any (w:World):Calls Tryz.prog 12 #[] w fun e w'=>e=.returned (.bool true)∧Below w.heap.size w w':=by
 have HNUM:=hU (fun W=>num_fix W)
 have HCK:Hid (∀W nm g1 g2 g3 g,DnAt W nm g1 g2 g3 g→nm.size≤maxLen→FewD (dn nm)→Calls Tryz.prog 14 #[.agg ⟨vals g⟩] W fun e w'=>e=.returned (.tuple #[.int .i64 (chk (dn nm) (rightB (dn nm))).1,.string (chk (dn nm) (rightB (dn nm))).2])∧Below W.heap.size W w'):=fun W nm g1 g2 g3 g h hn hf=>check_any _ _ W (h.dO hn) hf (fun _=>short_dn nm)
 have HSO:Hid (∀W nm g1 g2 g3 g,DnAt W nm g1 g2 g3 g→nm.size≤maxLen→Calls Tryz.prog 17 #[.agg ⟨vals g⟩] W fun e w'=>(∃va vc,e=.returned (.slice va 2 vc)∧NamesAt w' W.heap.size [cE,cN] (.slice va 2 vc))∧Below W.heap.size W w'):=fun W nm g1 g2 g3 g h hn=>by
  have h:=sorts_any _ _ W (h.dO hn)
  rw[srt_dn] at h
  exact h
 go_enter Tryz.func12,Tryz.ntmps12
 go_wp2_with fail
 refine hMo (hU (HNUM.out () w)) ?_
 rintro e w1 ⟨⟨g1,g2,g3,g,rfl,hN,k1,k2,k3,k4,m1,m3,m4⟩,hb⟩
 have HB1:=hHi hb
 have HC1:=hU (HCK.out w1 cN g1 g2 g3 g hN.dn (by decide) few_dn.1)
 rw[right_N,chk_N] at HC1
 unfold no at HC1
 clear hN k1 k2 k3 k4 m1 m3 m4 hb
 go_wp2_with fail
 refine hMo HC1 ?_
 rintro e w2 ⟨rfl,hb⟩
 have HB2:=hHi (below_tr HB1.out hb)
 have HNUM2:=hU (HNUM.out () w2)
 clear hb HC1
 go_wp2_with fail
 refine hMo HNUM2 ?_
 rintro e w3 ⟨⟨h1,h2,h3,h4,rfl,hN3,l1,l2,l3,l4,n1,n3,n4⟩,hb⟩
 have HB3:=hHi (below_tr HB2.out hb)
 have HL:Hid (w.heap.size≤h2):=by have:=HB2.out.size;show _≤_;omega
 have HD4:=hHi (DnAt.put hN3 n1 n3 n4 cE)
 have HB4:Hid (Below w.heap.size w (w3.setCell ⟨h2,6,none⟩ (.string cE))):=HB3.out.trans (belG (grownBy_setCell _ _ _ _) HL.out HB3.out.size)
 have HD5:Hid (∀cs,DnAt ((w3.setCell ⟨h2,6,none⟩ (.string cE)).alloc (.cells cs 28)) cE h1 h2 h3 h4):=fun cs=>HD4.out.nx (kB rfl).out
 have HB5:Hid (∀cs,Below w.heap.size w ((w3.setCell ⟨h2,6,none⟩ (.string cE)).alloc (.cells cs 28))):=fun cs=>below_tr HB4.out (kB rfl).out
 have HC5:=hU (fun cs=>HCK.out _ cE h1 h2 h3 h4 (HD5.out cs) (by decide) few_dn.2)
 rw[right_E,chk_E] at HC5
 unfold cE at HC5
 have q9:=hN3.b.cell 9 rfl
 have q6:=hN3.b2.cell 6 rfl
 have qf:=hN3.b2.frozen 6
 have z1:=hN3.b.lt
 have z2:=hN3.b2.lt
 clear hN3 l1 l2 l3 l4 n1 n3 n4 hb
 go_wp2_with fail
 refine hMo (hU (HC5.out () _)) ?_
 rintro e w6 ⟨rfl,hb⟩
 have HB6:=hHi (below_tr (HB5.out _) hb)
 clear hb HC5 q9 q6 qf z1 z2 HD5 HD4 HB5 HB4
 go_wp2_with fail
 refine hMo (hU (HNUM.out () w6)) ?_
 rintro e w7 ⟨⟨g1,g2,g3,g,rfl,hN,k1,k2,k3,k4,m1,m3,m4⟩,hb⟩
 have HB7:=hHi (below_tr HB6.out hb)
 have HC7:=hU (HSO.out w7 cN g1 g2 g3 g hN.dn (by decide))
 clear hN k1 k2 k3 k4 m1 m3 m4 hb
 go_wp2_with fail
 refine hMo HC7 ?_
 rintro e w8 ⟨⟨va,vc,rfl,hNA⟩,hb⟩
 have HB8:=hHi (below_tr HB7.out hb)
 obtain⟨g',cap,e1,_,hg',hc'⟩:=names_cell hNA (j:=1) (x:=cN) rfl
 injection e1 with e1 _ _
 subst e1
 have hc8:w8.cell? ⟨g',1,none⟩=some (.string ⟨#[78]⟩):=hc'
 have hg8:g'<w8.heap.size:=hg'
 clear hNA hb hc' hg' HC7
 go_wp2_with fail
 refine hMo (hU (HNUM.out () w8)) ?_
 rintro e w9 ⟨⟨g1,g2,g3,g,rfl,hN,k1,k2,k3,k4,m1,m3,m4⟩,hb⟩
 have HB9:=hHi (below_tr HB8.out hb)
 have HC9:=hU (cons_any _ _ cN w9 (hN.dn.dO (by decide)) (by decide))
 rw[cons_dn] at HC9
 clear hN k1 k2 k3 k4 m1 m3 m4 hb hc8 hg8
 go_wp2_with fail
 refine hMo HC9 ?_
 rintro e w10 ⟨rfl,hb⟩
 have HB10:=hHi (below_tr HB9.out hb)
 clear hb HC9
 go_wp2
 go_ret
 exact ⟨rfl,HB10.out⟩
end Go.Proofs.YtilpgpcgcpedjaaGreat
