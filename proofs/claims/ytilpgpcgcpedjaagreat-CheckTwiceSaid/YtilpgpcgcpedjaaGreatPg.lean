/- A right definition in which a production stands twice is right no more: the law's walk. -/
import Derived.Test.YtilpgpcgcpedjaaGreatPh
import Derived.Deep.CutRange
import Derived.Deep.RegionLaw
import Derived.Deep.AppendLies
import Derived.BigQuiet
import Derived.Deep.QuietTactic
namespace Go.Proofs.YtilpgpcgcpedjaaGreat
open Go.RowKit
set_option linter.unusedVariables false
set_option linter.unusedSimpArgs false
set_option maxRecDepth 100000
set_option maxHeartbeats 16000000
theorem tmod_at (k:Int) {n:Nat} (h0:0<n) (h1:n≤1000000):∃q:Nat,(wrap64 (k.tmod n+n)).tmod n=(q:Int)∧q<n:=by
 have hn:(0:Int)<n:=by omega
 have a1:=Int.tmod_lt_of_pos k hn
 have a2:=Int.lt_tmod_of_pos k hn
 have hw:wrap64 (k.tmod n+n)=k.tmod n+n:=by unfold wrap64;omega
 rw[hw]
 have b1:=Int.tmod_nonneg (n:Int) (a:=k.tmod n+n) (by omega)
 have b2:=Int.tmod_lt_of_pos (k.tmod n+n) hn
 exact ⟨((k.tmod n+n).tmod n).toNat,by omega,by omega⟩
theorem dup_step {w w5 w7:World} {tmp:Obj} {PX BS H g1 g2 c2 cap1 NL:Nat} {d:Df} {p:Pr} {sv s l v3 v4 v5 v6:Value} {Lp:List (Pr×Value)} {Lc:List (List Gr×Value)} {Lb:List (Bo×Value)} {us:Array Value}
  (hD:DefIn w5 BS H d (.slice (some ⟨g2,0,none⟩) NL c2) v3 v4 v5 v6 Lp Lc Lb) (hz:(p,sv)∈Lp) (hNL:Lp.length=NL) (hPX:H≤PX) (hBH:BS≤H) (hX:Blk w5 PX 28 #[s,l,.slice (some ⟨g2,0,none⟩) NL c2,v3,v4,v5,v6]) (hT:BX w w5 w.heap.size 28 us) (hne:w.heap.size<PX) (hBS:w.heap.size≤BS)
  (hown:w7.ownsRow BS 44 5 (.slice (some ⟨g1,0,none⟩) (NL+1) cap1) (NL+1) (Lp.flatMap pcell++pcell (p,sv))) (hgrow:((w5.alloc tmp).drew).grownBy w7 (Value.slice (some ⟨g2,0,none⟩) NL c2).ownBlock) (hat:(Value.slice (some ⟨g2,0,none⟩) NL c2).ownBlock=some g1∨g1=w5.heap.size+1) (hlt:g1<w7.heap.size):
  DefIn (w7.setCell ⟨PX,2,none⟩ (.slice (some ⟨g1,0,none⟩) (NL+1) cap1)) BS (w7.setCell ⟨PX,2,none⟩ (.slice (some ⟨g1,0,none⟩) (NL+1) cap1)).heap.size (dupD d p) (.slice (some ⟨g1,0,none⟩) (NL+1) cap1) v3 v4 v5 v6 (Lp++[(p,sv)]) Lc Lb∧Blk (w7.setCell ⟨PX,2,none⟩ (.slice (some ⟨g1,0,none⟩) (NL+1) cap1)) PX 28 #[s,l,.slice (some ⟨g1,0,none⟩) (NL+1) cap1,v3,v4,v5,v6]∧BX w (w7.setCell ⟨PX,2,none⟩ (.slice (some ⟨g1,0,none⟩) (NL+1) cap1)) w.heap.size 28 us:=by
 subst hNL
 have hD':DefIn w5.drew BS H d (.slice (some ⟨g2,0,none⟩) Lp.length c2) v3 v4 v5 v6 Lp Lc Lb:=hD.below (below_dr _)
 have hgs:=hgrow.size
 have hXs:=hX.lt
 have hs:w5.heap.size+1≤w7.heap.size:=by have h:((w5.alloc tmp).drew).heap.size=w5.heap.size+1:=World.size_alloc _ _;omega
 refine ⟨DefIn.push8_prod (tmp:=tmp) (W:=w5.drew) (w7:=w7) (grownBy_setCell _ _ _ _) hPX hXs hD' p sv (hD'.sp _ hz) (by omega) hown hgrow hat hlt,?_,?_,?_⟩
 ·exact Blk.set (((hX.alloc tmp).drew).kept hgrow (Blk.not_row hX (by decide) hD.rp)) 2 _
 ·refine Below.trans (b:=w7) ?_ (belG (grownBy_setCell _ _ _ _) (by omega) (by have:=hT.bel.size;omega))
  refine (hT.bel.trans (((Below.refl _ _).alloc hT.bel.size tmp).drew)).trans (belO hgrow (fun b hb=>?_) ?_)
  ·have:=(hD.rp.lt b hb).1
   omega
  ·have h:((w5.alloc tmp).drew).heap.size=w5.heap.size+1:=World.size_alloc _ _
   have:=hT.bel.size
   omega
 ·exact (((hT.box.alloc tmp).drew).kept hgrow (Blk.not_row hT.box (by decide) hD.rp)).put PX 2 _ (by omega)
theorem box_step {w w5 w7:World} {tmp:Obj} {PX BS H g1 cap1 NB c6:Nat} {b6:Option Addr} {d:Df} {n:Nm} {s l v2 v3 v4 v5:Value} {Lp:List (Pr×Value)} {Lc:List (List Gr×Value)} {Lb:List (Bo×Value)} {us:Array Value}
  (hD:DefIn w5 BS H d v2 v3 v4 v5 (.slice b6 NB c6) Lp Lc Lb) (hNB:Lb.length=NB) (hPX:H≤PX) (hBH:BS≤H) (hX:Blk w5 PX 28 #[s,l,v2,v3,v4,v5,.slice b6 NB c6]) (hT:BX w w5 w.heap.size 28 us) (hne:w.heap.size<PX) (hBS:w.heap.size≤BS)
  (hown:w7.ownsRow BS 59 2 (.slice (some ⟨g1,0,none⟩) (NB+1) cap1) (NB+1) (Lb.flatMap bxcell++[.string n,.slice none 0 0])) (hgrow:(w5.alloc tmp).grownBy w7 (Value.slice b6 NB c6).ownBlock) (hat:(Value.slice b6 NB c6).ownBlock=some g1∨g1=w5.heap.size+1) (hlt:g1<w7.heap.size):
  (∃Lb',DefIn (w7.setCell ⟨PX,6,none⟩ (.slice (some ⟨g1,0,none⟩) (NB+1) cap1)) BS (w7.setCell ⟨PX,6,none⟩ (.slice (some ⟨g1,0,none⟩) (NB+1) cap1)).heap.size (boxD d n) v2 v3 v4 v5 (.slice (some ⟨g1,0,none⟩) (NB+1) cap1) Lp Lc Lb')∧Blk (w7.setCell ⟨PX,6,none⟩ (.slice (some ⟨g1,0,none⟩) (NB+1) cap1)) PX 28 #[s,l,v2,v3,v4,v5,.slice (some ⟨g1,0,none⟩) (NB+1) cap1]∧BX w (w7.setCell ⟨PX,6,none⟩ (.slice (some ⟨g1,0,none⟩) (NB+1) cap1)) w.heap.size 28 us:=by
 subst hNB
 have hgs:=hgrow.size
 have hXs:=hX.lt
 have hs:w5.heap.size+1≤w7.heap.size:=by have h:(w5.alloc tmp).heap.size=w5.heap.size+1:=World.size_alloc _ _;omega
 refine ⟨⟨_,DefIn.push8_box (tmp:=tmp) (W:=w5) (w7:=w7) (grownBy_setCell _ _ _ _) hPX hXs hD ⟨n,[]⟩ (.slice none 0 0) (ItsAt.nil _ _) (by omega) hown hgrow hat hlt⟩,?_,?_,?_⟩
 ·exact Blk.set ((hX.alloc tmp).kept hgrow (Blk.not_row hX (by decide) hD.rb)) 6 _
 ·refine Below.trans (b:=w7) ?_ (belG (grownBy_setCell _ _ _ _) (by omega) (by have:=hT.bel.size;omega))
  refine (hT.bel.trans ((Below.refl _ _).alloc hT.bel.size tmp)).trans (belO hgrow (fun b hb=>?_) ?_)
  ·have:=(hD.rb.lt b hb).1
   omega
  ·have h:(w5.alloc tmp).heap.size=w5.heap.size+1:=World.size_alloc _ _
   have:=hT.bel.size
   omega
 ·exact ((hT.box.alloc tmp).kept hgrow (Blk.not_row hT.box (by decide) hD.rb)).put PX 6 _ (by omega)
theorem syms_le {l:List Pr} {p:Pr} (h:p∈l):p.syms.length≤symsN l:=by
 induction l with
 | nil=>cases h
 | cons x l ih=>
  have e:symsN (x::l)=x.syms.length+symsN l:=by simp[symsN]
  rcases List.mem_cons.1 h with rfl|h
  ·omega
  ·have:=ih h
   omega
theorem dup_few {d:Df} {p:Pr} (h:lists d≤400∧symsN d.prods≤400) (hp:p∈d.prods):lists (dupD d p)≤1000∧symsN (dupD d p).prods≤1000:=by
 have h1:=h.1
 have h2:=syms_le hp
 unfold lists at h1 ⊢
 refine ⟨?_,?_⟩
 ·show (d.prods++[p]).length+d.chains.length+d.follows.length+d.rejects.length+d.boxes.length≤1000
  simp
  omega
 ·show symsN (d.prods++[p])≤1000
  have e:symsN (d.prods++[p])=symsN d.prods+p.syms.length:=by simp[symsN]
  omega
theorem box_few {d:Df} {n:Nm} (h:lists d≤400∧symsN d.prods≤400):lists (boxD d n)≤1000∧symsN (boxD d n).prods≤1000:=by
 have h1:=h.1
 have h2:=h.2
 unfold lists at h1 ⊢
 refine ⟨?_,by show symsN d.prods≤_;omega⟩
 show d.prods.length+d.chains.length+d.follows.length+d.rejects.length+(d.boxes++[(⟨n,[]⟩:Bo)]).length≤1000
 simp
 omega
theorem twice_walk (d:Df) (vs:List Value) (k:Int) (w:World) (h:DO w d vs) (hlo:-9223372036854775808≤k) (hhi:k≤9223372036854775807):
  Calls Tryz.prog 10 #[.agg ⟨vs⟩,.int .i64 k] w fun e w'=>e=.returned (.bool true)∧Below w.heap.size w w':=by
 have HDO:=hHi h
 have HA:=hU (fun W=>alive_any W)
 obtain⟨a2,p2,a3,p3,a4,p4,a5,p5,a6,p6,rfl,r2,_⟩:=h.form
 obtain⟨f,hf⟩:=h.sz
 have hz72:=hf.p
 have HHV:Hid (∀W,Below w.heap.size w W→Calls Tryz.prog 11 #[.agg #[.string d.start,.string d.layout,.slice a2 d.prods.length p2,.slice a3 d.chains.length p3,.slice a4 d.follows.length p4,.slice a5 d.rejects.length p5,.slice a6 d.boxes.length p6]] W fun e w'=>(∃b,e=.returned (.bool b)∧(b=false→lists d≤400∧symsN d.prods≤400))∧Below W.heap.size W w'):=fun W hb=>heavy_any d _ W (HDO.out.nx hb)
 have HR1:=hHi r2
 obtain⟨w1,hw1⟩:∃qW,w.alloc (.cells #[.string d.start,.string d.layout,.slice a2 d.prods.length p2,.slice a3 d.chains.length p3,.slice a4 d.follows.length p4,.slice a5 d.rejects.length p5,.slice a6 d.boxes.length p6] 28)=qW:=⟨_,rfl⟩
 have T:BX w w1 w.heap.size 28 #[.string d.start,.string d.layout,.slice a2 d.prods.length p2,.slice a3 d.chains.length p3,.slice a4 d.follows.length p4,.slice a5 d.rejects.length p5,.slice a6 d.boxes.length p6]:=⟨(kB hw1).out,(kN hw1).out⟩
 have HT:=hHi T
 clear T r2 hf h
 go_enter Tryz.func10,Tryz.ntmps10
 obtain⟨d0,d1,d2,d3,d4,d5,d6⟩:=HT.out.box.c7
 go_wp2_with fail
 refine hMo (hU (HHV.out w1 HT.out.bel)) ?_
 rintro e w2 ⟨⟨b,rfl,hq⟩,hb⟩
 have HQ:=hHi hq
 replace HT:=hHi (HT.out.nx hb)
 clear hq hb d0 d1 d2 d3 d4 d5 d6 HHV hw1
 cases b with
 | true=>
  go_wp2_with fail
  refine hMo (hU (HA.out () w2)) ?_
  rintro e w3 ⟨rfl,hb⟩
  have HB3:=hHi (HT.out.bel.trans (hb.mono HT.out.bel.size))
  clear hb
  go_wp2
  go_ret
  exact ⟨rfl,HB3.out⟩
 | false=>
 have HFEW:Hid _:=hHi (HQ.out rfl)
 clear HQ
 obtain⟨d0,d1,d2,d3,d4,d5,d6⟩:=HT.out.box.c7
 by_cases hN0:d.prods.length=0
 case pos=>
  have hb0:((d.prods.length:Int)==0)=true:=by simp[hN0]
  clear hN0
  go_wp2_with fail
  refine hMo (hU (HA.out () w2)) ?_
  rintro e w4 ⟨rfl,hb⟩
  have HB4:=hHi (below_tr HT.out.bel hb)
  clear hb
  go_wp2
  go_ret
  exact ⟨rfl,HB4.out⟩
 have hb0:((d.prods.length:Int)==0)=false:=by simpa using hN0
 by_cases hN2:200≤d.prods.length
 case pos=>
  have hI:(200:Int)≤d.prods.length:=by omega
  go_wp2_with fail
  refine hMo (hU (HA.out () w2)) ?_
  rintro e w4 ⟨rfl,hb⟩
  have HB4:=hHi (below_tr HT.out.bel hb)
  clear hb
  go_wp2
  go_ret
  exact ⟨rfl,HB4.out⟩
 have hI:¬(200:Int)≤d.prods.length:=by omega
 have HN200:Hid (d.prods.length<200):=by show _<_;omega
 clear d0 d1 d2 d3 d4 d5 d6
 obtain⟨ce,hce⟩:∃z,(chk d (rightB d)).1=z:=⟨_,rfl⟩
 obtain⟨cn,hcn⟩:∃z,(chk d (rightB d)).2=z:=⟨_,rfl⟩
 have HCE:=hHi hce
 have HCN:=hHi hcn
 have HCK:Hid (∀W,Below w.heap.size w W→Calls Tryz.prog 14 #[.agg #[.string d.start,.string d.layout,.slice a2 d.prods.length p2,.slice a3 d.chains.length p3,.slice a4 d.follows.length p4,.slice a5 d.rejects.length p5,.slice a6 d.boxes.length p6]] W fun e w'=>e=.returned (.tuple #[.int .i64 ce,.string cn])∧Below W.heap.size W w'):=fun W hb=>by rw[←HCE.out,←HCN.out];exact check_do d _ W (HDO.out.nx hb) HFEW.out
 clear hce hcn
 obtain⟨d0,d1,d2,d3,d4,d5,d6⟩:=HT.out.box.c7
 go_wp2_with fail
 refine hMo (hU (HCK.out w2 HT.out.bel)) ?_
 rintro e w3 ⟨rfl,hb⟩
 replace HT:=hHi (HT.out.nx hb)
 clear hb d0 d1 d2 d3 d4 d5 d6
 obtain⟨d0,d1,d2,d3,d4,d5,d6⟩:=HT.out.box.c7
 have HCP:Hid (∀W,Below w.heap.size w W→Calls Tryz.prog 13 #[.agg #[.string d.start,.string d.layout,.slice a2 d.prods.length p2,.slice a3 d.chains.length p3,.slice a4 d.follows.length p4,.slice a5 d.rejects.length p5,.slice a6 d.boxes.length p6]] W fun e w'=>∃v2 v3 v4 v5 v6 Lp Lc Lb H,e=.returned (.agg #[.string d.start,.string d.layout,v2,v3,v4,v5,v6])∧DefIn w' (W.heap.size+3) H d v2 v3 v4 v5 v6 Lp Lc Lb∧W.heap.size+3≤H∧Below W.heap.size W w'):=fun W hb=>by
  obtain⟨g,hg⟩:=HDO.out.sz
  have h1:=HFEW.out.1
  unfold lists at h1
  exact rcopy_in d _ W g (HDO.out.nx hb).da hg (by omega) (by omega) (by omega) (by omega) (by omega)
 by_cases h0:ce=0
 case neg=>
  have h0b:(ce==0)=false:=by simp[h0]
  go_wp2_with fail
  refine hMo (hU (HA.out () w3)) ?_
  rintro e w4 ⟨rfl,hb⟩
  have HB4:=hHi (below_tr HT.out.bel hb)
  clear hb
  go_wp2
  go_ret
  exact ⟨rfl,HB4.out⟩
 have HOK:=hHi ((chk_ok d).1 (HCE.out.trans h0))
 subst h0
 clear HCK
 have hN1:¬((d.prods.length:Int)=0):=by omega
 have hN3:(d.prods.length:Int)<200:=by omega
 go_wp2
 go_quiet (fail)
 obtain⟨q,hqv,hql⟩:=tmod_at k (n:=d.prods.length) (by omega) (by omega)
 have HT2:=hHi (HT.out.nx (below_dn ⟨nq,rfl⟩))
 have HSZ0:=hHi HT2.out.bel.size
 obtain⟨p,hp⟩:∃p,d.prods[q]?=some p:=⟨d.prods[q]'hql,by simp⟩
 have HPQ:=hHi hp
 have HPM:=hHi (List.mem_of_getElem? hp)
 have HQL:=hHi hql
 clear hp hql
 go_wp2_with fail
 rw[hqv]
 clear hqv
 refine hMo (hU (HCP.out _ HT2.out.bel)) ?_
 rintro e w4 ⟨v2,v3,v4,v5,v6,Lp,Lc,Lb,H,rfl,hd,hH,hb⟩
 replace HT2:=hHi (HT2.out.nx hb)
 obtain⟨BS,hBS⟩:∃b,(w3.drewN nq).heap.size+3=b:=⟨_,rfl⟩
 rw[hBS] at hd hH
 have HBS:Hid (w.heap.size≤BS):=by show _≤_;have:=HSZ0.out;omega
 obtain⟨⟨p',sv⟩,hz⟩:∃z,Lp[q]?=some z:=⟨Lp[q]'(by have e:=congrArg List.length hd.ep;rw[List.length_map] at e;rw[e];exact HQL.out),by simp⟩
 obtain rfl:p=p':=by
  have e:=HPQ.out
  rw[←hd.ep,List.getElem?_map,hz] at e
  simpa using e.symm
 have HSV:=hHi (hd.sp _ (List.mem_of_getElem? hz))
 have HZM:=hHi (List.mem_of_getElem? hz)
 have HWP:Hid (w.heap.size<w4.heap.size):=HT2.out.box.lt
 have HLL:Hid (Lp.length=d.prods.length):=by have e:=congrArg List.length hd.ep;rw[List.length_map] at e;exact e
 obtain⟨g2,c2,rfl,hg2,hgl2,hcell⟩:=own_rows (n:=5) (cf:=pcell) (fun _=>rfl) hd.rp hz
 obtain⟨b3,c3,rfl⟩:=own_slice hd.rc
 obtain⟨b4,c4,rfl⟩:=own_slice hd.rf
 obtain⟨b5,c5,rfl⟩:=own_slice hd.rr
 obtain⟨b6,c6,rfl⟩:=own_slice hd.rb
 obtain⟨NL,hNL⟩:∃n,Lp.length=n:=⟨_,rfl⟩
 have HNL:=hHi hNL
 have hnl:NL≤400:=by have:=HLL.out;omega
 have hqI:(q:Int)<NL:=by have:=HLL.out;have:=HQL.out;omega
 obtain⟨w5,hw5⟩:∃q,w4.alloc (.cells #[.string d.start,.string d.layout,.slice (some ⟨g2,0,none⟩) Lp.length c2,.slice b3 Lc.length c3,.slice b4 d.follows.length c4,.slice b5 d.rejects.length c5,.slice b6 Lb.length c6] 28)=q:=⟨_,rfl⟩
 have HB5:=kB hw5
 have HX5:=kN hw5
 have HD5:=hHi (hd.below HB5.out)
 have HUP:Hid (H≤w4.heap.size):=hd.up
 have HHB:=hHi hH
 have HS5:Hid (w5.heap.size=w4.heap.size+1):=by show _=_;rw[←hw5];simp
 replace HT2:=hHi (HT2.out.nx HB5.out)
 have hrow:=HD5.out.rp
 rw[hNL] at HX5 hw5 hrow
 have HROW:=hHi hrow
 have s0:=(HB5.out.cell (p:=⟨g2,0+q*5+0,none⟩) hgl2).trans (hcell 0 _ rfl)
 have s1:=(HB5.out.cell (p:=⟨g2,0+q*5+1,none⟩) hgl2).trans (hcell 1 _ rfl)
 have s2:=(HB5.out.cell (p:=⟨g2,0+q*5+2,none⟩) hgl2).trans (hcell 2 _ rfl)
 have s3:=(HB5.out.cell (p:=⟨g2,0+q*5+3,none⟩) hgl2).trans (hcell 3 _ rfl)
 have s4:=(HB5.out.cell (p:=⟨g2,0+q*5+4,none⟩) hgl2).trans (hcell 4 _ rfl)
 rw[Nat.zero_add] at s0 s1 s2 s3 s4
 rw[Nat.add_zero] at s0
 have HN:Hid (∀j u,[Value.bool p.lex,.string p.sort,.string p.cons,.bool p.bracket,sv][j]?=some u→(w5.alloc (.cells #[.bool p.lex,.string p.sort,.string p.cons,.bool p.bracket,sv] 44)).drew.cell? ((⟨w5.heap.size,0,none⟩:Addr).add j)=some u):=fun i u hu=>by
  have hadd:(⟨w5.heap.size,0,none⟩:Addr).add i=⟨w5.heap.size,i,none⟩:=by unfold Addr.add;split<;>simp_all
  rw[hadd]
  exact cell_new (w:=w5) (t:=44) i (by simpa using hu)
 have HGL:Hid (g2<w5.heap.size):=Nat.lt_of_lt_of_le hgl2 HB5.out.size
 clear hd hb hcell hz hrow hNL hBS hH hgl2 hg2
 have HSC:Hid (sv.oneCell'=true):=by
  obtain⟨a,c,e,_⟩:=HSV.out
  have e:sv=_:=e
  rw[e]
  rfl
 obtain⟨i0,hi,hz0,hz1,hz2⟩:=info_parts info44q
 rw[HNL.out]
 obtain⟨x0,x1,x2,x3,x4,x5,x6⟩:=HX5.out.c7
 have l1:w4.heap.size<w5.heap.size:=HX5.out.lt
 have l2:g2<w5.heap.size:=HGL.out
 have HXA:=hHi ((HX5.out.alloc (.cells #[.bool p.lex,.string p.sort,.string p.cons,.bool p.bracket,sv] 44)).drew)
 have xa2:=HXA.out.cell 2 rfl
 go_wp2
 go_cut [1] from 53 (fun s1 wc=>s1=.int .i64 q∧∃ua uc,DefIn wc BS wc.heap.size (dupD d p) (.slice ua (NL+1) uc) (.slice b3 Lc.length c3) (.slice b4 d.follows.length c4) (.slice b5 d.rejects.length c5) (.slice b6 Lb.length c6) (Lp++[(p,sv)]) Lc Lb∧Blk wc w4.heap.size 28 #[.string d.start,.string d.layout,.slice ua (NL+1) uc,.slice b3 Lc.length c3,.slice b4 d.follows.length c4,.slice b5 d.rejects.length c5,.slice b6 Lb.length c6]∧BX w wc w.heap.size 28 #[.string d.start,.string d.layout,.slice a2 d.prods.length p2,.slice a3 d.chains.length p3,.slice a4 d.follows.length p4,.slice a5 d.rejects.length p5,.slice a6 d.boxes.length p6])
 case first=>
  go_region_law (refine step_append_lies _ (by rfl) _ _ _ (by rfl) BS 44 i0 _ 5 72 Tryz.underlying22 hi hz0 hz1 hz2 rfl (by omega) (.slice (some ⟨g2,0,none⟩) NL c2) NL (Lp.flatMap pcell) (by rfl) (by first | exact (HROW.out.alloc _).drew | exact (HROW.out.drew.alloc _)) ⟨w5.heap.size,0,none⟩ 1 1 [.bool p.lex,.string p.sort,.string p.cons,.bool p.bracket,sv] (by rfl) (by rfl) HN.out (by intro u hu;simp at hu;rcases hu with rfl|rfl|rfl|rfl|rfl;all_goals first | rfl | exact HSC.out) (by omega) (by unfold maxLen;omega) (by omega) (by have:=HS5.out;have:=HUP.out;have:=HHB.out;simp;omega) (w5.heap.size+1) (by simp) ?_;intro g1 cap1 w7 hown1 hgrow hat hlt7;have HX7:=hHi (((HX5.out.alloc (.cells #[.bool p.lex,.string p.sort,.string p.cons,.bool p.bracket,sv] 44)).drew).kept hgrow (Blk.not_row HX5.out (by decide) HROW.out));have y2:=HX7.out.cell 2 rfl;have yf:=HX7.out.frozen 2)
  all_goals go_wp2_with fail
  all_goals go_meet
  all_goals exact ⟨rfl,_,_,dup_step (by rw[←HNL.out];exact HD5.out) HZM.out HNL.out HUP.out HHB.out HX5.out HT2.out HWP.out HBS.out hown1 hgrow hat hlt7⟩
 case rest=>
 obtain⟨rfl,ua,uc,hd,hX,hT⟩:=hcut
 obtain⟨w8,hw8⟩:∃q,q=wc:=⟨_,rfl⟩
 subst hw8
 obtain⟨fz,hfz⟩:=HDO.out.sz
 have HFZ:=hHi hfz
 have HX8:=hHi hX
 replace HT2:=hHi hT
 obtain⟨c8,hc8⟩:∃z,(chk (dupD d p) (rightB (dupD d p))).1=z:=⟨_,rfl⟩
 obtain⟨n8,hn8⟩:∃z,(chk (dupD d p) (rightB (dupD d p))).2=z:=⟨_,rfl⟩
 have HW8:Hid (((p.lex=true∨p.bracket=true)→c8=0)∧(p.lex=false→p.bracket=false→c8=45∧n8=p.cons)):=⟨fun h=>hc8.symm.trans ((chk_ok _).2 (dup_ok HOK.out HPM.out HN200.out h)),fun h1 h2=>by
  have h:=dup_bad HOK.out HPM.out HN200.out h1 h2
  rw[h] at hc8 hn8
  exact ⟨hc8.symm,hn8.symm⟩⟩
 have HC8:=hU (check_more (dupD d p) _ w8 (dup_do hd HFEW.out HPM.out hfz HDO.out.nm) (dup_few HFEW.out HPM.out))
 rw[hc8,hn8] at HC8
 clear hd hX hT hfz hc8 hn8 HD5 HROW HN HX5 HB5 hqI hnl l1 l2 HXA xa2 s0 s1 s2 s3 s4 x0 x1 x2 x3 x4 x5 x6 hw5
 obtain⟨x0,x1,x2,x3,x4,x5,x6⟩:=HX8.out.c7
 go_wp2_with fail
 refine hMo HC8 ?_
 rintro e w9 ⟨rfl,hb⟩
 replace HT2:=hHi (HT2.out.nx hb)
 clear hb HC8 x0 x1 x2 x3 x4 x5 x6
 obtain⟨b,o,us,hb,hlb,hus,hc⟩:=HR1.out q p HPQ.out
 obtain⟨v,rfl,a7,p7,rfl,_⟩:=hus
 subst hb
 have hq_:=hcb HT2.out.bel hlb hc
 have s0:=hq_ 0 _ rfl
 have s1:=hq_ 1 _ rfl
 have s2:=hq_ 2 _ rfl
 have s3:=hq_ 3 _ rfl
 have s4:=hq_ 4 _ rfl
 rw[Nat.add_zero] at s0
 have hqI:(q:Int)<d.prods.length:=by have:=HQL.out;omega
 obtain⟨d0,d1,d2,d3,d4,d5,d6⟩:=HT2.out.box.c7
 obtain⟨lx,hlx⟩:∃z,p.lex=z:=⟨_,rfl⟩
 obtain⟨br,hbr⟩:∃z,p.bracket=z:=⟨_,rfl⟩
 rw[hlx,hbr] at HW8
 rw[hlx] at s0
 rw[hbr] at s3
 clear hq_ hc hlb hlx hbr
 obtain⟨w10,hw10⟩:∃z,w9.alloc (.cells #[.bool lx,.string p.sort,.string p.cons,.bool br,.slice a7 p.syms.length p7] 44)=z:=⟨_,rfl⟩
 have HX10:=kN hw10
 have HT10:=hHi (HT2.out.nx (kB hw10).out)
 cases lx with
 | true=>
  obtain rfl:c8=0:=HW8.out.1 (.inl rfl)
  obtain⟨e0,e1,e2,e3,e4⟩:=HX10.out.c5
  obtain⟨m0,m1,m2,m3,m4,m5,m6⟩:=HT10.out.box.c7
  go_wp2_with fail
  refine hMo (hU (HCP.out _ HT10.out.bel)) ?_
  rintro e w11 ⟨y2,y3,y4,y5,y6,Mp,Mc,Mb,H2,rfl,hd,hH,hb⟩
  have HT11:=hHi (HT10.out.nx hb)
  have HX11:=kA HX10 (hHi hb)
  have HWP2:Hid (w.heap.size<w11.heap.size):=HT11.out.box.lt
  have HP10:Hid (w9.heap.size<w11.heap.size):=by have h:=HX11.out.lt;exact h
  obtain⟨B2,hB2⟩:∃b,w10.heap.size+3=b:=⟨_,rfl⟩
  rw[hB2] at hd hH
  have HBS2:Hid (w.heap.size≤B2):=by show _≤_;have:=HT10.out.bel.size;omega
  have HBX2:Hid (w10.heap.size≤B2):=by show _≤_;omega
  obtain⟨a2',c2',rfl⟩:=own_slice hd.rp
  obtain⟨a3',c3',rfl⟩:=own_slice hd.rc
  obtain⟨a4',c4',rfl⟩:=own_slice hd.rf
  obtain⟨a5',c5',rfl⟩:=own_slice hd.rr
  obtain⟨a6',c6',rfl⟩:=own_slice hd.rb
  obtain⟨NB,hNB⟩:∃n,Mb.length=n:=⟨_,rfl⟩
  have HNB:=hHi hNB
  have hnb:NB≤400:=by
   have e:=congrArg List.length hd.eb
   rw[List.length_map] at e
   have h1:=HFEW.out.1
   unfold lists at h1
   omega
  obtain⟨w12,hw12⟩:∃q,w11.alloc (.cells #[.string d.start,.string d.layout,.slice a2' Mp.length c2',.slice a3' Mc.length c3',.slice a4' d.follows.length c4',.slice a5' d.rejects.length c5',.slice a6' Mb.length c6'] 28)=q:=⟨_,rfl⟩
  have HB12:=kB hw12
  have HX12:=kN hw12
  have HD12:=hHi (hd.below HB12.out)
  have HH2:=hHi hH
  have HUP2:Hid (H2≤w11.heap.size):=hd.up
  have HS12:Hid (w12.heap.size=w11.heap.size+1):=by show _=_;rw[←hw12];simp
  have HT12:=hHi (HT11.out.nx HB12.out)
  have HX10b:=kA HX11 HB12
  have hrow2:=HD12.out.rb
  rw[hNB] at HX12 hw12 hrow2
  have HROW2:=hHi hrow2
  clear hd hb hH hB2 hNB hrow2 m0 m1 m2 m3 m4 m5 m6 e0 e1 e2 e3 e4 s0 s1 s2 s3 s4 d0 d1 d2 d3 d4 d5 d6
  obtain⟨j0,hj,hk0,hk1,hk2⟩:=info_parts info59q
  rw[HNB.out]
  obtain⟨x0,x1,x2,x3,x4,x5,x6⟩:=HX12.out.c7
  have l1:w11.heap.size<w12.heap.size:=HX12.out.lt
  go_wp2_with (at_builtin;refine wpList_append_lies _ rfl _ _ 26 rfl B2 59 j0 _ 2 40 Tryz.underlying26 hj hk0 hk1 hk2 rfl (by decide) (.slice a6' NB c6') NB (Mb.flatMap bxcell) rfl (HROW2.out.alloc _) ⟨w12.heap.size,0,none⟩ 1 1 [.string ⟨#[90,122,57,122,90]⟩,.slice none 0 0] rfl rfl ?ca1 ?ca2 (by decide) ?ca3 ?ca4 ?ca5 (w12.heap.size+1) (by simp) ?_)
  case ca1=>exact new_cells _ _ [.string ⟨#[90,122,57,122,90]⟩,.slice none 0 0]
  case ca2=>intro u hu;simp at hu;rcases hu with rfl|rfl <;> rfl
  case ca3=>unfold maxLen;omega
  case ca4=>omega
  case ca5=>have:=HS12.out;have:=HUP2.out;have:=HH2.out;simp;omega
  intro g3 cap3 w13 hown3 hgrow3 hat3 hlt3
  have hst:=box_step (n:=⟨#[90,122,57,122,90]⟩) (by rw[←HNB.out];exact HD12.out) HNB.out HUP2.out HH2.out HX12.out HT12.out HWP2.out HBS2.out hown3 hgrow3 hat3 hlt3
  have HX13:=hHi ((HX12.out.alloc (.cells #[.string ⟨#[90,122,57,122,90]⟩,.slice none 0 0] 59)).kept hgrow3 (Blk.not_row HX12.out (by decide) HROW2.out))
  have HP13:=hHi ((((HX10b.out.alloc (.cells #[.string ⟨#[90,122,57,122,90]⟩,.slice none 0 0] 59)).kept hgrow3 (Blk.not_row HX10b.out (by decide) HROW2.out))).put w11.heap.size 6 (.slice (some ⟨g3,0,none⟩) (NB+1) cap3) (by have:=HP10.out;omega))
  have z6:=HX13.out.cell 6 rfl
  have zf:=HX13.out.frozen 6
  obtain⟨⟨Mb',hd9⟩,hX9,hT9⟩:=hst
  obtain⟨fz,hfz⟩:=HDO.out.sz
  have HC9:=hU (check_more (boxD d ⟨#[90,122,57,122,90]⟩) _ _ (box_do hd9 HFEW.out hfz HDO.out.nm (by decide)) (box_few HFEW.out))
  have HW9:=hHi (box_bad HOK.out (n:=⟨#[90,122,57,122,90]⟩) (by decide))
  obtain⟨c9,hc9⟩:∃z,(chk (boxD d ⟨#[90,122,57,122,90]⟩) (rightB (boxD d ⟨#[90,122,57,122,90]⟩))).1=z:=⟨_,rfl⟩
  obtain⟨n9,hn9⟩:∃z,(chk (boxD d ⟨#[90,122,57,122,90]⟩) (rightB (boxD d ⟨#[90,122,57,122,90]⟩))).2=z:=⟨_,rfl⟩
  rw[hc9] at HW9
  rw[hc9,hn9] at HC9
  have HX14:=hHi hX9
  have HT14:=hHi hT9
  clear hown3 hgrow3 hat3 hlt3 hd9 hX9 hT9 hfz hc9 hn9 x0 x1 x2 x3 x4 x5 x6 l1
  obtain⟨x0,x1,x2,x3,x4,x5,x6⟩:=HX14.out.c7
  go_wp2_with fail
  refine hMo HC9 ?_
  rintro e w15 ⟨rfl,hb⟩
  have HT15:=hHi (HT14.out.nx hb)
  have HP15:=hHi (HP13.out.after hb)
  clear hb HC9 x0 x1 x2 x3 x4 x5 x6 z6 zf
  go_wp2_with fail
  refine hMo (hU (HA.out () w15)) ?_
  rintro e w16 ⟨rfl,hb⟩
  have HT16:=hHi (HT15.out.nx hb)
  have HP16:=hHi (HP15.out.after hb)
  have HCO:=hU (cons_any d _ ⟨#[90,122,57,122,90]⟩ w16 (HDO.out.nx HT16.out.bel) (by decide))
  clear hb
  obtain⟨e0,e1,e2,e3,e4⟩:=HP16.out.c5
  obtain⟨m0,m1,m2,m3,m4,m5,m6⟩:=HT16.out.box.c7
  have hnn:(p.cons.toList==p.cons.toList)=true:=by simp
  by_cases h9:c9=52
  ·subst h9
   go_wp2
   go_ret
   exact ⟨by simp,HT16.out.bel⟩
  ·have h9b:(c9==52)=false:=by simp[h9]
   have HCI:Hid (0≤consI d.prods ⟨#[90,122,57,122,90]⟩):=by
    rcases HW9.out with h|h
    ·exact absurd h h9
    ·exact h
   obtain⟨ci,hci⟩:∃z,consI d.prods ⟨#[90,122,57,122,90]⟩=z:=⟨_,rfl⟩
   rw[hci] at HCO HCI
   have hci0:0≤ci:=HCI.out
   clear hci h9
   go_wp2_with fail
   refine hMo HCO ?_
   rintro e w17 ⟨rfl,hb⟩
   have HT17:=hHi (HT16.out.nx hb)
   clear hb HCO
   go_wp2
   go_ret
   exact ⟨by simp[hci0],HT17.out.bel⟩
 | false=>
 cases br with
 | true=>
  obtain rfl:c8=0:=HW8.out.1 (.inr rfl)
  obtain⟨e0,e1,e2,e3,e4⟩:=HX10.out.c5
  obtain⟨m0,m1,m2,m3,m4,m5,m6⟩:=HT10.out.box.c7
  go_wp2_with fail
  refine hMo (hU (HCP.out _ HT10.out.bel)) ?_
  rintro e w11 ⟨y2,y3,y4,y5,y6,Mp,Mc,Mb,H2,rfl,hd,hH,hb⟩
  have HT11:=hHi (HT10.out.nx hb)
  have HX11:=kA HX10 (hHi hb)
  have HWP2:Hid (w.heap.size<w11.heap.size):=HT11.out.box.lt
  have HP10:Hid (w9.heap.size<w11.heap.size):=by have h:=HX11.out.lt;exact h
  obtain⟨B2,hB2⟩:∃b,w10.heap.size+3=b:=⟨_,rfl⟩
  rw[hB2] at hd hH
  have HBS2:Hid (w.heap.size≤B2):=by show _≤_;have:=HT10.out.bel.size;omega
  have HBX2:Hid (w10.heap.size≤B2):=by show _≤_;omega
  obtain⟨a2',c2',rfl⟩:=own_slice hd.rp
  obtain⟨a3',c3',rfl⟩:=own_slice hd.rc
  obtain⟨a4',c4',rfl⟩:=own_slice hd.rf
  obtain⟨a5',c5',rfl⟩:=own_slice hd.rr
  obtain⟨a6',c6',rfl⟩:=own_slice hd.rb
  obtain⟨NB,hNB⟩:∃n,Mb.length=n:=⟨_,rfl⟩
  have HNB:=hHi hNB
  have hnb:NB≤400:=by
   have e:=congrArg List.length hd.eb
   rw[List.length_map] at e
   have h1:=HFEW.out.1
   unfold lists at h1
   omega
  obtain⟨w12,hw12⟩:∃q,w11.alloc (.cells #[.string d.start,.string d.layout,.slice a2' Mp.length c2',.slice a3' Mc.length c3',.slice a4' d.follows.length c4',.slice a5' d.rejects.length c5',.slice a6' Mb.length c6'] 28)=q:=⟨_,rfl⟩
  have HB12:=kB hw12
  have HX12:=kN hw12
  have HD12:=hHi (hd.below HB12.out)
  have HH2:=hHi hH
  have HUP2:Hid (H2≤w11.heap.size):=hd.up
  have HS12:Hid (w12.heap.size=w11.heap.size+1):=by show _=_;rw[←hw12];simp
  have HT12:=hHi (HT11.out.nx HB12.out)
  have HX10b:=kA HX11 HB12
  have hrow2:=HD12.out.rb
  rw[hNB] at HX12 hw12 hrow2
  have HROW2:=hHi hrow2
  clear hd hb hH hB2 hNB hrow2 m0 m1 m2 m3 m4 m5 m6 e0 e1 e2 e3 e4 s0 s1 s2 s3 s4 d0 d1 d2 d3 d4 d5 d6
  obtain⟨j0,hj,hk0,hk1,hk2⟩:=info_parts info59q
  rw[HNB.out]
  obtain⟨x0,x1,x2,x3,x4,x5,x6⟩:=HX12.out.c7
  have l1:w11.heap.size<w12.heap.size:=HX12.out.lt
  go_wp2_with (at_builtin;refine wpList_append_lies _ rfl _ _ 26 rfl B2 59 j0 _ 2 40 Tryz.underlying26 hj hk0 hk1 hk2 rfl (by decide) (.slice a6' NB c6') NB (Mb.flatMap bxcell) rfl (HROW2.out.alloc _) ⟨w12.heap.size,0,none⟩ 1 1 [.string ⟨#[90,122,57,122,90]⟩,.slice none 0 0] rfl rfl ?ca1 ?ca2 (by decide) ?ca3 ?ca4 ?ca5 (w12.heap.size+1) (by simp) ?_)
  case ca1=>exact new_cells _ _ [.string ⟨#[90,122,57,122,90]⟩,.slice none 0 0]
  case ca2=>intro u hu;simp at hu;rcases hu with rfl|rfl <;> rfl
  case ca3=>unfold maxLen;omega
  case ca4=>omega
  case ca5=>have:=HS12.out;have:=HUP2.out;have:=HH2.out;simp;omega
  intro g3 cap3 w13 hown3 hgrow3 hat3 hlt3
  have hst:=box_step (n:=⟨#[90,122,57,122,90]⟩) (by rw[←HNB.out];exact HD12.out) HNB.out HUP2.out HH2.out HX12.out HT12.out HWP2.out HBS2.out hown3 hgrow3 hat3 hlt3
  have HX13:=hHi ((HX12.out.alloc (.cells #[.string ⟨#[90,122,57,122,90]⟩,.slice none 0 0] 59)).kept hgrow3 (Blk.not_row HX12.out (by decide) HROW2.out))
  have HP13:=hHi ((((HX10b.out.alloc (.cells #[.string ⟨#[90,122,57,122,90]⟩,.slice none 0 0] 59)).kept hgrow3 (Blk.not_row HX10b.out (by decide) HROW2.out))).put w11.heap.size 6 (.slice (some ⟨g3,0,none⟩) (NB+1) cap3) (by have:=HP10.out;omega))
  have z6:=HX13.out.cell 6 rfl
  have zf:=HX13.out.frozen 6
  obtain⟨⟨Mb',hd9⟩,hX9,hT9⟩:=hst
  obtain⟨fz,hfz⟩:=HDO.out.sz
  have HC9:=hU (check_more (boxD d ⟨#[90,122,57,122,90]⟩) _ _ (box_do hd9 HFEW.out hfz HDO.out.nm (by decide)) (box_few HFEW.out))
  have HW9:=hHi (box_bad HOK.out (n:=⟨#[90,122,57,122,90]⟩) (by decide))
  obtain⟨c9,hc9⟩:∃z,(chk (boxD d ⟨#[90,122,57,122,90]⟩) (rightB (boxD d ⟨#[90,122,57,122,90]⟩))).1=z:=⟨_,rfl⟩
  obtain⟨n9,hn9⟩:∃z,(chk (boxD d ⟨#[90,122,57,122,90]⟩) (rightB (boxD d ⟨#[90,122,57,122,90]⟩))).2=z:=⟨_,rfl⟩
  rw[hc9] at HW9
  rw[hc9,hn9] at HC9
  have HX14:=hHi hX9
  have HT14:=hHi hT9
  clear hown3 hgrow3 hat3 hlt3 hd9 hX9 hT9 hfz hc9 hn9 x0 x1 x2 x3 x4 x5 x6 l1
  obtain⟨x0,x1,x2,x3,x4,x5,x6⟩:=HX14.out.c7
  go_wp2_with fail
  refine hMo HC9 ?_
  rintro e w15 ⟨rfl,hb⟩
  have HT15:=hHi (HT14.out.nx hb)
  have HP15:=hHi (HP13.out.after hb)
  clear hb HC9 x0 x1 x2 x3 x4 x5 x6 z6 zf
  go_wp2_with fail
  refine hMo (hU (HA.out () w15)) ?_
  rintro e w16 ⟨rfl,hb⟩
  have HT16:=hHi (HT15.out.nx hb)
  have HP16:=hHi (HP15.out.after hb)
  have HCO:=hU (cons_any d _ ⟨#[90,122,57,122,90]⟩ w16 (HDO.out.nx HT16.out.bel) (by decide))
  clear hb
  obtain⟨e0,e1,e2,e3,e4⟩:=HP16.out.c5
  obtain⟨m0,m1,m2,m3,m4,m5,m6⟩:=HT16.out.box.c7
  have hnn:(p.cons.toList==p.cons.toList)=true:=by simp
  by_cases h9:c9=52
  ·subst h9
   go_wp2
   go_ret
   exact ⟨by simp,HT16.out.bel⟩
  ·have h9b:(c9==52)=false:=by simp[h9]
   have HCI:Hid (0≤consI d.prods ⟨#[90,122,57,122,90]⟩):=by
    rcases HW9.out with h|h
    ·exact absurd h h9
    ·exact h
   obtain⟨ci,hci⟩:∃z,consI d.prods ⟨#[90,122,57,122,90]⟩=z:=⟨_,rfl⟩
   rw[hci] at HCO HCI
   have hci0:0≤ci:=HCI.out
   clear hci h9
   go_wp2_with fail
   refine hMo HCO ?_
   rintro e w17 ⟨rfl,hb⟩
   have HT17:=hHi (HT16.out.nx hb)
   clear hb HCO
   go_wp2
   go_ret
   exact ⟨by simp[hci0],HT17.out.bel⟩
 | false=>
  obtain⟨rfl,rfl⟩:=HW8.out.2 rfl rfl
  obtain⟨e0,e1,e2,e3,e4⟩:=HX10.out.c5
  obtain⟨m0,m1,m2,m3,m4,m5,m6⟩:=HT10.out.box.c7
  go_wp2_with fail
  refine hMo (hU (HCP.out _ HT10.out.bel)) ?_
  rintro e w11 ⟨y2,y3,y4,y5,y6,Mp,Mc,Mb,H2,rfl,hd,hH,hb⟩
  have HT11:=hHi (HT10.out.nx hb)
  have HX11:=kA HX10 (hHi hb)
  have HWP2:Hid (w.heap.size<w11.heap.size):=HT11.out.box.lt
  have HP10:Hid (w9.heap.size<w11.heap.size):=by have h:=HX11.out.lt;exact h
  obtain⟨B2,hB2⟩:∃b,w10.heap.size+3=b:=⟨_,rfl⟩
  rw[hB2] at hd hH
  have HBS2:Hid (w.heap.size≤B2):=by show _≤_;have:=HT10.out.bel.size;omega
  have HBX2:Hid (w10.heap.size≤B2):=by show _≤_;omega
  obtain⟨a2',c2',rfl⟩:=own_slice hd.rp
  obtain⟨a3',c3',rfl⟩:=own_slice hd.rc
  obtain⟨a4',c4',rfl⟩:=own_slice hd.rf
  obtain⟨a5',c5',rfl⟩:=own_slice hd.rr
  obtain⟨a6',c6',rfl⟩:=own_slice hd.rb
  obtain⟨NB,hNB⟩:∃n,Mb.length=n:=⟨_,rfl⟩
  have HNB:=hHi hNB
  have hnb:NB≤400:=by
   have e:=congrArg List.length hd.eb
   rw[List.length_map] at e
   have h1:=HFEW.out.1
   unfold lists at h1
   omega
  obtain⟨w12,hw12⟩:∃q,w11.alloc (.cells #[.string d.start,.string d.layout,.slice a2' Mp.length c2',.slice a3' Mc.length c3',.slice a4' d.follows.length c4',.slice a5' d.rejects.length c5',.slice a6' Mb.length c6'] 28)=q:=⟨_,rfl⟩
  have HB12:=kB hw12
  have HX12:=kN hw12
  have HD12:=hHi (hd.below HB12.out)
  have HH2:=hHi hH
  have HUP2:Hid (H2≤w11.heap.size):=hd.up
  have HS12:Hid (w12.heap.size=w11.heap.size+1):=by show _=_;rw[←hw12];simp
  have HT12:=hHi (HT11.out.nx HB12.out)
  have HX10b:=kA HX11 HB12
  have hrow2:=HD12.out.rb
  rw[hNB] at HX12 hw12 hrow2
  have HROW2:=hHi hrow2
  clear hd hb hH hB2 hNB hrow2 m0 m1 m2 m3 m4 m5 m6 e0 e1 e2 e3 e4 s0 s1 s2 s3 s4 d0 d1 d2 d3 d4 d5 d6
  obtain⟨j0,hj,hk0,hk1,hk2⟩:=info_parts info59q
  rw[HNB.out]
  obtain⟨x0,x1,x2,x3,x4,x5,x6⟩:=HX12.out.c7
  have l1:w11.heap.size<w12.heap.size:=HX12.out.lt
  go_wp2_with (at_builtin;refine wpList_append_lies _ rfl _ _ 26 rfl B2 59 j0 _ 2 40 Tryz.underlying26 hj hk0 hk1 hk2 rfl (by decide) (.slice a6' NB c6') NB (Mb.flatMap bxcell) rfl (HROW2.out.alloc _) ⟨w12.heap.size,0,none⟩ 1 1 [.string ⟨#[90,122,57,122,90]⟩,.slice none 0 0] rfl rfl ?ca1 ?ca2 (by decide) ?ca3 ?ca4 ?ca5 (w12.heap.size+1) (by simp) ?_)
  case ca1=>exact new_cells _ _ [.string ⟨#[90,122,57,122,90]⟩,.slice none 0 0]
  case ca2=>intro u hu;simp at hu;rcases hu with rfl|rfl <;> rfl
  case ca3=>unfold maxLen;omega
  case ca4=>omega
  case ca5=>have:=HS12.out;have:=HUP2.out;have:=HH2.out;simp;omega
  intro g3 cap3 w13 hown3 hgrow3 hat3 hlt3
  have hst:=box_step (n:=⟨#[90,122,57,122,90]⟩) (by rw[←HNB.out];exact HD12.out) HNB.out HUP2.out HH2.out HX12.out HT12.out HWP2.out HBS2.out hown3 hgrow3 hat3 hlt3
  have HX13:=hHi ((HX12.out.alloc (.cells #[.string ⟨#[90,122,57,122,90]⟩,.slice none 0 0] 59)).kept hgrow3 (Blk.not_row HX12.out (by decide) HROW2.out))
  have HP13:=hHi ((((HX10b.out.alloc (.cells #[.string ⟨#[90,122,57,122,90]⟩,.slice none 0 0] 59)).kept hgrow3 (Blk.not_row HX10b.out (by decide) HROW2.out))).put w11.heap.size 6 (.slice (some ⟨g3,0,none⟩) (NB+1) cap3) (by have:=HP10.out;omega))
  have z6:=HX13.out.cell 6 rfl
  have zf:=HX13.out.frozen 6
  obtain⟨⟨Mb',hd9⟩,hX9,hT9⟩:=hst
  obtain⟨fz,hfz⟩:=HDO.out.sz
  have HC9:=hU (check_more (boxD d ⟨#[90,122,57,122,90]⟩) _ _ (box_do hd9 HFEW.out hfz HDO.out.nm (by decide)) (box_few HFEW.out))
  have HW9:=hHi (box_bad HOK.out (n:=⟨#[90,122,57,122,90]⟩) (by decide))
  obtain⟨c9,hc9⟩:∃z,(chk (boxD d ⟨#[90,122,57,122,90]⟩) (rightB (boxD d ⟨#[90,122,57,122,90]⟩))).1=z:=⟨_,rfl⟩
  obtain⟨n9,hn9⟩:∃z,(chk (boxD d ⟨#[90,122,57,122,90]⟩) (rightB (boxD d ⟨#[90,122,57,122,90]⟩))).2=z:=⟨_,rfl⟩
  rw[hc9] at HW9
  rw[hc9,hn9] at HC9
  have HX14:=hHi hX9
  have HT14:=hHi hT9
  clear hown3 hgrow3 hat3 hlt3 hd9 hX9 hT9 hfz hc9 hn9 x0 x1 x2 x3 x4 x5 x6 l1
  obtain⟨x0,x1,x2,x3,x4,x5,x6⟩:=HX14.out.c7
  go_wp2_with fail
  refine hMo HC9 ?_
  rintro e w15 ⟨rfl,hb⟩
  have HT15:=hHi (HT14.out.nx hb)
  have HP15:=hHi (HP13.out.after hb)
  clear hb HC9 x0 x1 x2 x3 x4 x5 x6 z6 zf
  go_wp2_with fail
  refine hMo (hU (HA.out () w15)) ?_
  rintro e w16 ⟨rfl,hb⟩
  have HT16:=hHi (HT15.out.nx hb)
  have HP16:=hHi (HP15.out.after hb)
  have HCO:=hU (cons_any d _ ⟨#[90,122,57,122,90]⟩ w16 (HDO.out.nx HT16.out.bel) (by decide))
  clear hb
  obtain⟨e0,e1,e2,e3,e4⟩:=HP16.out.c5
  obtain⟨m0,m1,m2,m3,m4,m5,m6⟩:=HT16.out.box.c7
  have hnn:(p.cons.toList==p.cons.toList)=true:=by simp
  by_cases h9:c9=52
  ·subst h9
   go_wp2
   go_ret
   exact ⟨by simp,HT16.out.bel⟩
  ·have h9b:(c9==52)=false:=by simp[h9]
   have HCI:Hid (0≤consI d.prods ⟨#[90,122,57,122,90]⟩):=by
    rcases HW9.out with h|h
    ·exact absurd h h9
    ·exact h
   obtain⟨ci,hci⟩:∃z,consI d.prods ⟨#[90,122,57,122,90]⟩=z:=⟨_,rfl⟩
   rw[hci] at HCO HCI
   have hci0:0≤ci:=HCI.out
   clear hci h9
   go_wp2_with fail
   refine hMo HCO ?_
   rintro e w17 ⟨rfl,hb⟩
   have HT17:=hHi (HT16.out.nx hb)
   clear hb HCO
   go_wp2
   go_ret
   exact ⟨by simp[hci0],HT17.out.bel⟩
end Go.Proofs.YtilpgpcgcpedjaaGreat
