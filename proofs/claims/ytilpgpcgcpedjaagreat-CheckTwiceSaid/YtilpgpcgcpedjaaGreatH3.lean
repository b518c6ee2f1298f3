/- A definition, copied: the document's. -/
import Derived.Test.YtilpgpcgcpedjaaGreatH1
namespace Go.Proofs.YtilpgpcgcpedjaaGreat
open Go.RowKit
set_option linter.unusedVariables false
set_option linter.unusedSimpArgs false
set_option maxRecDepth 100000
set_option maxHeartbeats 16000000
set_option linter.unusedVariables false
set_option linter.unusedSimpArgs false
set_option maxRecDepth 100000
set_option maxHeartbeats 40000000
theorem scell_len (x:Sy):(scell x).length=8:=rfl
theorem set7 {W:World} {b:Nat} {t:TypeId} {x0 x1 x2 x3 x4 x5 x6:Value} (h:Blk W b t #[x0,x1,x2,x3,x4,x5,x6]) (v0 v1 v2 v3 v4 v5 v6:Value):Blk (((((((W.setCell ⟨b,0,none⟩ v0).setCell ⟨b,1,none⟩ v1).setCell ⟨b,2,none⟩ v2).setCell ⟨b,3,none⟩ v3).setCell ⟨b,4,none⟩ v4).setCell ⟨b,5,none⟩ v5).setCell ⟨b,6,none⟩ v6) b t #[v0,v1,v2,v3,v4,v5,v6]∧W.grownBy (((((((W.setCell ⟨b,0,none⟩ v0).setCell ⟨b,1,none⟩ v1).setCell ⟨b,2,none⟩ v2).setCell ⟨b,3,none⟩ v3).setCell ⟨b,4,none⟩ v4).setCell ⟨b,5,none⟩ v5).setCell ⟨b,6,none⟩ v6) (some b):=
 ⟨((((((h.set 0 v0).set 1 v1).set 2 v2).set 3 v3).set 4 v4).set 5 v5).set 6 v6,gr_tr (gr_tr (gr_tr (gr_tr (gr_tr (gr_tr (gr_set _ _ _ _) (gr_set _ _ _ _)) (gr_set _ _ _ _)) (gr_set _ _ _ _)) (gr_set _ _ _ _)) (gr_set _ _ _ _)) (gr_set _ _ _ _)⟩
theorem rcopy_in (d:Df) (vs:List Value) (w:World) (f:Nat) (hd:DA w d vs) (hz:SzD f d) (hp:d.prods.length≤1000000) (hc:d.chains.length≤1000000) (hf:d.follows.length≤1000000) (hr:d.rejects.length≤1000000) (hb:d.boxes.length≤1000000) :
  Calls Tryz.prog 13 #[.agg ⟨vs⟩] w fun e w'=>∃v2 v3 v4 v5 v6 Lp Lc Lb H,e=.returned (.agg #[.string d.start,.string d.layout,v2,v3,v4,v5,v6])∧DefIn w' (w.heap.size+3) H d v2 v3 v4 v5 v6 Lp Lc Lb∧w.heap.size+3≤H∧Below w.heap.size w w':=by
 obtain⟨f2,v2,v3,v4,v5,v6,rfl,h2,h3,h4,h5,h6⟩:=hd.at'
 obtain⟨a2,p2,rfl,_,hl2,hr2⟩:=h2
 obtain⟨a3,p3,rfl,_,hl3,hr3⟩:=h3
 obtain⟨a4,p4,rfl,_,hl4,hr4⟩:=h4
 obtain⟨a5,p5,rfl,_,hl5,hr5⟩:=h5
 obtain⟨a6,p6,rfl,_,hl6,hr6⟩:=h6
 obtain⟨N2,hN2⟩:∃N,d.prods.length=N:=⟨_,rfl⟩
 obtain⟨N3,hN3⟩:∃N,d.chains.length=N:=⟨_,rfl⟩
 obtain⟨N4,hN4⟩:∃N,d.follows.length=N:=⟨_,rfl⟩
 obtain⟨N5,hN5⟩:∃N,d.rejects.length=N:=⟨_,rfl⟩
 obtain⟨N6,hN6⟩:∃N,d.boxes.length=N:=⟨_,rfl⟩
 have HR2:=hHi hr2
 have HR3:=hHi hr3
 have HR4:=hHi hr4
 have HR5:=hHi hr5
 have HR6:=hHi hr6
 have HN2:=hHi hN2
 have HN3:=hHi hN3
 have HN4:=hHi hN4
 have HN5:=hHi hN5
 have HN6:=hHi hN6
 have HZ:=hHi hz
 have HDA:=hHi hd
 rw[hN2] at hl2 hp ⊢
 rw[hN3] at hl3 hc ⊢
 rw[hN4] at hl4 hf ⊢
 rw[hN5] at hl5 hr ⊢
 rw[hN6] at hl6 hb ⊢
 clear hr2 hr3 hr4 hr5 hr6 hN2 hN3 hN4 hN5 hN6 hd hz
 obtain⟨i0,hi,hz0,hz1,hz2⟩:=info_parts info57
 obtain⟨j0,ji,jz0,jz1,jz2⟩:=info_parts info61
 obtain⟨k0,ki,kz0,kz1,kz2⟩:=info_parts info58
 obtain⟨m0,mi,mz0,mz1,mz2⟩:=info_parts info64
 obtain⟨W0,hW0⟩:∃W0,(w.alloc (.cells #[.string d.start,.string d.layout,.slice a2 N2 p2,.slice a3 N3 p3,.slice a4 N4 p4,.slice a5 N5 p5,.slice a6 N6 p6] 28)).alloc (.cells #[.string ⟨#[]⟩,.string ⟨#[]⟩,.slice none 0 0,.slice none 0 0,.slice none 0 0,.slice none 0 0,.slice none 0 0] 28)=W0:=⟨_,rfl⟩
 have HS0:Hid (W0.heap.size=w.heap.size+2):=by show _=_;rw[←hW0];simp
 have HST:Hid (CB w (W0.alloc (.cells #[.string d.start,.string d.layout,.slice none 0 0,.slice none 0 0,.slice none 0 0,.slice none 0 0,.slice none 0 0] 28)) #[.string d.start,.string d.layout,.slice a2 N2 p2,.slice a3 N3 p3,.slice a4 N4 p4,.slice a5 N5 p5,.slice a6 N6 p6] #[.string d.start,.string d.layout,.slice none 0 0,.slice none 0 0,.slice none 0 0,.slice none 0 0,.slice none 0 0]):=by show CB _ _ _ _;rw[←hW0];exact CB.start _ _ _
 have HKS:Hid (Blk W0 w.heap.size 28 #[.string d.start,.string d.layout,.slice a2 N2 p2,.slice a3 N3 p3,.slice a4 N4 p4,.slice a5 N5 p5,.slice a6 N6 p6]):=by show Blk _ _ _ _;rw[←hW0];exact (Blk.new w 28 _).alloc _
 have HDN:Hid (DefIn (W0.alloc (.cells #[.string d.start,.string d.layout,.slice none 0 0,.slice none 0 0,.slice none 0 0,.slice none 0 0,.slice none 0 0] 28)) (w.heap.size+3) (w.heap.size+3) ⟨d.start,d.layout,[],[],[],[],[]⟩ (.slice none 0 0) (.slice none 0 0) (.slice none 0 0) (.slice none 0 0) (.slice none 0 0) [] [] []):=DefIn.nil _ d _ (by have:=HS0.out;simp;omega)
 obtain⟨c0,c1,c2,c3,c4,c5,c6⟩:=HKS.out.c7
 show Calls Tryz.prog 13 #[.agg #[.string d.start,.string d.layout,.slice a2 N2 p2,.slice a3 N3 p3,.slice a4 N4 p4,.slice a5 N5 p5,.slice a6 N6 p6]] w _
 go_enter Tryz.func13,Tryz.ntmps13
 go_wp2
 rw[HS0.out]
 go_loopw[4] (fun iv W=>∃(k:Nat) (vp:Option Addr) (cp:Nat) (Lp:List (Pr×Value)) (H:Nat),k≤N2∧iv=.int .i64 k∧Lp.length=k∧CB w W #[.string d.start,.string d.layout,.slice a2 N2 p2,.slice a3 N3 p3,.slice a4 N4 p4,.slice a5 N5 p5,.slice a6 N6 p6] #[.string d.start,.string d.layout,(.slice vp Lp.length cp),.slice none 0 0,.slice none 0 0,.slice none 0 0,.slice none 0 0]∧DefIn W (w.heap.size+3) H ⟨d.start,d.layout,d.prods.take k,[],[],[],[]⟩ (.slice vp Lp.length cp) (.slice none 0 0) (.slice none 0 0) (.slice none 0 0) (.slice none 0 0) Lp [] []∧w.heap.size+3≤H) (fun iv _=>N2-(intOf iv).toNat)
 case atStart=>exact⟨0,none,0,[],_,Nat.zero_le _,rfl,rfl,by have:=HS0.out;simpa [this] using HST.out,HDN.out,Nat.le_refl _⟩
 case round=>
  clear HST HDN c0 c1 c2 c3 c4 c5 c6 HKS
  obtain⟨k,vp,cp,Lp,H,hk,rfl,hLk,hcb,hdi,hH⟩:=hrel
  have HCB:=hHi hcb
  have HDI:=hHi hdi
  have HLK:=hHi hLk
  have HH:=hHi hH
  obtain⟨s0,s1,s2,s3,s4,s5,s6⟩:=hcb.s.c7
  clear hcb hdi hLk hH
  by_cases hlt:k<N2
  case pos=>
   obtain⟨x,hx⟩:∃x,d.prods[k]?=some x:=⟨d.prods[k]'(by rw[HN2.out];exact hlt),by simp⟩
   obtain⟨b,o,us,hb2,hlb,hus,hcl⟩:=HR2.out k x hx
   obtain⟨u,rfl,ua,uc,rfl,_,hlu,hru⟩:=hus
   subst hb2
   have HX:=hHi hx
   have HRU:=hHi hru
   have HSY:Hid (x.syms.length*88≤140737488355328):=HZ.out.ps x (List.mem_of_getElem? hx)
   have hq_:=hcb HCB.out.bel hlb hcl
   have q0:=hq_ 0 _ rfl
   have q1:=hq_ 1 _ rfl
   have q2:=hq_ 2 _ rfl
   have q3:=hq_ 3 _ rfl
   have q4:=hq_ 4 _ rfl
   rw[Nat.add_zero] at q0
   have hltI:(k:Int)<N2:=by omega
   clear hq_ hcl hx hru s0 s1 s3 s4 s5 s6
   obtain⟨M,hM⟩:∃M,x.syms.length=M:=⟨_,rfl⟩
   rw[hM] at hlu q4
   have HM:=hHi hM
   clear hM
   obtain⟨w1,hw1⟩:∃qW,wr.alloc (.cells #[.bool x.lex,.string x.sort,.string x.cons,.bool x.bracket,.slice ua M uc] 44)=qW:=⟨_,rfl⟩
   have HN1:=kB hw1
   have HX1:=kN hw1
   have HS1:Hid (w1.heap.size=wr.heap.size+1):=by show _=_;rw[←hw1];simp
   have HC1:=hHi (HCB.out.after HN1.out)
   have HRC:Hid (∀j y,x.syms[j]?=some y→∃b o,ua=some ⟨b,o,none⟩∧∀i u,(scell y)[i]?=some u→w1.cell? ⟨b,o+j*8+i,none⟩=some u):=row_cells HRU.out (fun _ _ h=>h.2) HC1.out.bel (Nat.le_refl _)
   obtain⟨e0,e1,e2,e3,e4⟩:=HX1.out.c5
   have hMb:M*88≤140737488355328:=by have:=HSY.out;rw[HM.out] at this;exact this
   have HMM:=hHi hMb
   clear hMb
   go_wp2_with (at_builtin;rw[←HM.out];refine wpList_app_sl rfl _ _ 42 62 8 88 rfl Tryz.underlying42 info134 rfl (by decide) scell scell_len ?cb1 w1.heap.size (.slice none 0 0) 0 [] rfl (World.ownsRow_nil _ _ _ _) x.syms ua uc rfl HRC.out ?cb2 ?cb3 (Nat.le_refl _) ?_)
   case cb1=>intro y u hu;simp[scell] at hu;rcases hu with rfl | rfl | rfl | rfl | rfl | rfl | rfl | rfl<;>rfl
   case cb2=>have:=HSY.out;unfold maxLen;omega
   case cb3=>have:=HSY.out;omega
   intro va vc w2 hown hgr
   have HOW:Hid (w2.ownsRow w1.heap.size 62 8 (.slice va x.syms.length vc) x.syms.length (x.syms.flatMap scell)):=hown
   have HG2:Hid (w1.grownBy w2 none):=hgr
   have HB2:Hid (Below w1.heap.size w1 w2):=below_grO hgr (fun _ h=>by cases h) (Nat.le_refl _)
   clear hown hgr e0 e1 e2 e3 e4
   have HX2:=kA HX1 HB2
   obtain⟨e0,e1,e2,e3,e4⟩:=HX2.out.c5
   have zf:=HX2.out.frozen
   have lf:=HX2.out.lt
   obtain⟨w3,hw3⟩:∃qW,w2.setCell ⟨wr.heap.size,4,none⟩ (.slice va x.syms.length vc)=qW:=⟨_,rfl⟩
   have HN3:Hid (w2.grownBy w3 (some wr.heap.size)):=by show World.grownBy _ _ _;rw[←hw3];exact grownBy_setCell _ _ _ _
   have HX3:Hid (Blk w3 wr.heap.size 44 #[.bool x.lex,.string x.sort,.string x.cons,.bool x.bracket,.slice va x.syms.length vc]):=by show Blk _ _ _ _;rw[←hw3];exact Blk.set HX2.out 4 _
   have HO3:Hid (w3.ownsRow w1.heap.size 62 8 (.slice va x.syms.length vc) x.syms.length (x.syms.flatMap scell)):=own_kept HOW.out HN3.out (by have:=HS1.out;omega)
   have HW3:Hid (Below wr.heap.size wr w3):=(below_tr HN1.out HB2.out).trans (below_gr HN3.out (Nat.le_refl _) (Nat.le_of_lt lf))
   have HC3:=hHi (HCB.out.after HW3.out)
   have HD3:=hHi (HDI.out.below HW3.out)
   have HSL:Hid (SlS w3 (fun b=>H≤b∧b<w3.heap.size) 8 SyV x.syms (.slice va x.syms.length vc)):=(sls_own scell_len HO3.out (fun y hy=>by
    obtain⟨j,hj⟩:=List.getElem?_of_mem hy
    obtain⟨_,_,_,_,_,hv,_⟩:=HRU.out j y hj
    exact⟨hv.1,rfl⟩) (by have:=HSY.out;omega)).keep (fun _ _ _=>rfl) (fun b hb=>⟨by have:=hb.1;have:=HS1.out;have:=HDI.out.up;omega,hb.2⟩) (fun _ _ h=>h)
   obtain⟨t0,t1,t2,t3,t4⟩:=HX3.out.c5
   obtain⟨o0,o1,o2,o3,o4,o5,o6⟩:=HC3.out.o.c7
   have HROW:=hU HD3.out.rp
   have h72:(Lp.length+1)*72≤140737488355328:=by have:=HLK.out;omega
   clear HRC HB2 HN1 HN3 HOW HG2
   go_wp2_with (at_builtin;refine wpList_append_lies _ rfl _ _ 22 rfl (w.heap.size+3) 44 i0 _ 5 72 Tryz.underlying22 hi hz0 hz1 hz2 rfl (by decide) (.slice vp Lp.length cp) Lp.length (Lp.flatMap pcell) rfl ((HROW.out ()).alloc _) ⟨w3.heap.size,0,none⟩ 1 1 (pcell (x,.slice va x.syms.length vc)) rfl rfl ?ca1 ?ca2 (by decide) ?ca3 ?ca4 ?ca5 (w3.heap.size+1) (by simp) ?_)
   case ca1=>exact new_cells _ _ (pcell (x,.slice va x.syms.length vc))
   case ca2=>intro u hu;simp[pcell] at hu;rcases hu with rfl | rfl | rfl | rfl | rfl<;>rfl
   case ca3=>unfold maxLen;omega
   case ca4=>omega
   case ca5=>have:=HC3.out.sz;simp;omega
   intro g1 cap1 w7 hown hgrow hat hlt7
   have hob:∀b,(Value.slice vp Lp.length cp).ownBlock=some b→w.heap.size+3≤b:=fun b hb=>(HD3.out.rp.lt b hb).1
   have HC7:=hHi ((HC3.out.after (below_al _ (Nat.le_refl _))).grow hgrow hob)
   have HD7:=hHi (HD3.out.push_prod x (.slice va x.syms.length vc) HSL.out HH.out hown hgrow hat hlt7)
   obtain⟨r0,r1,r2,r3,r4,r5,r6⟩:=HC7.out.o.c7
   have zr:=HC7.out.o.frozen
   have lr:=HC7.out.o.lt
   have HH7:Hid (w.heap.size+3≤w7.heap.size):=HC7.out.sz
   clear hown hgrow hat hlt7 hob t0 t1 t2 t3 t4 o0 o1 o2 o3 o4 o5 o6 q0 q1 q2 q3 q4 zf lf e0 e1 e2 e3 e4
   go_wp2
   go_roundw
   case rel=>exact⟨k+1,some ⟨g1,0,none⟩,cap1,Lp++[(x,.slice va x.syms.length vc)],_,by omega,by go_num,by rw[List.length_append,HLK.out];rfl,by rw[List.length_append];exact HC7.out.set 2 _,by
    have h:=HD7.out.gr (grownBy_setCell w7 (w.heap.size+2) 2 (.slice (some ⟨g1,0,none⟩) (Lp.length+1) cap1)) (.inl (by omega))
    have e:=List.getElem?_eq_some_iff.1 HX.out
    rw[List.length_append,List.take_succ_eq_append_getElem e.1,e.2]
    exact h,HH7.out⟩
   case measure=>simp[intOf];omega
  obtain rfl:N2=k:=by omega
  have HP:Hid (DefIn wr (w.heap.size+3) H ⟨d.start,d.layout,d.prods,[],[],[],[]⟩ (.slice vp Lp.length cp) (.slice none 0 0) (.slice none 0 0) (.slice none 0 0) (.slice none 0 0) Lp [] []):=by
   show DefIn _ _ _ _ _ _ _ _ _ _ _ _
   have h:=HDI.out
   rw[List.take_of_length_le (by rw[HN2.out];exact Nat.le_refl _)] at h
   exact h
  clear HDI
  obtain⟨y1,hy1⟩:∃wq,wq=wr:=⟨_,rfl⟩
  subst hy1
  go_wp2
  go_loopw[7] (fun iv W=>∃(k:Nat) (vc:Option Addr) (cc:Nat) (Lc:List (List Gr×Value)) (H:Nat),k≤N3∧iv=.int .i64 k∧Lc.length=k∧CB w W #[.string d.start,.string d.layout,.slice a2 N2 p2,.slice a3 N3 p3,.slice a4 N4 p4,.slice a5 N5 p5,.slice a6 N6 p6] #[.string d.start,.string d.layout,(.slice vp Lp.length cp),(.slice vc Lc.length cc),.slice none 0 0,.slice none 0 0,.slice none 0 0]∧DefIn W (w.heap.size+3) H ⟨d.start,d.layout,d.prods,d.chains.take k,[],[],[]⟩ (.slice vp Lp.length cp) (.slice vc Lc.length cc) (.slice none 0 0) (.slice none 0 0) (.slice none 0 0) Lp Lc []∧w.heap.size+3≤H) (fun iv _=>N3-(intOf iv).toNat)
  case atStart=>exact⟨0,none,0,[],H,Nat.zero_le _,rfl,rfl,HCB.out,HP.out,HH.out⟩
  case round=>
   clear HCB HP HH s0 s1 s2 s3 s4 s5 s6
   obtain⟨k,vc,cc,Lc,H,hk,rfl,hLk,hcb,hdi,hH⟩:=hrel
   have HCB:=hHi hcb
   have HDI:=hHi hdi
   have HLC:=hHi hLk
   have HH:=hHi hH
   obtain⟨s0,s1,s2,s3,s4,s5,s6⟩:=hcb.s.c7
   clear hcb hdi hLk hH
   by_cases hlt:k<N3
   case pos=>
    obtain⟨x,hx⟩:∃x,d.chains[k]?=some x:=⟨d.chains[k]'(by rw[HN3.out];exact hlt),by simp⟩
    obtain⟨b,o,us,hb2,hlb,hus,hcl⟩:=HR3.out k x hx
    obtain⟨u,rfl,ag,pg,rfl,_,hlg,hgr⟩:=hus
    subst hb2
    have HX:=hHi hx
    have HGR:=hHi hgr
    have HCZ:=hHi (HZ.out.cs x (List.mem_of_getElem? hx))
    obtain⟨M,hM⟩:∃M,x.length=M:=⟨_,rfl⟩
    have HM:=hHi hM
    have hc0:=hcl 0 _ rfl
    rw[hM] at hlg hc0
    rw[Nat.mul_one,Nat.add_zero] at hc0
    have HC0:Hid (w.cell? ⟨b,o+k,none⟩=some (.slice ag M pg)):=hc0
    have HLB:=hHi hlb
    have hltI:(k:Int)<N3:=by omega
    clear hcl hx hgr hM hc0 hlb
    obtain⟨y2,hy2⟩:∃wq,wq=wr:=⟨_,rfl⟩
    subst hy2
    go_wp2
    go_loopw[8,9] (fun lv jv W=>∃(j:Nat) (vg:Option Addr) (cg:Nat) (Lg:List (Gr×Value)),j≤M∧lv=.slice vg Lg.length cg∧jv=.int .i64 j∧Lg.length=j∧Lg.map (·.1)=x.take j∧Grs W y2.heap.size (.slice vg Lg.length cg) Lg∧Below y2.heap.size y2 W) (fun _ jv _=>M-(intOf jv).toNat)
    case atStart=>exact⟨0,none,0,[],Nat.zero_le _,rfl,rfl,rfl,rfl,Grs.nil _ _,Below.refl _ _⟩
    case round=>
     clear s0 s1 s2 s3 s4 s5 s6
     obtain⟨j,vg,cg,Lg,hj,rfl,rfl,hLg,hmg,hgs,hbw⟩:=hrel
     have HLG:=hHi hLg
     have HMG:=hHi hmg
     have HGS:=hHi hgs
     have HBW:=hHi hbw
     have HCB3:=hHi (HCB.out.after hbw)
     obtain⟨s0,s1,s2,s3,s4,s5,s6⟩:=HCB3.out.s.c7
     have r0:wr.cell? ⟨b,o+k,none⟩=some (.slice ag M pg):=(HCB3.out.bel.cell (p:=⟨b,o+k,none⟩) HLB.out).trans HC0.out
     clear hLg hmg hgs hbw
     by_cases hjl:j<M
     case pos=>
      obtain⟨y,hy⟩:∃y,x[j]?=some y:=⟨x[j]'(by rw[HM.out];exact hjl),by simp⟩
      obtain⟨b4,o4,us4,hb4,hlb4,⟨u4,rfl,as4,ps4,rfl,_,hl4',hstr⟩,hc4⟩:=HGR.out j y hy
      subst hb4
      have HY:=hHi hy
      have HST:=hHi hstr
      have HSZ:Hid (y.cons.length*16≤140737488355328):=HCZ.out.2 y (List.mem_of_getElem? hy)
      obtain⟨P,hP⟩:∃P,y.cons.length=P:=⟨_,rfl⟩
      have HPP:=hHi hP
      rw[hP] at hc4 hl4'
      have q0:=(HCB3.out.bel.cell (p:=⟨b4,o4+j*2+0,none⟩) hlb4).trans (hc4 0 _ rfl)
      have q1:=(HCB3.out.bel.cell (p:=⟨b4,o4+j*2+1,none⟩) hlb4).trans (hc4 1 _ rfl)
      rw[Nat.add_zero] at q0
      have hjI:(j:Int)<M:=by omega
      have HSW:Hid (∀W,Below wr.heap.size wr W→W.cell? ⟨w.heap.size,3,none⟩=some (.slice (some ⟨b,o,none⟩) N3 p3)∧W.cell? ⟨b,o+k,none⟩=some (.slice (some ⟨b4,o4,none⟩) M pg)∧W.cell? ⟨b4,o4+j*2+1,none⟩=some (.slice as4 P ps4)):=fun W hW=>by
       have hc:=HCB3.out.after hW
       exact⟨hc.s.cell 3 rfl,(hc.bel.cell (p:=⟨b,o+k,none⟩) HLB.out).trans HC0.out,(hc.bel.cell (p:=⟨b4,o4+j*2+1,none⟩) hlb4).trans (hc4 1 _ rfl)⟩
      have HRC:Hid (∀W,Below wr.heap.size wr W→∀i z,y.cons[i]?=some z→∃b o,as4=some ⟨b,o,none⟩∧∀q u,(([.string z]:List Value))[q]?=some u→W.cell? ⟨b,o+i*1+q,none⟩=some u):=fun W hW=>row_cells (cf:=fun s=>[.string s]) HST.out (fun _ _ h=>h) (HCB3.out.after hW).bel (Nat.le_refl _)
      clear hc4 hy hstr hP
      go_wp2_with fail
      obtain⟨w1,hw1⟩:∃qW,wr.alloc (.cells #[.int .i64 y.assoc,.slice none 0 0] 68)=qW:=⟨_,rfl⟩
      rw[hw1]
      have HN1:=kB hw1
      have HX1:=kN hw1
      have HS1:Hid (w1.heap.size=wr.heap.size+1):=by show _=_;rw[←hw1];simp
      have HBD:Hid (Below wr.heap.size wr w1.drew):=below_tr HN1.out (below_dr _)
      have g1:w1.drew.cell? ⟨wr.heap.size,1,none⟩=some (.slice none 0 0):=HX1.out.cell 1 rfl
      have HXD:Hid (Blk w1.drew wr.heap.size 68 #[.int .i64 y.assoc,.slice none 0 0]):=HX1.out
      refine wp_region_held_drew (S:=fun W=>W.cell? ⟨w.heap.size,3,none⟩=some (.slice (some ⟨b,o,none⟩) N3 p3)∧W.cell? ⟨b,o+k,none⟩=some (.slice (some ⟨b4,o4,none⟩) M pg)∧W.cell? ⟨b4,o4+j*2+1,none⟩=some (.slice as4 P ps4)) (by kernel_rfl) (HSW.out _ HBD.out) (fun hHeld=>?_)
      refine tk 0 rfl (by assumption) ?_
      refine tk 2 rfl (by assumption) ?_
      refine tk 3 rfl (by assumption) ?_
      refine tk 4 rfl (by assumption) ?_
      refine tk 5 rfl (by assumption) ?_
      refine tk 6 rfl (by assumption) ?_
      refine tk 7 rfl (by assumption) ?_
      refine tk 8 rfl (by assumption) ?_
      refine tk 9 rfl (by assumption) ?_
      refine tk 10 rfl (by assumption) ?_
      refine rd1 1 rfl (fun K hK=>?_)
      go_simp
      refine hK.out _ _ (HSW.out _ HBD.out) (fun hHeld=>?_)
      clear hK K
      refine rd1 11 rfl (fun K hK=>?_)
      refine step_app_sl rfl _ _ 36 9 1 16 rfl Tryz.underlying36 info9 rfl (by decide) (fun s=>[.string s]) (fun _=>rfl) ?cb1 w1.heap.size (.slice none 0 0) 0 [] rfl (World.ownsRow_nil _ _ _ _) y.cons as4 ps4 (by rw[HPP.out];rfl) (HRC.out _ HBD.out) ?cb2 ?cb3 (Nat.le_refl _) ?_
      case cb1=>intro z u hu;simp at hu;subst hu;rfl
      case cb2=>have:=HSZ.out;unfold maxLen;omega
      case cb3=>have:=HSZ.out;omega
      intro va vd w7 hown hgr
      have HB7:Hid (Below w1.heap.size w1.drew w7):=below_grO hgr (fun _ h=>by cases h) (Nat.le_refl _)
      have HB7w:Hid (Below wr.heap.size wr w7):=HBD.out.trans (HB7.out.mono (by have:=HS1.out;omega))
      have HO7:Hid (w7.ownsRow w1.heap.size 9 1 (.slice va y.cons.length vd) y.cons.length (ncells y.cons)):=by
       show World.ownsRow _ _ _ _ _ _ _
       have e:(y.cons.flatMap fun s=>[Value.string s])=ncells y.cons:=by unfold ncells;rw[List.map_eq_flatMap]
       rw[←e];simpa using hown
      have HX7:Hid (Blk w7 wr.heap.size 68 #[.int .i64 y.assoc,.slice none 0 0]):=(HXD.out).kept hgr (by simp[Value.ownBlock])
      have e0:=HX7.out.cell 0 rfl
      have e1:=HX7.out.cell 1 rfl
      have zf:=HX7.out.frozen
      have lf:=HX7.out.lt
      clear hown hgr
      refine hK.out _ _ (HSW.out _ HB7w.out) (fun hHeld=>?_)
      clear hK K
      refine tk 12 rfl (by assumption) ?_
      refine rd1 13 rfl (fun K hK=>?_)
      have HG8:Hid (w7.grownBy (w7.setCell ⟨wr.heap.size,1,none⟩ (.slice va y.cons.length vd)) (some wr.heap.size)):=grownBy_setCell _ _ _ _
      have HB8w:Hid (Below wr.heap.size wr (w7.setCell ⟨wr.heap.size,1,none⟩ (.slice va y.cons.length vd))):=HB7w.out.trans (below_gr HG8.out (Nat.le_refl _) (Nat.le_of_lt lf))
      have HX8:Hid (Blk (w7.setCell ⟨wr.heap.size,1,none⟩ (.slice va y.cons.length vd)) wr.heap.size 68 #[.int .i64 y.assoc,.slice va y.cons.length vd]):=Blk.set HX7.out 1 _
      have HO8:Hid ((w7.setCell ⟨wr.heap.size,1,none⟩ (.slice va y.cons.length vd)).ownsRow w1.heap.size 9 1 (.slice va y.cons.length vd) y.cons.length (ncells y.cons)):=own_kept HO7.out HG8.out (by have:=HS1.out;omega)
      go_simp
      refine hK.out _ _ (HSW.out _ HB8w.out) (fun hHeld=>?_)
      clear hK K
      refine wpAnyH_done (by kernel_rfl) ?_ _
      clear hHeld
      obtain⟨w8,hw8⟩:∃W8,(w7.setCell ⟨wr.heap.size,1,none⟩ (.slice va y.cons.length vd))=W8:=⟨_,rfl⟩
      rw[hw8] at HG8 HB8w HX8 HO8 ⊢
      obtain⟨t0,t1⟩:=HX8.out.c2
      have HGS8:Hid (Grs w8 y2.heap.size (.slice vg Lg.length cg) Lg):=HGS.out.after HB8w.out
      have HNA:Hid (NamesAt w8 y2.heap.size y.cons (.slice va y.cons.length vd)):=⟨row_mono HO8.out (by have:=HS1.out;have:=HBW.out.size;omega)⟩
      have HROW:=hU HGS8.out.row
      have h32:(Lg.length+1)*32≤140737488355328:=by have h1:=HLG.out;have h2:=HCZ.out.1;rw[HM.out] at h2;omega
      clear e0 e1 zf lf HSW HRC HO7 HX7 HB7 HB7w hw8 HG8 HXD g1 q0 q1 hw1
      go_wp2_with (at_builtin;refine wpList_append_lies _ rfl _ _ 66 rfl (y2.heap.size) 68 j0 _ 2 32 Tryz.underlying66 ji jz0 jz1 jz2 rfl (by decide) (.slice vg Lg.length cg) Lg.length (Lg.flatMap gcell) rfl ((HROW.out ()).alloc _) ⟨w8.heap.size,0,none⟩ 1 1 (gcell (y,.slice va y.cons.length vd)) rfl rfl ?ca1 ?ca2 (by decide) ?ca3 ?ca4 ?ca5 (w8.heap.size+1) (by simp) ?_)
      case ca1=>exact new_cells _ _ (gcell (y,.slice va y.cons.length vd))
      case ca2=>intro u hu;simp[gcell] at hu;rcases hu with rfl | rfl<;>rfl
      case ca3=>unfold maxLen;omega
      case ca4=>omega
      case ca5=>have h1:=HBW.out.size;have h2:=HB8w.out.size;simp;omega
      intro g1 cap1 w9 hown hgrow hat hlt7
      have HG9:=hHi (HGS8.out.push HNA.out hown hgrow)
      have hob:∀b,(Value.slice vg Lg.length cg).ownBlock=some b→y2.heap.size≤b:=fun b hb=>(HGS8.out.row.lt b hb).1
      have HB9:Hid (Below y2.heap.size y2 w9):=(below_tr HBW.out HB8w.out).trans ((below_al _ (by have h1:=HBW.out.size;have h2:=HB8w.out.size;omega)).trans (below_grO hgrow hob (by have h1:=HBW.out.size;have h2:=HB8w.out.size;simp;omega)))
      clear hown hgrow hat hlt7 hob t0 t1
      go_wp2
      go_roundw
      case rel=>exact⟨j+1,_,_,Lg++[(y,.slice va y.cons.length vd)],by omega,by rw[List.length_append];rfl,by go_num,by rw[List.length_append,HLG.out];rfl,take_snoc HMG.out HY.out rfl,by rw[List.length_append];exact HG9.out,HB9.out⟩
      case measure=>simp[intOf];omega
     obtain rfl:M=j:=by omega
     have HE:Hid (Lg.map (·.1)=x):=by show _=_;rw[HMG.out,List.take_of_length_le (by rw[HM.out];exact Nat.le_refl _)]
     have HD3:=hHi (HDI.out.below HBW.out)
     have HSL:Hid (SlS wr (fun b=>H≤b∧b<wr.heap.size) 2 (GrS wr (fun b=>H≤b∧b<wr.heap.size)) x (.slice vg Lg.length cg)):=by
      have h:=HGS.out.slsB (by have h1:=HLG.out;have h2:=HCZ.out.1;rw[HM.out] at h2;omega) (fun q hq=>by
       have hm:q.1∈x:=by rw[←HE.out];exact List.mem_map.2 ⟨q,hq,rfl⟩
       have:=HCZ.out.2 q.1 hm
       omega)
      rw[HE.out] at h
      have hS:∀b,(y2.heap.size≤b∧b<wr.heap.size)→(H≤b∧b<wr.heap.size):=fun b hb=>⟨by have:=hb.1;have:=HDI.out.up;omega,hb.2⟩
      exact h.keep (fun _ _ _=>rfl) hS (fun _ _ h=>h.keep (fun _ _ _=>rfl) hS)
     obtain⟨o0,o1,o2,o3,o4,o5,o6⟩:=HCB3.out.o.c7
     have HROW:=hU HD3.out.rc
     have h24:(Lc.length+1)*24≤140737488355328:=by have:=HLC.out;omega
     go_wp2_with (at_builtin;refine wpList_append_lies _ rfl _ _ 23 rfl (w.heap.size+3) 66 k0 _ 1 24 Tryz.underlying23 ki kz0 kz1 kz2 rfl (by decide) (.slice vc Lc.length cc) Lc.length (Lc.flatMap ccell) rfl ((HROW.out ()).alloc _) ⟨wr.heap.size,0,none⟩ 1 1 (ccell (x,.slice vg Lg.length cg)) rfl rfl ?ca1 ?ca2 (by decide) ?ca3 ?ca4 ?ca5 (wr.heap.size+1) (by simp) ?_)
     case ca1=>exact new_cells _ _ (ccell (x,.slice vg Lg.length cg))
     case ca2=>intro u hu;simp[ccell] at hu;subst hu;rfl
     case ca3=>unfold maxLen;omega
     case ca4=>omega
     case ca5=>have:=HCB3.out.sz;simp;omega
     intro g1 cap1 w7 hown hgrow hat hlt7
     have hob:∀b,(Value.slice vc Lc.length cc).ownBlock=some b→w.heap.size+3≤b:=fun b hb=>(HD3.out.rc.lt b hb).1
     have HC7:=hHi ((HCB3.out.after (below_al _ (Nat.le_refl _))).grow hgrow hob)
     have HD7:=hHi (HD3.out.push_chain x (.slice vg Lg.length cg) HSL.out HH.out hown hgrow hat hlt7)
     obtain⟨r0,r1,r2,r3,r4,r5,r6⟩:=HC7.out.o.c7
     have zr:=HC7.out.o.frozen
     have lr:=HC7.out.o.lt
     have HH7:Hid (w.heap.size+3≤w7.heap.size):=HC7.out.sz
     clear hown hgrow hat hlt7 hob o0 o1 o2 o3 o4 o5 o6
     go_wp2
     go_roundw
     case rel=>exact⟨k+1,some ⟨g1,0,none⟩,cap1,Lc++[(x,.slice vg Lg.length cg)],_,by omega,by go_num,by rw[List.length_append,HLC.out];rfl,by rw[List.length_append];exact HC7.out.set 3 _,by
      have h:=HD7.out.gr (grownBy_setCell w7 (w.heap.size+2) 3 (.slice (some ⟨g1,0,none⟩) (Lc.length+1) cap1)) (.inl (by omega))
      have e:=List.getElem?_eq_some_iff.1 HX.out
      rw[List.length_append,List.take_succ_eq_append_getElem e.1,e.2]
      exact h,HH7.out⟩
     case measure=>simp[intOf];omega
   obtain rfl:N3=k:=by omega
   have HP:Hid (DefIn wr (w.heap.size+3) H ⟨d.start,d.layout,d.prods,d.chains,[],[],[]⟩ (.slice vp Lp.length cp) (.slice vc Lc.length cc) (.slice none 0 0) (.slice none 0 0) (.slice none 0 0) Lp Lc []):=by
    show DefIn _ _ _ _ _ _ _ _ _ _ _ _
    have h:=HDI.out
    rw[List.take_of_length_le (by rw[HN3.out];exact Nat.le_refl _)] at h
    exact h
   clear HDI
   obtain⟨y2,hy2⟩:∃wq,wq=wr:=⟨_,rfl⟩
   subst hy2
   have HRF:Hid (∀j x,d.follows[j]?=some x→∃b o,a4=some ⟨b,o,none⟩∧∀i u,(fcell x)[i]?=some u→y2.cell? ⟨b,o+j*5+i,none⟩=some u):=row_cells HR4.out (fun _ _ h=>h.2) HCB.out.bel (Nat.le_refl _)
   have HFO:Hid (∀x∈d.follows,x.set.ok):=fun x hx=>by
    obtain⟨j,hj⟩:=List.getElem?_of_mem hx
    obtain⟨_,_,_,_,_,hv,_⟩:=HR4.out j x hj
    exact hv.1
   obtain⟨o0,o1,o2,o3,o4,o5,o6⟩:=HCB.out.o.c7
   go_wp2_with (at_builtin;refine wpList_app_sl rfl _ _ 24 54 5 48 rfl Tryz.underlying24 info52 rfl (by decide) fcell (fun _=>rfl) ?cb1 y2.heap.size (.slice none 0 0) 0 [] rfl (World.ownsRow_nil _ _ _ _) d.follows a4 p4 (by rw[HN4.out];rfl) HRF.out ?cb2 ?cb3 (Nat.le_refl _) ?_)
   case cb1=>intro y u hu;simp[fcell] at hu;rcases hu with rfl | rfl | rfl | rfl | rfl<;>rfl
   case cb2=>have:=HZ.out.fo;unfold maxLen;omega
   case cb3=>have:=HZ.out.fo;omega
   intro v4 w4c w2 hown hgr
   have HO2:Hid (w2.ownsRow y2.heap.size 54 5 (.slice v4 d.follows.length w4c) d.follows.length (d.follows.flatMap fcell)):=by show World.ownsRow _ _ _ _ _ _ _;simpa using hown
   have HB2:Hid (Below y2.heap.size y2 w2):=below_grO hgr (fun _ h=>by cases h) (Nat.le_refl _)
   have HC2:=hHi (HCB.out.after HB2.out)
   have HD2:=hHi (HP.out.setf HB2.out (Nat.le_trans (Nat.le_refl _) HCB.out.sz) HO2.out HFO.out)
   clear hown hgr o0 o1 o2 o3 o4 o5 o6 HRF
   obtain⟨r0,r1,r2,r3,r4,r5,r6⟩:=HC2.out.o.c7
   have zr:=HC2.out.o.frozen
   have lr:=HC2.out.o.lt
   obtain⟨w3,hw3⟩:∃qW,w2.setCell ⟨w.heap.size+2,4,none⟩ (.slice v4 d.follows.length w4c)=qW:=⟨_,rfl⟩
   have HC3:Hid (CB w w3 #[.string d.start,.string d.layout,.slice a2 N2 p2,.slice a3 N3 p3,.slice a4 N4 p4,.slice a5 N5 p5,.slice a6 N6 p6] #[.string d.start,.string d.layout,(.slice vp Lp.length cp),(.slice vc Lc.length cc),(.slice v4 d.follows.length w4c),.slice none 0 0,.slice none 0 0]):=by show CB _ _ _ _;rw[←hw3];exact HC2.out.set 4 _
   have HD3:Hid (DefIn w3 (w.heap.size+3) w2.heap.size ⟨d.start,d.layout,d.prods,d.chains,d.follows,[],[]⟩ (.slice vp Lp.length cp) (.slice vc Lc.length cc) (.slice v4 d.follows.length w4c) (.slice none 0 0) (.slice none 0 0) Lp Lc []):=by show DefIn _ _ _ _ _ _ _ _ _ _ _ _;rw[←hw3];exact HD2.out.gr (grownBy_setCell _ _ _ _) (.inl (by omega))
   obtain⟨x0,x1,x2,x3,x4,x5,x6⟩:=HC3.out.o.c7
   obtain⟨y0,y1',y2',y3,y4,y5,y6⟩:=HC3.out.s.c7
   have HRR:Hid (∀j x,d.rejects[j]?=some x→∃b o,a5=some ⟨b,o,none⟩∧∀i u,(rcell x)[i]?=some u→w3.cell? ⟨b,o+j*2+i,none⟩=some u):=row_cells HR5.out (fun _ _ h=>h) HC3.out.bel (Nat.le_refl _)
   go_wp2_with (at_builtin;refine wpList_app_sl rfl _ _ 25 56 2 32 rfl Tryz.underlying25 info73 rfl (by decide) rcell (fun _=>rfl) ?cb1 w3.heap.size (.slice none 0 0) 0 [] rfl (World.ownsRow_nil _ _ _ _) d.rejects a5 p5 (by rw[HN5.out];rfl) HRR.out ?cb2 ?cb3 (Nat.le_refl _) ?_)
   case cb1=>intro y u hu;simp[rcell] at hu;rcases hu with rfl | rfl<;>rfl
   case cb2=>have:=HZ.out.r;unfold maxLen;omega
   case cb3=>have:=HZ.out.r;omega
   intro v5 w5c w4 hown hgr
   have HO4:Hid (w4.ownsRow w3.heap.size 56 2 (.slice v5 d.rejects.length w5c) d.rejects.length (d.rejects.flatMap rcell)):=by show World.ownsRow _ _ _ _ _ _ _;simpa using hown
   have HB4:Hid (Below w3.heap.size w3 w4):=below_grO hgr (fun _ h=>by cases h) (Nat.le_refl _)
   have HC4:=hHi (HC3.out.after HB4.out)
   have HD4:=hHi (HD3.out.setr HB4.out HC3.out.sz HO4.out)
   clear hown hgr x0 x1 x2 x3 x4 x5 x6 y0 y1' y2' y3 y4 y5 y6 r0 r1 r2 r3 r4 r5 r6 zr lr HRR hw3
   obtain⟨r0,r1,r2,r3,r4,r5,r6⟩:=HC4.out.o.c7
   have zr:=HC4.out.o.frozen
   have lr:=HC4.out.o.lt
   obtain⟨w5,hw5⟩:∃qW,w4.setCell ⟨w.heap.size+2,5,none⟩ (.slice v5 d.rejects.length w5c)=qW:=⟨_,rfl⟩
   have HC5:Hid (CB w w5 #[.string d.start,.string d.layout,.slice a2 N2 p2,.slice a3 N3 p3,.slice a4 N4 p4,.slice a5 N5 p5,.slice a6 N6 p6] #[.string d.start,.string d.layout,(.slice vp Lp.length cp),(.slice vc Lc.length cc),(.slice v4 d.follows.length w4c),(.slice v5 d.rejects.length w5c),.slice none 0 0]):=by show CB _ _ _ _;rw[←hw5];exact HC4.out.set 5 _
   have HD5:Hid (DefIn w5 (w.heap.size+3) w4.heap.size ⟨d.start,d.layout,d.prods,d.chains,d.follows,d.rejects,[]⟩ (.slice vp Lp.length cp) (.slice vc Lc.length cc) (.slice v4 d.follows.length w4c) (.slice v5 d.rejects.length w5c) (.slice none 0 0) Lp Lc []):=by show DefIn _ _ _ _ _ _ _ _ _ _ _ _;rw[←hw5];exact HD4.out.gr (grownBy_setCell _ _ _ _) (.inl (by omega))
   have HH5:Hid (w.heap.size+3≤w4.heap.size):=HC4.out.sz
   go_wp2
   go_loopw[11] (fun iv W=>∃(k:Nat) (vb:Option Addr) (cb:Nat) (Lb:List (Bo×Value)) (H:Nat),k≤N6∧iv=.int .i64 k∧Lb.length=k∧CB w W #[.string d.start,.string d.layout,.slice a2 N2 p2,.slice a3 N3 p3,.slice a4 N4 p4,.slice a5 N5 p5,.slice a6 N6 p6] #[.string d.start,.string d.layout,(.slice vp Lp.length cp),(.slice vc Lc.length cc),(.slice v4 d.follows.length w4c),(.slice v5 d.rejects.length w5c),(.slice vb Lb.length cb)]∧DefIn W (w.heap.size+3) H ⟨d.start,d.layout,d.prods,d.chains,d.follows,d.rejects,d.boxes.take k⟩ (.slice vp Lp.length cp) (.slice vc Lc.length cc) (.slice v4 d.follows.length w4c) (.slice v5 d.rejects.length w5c) (.slice vb Lb.length cb) Lp Lc Lb∧w.heap.size+3≤H) (fun iv _=>N6-(intOf iv).toNat)
   case atStart=>exact⟨0,none,0,[],_,Nat.zero_le _,rfl,rfl,HC5.out,HD5.out,HH5.out⟩
   case round=>
    clear HC5 HD5 HC4 HD4 HC3 HD3 HC2 HD2 HO2 HO4 HB2 HB4 HH5 HCB HP r0 r1 r2 r3 r4 r5 r6 zr lr hw5 s0 s1 s2 s3 s4 s5 s6
    obtain⟨k,vb,cb,Lb,H,hk,rfl,hLk,hcb,hdi,hH⟩:=hrel
    have HCB:=hHi hcb
    have HDI:=hHi hdi
    have HLB:=hHi hLk
    have HH:=hHi hH
    obtain⟨s0,s1,s2,s3,s4,s5,s6⟩:=hcb.s.c7
    clear hcb hdi hLk hH
    by_cases hlt:k<N6
    case pos=>
     obtain⟨x,hx⟩:∃x,d.boxes[k]?=some x:=⟨d.boxes[k]'(by rw[HN6.out];exact hlt),by simp⟩
     obtain⟨b,o,us,hb2,hlb,hus,hcl⟩:=HR6.out k x hx
     obtain⟨u,rfl,ai,pi,rfl,hpi,hli,hit⟩:=hus
     subst hb2
     have HX:=hHi hx
     have HBZ:=hHi (HZ.out.bs x (List.mem_of_getElem? hx))
     have HSI:Hid (Sl w w.heap.size 4 (ItV w w.heap.size f2) x.items (.slice ai x.items.length pi)):=⟨ai,pi,rfl,hpi,hli,hit⟩
     have HCI:Hid (∀W,Below w.heap.size w W→Calls Tryz.prog 33 #[.slice ai x.items.length pi] W fun e w'=>(∃va vc,e=.returned (.slice va x.items.length vc)∧ItsAt w' (fun b=>W.heap.size≤b∧b<w'.heap.size) x.items (.slice va x.items.length vc))∧Below W.heap.size W w'):=fun W hW=>rcopyItems_any (f2+f) x.items _ W (HSI.out.keep hW hW.size (fun _ _ _ h=>(h.keep hW hW.size).ups (by omega))) HBZ.out.1 (fun i hi=>(HBZ.out.2 i hi).ups (by omega))
     have HSW:Hid (∀W o',CB w W #[.string d.start,.string d.layout,.slice a2 N2 p2,.slice a3 N3 p3,.slice a4 N4 p4,.slice a5 N5 p5,.slice (some ⟨b,o,none⟩) N6 p6] o'→W.cell? ⟨w.heap.size,6,none⟩=some (.slice (some ⟨b,o,none⟩) N6 p6)∧W.cell? ⟨b,o+k*2,none⟩=some (.string x.cons)∧W.cell? ⟨b,o+k*2+1,none⟩=some (.slice ai x.items.length pi)):=fun W o' hc=>⟨hc.s.cell 6 rfl,(hc.bel.cell (p:=⟨b,o+k*2+0,none⟩) hlb).trans (hcl 0 _ rfl),(hc.bel.cell (p:=⟨b,o+k*2+1,none⟩) hlb).trans (hcl 1 _ rfl)⟩
     have HCD:=hHi (HCB.out.after (below_dr wr))
     have HDD:=hHi (HDI.out.below (below_dr wr))
     have HC:=hU (HCI.out wr.drew HCD.out.bel)
     have hltI:(k:Int)<N6:=by omega
     have cd6:wr.drew.cell? ⟨w.heap.size+2,6,none⟩=some (.slice vb Lb.length cb):=HCD.out.o.cell 6 rfl
     have HKB:Hid ((Lb.length+1)*40≤140737488355328):=by have:=HLB.out;show _≤_;omega
     clear hcl hx hit hpi hli
     go_wp2
     refine wp_region_held_drew (S:=fun W=>W.cell? ⟨w.heap.size,6,none⟩=some (.slice (some ⟨b,o,none⟩) N6 p6)∧W.cell? ⟨b,o+k*2,none⟩=some (.string x.cons)∧W.cell? ⟨b,o+k*2+1,none⟩=some (.slice ai x.items.length pi)) (by kernel_rfl) (HSW.out _ _ HCD.out) (fun hHeld=>?_)
     refine tk 0 rfl (by assumption) ?_
     refine tk 2 rfl (by assumption) ?_
     refine tk 3 rfl (by assumption) ?_
     refine tk 4 rfl (by assumption) ?_
     refine tk 5 rfl (by assumption) ?_
     refine tk 6 rfl (by assumption) ?_
     refine tk 7 rfl (by assumption) ?_
     refine tk 8 rfl (by assumption) ?_
     refine tk 9 rfl (by assumption) ?_
     refine tk 10 rfl (by assumption) ?_
     refine tk 11 rfl (by assumption) ?_
     refine tk 12 rfl (by assumption) ?_
     refine tk 13 rfl (by assumption) ?_
     refine wpAnyH_ready (rs:=[1,14]) (by kernel_rfl) (by simp) ?_
     refine (AllReadyH.cons rfl (fun K hK=>?_) (AllReadyH.cons rfl (fun K hK=>?_) AllReadyH.nil))
     ·skip
      go_simp
      refine hK.out _ _ (HSW.out _ _ HCD.out) (fun hHeld=>?_)
      clear hK K
      refine rd1 14 rfl (fun K hK=>?_)
      go_simp
      refine hMo HC ?_
      rintro e w3 ⟨⟨xa,xc,rfl,hk3⟩,hb3⟩
      have HB3:Hid (Below wr.drew.heap.size wr.drew w3):=hb3
      have HK3:Hid (ItsAt w3 (fun b=>H≤b∧b<w3.heap.size) x.items (.slice xa x.items.length xc)):=hk3.keep (fun _ _ _=>rfl) (fun b hb=>⟨by have:=hb.1;have:=HDD.out.up;omega,hb.2⟩)
      have HC3:=hHi (HCD.out.after HB3.out)
      have HD3:=hHi (HDD.out.below HB3.out)
      have HCX:Hid (CB w (w3.alloc (.cells #[.string x.cons,.slice xa x.items.length xc] 59)) #[.string d.start,.string d.layout,.slice a2 N2 p2,.slice a3 N3 p3,.slice a4 N4 p4,.slice a5 N5 p5,.slice (some ⟨b,o,none⟩) N6 p6] #[.string d.start,.string d.layout,(.slice vp Lp.length cp),(.slice vc Lc.length cc),(.slice v4 d.follows.length w4c),(.slice v5 d.rejects.length w5c),(.slice vb Lb.length cb)]):=HC3.out.after (below_al _ (Nat.le_refl _))
      have c36:w3.cell? ⟨w.heap.size+2,6,none⟩=some (.slice vb Lb.length cb):=HC3.out.o.cell 6 rfl
      have cx6:(w3.alloc (.cells #[.string x.cons,.slice xa x.items.length xc] 59)).cell? ⟨w.heap.size+2,6,none⟩=some (.slice vb Lb.length cb):=HCX.out.o.cell 6 rfl
      clear hk3 hb3
      go_wp2_with fail
      refine hK.out _ _ (HSW.out _ _ HC3.out) (fun hHeld=>?_)
      clear hK K
      refine tk 15 rfl (by assumption) ?_
      refine rd1 16 rfl (fun K hK=>?_)
      go_simp
      refine hK.out _ _ (HSW.out _ _ HCX.out) (fun hHeld=>?_)
      clear hK K
      refine rd1 17 rfl (fun K hK=>?_)
      refine step_append_lies _ rfl _ _ 26 rfl (w.heap.size+3) 59 m0 _ 2 40 Tryz.underlying26 mi mz0 mz1 mz2 rfl (by decide) (.slice vb Lb.length cb) Lb.length (Lb.flatMap bxcell) rfl (HD3.out.rb.alloc _) ⟨w3.heap.size,0,none⟩ 1 1 (bxcell (x,.slice xa x.items.length xc)) rfl rfl (new_cells w3 59 (bxcell (x,.slice xa x.items.length xc))) (by intro u hu;simp[bxcell] at hu;rcases hu with rfl | rfl<;>rfl) (by decide) (by have:=HKB.out;unfold maxLen;omega) (by have:=HKB.out;omega) (by have:=HC3.out.sz;simp;omega) (w3.heap.size+1) (by simp) ?_
      intro g1 cap1 w7 hown hgrow hat hlt7
      have hob:∀b,(Value.slice vb Lb.length cb).ownBlock=some b→w.heap.size+3≤b:=fun b hb=>(HD3.out.rb.lt b hb).1
      have HC7:=hHi (HCX.out.grow hgrow hob)
      have HD7:=hHi (HD3.out.push_box x (.slice xa x.items.length xc) HK3.out HH.out hown hgrow hat hlt7)
      have r6:=HC7.out.o.cell 6 rfl
      have zr:=HC7.out.o.frozen
      have lr:=HC7.out.o.lt
      have HH7:Hid (w.heap.size+3≤w7.heap.size):=HC7.out.sz
      clear hown hgrow hat hlt7 hob
      refine hK.out _ _ (HSW.out _ _ HC7.out) (fun hHeld=>?_)
      clear hK K
      refine tk 18 rfl (by assumption) ?_
      refine rd1 19 rfl (fun K hK=>?_)
      have HC8:=hHi (HC7.out.set 6 (.slice (some ⟨g1,0,none⟩) (Lb.length+1) cap1))
      go_simp
      refine hK.out _ _ (HSW.out _ _ HC8.out) (fun hHeld=>?_)
      clear hK K
      refine wpAnyH_done (by kernel_rfl) ?_ _
      clear hHeld r6 zr lr c36 cx6 cd6
      go_wp2
      go_roundw
      case rel=>exact⟨k+1,some ⟨g1,0,none⟩,cap1,Lb++[(x,.slice xa x.items.length xc)],_,by omega,by go_num,by rw[List.length_append,HLB.out];rfl,by rw[List.length_append];exact HC8.out,by
       have h:=HD7.out.gr (grownBy_setCell w7 (w.heap.size+2) 6 (.slice (some ⟨g1,0,none⟩) (Lb.length+1) cap1)) (.inl (by omega))
       have e:=List.getElem?_eq_some_iff.1 HX.out
       rw[List.length_append,List.take_succ_eq_append_getElem e.1,e.2]
       exact h,HH7.out⟩
      case measure=>simp[intOf];omega
     ·skip
      go_simp
      refine hMo HC ?_
      rintro e w3 ⟨⟨xa,xc,rfl,hk3⟩,hb3⟩
      have HB3:Hid (Below wr.drew.heap.size wr.drew w3):=hb3
      have HK3:Hid (ItsAt w3 (fun b=>H≤b∧b<w3.heap.size) x.items (.slice xa x.items.length xc)):=hk3.keep (fun _ _ _=>rfl) (fun b hb=>⟨by have:=hb.1;have:=HDD.out.up;omega,hb.2⟩)
      have HC3:=hHi (HCD.out.after HB3.out)
      have HD3:=hHi (HDD.out.below HB3.out)
      have HCX:Hid (CB w (w3.alloc (.cells #[.string x.cons,.slice xa x.items.length xc] 59)) #[.string d.start,.string d.layout,.slice a2 N2 p2,.slice a3 N3 p3,.slice a4 N4 p4,.slice a5 N5 p5,.slice (some ⟨b,o,none⟩) N6 p6] #[.string d.start,.string d.layout,(.slice vp Lp.length cp),(.slice vc Lc.length cc),(.slice v4 d.follows.length w4c),(.slice v5 d.rejects.length w5c),(.slice vb Lb.length cb)]):=HC3.out.after (below_al _ (Nat.le_refl _))
      have c36:w3.cell? ⟨w.heap.size+2,6,none⟩=some (.slice vb Lb.length cb):=HC3.out.o.cell 6 rfl
      have cx6:(w3.alloc (.cells #[.string x.cons,.slice xa x.items.length xc] 59)).cell? ⟨w.heap.size+2,6,none⟩=some (.slice vb Lb.length cb):=HCX.out.o.cell 6 rfl
      clear hk3 hb3
      go_wp2_with fail
      refine hK.out _ _ (HSW.out _ _ HC3.out) (fun hHeld=>?_)
      clear hK K
      refine tk 15 rfl (by assumption) ?_
      refine wpAnyH_ready (rs:=[1,16]) (by kernel_rfl) (by simp) ?_
      refine (AllReadyH.cons rfl (fun K hK=>?_) (AllReadyH.cons rfl (fun K hK=>?_) AllReadyH.nil))
      ·skip
       go_simp
       refine hK.out _ _ (HSW.out _ _ HC3.out) (fun hHeld=>?_)
       clear hK K
       refine rd1 16 rfl (fun K hK=>?_)
       go_simp
       refine hK.out _ _ (HSW.out _ _ HCX.out) (fun hHeld=>?_)
       clear hK K
       refine rd1 17 rfl (fun K hK=>?_)
       refine step_append_lies _ rfl _ _ 26 rfl (w.heap.size+3) 59 m0 _ 2 40 Tryz.underlying26 mi mz0 mz1 mz2 rfl (by decide) (.slice vb Lb.length cb) Lb.length (Lb.flatMap bxcell) rfl (HD3.out.rb.alloc _) ⟨w3.heap.size,0,none⟩ 1 1 (bxcell (x,.slice xa x.items.length xc)) rfl rfl (new_cells w3 59 (bxcell (x,.slice xa x.items.length xc))) (by intro u hu;simp[bxcell] at hu;rcases hu with rfl | rfl<;>rfl) (by decide) (by have:=HKB.out;unfold maxLen;omega) (by have:=HKB.out;omega) (by have:=HC3.out.sz;simp;omega) (w3.heap.size+1) (by simp) ?_
       intro g1 cap1 w7 hown hgrow hat hlt7
       have hob:∀b,(Value.slice vb Lb.length cb).ownBlock=some b→w.heap.size+3≤b:=fun b hb=>(HD3.out.rb.lt b hb).1
       have HC7:=hHi (HCX.out.grow hgrow hob)
       have HD7:=hHi (HD3.out.push_box x (.slice xa x.items.length xc) HK3.out HH.out hown hgrow hat hlt7)
       have r6:=HC7.out.o.cell 6 rfl
       have zr:=HC7.out.o.frozen
       have lr:=HC7.out.o.lt
       have HH7:Hid (w.heap.size+3≤w7.heap.size):=HC7.out.sz
       clear hown hgrow hat hlt7 hob
       refine hK.out _ _ (HSW.out _ _ HC7.out) (fun hHeld=>?_)
       clear hK K
       refine tk 18 rfl (by assumption) ?_
       refine rd1 19 rfl (fun K hK=>?_)
       have HC8:=hHi (HC7.out.set 6 (.slice (some ⟨g1,0,none⟩) (Lb.length+1) cap1))
       go_simp
       refine hK.out _ _ (HSW.out _ _ HC8.out) (fun hHeld=>?_)
       clear hK K
       refine wpAnyH_done (by kernel_rfl) ?_ _
       clear hHeld r6 zr lr c36 cx6 cd6
       go_wp2
       go_roundw
       case rel=>exact⟨k+1,some ⟨g1,0,none⟩,cap1,Lb++[(x,.slice xa x.items.length xc)],_,by omega,by go_num,by rw[List.length_append,HLB.out];rfl,by rw[List.length_append];exact HC8.out,by
        have h:=HD7.out.gr (grownBy_setCell w7 (w.heap.size+2) 6 (.slice (some ⟨g1,0,none⟩) (Lb.length+1) cap1)) (.inl (by omega))
        have e:=List.getElem?_eq_some_iff.1 HX.out
        rw[List.length_append,List.take_succ_eq_append_getElem e.1,e.2]
        exact h,HH7.out⟩
       case measure=>simp[intOf];omega
      ·skip
       go_simp
       refine hK.out _ _ (HSW.out _ _ HCX.out) (fun hHeld=>?_)
       clear hK K
       refine rd1 1 rfl (fun K hK=>?_)
       go_simp
       refine hK.out _ _ (HSW.out _ _ HCX.out) (fun hHeld=>?_)
       clear hK K
       refine rd1 17 rfl (fun K hK=>?_)
       refine step_append_lies _ rfl _ _ 26 rfl (w.heap.size+3) 59 m0 _ 2 40 Tryz.underlying26 mi mz0 mz1 mz2 rfl (by decide) (.slice vb Lb.length cb) Lb.length (Lb.flatMap bxcell) rfl (HD3.out.rb.alloc _) ⟨w3.heap.size,0,none⟩ 1 1 (bxcell (x,.slice xa x.items.length xc)) rfl rfl (new_cells w3 59 (bxcell (x,.slice xa x.items.length xc))) (by intro u hu;simp[bxcell] at hu;rcases hu with rfl | rfl<;>rfl) (by decide) (by have:=HKB.out;unfold maxLen;omega) (by have:=HKB.out;omega) (by have:=HC3.out.sz;simp;omega) (w3.heap.size+1) (by simp) ?_
       intro g1 cap1 w7 hown hgrow hat hlt7
       have hob:∀b,(Value.slice vb Lb.length cb).ownBlock=some b→w.heap.size+3≤b:=fun b hb=>(HD3.out.rb.lt b hb).1
       have HC7:=hHi (HCX.out.grow hgrow hob)
       have HD7:=hHi (HD3.out.push_box x (.slice xa x.items.length xc) HK3.out HH.out hown hgrow hat hlt7)
       have r6:=HC7.out.o.cell 6 rfl
       have zr:=HC7.out.o.frozen
       have lr:=HC7.out.o.lt
       have HH7:Hid (w.heap.size+3≤w7.heap.size):=HC7.out.sz
       clear hown hgrow hat hlt7 hob
       refine hK.out _ _ (HSW.out _ _ HC7.out) (fun hHeld=>?_)
       clear hK K
       refine tk 18 rfl (by assumption) ?_
       refine rd1 19 rfl (fun K hK=>?_)
       have HC8:=hHi (HC7.out.set 6 (.slice (some ⟨g1,0,none⟩) (Lb.length+1) cap1))
       go_simp
       refine hK.out _ _ (HSW.out _ _ HC8.out) (fun hHeld=>?_)
       clear hK K
       refine wpAnyH_done (by kernel_rfl) ?_ _
       clear hHeld r6 zr lr c36 cx6 cd6
       go_wp2
       go_roundw
       case rel=>exact⟨k+1,some ⟨g1,0,none⟩,cap1,Lb++[(x,.slice xa x.items.length xc)],_,by omega,by go_num,by rw[List.length_append,HLB.out];rfl,by rw[List.length_append];exact HC8.out,by
        have h:=HD7.out.gr (grownBy_setCell w7 (w.heap.size+2) 6 (.slice (some ⟨g1,0,none⟩) (Lb.length+1) cap1)) (.inl (by omega))
        have e:=List.getElem?_eq_some_iff.1 HX.out
        rw[List.length_append,List.take_succ_eq_append_getElem e.1,e.2]
        exact h,HH7.out⟩
       case measure=>simp[intOf];omega
    obtain rfl:N6=k:=by omega
    have HP:Hid (DefIn wr (w.heap.size+3) H ⟨d.start,d.layout,d.prods,d.chains,d.follows,d.rejects,d.boxes⟩ (.slice vp Lp.length cp) (.slice vc Lc.length cc) (.slice v4 d.follows.length w4c) (.slice v5 d.rejects.length w5c) (.slice vb Lb.length cb) Lp Lc Lb):=by
     show DefIn _ _ _ _ _ _ _ _ _ _ _ _
     have h:=HDI.out
     rw[List.take_of_length_le (by rw[HN6.out];exact Nat.le_refl _)] at h
     exact h
    clear HDI
    obtain⟨o0,o1,o2,o3,o4,o5,o6⟩:=HCB.out.o.c7
    obtain⟨z0,z1,z2,z3,z4,z5,z6⟩:=HCB.out.z.c7
    have zz:=HCB.out.z.frozen
    have lz:=HCB.out.z.lt
    go_wp2
    refine gen (fun W=>Blk W (w.heap.size+1) 28 _∧wr.grownBy W (some (w.heap.size+1))) (set7 HCB.out.z _ _ _ _ _ _ _) ?_
    rintro W ⟨hb9,hgW⟩
    refine bodyPost_ret (results_cell_row rfl _ _ (w.heap.size+1) 28 _ (0,0) _ rfl hb9 Tryz.underlying28 rfl (by kernel_rfl)) rfl ?_
    exact⟨_,_,_,_,_,Lp,Lc,Lb,H,rfl,HP.out.gr hgW (.inl (by omega)),HH.out,HCB.out.bel.trans (below_gr hgW (by omega) HCB.out.bel.size)⟩
theorem rcopy_any (d:Df) (vs:List Value) (w:World) (f:Nat) (hd:DA w d vs) (hz:SzD f d) (hp:d.prods.length≤1000000) (hc:d.chains.length≤1000000) (hf:d.follows.length≤1000000) (hr:d.rejects.length≤1000000) (hb:d.boxes.length≤1000000) :
  Calls Tryz.prog 13 #[.agg ⟨vs⟩] w fun e w'=>∃us,e=.returned (.agg ⟨us⟩)∧DA w' d us∧Below w.heap.size w w':=by
 refine (rcopy_in d vs w f hd hz hp hc hf hr hb).mono ?_
 rintro e w' ⟨v2,v3,v4,v5,v6,Lp,Lc,Lb,H,rfl,h,_,hb2⟩
 have e1:=congrArg List.length h.ep
 have e2:=congrArg List.length h.ec
 have e3:=congrArg List.length h.eb
 rw[List.length_map] at e1 e2 e3
 obtain⟨g,hg⟩:=h.df (by omega) (by omega) (by omega) (by omega) (by omega)
 exact⟨_,rfl,⟨g,hg⟩,hb2⟩
end Go.Proofs.YtilpgpcgcpedjaaGreat
