/- Statements read: productions that are not lexical. -/
import Derived.Test.YtcpakcffiopfjaaGreatDoorC5
import Derived.Test.YtcpakcffiopfjaaGreatDoorA1
namespace Go.Proofs.YtcpakcffiopfjaaGreatDoor
open Go.RowKit
set_option linter.unusedVariables false
set_option linter.unusedSimpArgs false
set_option maxRecDepth 100000
set_option maxHeartbeats 16000000
set_option linter.unusedVariables false
set_option linter.unusedSimpArgs false
set_option maxRecDepth 100000
set_option maxHeartbeats 16000000
theorem syms_len:∀(f:Nat) (acc:List Sy) (L:List Wd) (l:List Sy) (L':List Wd),acc.length≤12→symsR f acc L=.ok l L'→l.length≤12
 | 0,acc,L,l,L',_,h=>by rw[symsR] at h;cases h
 | f+1,acc,L,l,L',ha,h=>by
  rw[symsR] at h
  split at h
  ·split at h
   ·cases h
   ·rename_i h12
    cases hs:symR L with
    | bad p c=>rw[hs] at h;cases h
    | ok s L1=>
     rw[hs] at h
     exact syms_len f (acc++[s]) L1 l L' (by rw[List.length_append];simp;omega) h
  ·cases h;exact ha
theorem syms1_len {L:List Wd} {l:List Sy} {L':List Wd} (h:syms1 L=.ok l L'):l.length≤12:=by
 unfold syms1 at h
 cases hs:symR L with
 | bad p c=>rw[hs] at h;cases h
 | ok s L1=>rw[hs] at h;exact syms_len 13 [s] L1 l L' (by simp) h
theorem SymsAt.sls {W:World} {base:Nat} {l:List Sy} {v:Value} (h:SymsAt W base l v) (hl:l.length≤12):SlS W (fun b=>base≤b∧b<W.heap.size) 8 SyV l v:=by
 have hcap:∃a c,v=.slice a l.length c∧l.length≤c:=by
  rcases h.row.2 with ⟨e,e2⟩ | ⟨g,cap,cur,e,_,_,hcap,_⟩
  ·exact⟨none,0,by rw[e,e2],by omega⟩
  ·exact⟨_,cap,e,hcap⟩
 obtain⟨a,c,rfl,hc⟩:=hcap
 refine⟨a,c,rfl,hc,by omega,fun j x hj=>?_⟩
 obtain⟨g,cap,e,hb,hg,hcl⟩:=own_rows (cf:=scell) (fun _=>rfl) h.row hj
 cases e
 exact⟨g,0,scell x,rfl,⟨hb,hg⟩,⟨h.ok x (List.mem_of_getElem? hj),rfl⟩,hcl⟩
theorem info57:(Tryz.prog.info? 57).map (fun i=>(i.zero,i.size,i.bytes))=some (some (.agg #[.bool false,.string ⟨#[]⟩,.string ⟨#[]⟩,.bool false,.slice none 0 0]),5,72):=by kernel_rfl
theorem st_plain (R:Nat) (D:List Value) (L:List Wd) (d:Df) (h0:Nat) (w:World) (hR:Rd w R D L) (hD:DefAt w (R+1) h0 d D) (hlen:DLen d) (hu0:R+1≤h0) (htx:(wd L).text≠[]) :
  Calls Tryz.prog 152 #[.pointer (some ⟨R,0,none⟩)] w (RS R w (plainR d L)):=by
 obtain⟨i0,hi,hz0,hz1,hz2⟩:=info_parts info57
 obtain⟨v2,v3,v4,v5,v6,Lp,Lc,Lb,rfl,hdi⟩:=hD
 have HDI:Hid (DefIn w (R+1) h0 d v2 v3 v4 v5 v6 Lp Lc Lb):=hdi
 have HUP:Hid (R+1≤h0):=hu0
 have hln:Lp.length≤200:=by have:=hlen.p;rw[←hdi.ep,List.length_map] at this;exact this
 have HTX:=hHi htx
 obtain⟨D,hDD⟩:∃D:List Value,[.string d.start,.string d.layout,v2,v3,v4,v5,v6]=D:=⟨_,rfl⟩
 rw[hDD] at hR
 have HDE:=hHi hDD
 clear hdi hlen htx hu0 hDD
 have HLT:Hid _:=hR.lt
 have HR0:Hid (Rd w R D L):=hR
 have HG0:Hid (w.grownBy w (some R)):=gr_refl _ _
 clear hR
 have HLP:Hid (d.prods.length=Lp.length):=by show _=_;rw[←HDI.out.ep,List.length_map]
 obtain⟨pa,pc,hpa⟩:=own_slice HDI.out.rp
 have cp0:w.cell? ⟨R,3,none⟩=some (.slice pa Lp.length pc):=by have:=Rd.cellD HR0.out 2 (v:=v2) (by rw[←HDE.out];rfl);rw[hpa] at this;exact this
 clear hpa
 go_enter Tryz.func152,Tryz.ntmps152
 by_cases hroom:200≤Lp.length
 case pos=>
  have HX:Hid (200≤d.prods.length):=by show _≤_;rw[HLP.out];exact hroom
  have HB:=hU (room_bad R D L Lp.length 200 w HR0.out hroom)
  clear hroom
  go_wp2_with fail
  refine hMo HB ?_
  rintro e wf ⟨rfl,hbf⟩
  simp only[FE]
  go_wp2
  refine⟨rfl,?_⟩
  have hfin:plainR d L=.bad (wd L).fro 2:=by unfold plainR;rw[if_pos HX.out]
  show RS R w (plainR d L) _ _
  rw[hfin]
  exact⟨rfl,FrS.of <| grown_below HG0.out hbf⟩
 have HX:Hid (¬ 200≤d.prods.length):=by show ¬_≤_;rw[HLP.out];exact hroom
 have h199:Lp.length<200:=by omega
 have HB:=hU (room_ok R Lp.length 200 w (by omega))
 clear hroom
 go_wp2_with fail
 refine hMo HB ?_
 rintro e wz9 ⟨rfl,hwz⟩
 have hwz:=hwz.symm
 subst hwz
 clear cp0
 have HP:=hU (rd_pass R D L w HR0.out (.inr HTX.out))
 go_wp2_with fail
 refine hMo HP ?_
 rintro e a1 ⟨rfl,hr,hg⟩
 have HR1:=hHi hr
 have HG1:=hHi (gr_tr HG0.out hg)
 clear hr hg
 have HC2:=hU (rd_name R D L.tail a1 HR1.out)
 go_wp2_with fail
 cases hr2:nameR L.tail with
 | bad p2 c2=>
  rw[hr2] at HC2
  have HE2:=hHi hr2
  clear hr2
  refine hMo HC2 ?_
  rintro e wf ⟨rfl,hgf⟩
  simp only[FE]
  go_wp2
  refine⟨rfl,?_⟩
  have hfin:plainR d L=.bad p2 c2:=by unfold plainR;rw[if_neg HX.out];rw[HE2.out];try rfl
  show RS R w (plainR d L) _ _
  rw[hfin]
  exact⟨rfl,FrS.of <| gr_tr HG1.out hgf⟩
 | ok n L2=>
 rw[hr2] at HC2
 have HE2:=hHi hr2
 clear hr2
 refine hMo HC2 ?_
 rintro e a2 ⟨rfl,hr,hg⟩
 have HR2:=hHi hr
 have HG2:=hHi (gr_tr HG1.out hg)
 clear hr hg
 go_wp2_with fail
 obtain⟨a3,ha3⟩:∃qW,a2.alloc (.cells #[.bool false,.string n,.string ⟨#[]⟩,.bool false,.slice none 0 0] 57)=qW:=⟨_,rfl⟩
 rw[ha3]
 have HN3:=kB ha3
 have HZ3:=hHi HG2.out.size
 have HR3:=hHi (HR2.out.below HN3.out)
 have HG3:=hHi (grown_below HG2.out HN3.out)
 have Kp_3:=kN ha3
 cases q1:isT [46] L2 with
 | false=>
  have Q1:=hHi q1
  have HSK:=hU (skip_no R D L2 [46] a3 HR3.out q1)
  have HCR:Hid (consR L2=.ok ⟨#[]⟩ L2):=by show _=_;unfold consR;rw[q1];rfl
  clear q1
  refine hMo HSK ?_
  rintro e a4 ⟨rfl,hb⟩
  have HN4:Hid (Below a3.heap.size a3 a4):=hb
  clear hb
  have HR4:=hHi (HR3.out.below HN4.out)
  have HG4:=hHi (grown_below HG3.out HN4.out)
  have Kp_4:=kA Kp_3 HN4
  have HC5:=hU (rd_want R D L2 [61] a4 HR4.out (by simp))
  go_wp2_with fail
  cases hr5:wantR [61] L2 with
  | bad p5 c5=>
   rw[hr5] at HC5
   have HE5:=hHi hr5
   clear hr5
   refine hMo HC5 ?_
   rintro e wf ⟨rfl,hgf⟩
   simp only[FE]
   go_wp2
   refine⟨rfl,?_⟩
   have hfin:plainR d L=.bad p5 c5:=by unfold plainR;rw[if_neg HX.out];rw[HE2.out];(try dsimp only[PR.bind]);(try dsimp only);rw[HCR.out];(try dsimp only[PR.bind]);(try dsimp only);rw[HE5.out];try rfl
   show RS R w (plainR d L) _ _
   rw[hfin]
   exact⟨rfl,FrS.of <| gr_tr HG4.out hgf⟩
  | ok u1 L5=>
  rw[hr5] at HC5
  have HE5:=hHi hr5
  clear hr5
  refine hMo HC5 ?_
  rintro e a5 ⟨rfl,hr,hg⟩
  have HN5:=hHi hg
  have HR5:=hHi hr
  have HG5:=hHi (gr_tr HG4.out hg)
  clear hr hg
  have Kp_5:=kZ Kp_4 HN5.out HLT.out HZ3.out
  have HC6:=hU (rd_syms R D L5 a5 HR5.out)
  go_wp2_with fail
  cases hr6:syms1 L5 with
  | bad p6 c6=>
   rw[hr6] at HC6
   have HE6:=hHi hr6
   clear hr6
   refine hMo HC6 ?_
   rintro e wf ⟨rfl,hgf⟩
   simp only[FE]
   go_wp2
   refine⟨rfl,?_⟩
   have hfin:plainR d L=.bad p6 c6:=by unfold plainR;rw[if_neg HX.out];rw[HE2.out];(try dsimp only[PR.bind]);(try dsimp only);rw[HCR.out];(try dsimp only[PR.bind]);(try dsimp only);rw[HE5.out];(try dsimp only[PR.bind]);(try dsimp only);rw[HE6.out];try rfl
   show RS R w (plainR d L) _ _
   rw[hfin]
   exact⟨rfl,FrS.of <| gr_tr HG5.out hgf⟩
  | ok y L6=>
  rw[hr6] at HC6
  have HE6:=hHi hr6
  clear hr6
  refine hMo HC6 ?_
  rintro e a6 ⟨⟨sv,rfl,hsv⟩,hr,hg⟩
  have HN6:=hHi hg
  have HR6:=hHi hr
  have HG6:=hHi (gr_tr HG5.out hg)
  clear hr hg
  have Kp_6:=kZ Kp_5 HN6.out HLT.out HZ3.out
  have HYL:Hid (y.length≤12):=syms1_len HE6.out
  obtain⟨sa,sc,hsa⟩:=own_slice hsv.row
  subst hsa
  have HSY:Hid (SymsAt a6 a5.heap.size y (.slice sa y.length sc)):=hsv
  have HBP:Hid (a2.heap.size<a5.heap.size):=Blk.lt Kp_5.out
  have HGW:=hHi HG5.out.size
  clear hsv
  obtain⟨cp0_8,cp1_9,cp2_10,cp3_11,cp4_12⟩:=Kp_6.out.c5
  have zp_13:=Kp_6.out.frozen
  have lp_13:=Kp_6.out.lt
  obtain⟨a7,ha7⟩:∃qW,a6.setCell ⟨a2.heap.size,4,none⟩ (.slice sa y.length sc)=qW:=⟨_,rfl⟩
  have HN7:Hid (a6.grownBy a7 (some a2.heap.size)):=by show World.grownBy _ _ _;rw[←ha7];exact grownBy_setCell _ _ _ _
  have HR7:=hHi (Rd.kept HR6.out HN7.out (by have:=HLT.out;have:=HZ3.out;omega))
  have HG7:Hid (w.grownBy a7 (some R)):=gr_new HG6.out HN7.out HZ3.out
  have Kp_7:Hid (Blk a7 a2.heap.size 57 #[.bool false,.string n,.string ⟨#[]⟩,.bool false,.slice sa y.length sc]):=by show Blk _ _ _ _;rw[←ha7];exact Blk.set Kp_6.out 4 _
  have HSY2:Hid (SymsAt a7 a5.heap.size y (.slice sa y.length sc)):=HSY.out.kept HN7.out HBP.out
  obtain⟨cp0_14,cp1_15,cp2_16,cp3_17,cp4_18⟩:=Kp_7.out.c5
  have HC19:=hU (rd_want R D L6 [98,114,97,99,107,101,116] a7 HR7.out (by simp))
  go_wp2_with fail
  cases hr19:wantR [98,114,97,99,107,101,116] L6 with
  | bad p19 c19=>
   rw[hr19] at HC19
   have HE19:=hHi hr19
   clear hr19
   refine hMo HC19 ?_
   rintro e wf ⟨rfl,hgf⟩
   simp only[FE]
   go_wp2
   refine⟨rfl,?_⟩
   have hfin:plainR d L=.bad p19 c19:=by unfold plainR;rw[if_neg HX.out];rw[HE2.out];(try dsimp only[PR.bind]);(try dsimp only);rw[HCR.out];(try dsimp only[PR.bind]);(try dsimp only);rw[HE5.out];(try dsimp only[PR.bind]);(try dsimp only);rw[HE6.out];(try dsimp only[PR.bind]);(try dsimp only);rw[if_pos (show em ⟨#[]⟩=true from rfl)];rw[HE19.out];try rfl
   show RS R w (plainR d L) _ _
   rw[hfin]
   exact⟨rfl,FrS.of <| gr_tr HG7.out hgf⟩
  | ok u2 L19=>
  rw[hr19] at HC19
  have HE19:=hHi hr19
  clear hr19
  refine hMo HC19 ?_
  rintro e a19 ⟨rfl,hr,hg⟩
  have HN19:=hHi hg
  have HR19:=hHi hr
  have HG19:=hHi (gr_tr HG7.out hg)
  clear hr hg
  have Kp_19:=kZ Kp_7 HN19.out HLT.out HZ3.out
  have HSY3:Hid (SymsAt a19 a5.heap.size y (.slice sa y.length sc)):=HSY2.out.kept HN19.out (by have:=HLT.out;have:=HGW.out;omega)
  obtain⟨cp0_21,cp1_22,cp2_23,cp3_24,cp4_25⟩:=Kp_19.out.c5
  have zp_26:=Kp_19.out.frozen
  have lp_26:=Kp_19.out.lt
  obtain⟨a20,ha20⟩:∃qW,a19.setCell ⟨a2.heap.size,3,none⟩ (.bool true)=qW:=⟨_,rfl⟩
  have HN20:Hid (a19.grownBy a20 (some a2.heap.size)):=by show World.grownBy _ _ _;rw[←ha20];exact grownBy_setCell _ _ _ _
  have HR20:=hHi (Rd.kept HR19.out HN20.out (by have:=HLT.out;have:=HZ3.out;omega))
  have HG20:Hid (w.grownBy a20 (some R)):=gr_new HG19.out HN20.out HZ3.out
  have Kp_20:Hid (Blk a20 a2.heap.size 57 #[.bool false,.string n,.string ⟨#[]⟩,.bool true,.slice sa y.length sc]):=by show Blk _ _ _ _;rw[←ha20];exact Blk.set Kp_19.out 3 _
  have HSY4:Hid (SymsAt a20 a5.heap.size y (.slice sa y.length sc)):=HSY3.out.kept HN20.out HBP.out
  have HR27:Hid (Rd a20 R [.string d.start,.string d.layout,v2,v3,v4,v5,v6] L19):=by have:=HR20.out;rw[←HDE.out] at this;exact this
  obtain⟨cp0_28,cp1_29,cp2_30,cp3_31,cp4_32⟩:=Kp_20.out.c5
  have HDI2:Hid (DefIn a20 (R+1) h0 d v2 v3 v4 v5 v6 Lp Lc Lb):=HDI.out.keep (fun b h1 h2=>HG20.out.block b (Nat.lt_of_lt_of_le h2 HDI.out.up) (by simp;omega)) HG20.out.size
  obtain⟨va,vc,hva⟩:=own_slice HDI2.out.rp
  have HVA:=hHi hva
  have HCV:Hid (a20.drew.cell? ⟨R,3,none⟩=some (.slice va Lp.length vc)):=by
   show _=_
   have:=Rd.cellD (HR27.out.below (below_dr a20)) 2 (v:=v2) rfl
   rw[hva] at this
   exact this
  have HGD:Hid (w.grownBy a20.drew (some R)):=grown_below HG20.out (below_dr _)
  have HRD:Hid (Rd a20.drew R [.string d.start,.string d.layout,v2,v3,v4,v5,v6] L19):=HR27.out.below (below_dr _)
  have HDD:Hid (DefIn a20.drew (R+1) h0 d v2 v3 v4 v5 v6 Lp Lc Lb):=HDI2.out.below (below_dr _)
  have HKB:Hid (Blk a20.drew a2.heap.size 57 #[.bool false,.string n,.string ⟨#[]⟩,.bool true,.slice sa y.length sc]):=Blk.after Kp_20.out (below_dr _)
  have HZB:Hid (w.heap.size≤a2.heap.size):=HZ3.out
  have HSB:Hid (a2.heap.size<a20.heap.size):=Blk.lt Kp_20.out
  have cv1:=HCV.out
  clear hva
  go_wp2
  refine wp_region_held_drew (S:=fun W=>W.cell? ⟨a2.heap.size,0,none⟩=some (.bool false)∧W.cell? ⟨a2.heap.size,1,none⟩=some (.string n)∧W.cell? ⟨a2.heap.size,2,none⟩=some (.string ⟨#[]⟩)∧W.cell? ⟨a2.heap.size,3,none⟩=some (.bool true)∧W.cell? ⟨a2.heap.size,4,none⟩=some (.slice sa y.length sc)) (by kernel_rfl) HKB.out.c5 (fun hHeld=>?_)
  refine tk 0 rfl (by assumption) ?_
  refine tk 1 rfl (by assumption) ?_
  refine tk 2 rfl (by assumption) ?_
  refine tk 3 rfl (by assumption) ?_
  refine tk 4 rfl (by assumption) ?_
  refine tk 6 rfl (by assumption) ?_
  refine wpAnyH_ready (rs:=[5,7]) (by kernel_rfl) (by simp) ?_
  refine (AllReadyH.cons rfl (fun K hK=>?_) (AllReadyH.cons rfl (fun K hK=>?_) AllReadyH.nil))
  ·skip
   go_simp
   refine hK.out _ _ HKB.out.c5 (fun hHeld=>?_)
   clear hK K
   refine rd1 7 rfl (fun K hK=>?_)
   have HKB2:Hid (Blk (a20.drew.alloc (.cells #[.bool false,.string n,.string ⟨#[]⟩,.bool true,.slice sa y.length sc] 57)) a2.heap.size 57 #[.bool false,.string n,.string ⟨#[]⟩,.bool true,.slice sa y.length sc]):=Blk.alloc (W:=a20.drew) HKB.out _
   have cv2:(a20.drew.alloc (.cells #[.bool false,.string n,.string ⟨#[]⟩,.bool true,.slice sa y.length sc] 57)).cell? ⟨R,3,none⟩=some (.slice va Lp.length vc):=(((Below.refl _ a20.drew).alloc (Nat.le_refl _) _).cell (p:=⟨R,3,none⟩) HRD.out.lt).trans HCV.out
   go_simp
   refine hK.out _ _ HKB2.out.c5 (fun hHeld=>?_)
   clear hK K
   refine rd1 8 rfl (fun K hK=>?_)
   have hrowv:a20.drew.ownsRow (R+1) 57 5 (.slice va Lp.length vc) Lp.length (Lp.flatMap pcell):=by have:=HDD.out.rp;rw[HVA.out] at this;exact this
   refine step_append_lies _ rfl _ _ 22 rfl (R+1) 57 i0 _ 5 72 Tryz.underlying22 hi hz0 hz1 hz2 rfl (by decide) (.slice va Lp.length vc) Lp.length (Lp.flatMap pcell) rfl (hrowv.alloc _) ⟨a20.heap.size,0,none⟩ 1 1 (pcell ((⟨false,n,⟨#[]⟩,true,y⟩:Pr),Value.slice sa y.length sc)) rfl rfl (new_cells a20.drew 57 (pcell ((⟨false,n,⟨#[]⟩,true,y⟩:Pr),Value.slice sa y.length sc))) (by intro u hu;simp[pcell] at hu;(rcases hu with rfl | rfl | rfl | rfl | rfl<;>rfl)) (by decide) (by unfold maxLen;omega) (by omega) (by have:=HRD.out.lt;simp at this ⊢;omega) (a20.heap.size+1) (by simp) ?_
   intro g1 cap1 w7 hown hgrow hat hlt7
   have hgv:(a20.drew.alloc (.cells #[.bool false,.string n,.string ⟨#[]⟩,.bool true,.slice sa y.length sc] 57)).grownBy w7 v2.ownBlock:=by rw[HVA.out];exact hgrow
   have HFR:Hid (FrS w w7 R):=FrS.push (FrS.of HGD.out) HDD.out.rp (by decide) hgv
   have hob:∀b,v2.ownBlock=some b→R+1≤b∧b<h0:=fun b hb=>⟨(HDD.out.rp.lt b hb).1,HDD.out.lo v2 (by simp) b hb⟩
   have HR7:Hid (Rd w7 R [.string d.start,.string d.layout,v2,v3,v4,v5,v6] L19):=(HRD.out.below ((Below.refl _ _).alloc (Nat.le_refl _) _)).keptO hgv (fun b hb=>(hob b hb).1)
   have HD7:Hid _:=HDD.out.push_prod (⟨false,n,⟨#[]⟩,true,y⟩:Pr) (.slice sa y.length sc) ((SymsAt.after HSY4.out (below_dr _)).sls HYL.out|>.keep (fun _ _ _=>rfl) (fun b hb=>⟨by have:=HDI.out.up;have:=HGW.out;omega,hb.2⟩) (fun _ _ h=>h)) HUP.out hown hgv (by rw[HVA.out];exact hat) hlt7
   have hup0:=HUP.out
   have HKB7:=kK HKB2 hgv (fun e=>by have:=hob _ e.symm;have:=HZB.out;have:=HDI.out.up;omega)
   have cr7:w7.cell? ⟨R,3,none⟩=some (.slice va Lp.length vc):=by have:=Rd.cellD HR7.out 2 (v:=v2) rfl;rw[HVA.out] at this;exact this
   have zr7:=Rd.frozenD HR7.out 3
   have lr7:=HR7.out.lt
   clear hown hgrow hgv hat hlt7 hob hrowv hup0
   refine hK.out _ _ HKB7.out.c5 (fun hHeld=>?_)
   clear hK K
   refine tk 9 rfl (by assumption) ?_
   refine tk 10 rfl (by assumption) ?_
   refine tk 11 rfl (by assumption) ?_
   refine rd1 12 rfl (fun K hK=>?_)
   have HKB8:Hid (Blk (w7.setCell ⟨R,3,none⟩ (.slice (some ⟨g1,0,none⟩) (Lp.length+1) cap1)) a2.heap.size 57 #[.bool false,.string n,.string ⟨#[]⟩,.bool true,.slice sa y.length sc]):=Blk.kept HKB7.out (grownBy_setCell _ _ _ _) (by have:=HLT.out;have:=HZB.out;simp;omega)
   go_simp
   refine hK.out _ _ HKB8.out.c5 (fun hHeld=>?_)
   clear hK K
   refine wpAnyH_done (by kernel_rfl) ?_ _
   clear hHeld
   have HFIN:Hid (∀W,(w7.setCell ⟨R,3,none⟩ (.slice (some ⟨g1,0,none⟩) (Lp.length+1) cap1))=W→(∃D' hi,Rd W R D' L19∧DefAt W (R+1) hi { d with prods:=d.prods++[⟨false,n,⟨#[]⟩,true,y⟩] } D')∧FrS w W R):=fun W hW=>by
    have hg:w7.grownBy W (some R):=by rw[←hW];exact grownBy_setCell _ _ _ _
    refine⟨⟨_,_,by rw[←hW];exact Rd.setD (i:=2) HR7.out _,_,_,_,_,_,_,_,_,rfl,HD7.out.gr hg (.inl (Nat.lt_succ_self _))⟩,by rw[←hW];exact HFR.out.set _⟩
   go_wp2
   go_end0
   obtain⟨h1,h2⟩:=HFIN.out _ rfl
   have hfin:plainR d L=.ok { d with prods:=d.prods++[⟨false,n,⟨#[]⟩,true,y⟩] } L19:=by unfold plainR;rw[if_neg HX.out];rw[HE2.out];(try dsimp only[PR.bind]);(try dsimp only);rw[HCR.out];(try dsimp only[PR.bind]);(try dsimp only);rw[HE5.out];(try dsimp only[PR.bind]);(try dsimp only);rw[HE6.out];(try dsimp only[PR.bind]);(try dsimp only);rw[if_pos (show em ⟨#[]⟩=true from rfl)];rw[HE19.out];(try dsimp only[PR.bind]);(try dsimp only)
   show RS R w (plainR d L) _ _
   rw[hfin]
   exact⟨rfl,h1,h2⟩
  ·skip
   have HKB2:Hid (Blk (a20.drew.alloc (.cells #[.bool false,.string n,.string ⟨#[]⟩,.bool true,.slice sa y.length sc] 57)) a2.heap.size 57 #[.bool false,.string n,.string ⟨#[]⟩,.bool true,.slice sa y.length sc]):=Blk.alloc (W:=a20.drew) HKB.out _
   have cv2:(a20.drew.alloc (.cells #[.bool false,.string n,.string ⟨#[]⟩,.bool true,.slice sa y.length sc] 57)).cell? ⟨R,3,none⟩=some (.slice va Lp.length vc):=(((Below.refl _ a20.drew).alloc (Nat.le_refl _) _).cell (p:=⟨R,3,none⟩) HRD.out.lt).trans HCV.out
   go_simp
   refine hK.out _ _ HKB2.out.c5 (fun hHeld=>?_)
   clear hK K
   have cv3:a20.cell? ⟨R,3,none⟩=some (.slice va Lp.length vc):=HCV.out
   have lz3:R<a20.heap.size:=HRD.out.lt
   have cv4:=(((Below.refl _ a20).alloc (Nat.le_refl _) (.cells #[.bool false,.string n,.string ⟨#[]⟩,.bool true,.slice sa y.length sc] 57)).cell (p:=⟨R,3,none⟩) lz3).trans cv3
   refine rd1 5 rfl (fun K hK=>?_)
   go_simp
   refine hK.out _ _ HKB2.out.c5 (fun hHeld=>?_)
   clear hK K
   clear cv3 cv4 lz3
   refine rd1 8 rfl (fun K hK=>?_)
   have hrowv:a20.drew.ownsRow (R+1) 57 5 (.slice va Lp.length vc) Lp.length (Lp.flatMap pcell):=by have:=HDD.out.rp;rw[HVA.out] at this;exact this
   refine step_append_lies _ rfl _ _ 22 rfl (R+1) 57 i0 _ 5 72 Tryz.underlying22 hi hz0 hz1 hz2 rfl (by decide) (.slice va Lp.length vc) Lp.length (Lp.flatMap pcell) rfl (hrowv.alloc _) ⟨a20.heap.size,0,none⟩ 1 1 (pcell ((⟨false,n,⟨#[]⟩,true,y⟩:Pr),Value.slice sa y.length sc)) rfl rfl (new_cells a20.drew 57 (pcell ((⟨false,n,⟨#[]⟩,true,y⟩:Pr),Value.slice sa y.length sc))) (by intro u hu;simp[pcell] at hu;(rcases hu with rfl | rfl | rfl | rfl | rfl<;>rfl)) (by decide) (by unfold maxLen;omega) (by omega) (by have:=HRD.out.lt;simp at this ⊢;omega) (a20.heap.size+1) (by simp) ?_
   intro g1 cap1 w7 hown hgrow hat hlt7
   have hgv:(a20.drew.alloc (.cells #[.bool false,.string n,.string ⟨#[]⟩,.bool true,.slice sa y.length sc] 57)).grownBy w7 v2.ownBlock:=by rw[HVA.out];exact hgrow
   have HFR:Hid (FrS w w7 R):=FrS.push (FrS.of HGD.out) HDD.out.rp (by decide) hgv
   have hob:∀b,v2.ownBlock=some b→R+1≤b∧b<h0:=fun b hb=>⟨(HDD.out.rp.lt b hb).1,HDD.out.lo v2 (by simp) b hb⟩
   have HR7:Hid (Rd w7 R [.string d.start,.string d.layout,v2,v3,v4,v5,v6] L19):=(HRD.out.below ((Below.refl _ _).alloc (Nat.le_refl _) _)).keptO hgv (fun b hb=>(hob b hb).1)
   have HD7:Hid _:=HDD.out.push_prod (⟨false,n,⟨#[]⟩,true,y⟩:Pr) (.slice sa y.length sc) ((SymsAt.after HSY4.out (below_dr _)).sls HYL.out|>.keep (fun _ _ _=>rfl) (fun b hb=>⟨by have:=HDI.out.up;have:=HGW.out;omega,hb.2⟩) (fun _ _ h=>h)) HUP.out hown hgv (by rw[HVA.out];exact hat) hlt7
   have hup0:=HUP.out
   have HKB7:=kK HKB2 hgv (fun e=>by have:=hob _ e.symm;have:=HZB.out;have:=HDI.out.up;omega)
   have cr7:w7.cell? ⟨R,3,none⟩=some (.slice va Lp.length vc):=by have:=Rd.cellD HR7.out 2 (v:=v2) rfl;rw[HVA.out] at this;exact this
   have zr7:=Rd.frozenD HR7.out 3
   have lr7:=HR7.out.lt
   clear hown hgrow hgv hat hlt7 hob hrowv hup0
   refine hK.out _ _ HKB7.out.c5 (fun hHeld=>?_)
   clear hK K
   refine tk 9 rfl (by assumption) ?_
   refine tk 10 rfl (by assumption) ?_
   refine tk 11 rfl (by assumption) ?_
   refine rd1 12 rfl (fun K hK=>?_)
   have HKB8:Hid (Blk (w7.setCell ⟨R,3,none⟩ (.slice (some ⟨g1,0,none⟩) (Lp.length+1) cap1)) a2.heap.size 57 #[.bool false,.string n,.string ⟨#[]⟩,.bool true,.slice sa y.length sc]):=Blk.kept HKB7.out (grownBy_setCell _ _ _ _) (by have:=HLT.out;have:=HZB.out;simp;omega)
   go_simp
   refine hK.out _ _ HKB8.out.c5 (fun hHeld=>?_)
   clear hK K
   refine wpAnyH_done (by kernel_rfl) ?_ _
   clear hHeld
   have HFIN:Hid (∀W,(w7.setCell ⟨R,3,none⟩ (.slice (some ⟨g1,0,none⟩) (Lp.length+1) cap1))=W→(∃D' hi,Rd W R D' L19∧DefAt W (R+1) hi { d with prods:=d.prods++[⟨false,n,⟨#[]⟩,true,y⟩] } D')∧FrS w W R):=fun W hW=>by
    have hg:w7.grownBy W (some R):=by rw[←hW];exact grownBy_setCell _ _ _ _
    refine⟨⟨_,_,by rw[←hW];exact Rd.setD (i:=2) HR7.out _,_,_,_,_,_,_,_,_,rfl,HD7.out.gr hg (.inl (Nat.lt_succ_self _))⟩,by rw[←hW];exact HFR.out.set _⟩
   go_wp2
   go_end0
   obtain⟨h1,h2⟩:=HFIN.out _ rfl
   have hfin:plainR d L=.ok { d with prods:=d.prods++[⟨false,n,⟨#[]⟩,true,y⟩] } L19:=by unfold plainR;rw[if_neg HX.out];rw[HE2.out];(try dsimp only[PR.bind]);(try dsimp only);rw[HCR.out];(try dsimp only[PR.bind]);(try dsimp only);rw[HE5.out];(try dsimp only[PR.bind]);(try dsimp only);rw[HE6.out];(try dsimp only[PR.bind]);(try dsimp only);rw[if_pos (show em ⟨#[]⟩=true from rfl)];rw[HE19.out];(try dsimp only[PR.bind]);(try dsimp only)
   show RS R w (plainR d L) _ _
   rw[hfin]
   exact⟨rfl,h1,h2⟩
 | true=>
 have Q1:=hHi q1
 have HSK:=hU (skip_yes R D L2 [46] a3 HR3.out q1 (by simp))
 have HCR:Hid (consR L2=nameR L2.tail):=by show _=_;unfold consR;rw[q1];rfl
 clear q1
 refine hMo HSK ?_
 rintro e a203 ⟨rfl,hr,hg⟩
 have HN203:=hHi hg
 have HR203:=hHi hr
 have HG203:=hHi (gr_tr HG3.out hg)
 clear hr hg
 have Kp_203:=kZ Kp_3 HN203.out HLT.out HZ3.out
 have HC204:=hU (rd_name R D L2.tail a203 HR203.out)
 go_wp2_with fail
 cases hr204:nameR L2.tail with
 | bad p204 c204=>
  rw[hr204] at HC204
  have HE204:=hHi hr204
  clear hr204
  refine hMo HC204 ?_
  rintro e wf ⟨rfl,hgf⟩
  simp only[FE]
  go_wp2
  refine⟨rfl,?_⟩
  have hfin:plainR d L=.bad p204 c204:=by unfold plainR;rw[if_neg HX.out];rw[HE2.out];(try dsimp only[PR.bind]);(try dsimp only);rw[HCR.out];rw[HE204.out];try rfl
  show RS R w (plainR d L) _ _
  rw[hfin]
  exact⟨rfl,FrS.of <| gr_tr HG203.out hgf⟩
 | ok cn L204=>
 rw[hr204] at HC204
 have HE204:=hHi hr204
 clear hr204
 refine hMo HC204 ?_
 rintro e a204 ⟨rfl,hr,hg⟩
 have HN204:=hHi hg
 have HR204:=hHi hr
 have HG204:=hHi (gr_tr HG203.out hg)
 clear hr hg
 have Kp_204:=kZ Kp_203 HN204.out HLT.out HZ3.out
 obtain⟨cp0_206,cp1_207,cp2_208,cp3_209,cp4_210⟩:=Kp_204.out.c5
 have zp_211:=Kp_204.out.frozen
 have lp_211:=Kp_204.out.lt
 obtain⟨a205,ha205⟩:∃qW,a204.setCell ⟨a2.heap.size,2,none⟩ (.string cn)=qW:=⟨_,rfl⟩
 have HN205:Hid (a204.grownBy a205 (some a2.heap.size)):=by show World.grownBy _ _ _;rw[←ha205];exact grownBy_setCell _ _ _ _
 have HR205:=hHi (Rd.kept HR204.out HN205.out (by have:=HLT.out;have:=HZ3.out;omega))
 have HG205:Hid (w.grownBy a205 (some R)):=gr_new HG204.out HN205.out HZ3.out
 have Kp_205:Hid (Blk a205 a2.heap.size 57 #[.bool false,.string n,.string cn,.bool false,.slice none 0 0]):=by show Blk _ _ _ _;rw[←ha205];exact Blk.set Kp_204.out 2 _
 have HC212:=hU (rd_want R D L204 [61] a205 HR205.out (by simp))
 go_wp2_with fail
 cases hr212:wantR [61] L204 with
 | bad p212 c212=>
  rw[hr212] at HC212
  have HE212:=hHi hr212
  clear hr212
  refine hMo HC212 ?_
  rintro e wf ⟨rfl,hgf⟩
  simp only[FE]
  go_wp2
  refine⟨rfl,?_⟩
  have hfin:plainR d L=.bad p212 c212:=by unfold plainR;rw[if_neg HX.out];rw[HE2.out];(try dsimp only[PR.bind]);(try dsimp only);rw[HCR.out];rw[HE204.out];(try dsimp only[PR.bind]);(try dsimp only);rw[HE212.out];try rfl
  show RS R w (plainR d L) _ _
  rw[hfin]
  exact⟨rfl,FrS.of <| gr_tr HG205.out hgf⟩
 | ok u1 L212=>
 rw[hr212] at HC212
 have HE212:=hHi hr212
 clear hr212
 refine hMo HC212 ?_
 rintro e a212 ⟨rfl,hr,hg⟩
 have HN212:=hHi hg
 have HR212:=hHi hr
 have HG212:=hHi (gr_tr HG205.out hg)
 clear hr hg
 have Kp_212:=kZ Kp_205 HN212.out HLT.out HZ3.out
 have HC213:=hU (rd_syms R D L212 a212 HR212.out)
 go_wp2_with fail
 cases hr213:syms1 L212 with
 | bad p213 c213=>
  rw[hr213] at HC213
  have HE213:=hHi hr213
  clear hr213
  refine hMo HC213 ?_
  rintro e wf ⟨rfl,hgf⟩
  simp only[FE]
  go_wp2
  refine⟨rfl,?_⟩
  have hfin:plainR d L=.bad p213 c213:=by unfold plainR;rw[if_neg HX.out];rw[HE2.out];(try dsimp only[PR.bind]);(try dsimp only);rw[HCR.out];rw[HE204.out];(try dsimp only[PR.bind]);(try dsimp only);rw[HE212.out];(try dsimp only[PR.bind]);(try dsimp only);rw[HE213.out];try rfl
  show RS R w (plainR d L) _ _
  rw[hfin]
  exact⟨rfl,FrS.of <| gr_tr HG212.out hgf⟩
 | ok y L213=>
 rw[hr213] at HC213
 have HE213:=hHi hr213
 clear hr213
 refine hMo HC213 ?_
 rintro e a213 ⟨⟨sv,rfl,hsv⟩,hr,hg⟩
 have HN213:=hHi hg
 have HR213:=hHi hr
 have HG213:=hHi (gr_tr HG212.out hg)
 clear hr hg
 have Kp_213:=kZ Kp_212 HN213.out HLT.out HZ3.out
 have HYL:Hid (y.length≤12):=syms1_len HE213.out
 obtain⟨sa,sc,hsa⟩:=own_slice hsv.row
 subst hsa
 have HSY:Hid (SymsAt a213 a212.heap.size y (.slice sa y.length sc)):=hsv
 have HBP:Hid (a2.heap.size<a212.heap.size):=Blk.lt Kp_212.out
 have HGW:=hHi HG212.out.size
 clear hsv
 obtain⟨cp0_215,cp1_216,cp2_217,cp3_218,cp4_219⟩:=Kp_213.out.c5
 have zp_220:=Kp_213.out.frozen
 have lp_220:=Kp_213.out.lt
 obtain⟨a214,ha214⟩:∃qW,a213.setCell ⟨a2.heap.size,4,none⟩ (.slice sa y.length sc)=qW:=⟨_,rfl⟩
 have HN214:Hid (a213.grownBy a214 (some a2.heap.size)):=by show World.grownBy _ _ _;rw[←ha214];exact grownBy_setCell _ _ _ _
 have HR214:=hHi (Rd.kept HR213.out HN214.out (by have:=HLT.out;have:=HZ3.out;omega))
 have HG214:Hid (w.grownBy a214 (some R)):=gr_new HG213.out HN214.out HZ3.out
 have Kp_214:Hid (Blk a214 a2.heap.size 57 #[.bool false,.string n,.string cn,.bool false,.slice sa y.length sc]):=by show Blk _ _ _ _;rw[←ha214];exact Blk.set Kp_213.out 4 _
 have HSY2:Hid (SymsAt a214 a212.heap.size y (.slice sa y.length sc)):=HSY.out.kept HN214.out HBP.out
 obtain⟨cp0_221,cp1_222,cp2_223,cp3_224,cp4_225⟩:=Kp_214.out.c5
 by_cases hem:cn.size=0
 case pos=>
  have HEM:Hid _:=em_eq hem
  have hie:cn.toList.isEmpty=true:=by rw[str_empty _ hem,ByteArray.toList_eq];rfl
  clear hem
  have HC226:=hU (rd_want R D L213 [98,114,97,99,107,101,116] a214 HR214.out (by simp))
  go_wp2_with fail
  cases hr226:wantR [98,114,97,99,107,101,116] L213 with
  | bad p226 c226=>
   rw[hr226] at HC226
   have HE226:=hHi hr226
   clear hr226
   refine hMo HC226 ?_
   rintro e wf ⟨rfl,hgf⟩
   simp only[FE]
   go_wp2
   refine⟨rfl,?_⟩
   have hfin:plainR d L=.bad p226 c226:=by unfold plainR;rw[if_neg HX.out];rw[HE2.out];(try dsimp only[PR.bind]);(try dsimp only);rw[HCR.out];rw[HE204.out];(try dsimp only[PR.bind]);(try dsimp only);rw[HE212.out];(try dsimp only[PR.bind]);(try dsimp only);rw[HE213.out];(try dsimp only[PR.bind]);(try dsimp only);rw[if_pos HEM.out];rw[HE226.out];try rfl
   show RS R w (plainR d L) _ _
   rw[hfin]
   exact⟨rfl,FrS.of <| gr_tr HG214.out hgf⟩
  | ok u2 L226=>
  rw[hr226] at HC226
  have HE226:=hHi hr226
  clear hr226
  refine hMo HC226 ?_
  rintro e a226 ⟨rfl,hr,hg⟩
  have HN226:=hHi hg
  have HR226:=hHi hr
  have HG226:=hHi (gr_tr HG214.out hg)
  clear hr hg
  have Kp_226:=kZ Kp_214 HN226.out HLT.out HZ3.out
  have HSY3:Hid (SymsAt a226 a212.heap.size y (.slice sa y.length sc)):=HSY2.out.kept HN226.out (by have:=HLT.out;have:=HGW.out;omega)
  obtain⟨cp0_228,cp1_229,cp2_230,cp3_231,cp4_232⟩:=Kp_226.out.c5
  have zp_233:=Kp_226.out.frozen
  have lp_233:=Kp_226.out.lt
  obtain⟨a227,ha227⟩:∃qW,a226.setCell ⟨a2.heap.size,3,none⟩ (.bool true)=qW:=⟨_,rfl⟩
  have HN227:Hid (a226.grownBy a227 (some a2.heap.size)):=by show World.grownBy _ _ _;rw[←ha227];exact grownBy_setCell _ _ _ _
  have HR227:=hHi (Rd.kept HR226.out HN227.out (by have:=HLT.out;have:=HZ3.out;omega))
  have HG227:Hid (w.grownBy a227 (some R)):=gr_new HG226.out HN227.out HZ3.out
  have Kp_227:Hid (Blk a227 a2.heap.size 57 #[.bool false,.string n,.string cn,.bool true,.slice sa y.length sc]):=by show Blk _ _ _ _;rw[←ha227];exact Blk.set Kp_226.out 3 _
  have HSY4:Hid (SymsAt a227 a212.heap.size y (.slice sa y.length sc)):=HSY3.out.kept HN227.out HBP.out
  have HR234:Hid (Rd a227 R [.string d.start,.string d.layout,v2,v3,v4,v5,v6] L226):=by have:=HR227.out;rw[←HDE.out] at this;exact this
  obtain⟨cp0_235,cp1_236,cp2_237,cp3_238,cp4_239⟩:=Kp_227.out.c5
  have HDI2:Hid (DefIn a227 (R+1) h0 d v2 v3 v4 v5 v6 Lp Lc Lb):=HDI.out.keep (fun b h1 h2=>HG227.out.block b (Nat.lt_of_lt_of_le h2 HDI.out.up) (by simp;omega)) HG227.out.size
  obtain⟨va,vc,hva⟩:=own_slice HDI2.out.rp
  have HVA:=hHi hva
  have HCV:Hid (a227.drew.cell? ⟨R,3,none⟩=some (.slice va Lp.length vc)):=by
   show _=_
   have:=Rd.cellD (HR234.out.below (below_dr a227)) 2 (v:=v2) rfl
   rw[hva] at this
   exact this
  have HGD:Hid (w.grownBy a227.drew (some R)):=grown_below HG227.out (below_dr _)
  have HRD:Hid (Rd a227.drew R [.string d.start,.string d.layout,v2,v3,v4,v5,v6] L226):=HR234.out.below (below_dr _)
  have HDD:Hid (DefIn a227.drew (R+1) h0 d v2 v3 v4 v5 v6 Lp Lc Lb):=HDI2.out.below (below_dr _)
  have HKB:Hid (Blk a227.drew a2.heap.size 57 #[.bool false,.string n,.string cn,.bool true,.slice sa y.length sc]):=Blk.after Kp_227.out (below_dr _)
  have HZB:Hid (w.heap.size≤a2.heap.size):=HZ3.out
  have HSB:Hid (a2.heap.size<a227.heap.size):=Blk.lt Kp_227.out
  have cv1:=HCV.out
  clear hva
  go_wp2
  refine wp_region_held_drew (S:=fun W=>W.cell? ⟨a2.heap.size,0,none⟩=some (.bool false)∧W.cell? ⟨a2.heap.size,1,none⟩=some (.string n)∧W.cell? ⟨a2.heap.size,2,none⟩=some (.string cn)∧W.cell? ⟨a2.heap.size,3,none⟩=some (.bool true)∧W.cell? ⟨a2.heap.size,4,none⟩=some (.slice sa y.length sc)) (by kernel_rfl) HKB.out.c5 (fun hHeld=>?_)
  refine tk 0 rfl (by assumption) ?_
  refine tk 1 rfl (by assumption) ?_
  refine tk 2 rfl (by assumption) ?_
  refine tk 3 rfl (by assumption) ?_
  refine tk 4 rfl (by assumption) ?_
  refine tk 6 rfl (by assumption) ?_
  refine wpAnyH_ready (rs:=[5,7]) (by kernel_rfl) (by simp) ?_
  refine (AllReadyH.cons rfl (fun K hK=>?_) (AllReadyH.cons rfl (fun K hK=>?_) AllReadyH.nil))
  ·skip
   go_simp
   refine hK.out _ _ HKB.out.c5 (fun hHeld=>?_)
   clear hK K
   refine rd1 7 rfl (fun K hK=>?_)
   have HKB2:Hid (Blk (a227.drew.alloc (.cells #[.bool false,.string n,.string cn,.bool true,.slice sa y.length sc] 57)) a2.heap.size 57 #[.bool false,.string n,.string cn,.bool true,.slice sa y.length sc]):=Blk.alloc (W:=a227.drew) HKB.out _
   have cv2:(a227.drew.alloc (.cells #[.bool false,.string n,.string cn,.bool true,.slice sa y.length sc] 57)).cell? ⟨R,3,none⟩=some (.slice va Lp.length vc):=(((Below.refl _ a227.drew).alloc (Nat.le_refl _) _).cell (p:=⟨R,3,none⟩) HRD.out.lt).trans HCV.out
   go_simp
   refine hK.out _ _ HKB2.out.c5 (fun hHeld=>?_)
   clear hK K
   refine rd1 8 rfl (fun K hK=>?_)
   have hrowv:a227.drew.ownsRow (R+1) 57 5 (.slice va Lp.length vc) Lp.length (Lp.flatMap pcell):=by have:=HDD.out.rp;rw[HVA.out] at this;exact this
   refine step_append_lies _ rfl _ _ 22 rfl (R+1) 57 i0 _ 5 72 Tryz.underlying22 hi hz0 hz1 hz2 rfl (by decide) (.slice va Lp.length vc) Lp.length (Lp.flatMap pcell) rfl (hrowv.alloc _) ⟨a227.heap.size,0,none⟩ 1 1 (pcell ((⟨false,n,cn,true,y⟩:Pr),Value.slice sa y.length sc)) rfl rfl (new_cells a227.drew 57 (pcell ((⟨false,n,cn,true,y⟩:Pr),Value.slice sa y.length sc))) (by intro u hu;simp[pcell] at hu;(rcases hu with rfl | rfl | rfl | rfl | rfl<;>rfl)) (by decide) (by unfold maxLen;omega) (by omega) (by have:=HRD.out.lt;simp at this ⊢;omega) (a227.heap.size+1) (by simp) ?_
   intro g1 cap1 w7 hown hgrow hat hlt7
   have hgv:(a227.drew.alloc (.cells #[.bool false,.string n,.string cn,.bool true,.slice sa y.length sc] 57)).grownBy w7 v2.ownBlock:=by rw[HVA.out];exact hgrow
   have HFR:Hid (FrS w w7 R):=FrS.push (FrS.of HGD.out) HDD.out.rp (by decide) hgv
   have hob:∀b,v2.ownBlock=some b→R+1≤b∧b<h0:=fun b hb=>⟨(HDD.out.rp.lt b hb).1,HDD.out.lo v2 (by simp) b hb⟩
   have HR7:Hid (Rd w7 R [.string d.start,.string d.layout,v2,v3,v4,v5,v6] L226):=(HRD.out.below ((Below.refl _ _).alloc (Nat.le_refl _) _)).keptO hgv (fun b hb=>(hob b hb).1)
   have HD7:Hid _:=HDD.out.push_prod (⟨false,n,cn,true,y⟩:Pr) (.slice sa y.length sc) ((SymsAt.after HSY4.out (below_dr _)).sls HYL.out|>.keep (fun _ _ _=>rfl) (fun b hb=>⟨by have:=HDI.out.up;have:=HGW.out;omega,hb.2⟩) (fun _ _ h=>h)) HUP.out hown hgv (by rw[HVA.out];exact hat) hlt7
   have hup0:=HUP.out
   have HKB7:=kK HKB2 hgv (fun e=>by have:=hob _ e.symm;have:=HZB.out;have:=HDI.out.up;omega)
   have cr7:w7.cell? ⟨R,3,none⟩=some (.slice va Lp.length vc):=by have:=Rd.cellD HR7.out 2 (v:=v2) rfl;rw[HVA.out] at this;exact this
   have zr7:=Rd.frozenD HR7.out 3
   have lr7:=HR7.out.lt
   clear hown hgrow hgv hat hlt7 hob hrowv hup0
   refine hK.out _ _ HKB7.out.c5 (fun hHeld=>?_)
   clear hK K
   refine tk 9 rfl (by assumption) ?_
   refine tk 10 rfl (by assumption) ?_
   refine tk 11 rfl (by assumption) ?_
   refine rd1 12 rfl (fun K hK=>?_)
   have HKB8:Hid (Blk (w7.setCell ⟨R,3,none⟩ (.slice (some ⟨g1,0,none⟩) (Lp.length+1) cap1)) a2.heap.size 57 #[.bool false,.string n,.string cn,.bool true,.slice sa y.length sc]):=Blk.kept HKB7.out (grownBy_setCell _ _ _ _) (by have:=HLT.out;have:=HZB.out;simp;omega)
   go_simp
   refine hK.out _ _ HKB8.out.c5 (fun hHeld=>?_)
   clear hK K
   refine wpAnyH_done (by kernel_rfl) ?_ _
   clear hHeld
   have HFIN:Hid (∀W,(w7.setCell ⟨R,3,none⟩ (.slice (some ⟨g1,0,none⟩) (Lp.length+1) cap1))=W→(∃D' hi,Rd W R D' L226∧DefAt W (R+1) hi { d with prods:=d.prods++[⟨false,n,cn,true,y⟩] } D')∧FrS w W R):=fun W hW=>by
    have hg:w7.grownBy W (some R):=by rw[←hW];exact grownBy_setCell _ _ _ _
    refine⟨⟨_,_,by rw[←hW];exact Rd.setD (i:=2) HR7.out _,_,_,_,_,_,_,_,_,rfl,HD7.out.gr hg (.inl (Nat.lt_succ_self _))⟩,by rw[←hW];exact HFR.out.set _⟩
   go_wp2
   go_end0
   obtain⟨h1,h2⟩:=HFIN.out _ rfl
   have hfin:plainR d L=.ok { d with prods:=d.prods++[⟨false,n,cn,true,y⟩] } L226:=by unfold plainR;rw[if_neg HX.out];rw[HE2.out];(try dsimp only[PR.bind]);(try dsimp only);rw[HCR.out];rw[HE204.out];(try dsimp only[PR.bind]);(try dsimp only);rw[HE212.out];(try dsimp only[PR.bind]);(try dsimp only);rw[HE213.out];(try dsimp only[PR.bind]);(try dsimp only);rw[if_pos HEM.out];rw[HE226.out];(try dsimp only[PR.bind]);(try dsimp only)
   show RS R w (plainR d L) _ _
   rw[hfin]
   exact⟨rfl,h1,h2⟩
  ·skip
   have HKB2:Hid (Blk (a227.drew.alloc (.cells #[.bool false,.string n,.string cn,.bool true,.slice sa y.length sc] 57)) a2.heap.size 57 #[.bool false,.string n,.string cn,.bool true,.slice sa y.length sc]):=Blk.alloc (W:=a227.drew) HKB.out _
   have cv2:(a227.drew.alloc (.cells #[.bool false,.string n,.string cn,.bool true,.slice sa y.length sc] 57)).cell? ⟨R,3,none⟩=some (.slice va Lp.length vc):=(((Below.refl _ a227.drew).alloc (Nat.le_refl _) _).cell (p:=⟨R,3,none⟩) HRD.out.lt).trans HCV.out
   go_simp
   refine hK.out _ _ HKB2.out.c5 (fun hHeld=>?_)
   clear hK K
   have cv3:a227.cell? ⟨R,3,none⟩=some (.slice va Lp.length vc):=HCV.out
   have lz3:R<a227.heap.size:=HRD.out.lt
   have cv4:=(((Below.refl _ a227).alloc (Nat.le_refl _) (.cells #[.bool false,.string n,.string cn,.bool true,.slice sa y.length sc] 57)).cell (p:=⟨R,3,none⟩) lz3).trans cv3
   refine rd1 5 rfl (fun K hK=>?_)
   go_simp
   refine hK.out _ _ HKB2.out.c5 (fun hHeld=>?_)
   clear hK K
   clear cv3 cv4 lz3
   refine rd1 8 rfl (fun K hK=>?_)
   have hrowv:a227.drew.ownsRow (R+1) 57 5 (.slice va Lp.length vc) Lp.length (Lp.flatMap pcell):=by have:=HDD.out.rp;rw[HVA.out] at this;exact this
   refine step_append_lies _ rfl _ _ 22 rfl (R+1) 57 i0 _ 5 72 Tryz.underlying22 hi hz0 hz1 hz2 rfl (by decide) (.slice va Lp.length vc) Lp.length (Lp.flatMap pcell) rfl (hrowv.alloc _) ⟨a227.heap.size,0,none⟩ 1 1 (pcell ((⟨false,n,cn,true,y⟩:Pr),Value.slice sa y.length sc)) rfl rfl (new_cells a227.drew 57 (pcell ((⟨false,n,cn,true,y⟩:Pr),Value.slice sa y.length sc))) (by intro u hu;simp[pcell] at hu;(rcases hu with rfl | rfl | rfl | rfl | rfl<;>rfl)) (by decide) (by unfold maxLen;omega) (by omega) (by have:=HRD.out.lt;simp at this ⊢;omega) (a227.heap.size+1) (by simp) ?_
   intro g1 cap1 w7 hown hgrow hat hlt7
   have hgv:(a227.drew.alloc (.cells #[.bool false,.string n,.string cn,.bool true,.slice sa y.length sc] 57)).grownBy w7 v2.ownBlock:=by rw[HVA.out];exact hgrow
   have HFR:Hid (FrS w w7 R):=FrS.push (FrS.of HGD.out) HDD.out.rp (by decide) hgv
   have hob:∀b,v2.ownBlock=some b→R+1≤b∧b<h0:=fun b hb=>⟨(HDD.out.rp.lt b hb).1,HDD.out.lo v2 (by simp) b hb⟩
   have HR7:Hid (Rd w7 R [.string d.start,.string d.layout,v2,v3,v4,v5,v6] L226):=(HRD.out.below ((Below.refl _ _).alloc (Nat.le_refl _) _)).keptO hgv (fun b hb=>(hob b hb).1)
   have HD7:Hid _:=HDD.out.push_prod (⟨false,n,cn,true,y⟩:Pr) (.slice sa y.length sc) ((SymsAt.after HSY4.out (below_dr _)).sls HYL.out|>.keep (fun _ _ _=>rfl) (fun b hb=>⟨by have:=HDI.out.up;have:=HGW.out;omega,hb.2⟩) (fun _ _ h=>h)) HUP.out hown hgv (by rw[HVA.out];exact hat) hlt7
   have hup0:=HUP.out
   have HKB7:=kK HKB2 hgv (fun e=>by have:=hob _ e.symm;have:=HZB.out;have:=HDI.out.up;omega)
   have cr7:w7.cell? ⟨R,3,none⟩=some (.slice va Lp.length vc):=by have:=Rd.cellD HR7.out 2 (v:=v2) rfl;rw[HVA.out] at this;exact this
   have zr7:=Rd.frozenD HR7.out 3
   have lr7:=HR7.out.lt
   clear hown hgrow hgv hat hlt7 hob hrowv hup0
   refine hK.out _ _ HKB7.out.c5 (fun hHeld=>?_)
   clear hK K
   refine tk 9 rfl (by assumption) ?_
   refine tk 10 rfl (by assumption) ?_
   refine tk 11 rfl (by assumption) ?_
   refine rd1 12 rfl (fun K hK=>?_)
   have HKB8:Hid (Blk (w7.setCell ⟨R,3,none⟩ (.slice (some ⟨g1,0,none⟩) (Lp.length+1) cap1)) a2.heap.size 57 #[.bool false,.string n,.string cn,.bool true,.slice sa y.length sc]):=Blk.kept HKB7.out (grownBy_setCell _ _ _ _) (by have:=HLT.out;have:=HZB.out;simp;omega)
   go_simp
   refine hK.out _ _ HKB8.out.c5 (fun hHeld=>?_)
   clear hK K
   refine wpAnyH_done (by kernel_rfl) ?_ _
   clear hHeld
   have HFIN:Hid (∀W,(w7.setCell ⟨R,3,none⟩ (.slice (some ⟨g1,0,none⟩) (Lp.length+1) cap1))=W→(∃D' hi,Rd W R D' L226∧DefAt W (R+1) hi { d with prods:=d.prods++[⟨false,n,cn,true,y⟩] } D')∧FrS w W R):=fun W hW=>by
    have hg:w7.grownBy W (some R):=by rw[←hW];exact grownBy_setCell _ _ _ _
    refine⟨⟨_,_,by rw[←hW];exact Rd.setD (i:=2) HR7.out _,_,_,_,_,_,_,_,_,rfl,HD7.out.gr hg (.inl (Nat.lt_succ_self _))⟩,by rw[←hW];exact HFR.out.set _⟩
   go_wp2
   go_end0
   obtain⟨h1,h2⟩:=HFIN.out _ rfl
   have hfin:plainR d L=.ok { d with prods:=d.prods++[⟨false,n,cn,true,y⟩] } L226:=by unfold plainR;rw[if_neg HX.out];rw[HE2.out];(try dsimp only[PR.bind]);(try dsimp only);rw[HCR.out];rw[HE204.out];(try dsimp only[PR.bind]);(try dsimp only);rw[HE212.out];(try dsimp only[PR.bind]);(try dsimp only);rw[HE213.out];(try dsimp only[PR.bind]);(try dsimp only);rw[if_pos HEM.out];rw[HE226.out];(try dsimp only[PR.bind]);(try dsimp only)
   show RS R w (plainR d L) _ _
   rw[hfin]
   exact⟨rfl,h1,h2⟩
 have HEM:Hid _:=em_ne hem
 have hie:=ne_empty _ hem
 clear hem
 have HR226:Hid (Rd a214 R [.string d.start,.string d.layout,v2,v3,v4,v5,v6] L213):=by have:=HR214.out;rw[←HDE.out] at this;exact this
 obtain⟨cp0_227,cp1_228,cp2_229,cp3_230,cp4_231⟩:=Kp_214.out.c5
 have HDI2:Hid (DefIn a214 (R+1) h0 d v2 v3 v4 v5 v6 Lp Lc Lb):=HDI.out.keep (fun b h1 h2=>HG214.out.block b (Nat.lt_of_lt_of_le h2 HDI.out.up) (by simp;omega)) HG214.out.size
 obtain⟨va,vc,hva⟩:=own_slice HDI2.out.rp
 have HVA:=hHi hva
 have HCV:Hid (a214.drew.cell? ⟨R,3,none⟩=some (.slice va Lp.length vc)):=by
  show _=_
  have:=Rd.cellD (HR226.out.below (below_dr a214)) 2 (v:=v2) rfl
  rw[hva] at this
  exact this
 have HGD:Hid (w.grownBy a214.drew (some R)):=grown_below HG214.out (below_dr _)
 have HRD:Hid (Rd a214.drew R [.string d.start,.string d.layout,v2,v3,v4,v5,v6] L213):=HR226.out.below (below_dr _)
 have HDD:Hid (DefIn a214.drew (R+1) h0 d v2 v3 v4 v5 v6 Lp Lc Lb):=HDI2.out.below (below_dr _)
 have HKB:Hid (Blk a214.drew a2.heap.size 57 #[.bool false,.string n,.string cn,.bool false,.slice sa y.length sc]):=Blk.after Kp_214.out (below_dr _)
 have HZB:Hid (w.heap.size≤a2.heap.size):=HZ3.out
 have HSB:Hid (a2.heap.size<a214.heap.size):=Blk.lt Kp_214.out
 have cv1:=HCV.out
 clear hva
 go_wp2
 refine wp_region_held_drew (S:=fun W=>W.cell? ⟨a2.heap.size,0,none⟩=some (.bool false)∧W.cell? ⟨a2.heap.size,1,none⟩=some (.string n)∧W.cell? ⟨a2.heap.size,2,none⟩=some (.string cn)∧W.cell? ⟨a2.heap.size,3,none⟩=some (.bool false)∧W.cell? ⟨a2.heap.size,4,none⟩=some (.slice sa y.length sc)) (by kernel_rfl) HKB.out.c5 (fun hHeld=>?_)
 refine tk 0 rfl (by assumption) ?_
 refine tk 1 rfl (by assumption) ?_
 refine tk 2 rfl (by assumption) ?_
 refine tk 3 rfl (by assumption) ?_
 refine tk 4 rfl (by assumption) ?_
 refine tk 6 rfl (by assumption) ?_
 refine wpAnyH_ready (rs:=[5,7]) (by kernel_rfl) (by simp) ?_
 refine (AllReadyH.cons rfl (fun K hK=>?_) (AllReadyH.cons rfl (fun K hK=>?_) AllReadyH.nil))
 ·skip
  go_simp
  refine hK.out _ _ HKB.out.c5 (fun hHeld=>?_)
  clear hK K
  refine rd1 7 rfl (fun K hK=>?_)
  have HKB2:Hid (Blk (a214.drew.alloc (.cells #[.bool false,.string n,.string cn,.bool false,.slice sa y.length sc] 57)) a2.heap.size 57 #[.bool false,.string n,.string cn,.bool false,.slice sa y.length sc]):=Blk.alloc (W:=a214.drew) HKB.out _
  have cv2:(a214.drew.alloc (.cells #[.bool false,.string n,.string cn,.bool false,.slice sa y.length sc] 57)).cell? ⟨R,3,none⟩=some (.slice va Lp.length vc):=(((Below.refl _ a214.drew).alloc (Nat.le_refl _) _).cell (p:=⟨R,3,none⟩) HRD.out.lt).trans HCV.out
  go_simp
  refine hK.out _ _ HKB2.out.c5 (fun hHeld=>?_)
  clear hK K
  refine rd1 8 rfl (fun K hK=>?_)
  have hrowv:a214.drew.ownsRow (R+1) 57 5 (.slice va Lp.length vc) Lp.length (Lp.flatMap pcell):=by have:=HDD.out.rp;rw[HVA.out] at this;exact this
  refine step_append_lies _ rfl _ _ 22 rfl (R+1) 57 i0 _ 5 72 Tryz.underlying22 hi hz0 hz1 hz2 rfl (by decide) (.slice va Lp.length vc) Lp.length (Lp.flatMap pcell) rfl (hrowv.alloc _) ⟨a214.heap.size,0,none⟩ 1 1 (pcell ((⟨false,n,cn,false,y⟩:Pr),Value.slice sa y.length sc)) rfl rfl (new_cells a214.drew 57 (pcell ((⟨false,n,cn,false,y⟩:Pr),Value.slice sa y.length sc))) (by intro u hu;simp[pcell] at hu;(rcases hu with rfl | rfl | rfl | rfl | rfl<;>rfl)) (by decide) (by unfold maxLen;omega) (by omega) (by have:=HRD.out.lt;simp at this ⊢;omega) (a214.heap.size+1) (by simp) ?_
  intro g1 cap1 w7 hown hgrow hat hlt7
  have hgv:(a214.drew.alloc (.cells #[.bool false,.string n,.string cn,.bool false,.slice sa y.length sc] 57)).grownBy w7 v2.ownBlock:=by rw[HVA.out];exact hgrow
  have HFR:Hid (FrS w w7 R):=FrS.push (FrS.of HGD.out) HDD.out.rp (by decide) hgv
  have hob:∀b,v2.ownBlock=some b→R+1≤b∧b<h0:=fun b hb=>⟨(HDD.out.rp.lt b hb).1,HDD.out.lo v2 (by simp) b hb⟩
  have HR7:Hid (Rd w7 R [.string d.start,.string d.layout,v2,v3,v4,v5,v6] L213):=(HRD.out.below ((Below.refl _ _).alloc (Nat.le_refl _) _)).keptO hgv (fun b hb=>(hob b hb).1)
  have HD7:Hid _:=HDD.out.push_prod (⟨false,n,cn,false,y⟩:Pr) (.slice sa y.length sc) ((SymsAt.after HSY2.out (below_dr _)).sls HYL.out|>.keep (fun _ _ _=>rfl) (fun b hb=>⟨by have:=HDI.out.up;have:=HGW.out;omega,hb.2⟩) (fun _ _ h=>h)) HUP.out hown hgv (by rw[HVA.out];exact hat) hlt7
  have hup0:=HUP.out
  have HKB7:=kK HKB2 hgv (fun e=>by have:=hob _ e.symm;have:=HZB.out;have:=HDI.out.up;omega)
  have cr7:w7.cell? ⟨R,3,none⟩=some (.slice va Lp.length vc):=by have:=Rd.cellD HR7.out 2 (v:=v2) rfl;rw[HVA.out] at this;exact this
  have zr7:=Rd.frozenD HR7.out 3
  have lr7:=HR7.out.lt
  clear hown hgrow hgv hat hlt7 hob hrowv hup0
  refine hK.out _ _ HKB7.out.c5 (fun hHeld=>?_)
  clear hK K
  refine tk 9 rfl (by assumption) ?_
  refine tk 10 rfl (by assumption) ?_
  refine tk 11 rfl (by assumption) ?_
  refine rd1 12 rfl (fun K hK=>?_)
  have HKB8:Hid (Blk (w7.setCell ⟨R,3,none⟩ (.slice (some ⟨g1,0,none⟩) (Lp.length+1) cap1)) a2.heap.size 57 #[.bool false,.string n,.string cn,.bool false,.slice sa y.length sc]):=Blk.kept HKB7.out (grownBy_setCell _ _ _ _) (by have:=HLT.out;have:=HZB.out;simp;omega)
  go_simp
  refine hK.out _ _ HKB8.out.c5 (fun hHeld=>?_)
  clear hK K
  refine wpAnyH_done (by kernel_rfl) ?_ _
  clear hHeld
  have HFIN:Hid (∀W,(w7.setCell ⟨R,3,none⟩ (.slice (some ⟨g1,0,none⟩) (Lp.length+1) cap1))=W→(∃D' hi,Rd W R D' L213∧DefAt W (R+1) hi { d with prods:=d.prods++[⟨false,n,cn,false,y⟩] } D')∧FrS w W R):=fun W hW=>by
   have hg:w7.grownBy W (some R):=by rw[←hW];exact grownBy_setCell _ _ _ _
   refine⟨⟨_,_,by rw[←hW];exact Rd.setD (i:=2) HR7.out _,_,_,_,_,_,_,_,_,rfl,HD7.out.gr hg (.inl (Nat.lt_succ_self _))⟩,by rw[←hW];exact HFR.out.set _⟩
  go_wp2
  go_end0
  obtain⟨h1,h2⟩:=HFIN.out _ rfl
  have hfin:plainR d L=.ok { d with prods:=d.prods++[⟨false,n,cn,false,y⟩] } L213:=by unfold plainR;rw[if_neg HX.out];rw[HE2.out];(try dsimp only[PR.bind]);(try dsimp only);rw[HCR.out];rw[HE204.out];(try dsimp only[PR.bind]);(try dsimp only);rw[HE212.out];(try dsimp only[PR.bind]);(try dsimp only);rw[HE213.out];(try dsimp only[PR.bind]);(try dsimp only);rw[if_neg (by rw[HEM.out];simp)]
  show RS R w (plainR d L) _ _
  rw[hfin]
  exact⟨rfl,h1,h2⟩
 ·skip
  have HKB2:Hid (Blk (a214.drew.alloc (.cells #[.bool false,.string n,.string cn,.bool false,.slice sa y.length sc] 57)) a2.heap.size 57 #[.bool false,.string n,.string cn,.bool false,.slice sa y.length sc]):=Blk.alloc (W:=a214.drew) HKB.out _
  have cv2:(a214.drew.alloc (.cells #[.bool false,.string n,.string cn,.bool false,.slice sa y.length sc] 57)).cell? ⟨R,3,none⟩=some (.slice va Lp.length vc):=(((Below.refl _ a214.drew).alloc (Nat.le_refl _) _).cell (p:=⟨R,3,none⟩) HRD.out.lt).trans HCV.out
  go_simp
  refine hK.out _ _ HKB2.out.c5 (fun hHeld=>?_)
  clear hK K
  have cv3:a214.cell? ⟨R,3,none⟩=some (.slice va Lp.length vc):=HCV.out
  have lz3:R<a214.heap.size:=HRD.out.lt
  have cv4:=(((Below.refl _ a214).alloc (Nat.le_refl _) (.cells #[.bool false,.string n,.string cn,.bool false,.slice sa y.length sc] 57)).cell (p:=⟨R,3,none⟩) lz3).trans cv3
  refine rd1 5 rfl (fun K hK=>?_)
  go_simp
  refine hK.out _ _ HKB2.out.c5 (fun hHeld=>?_)
  clear hK K
  clear cv3 cv4 lz3
  refine rd1 8 rfl (fun K hK=>?_)
  have hrowv:a214.drew.ownsRow (R+1) 57 5 (.slice va Lp.length vc) Lp.length (Lp.flatMap pcell):=by have:=HDD.out.rp;rw[HVA.out] at this;exact this
  refine step_append_lies _ rfl _ _ 22 rfl (R+1) 57 i0 _ 5 72 Tryz.underlying22 hi hz0 hz1 hz2 rfl (by decide) (.slice va Lp.length vc) Lp.length (Lp.flatMap pcell) rfl (hrowv.alloc _) ⟨a214.heap.size,0,none⟩ 1 1 (pcell ((⟨false,n,cn,false,y⟩:Pr),Value.slice sa y.length sc)) rfl rfl (new_cells a214.drew 57 (pcell ((⟨false,n,cn,false,y⟩:Pr),Value.slice sa y.length sc))) (by intro u hu;simp[pcell] at hu;(rcases hu with rfl | rfl | rfl | rfl | rfl<;>rfl)) (by decide) (by unfold maxLen;omega) (by omega) (by have:=HRD.out.lt;simp at this ⊢;omega) (a214.heap.size+1) (by simp) ?_
  intro g1 cap1 w7 hown hgrow hat hlt7
  have hgv:(a214.drew.alloc (.cells #[.bool false,.string n,.string cn,.bool false,.slice sa y.length sc] 57)).grownBy w7 v2.ownBlock:=by rw[HVA.out];exact hgrow
  have HFR:Hid (FrS w w7 R):=FrS.push (FrS.of HGD.out) HDD.out.rp (by decide) hgv
  have hob:∀b,v2.ownBlock=some b→R+1≤b∧b<h0:=fun b hb=>⟨(HDD.out.rp.lt b hb).1,HDD.out.lo v2 (by simp) b hb⟩
  have HR7:Hid (Rd w7 R [.string d.start,.string d.layout,v2,v3,v4,v5,v6] L213):=(HRD.out.below ((Below.refl _ _).alloc (Nat.le_refl _) _)).keptO hgv (fun b hb=>(hob b hb).1)
  have HD7:Hid _:=HDD.out.push_prod (⟨false,n,cn,false,y⟩:Pr) (.slice sa y.length sc) ((SymsAt.after HSY2.out (below_dr _)).sls HYL.out|>.keep (fun _ _ _=>rfl) (fun b hb=>⟨by have:=HDI.out.up;have:=HGW.out;omega,hb.2⟩) (fun _ _ h=>h)) HUP.out hown hgv (by rw[HVA.out];exact hat) hlt7
  have hup0:=HUP.out
  have HKB7:=kK HKB2 hgv (fun e=>by have:=hob _ e.symm;have:=HZB.out;have:=HDI.out.up;omega)
  have cr7:w7.cell? ⟨R,3,none⟩=some (.slice va Lp.length vc):=by have:=Rd.cellD HR7.out 2 (v:=v2) rfl;rw[HVA.out] at this;exact this
  have zr7:=Rd.frozenD HR7.out 3
  have lr7:=HR7.out.lt
  clear hown hgrow hgv hat hlt7 hob hrowv hup0
  refine hK.out _ _ HKB7.out.c5 (fun hHeld=>?_)
  clear hK K
  refine tk 9 rfl (by assumption) ?_
  refine tk 10 rfl (by assumption) ?_
  refine tk 11 rfl (by assumption) ?_
  refine rd1 12 rfl (fun K hK=>?_)
  have HKB8:Hid (Blk (w7.setCell ⟨R,3,none⟩ (.slice (some ⟨g1,0,none⟩) (Lp.length+1) cap1)) a2.heap.size 57 #[.bool false,.string n,.string cn,.bool false,.slice sa y.length sc]):=Blk.kept HKB7.out (grownBy_setCell _ _ _ _) (by have:=HLT.out;have:=HZB.out;simp;omega)
  go_simp
  refine hK.out _ _ HKB8.out.c5 (fun hHeld=>?_)
  clear hK K
  refine wpAnyH_done (by kernel_rfl) ?_ _
  clear hHeld
  have HFIN:Hid (∀W,(w7.setCell ⟨R,3,none⟩ (.slice (some ⟨g1,0,none⟩) (Lp.length+1) cap1))=W→(∃D' hi,Rd W R D' L213∧DefAt W (R+1) hi { d with prods:=d.prods++[⟨false,n,cn,false,y⟩] } D')∧FrS w W R):=fun W hW=>by
   have hg:w7.grownBy W (some R):=by rw[←hW];exact grownBy_setCell _ _ _ _
   refine⟨⟨_,_,by rw[←hW];exact Rd.setD (i:=2) HR7.out _,_,_,_,_,_,_,_,_,rfl,HD7.out.gr hg (.inl (Nat.lt_succ_self _))⟩,by rw[←hW];exact HFR.out.set _⟩
  go_wp2
  go_end0
  obtain⟨h1,h2⟩:=HFIN.out _ rfl
  have hfin:plainR d L=.ok { d with prods:=d.prods++[⟨false,n,cn,false,y⟩] } L213:=by unfold plainR;rw[if_neg HX.out];rw[HE2.out];(try dsimp only[PR.bind]);(try dsimp only);rw[HCR.out];rw[HE204.out];(try dsimp only[PR.bind]);(try dsimp only);rw[HE212.out];(try dsimp only[PR.bind]);(try dsimp only);rw[HE213.out];(try dsimp only[PR.bind]);(try dsimp only);rw[if_neg (by rw[HEM.out];simp)]
  show RS R w (plainR d L) _ _
  rw[hfin]
  exact⟨rfl,h1,h2⟩
end Go.Proofs.YtcpakcffiopfjaaGreatDoor
