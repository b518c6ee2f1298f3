/- Symbols read. A symbol read. Lists that are read, in rows of their own; the symbols of a production. What the next word says of a group. -/
import Derived.Test.YtcpakcffiopfjaaGreatDoorC1
import Derived.Test.YtcpakcffiopfjaaGreatDoorA1
import Derived.OwnWalk
import Derived.Deep.AppendLies
import Derived.Test.YtcpakcffiopfjaaGreatDoorA0
namespace Go.Proofs.YtcpakcffiopfjaaGreatDoor
open Go.RowKit
set_option linter.unusedVariables false
set_option linter.unusedSimpArgs false
set_option maxRecDepth 100000
set_option maxHeartbeats 16000000
set_option linter.unusedVariables false
set_option linter.unusedSimpArgs false
set_option maxRecDepth 100000
set_option maxHeartbeats 16000000
theorem rd_braces (R:Nat) (D:List Value) (L:List Wd) (w:World) (h:Rd w R D L) :
  Calls Tryz.prog 215 #[.pointer (some ⟨R,0,none⟩)] w fun e w'=>RC R D w symv (bracesR L) e w':=by
 have HLT:Hid _:=h.lt
 have HR0:Hid (Rd w R D L):=h
 have HG0:Hid (w.grownBy w (some R)):=gr_refl _ _
 clear h
 obtain⟨a1,ha1⟩:∃q,w.alloc (.cells #[.int .i64 0,.string ⟨#[]⟩,.int .u64 0,.int .u64 0,.int .u64 0,.int .u64 0,.string ⟨#[]⟩,.string ⟨#[]⟩] 134)=q:=⟨_,rfl⟩
 have HN1:=kB ha1
 have HZ1:=hHi HG0.out.size
 have HR1:=hHi (HR0.out.below HN1.out)
 have HG1:=hHi (grown_below HG0.out HN1.out)
 have Kr_1:=kN ha1
 go_enter Tryz.func215,Tryz.ntmps215
 have HC2:=hU (rd_want R D L [123] a1 HR1.out (by simp))
 go_wp2_with fail
 cases hr2:wantR [123] L with
 | bad p2 c2=>
  rw[hr2] at HC2
  have HE2:=hHi hr2
  clear hr2
  refine hMo HC2 ?_
  rintro e wf ⟨rfl,hgf⟩
  simp only[FE]
  go_wp2
  refine⟨rfl,?_⟩
  have hfin:bracesR L=.bad p2 c2:=by unfold bracesR;rw[HE2.out];try rfl
  show RC R D w symv (bracesR L) _ _
  rw[hfin]
  exact⟨rfl,gr_tr HG1.out hgf⟩
 | ok u1 L2=>
 rw[hr2] at HC2
 have HE2:=hHi hr2
 clear hr2
 refine hMo HC2 ?_
 rintro e a2 ⟨rfl,hr,hg⟩
 have HN2:=hHi hg
 have HR2:=hHi hr
 have HG2:=hHi (gr_tr HG1.out hg)
 clear hr hg
 have Kr_2:=kZ Kr_1 HN2.out HLT.out HZ1.out
 have HC3:=hU (rd_name R D L2 a2 HR2.out)
 go_wp2_with fail
 cases hr3:nameR L2 with
 | bad p3 c3=>
  rw[hr3] at HC3
  have HE3:=hHi hr3
  clear hr3
  refine hMo HC3 ?_
  rintro e wf ⟨rfl,hgf⟩
  simp only[FE]
  go_wp2
  refine⟨rfl,?_⟩
  have hfin:bracesR L=.bad p3 c3:=by unfold bracesR;rw[HE2.out];dsimp only[PR.bind];rw[HE3.out];try rfl
  show RC R D w symv (bracesR L) _ _
  rw[hfin]
  exact⟨rfl,gr_tr HG2.out hgf⟩
 | ok n L3=>
 rw[hr3] at HC3
 have HE3:=hHi hr3
 clear hr3
 refine hMo HC3 ?_
 rintro e a3 ⟨rfl,hr,hg⟩
 have HN3:=hHi hg
 have HR3:=hHi hr
 have HG3:=hHi (gr_tr HG2.out hg)
 clear hr hg
 have Kr_3:=kZ Kr_2 HN3.out HLT.out HZ1.out
 go_wp2_with fail
 obtain⟨a4,ha4⟩:∃q,a3.alloc (.cells #[.int .i64 0,.string ⟨#[]⟩,.int .u64 0,.int .u64 0,.int .u64 0,.int .u64 0,.string n,.string ⟨#[]⟩] 134)=q:=⟨_,rfl⟩
 rw[ha4]
 have HN4:=kB ha4
 have HZ4:=hHi HG3.out.size
 have HR4:=hHi (HR3.out.below HN4.out)
 have HG4:=hHi (grown_below HG3.out HN4.out)
 have Kr_4:=kA Kr_3 HN4
 have Ks_4:=kN ha4
 refine (rd_word R D L3 a4 HR4.out).mono ?_
 rintro e a5 ⟨⟨ba,bc,rfl,_⟩,hb⟩
 have HN5:Hid (Below a4.heap.size a4 a5):=hb
 clear hb
 have HR5:=hHi (HR4.out.below HN5.out)
 have HG5:=hHi (grown_below HG4.out HN5.out)
 have Kr_5:=kA Kr_4 HN5
 have Ks_5:=kA Ks_4 HN5
 generalize hxw:wd L3=x at *
 have HXW:=hHi hxw
 clear hxw
 obtain⟨a6,ha6⟩:∃q,a5.alloc (.cells #[.int .i64 x.kind,.string (strB x.text),.slice ba x.bytes.length bc,.int .u64 x.set.a,.int .u64 x.set.b,.int .u64 x.set.c,.int .u64 x.set.d,.int .i64 x.n,.int .i64 x.fro,.int .i64 x.line,.int .i64 x.col] 104)=q:=⟨_,rfl⟩
 have HN6:=kB ha6
 have HZ6:=hHi HG5.out.size
 have HR6:=hHi (HR5.out.below HN6.out)
 have HG6:=hHi (grown_below HG5.out HN6.out)
 have Kr_6:=kA Kr_5 HN6
 have Ks_6:=kA Ks_5 HN6
 have Kx_6:=kN ha6
 have cx0_7:=Kx_6.out.cell 0 rfl
 have cx2_8:=Kx_6.out.cell 2 rfl
 by_cases hc:x.kind=4∧x.bytes.length=0
 case pos=>
  have k1:((x.kind:Int)==4)=true:=by simp;omega
  have k2:((x.bytes.length:Int)==0)=true:=by simp;exact List.length_eq_zero_iff.1 hc.2
  have HIF:Hid ((wd L3).kind=4∧(wd L3).bytes.length=0):=by show _∧_;rw[HXW.out];exact hc
  have HFIN:Hid (bracesR L=.bad x.fro 30):=by show _=_;unfold bracesR;rw[HE2.out];dsimp only[PR.bind];rw[HE3.out];dsimp only[PR.bind];rw[if_pos HIF.out,HXW.out]
  have HF:=hU (rd_fail R D L3 30 a6 HR6.out)
  rw[HXW.out] at HF
  clear hc
  go_wp2_with fail
  refine hMo HF ?_
  rintro e wf ⟨rfl,hbf⟩
  simp only[FE]
  go_wp2
  refine⟨rfl,?_⟩
  show RC R D w symv (bracesR L) _ _
  rw[HFIN.out]
  exact⟨rfl,grown_below HG6.out hbf⟩
 have HIF:Hid (¬((wd L3).kind=4∧(wd L3).bytes.length=0)):=by show ¬_;rw[HXW.out];exact hc
 have HNs:Hid (a1.heap.size≤a3.heap.size):=Nat.le_trans HN2.out.size HN3.out.size
 by_cases hk:x.kind=4
 case pos=>
  have k1:((x.kind:Int)==4)=true:=by simp;omega
  have k2:((x.bytes.length:Int)==0)=false:=by simp;intro h;exact hc ⟨hk,by rw[h];rfl⟩
  clear hc hk
  have HC9:=hU (rd_text R D L3 a6 HR6.out)
  go_wp2_with fail
  cases hr9:textR L3 with
  | bad p9 c9=>
   rw[hr9] at HC9
   have HE9:=hHi hr9
   clear hr9
   refine hMo HC9 ?_
   rintro e wf ⟨rfl,hgf⟩
   simp only[FE]
   go_wp2
   refine⟨rfl,?_⟩
   have hfin:bracesR L=.bad p9 c9:=by unfold bracesR;rw[HE2.out];dsimp only[PR.bind];rw[HE3.out];dsimp only[PR.bind];rw[if_neg HIF.out];rw[HE9.out];try rfl
   show RC R D w symv (bracesR L) _ _
   rw[hfin]
   exact⟨rfl,gr_tr HG6.out hgf⟩
  | ok p L9=>
  rw[hr9] at HC9
  have HE9:=hHi hr9
  clear hr9
  refine hMo HC9 ?_
  rintro e a9 ⟨rfl,hr,hg⟩
  have HN9:=hHi hg
  have HR9:=hHi hr
  have HG9:=hHi (gr_tr HG6.out hg)
  clear hr hg
  have Kr_9:=kZ Kr_6 HN9.out HLT.out HZ1.out
  have Ks_9:=kZ Ks_6 HN9.out HLT.out HZ4.out
  have Kx_9:=kZ Kx_6 HN9.out HLT.out HZ6.out
  obtain⟨cs0_10,cs1_11,cs2_12,cs3_13,cs4_14,cs5_15,cs6_16,cs7_17⟩:=Ks_9.out.c8
  have zs_18:=Ks_9.out.frozen
  have ls_18:=Ks_9.out.lt
  obtain⟨a19,ha19⟩:∃q,a9.setCell ⟨a3.heap.size,7,none⟩ (.string p)=q:=⟨_,rfl⟩
  have HN19:Hid (a9.grownBy a19 (some a3.heap.size)):=by show World.grownBy _ _ _;rw[←ha19];exact grownBy_setCell _ _ _ _
  have HR19:=hHi (Rd.kept HR9.out HN19.out (by have:=HLT.out;have:=HZ4.out;omega))
  have HG19:Hid (w.grownBy a19 (some R)):=gr_new HG9.out HN19.out HZ4.out
  have Kr_19:=kK Kr_9 HN19.out (by have h1:=Blk.lt Kr_1.out;have h2:=HNs.out;simp;omega)
  have Ks_19:Hid (Blk a19 a3.heap.size 134 #[.int .i64 0,.string ⟨#[]⟩,.int .u64 0,.int .u64 0,.int .u64 0,.int .u64 0,.string n,.string p]):=by show Blk _ _ _ _;rw[←ha19];exact Blk.set Ks_9.out 7 _
  have HC20:=hU (rd_want R D L9 [125] a19 HR19.out (by simp))
  go_wp2_with fail
  cases hr20:wantR [125] L9 with
  | bad p20 c20=>
   rw[hr20] at HC20
   have HE20:=hHi hr20
   clear hr20
   refine hMo HC20 ?_
   rintro e wf ⟨rfl,hgf⟩
   simp only[FE]
   go_wp2
   refine⟨rfl,?_⟩
   have hfin:bracesR L=.bad p20 c20:=by unfold bracesR;rw[HE2.out];dsimp only[PR.bind];rw[HE3.out];dsimp only[PR.bind];rw[if_neg HIF.out];rw[HE9.out];dsimp only[PR.bind];rw[HE20.out];try rfl
   show RC R D w symv (bracesR L) _ _
   rw[hfin]
   exact⟨rfl,gr_tr HG19.out hgf⟩
  | ok u2 L20=>
  rw[hr20] at HC20
  have HE20:=hHi hr20
  clear hr20
  refine hMo HC20 ?_
  rintro e a20 ⟨rfl,hr,hg⟩
  have HN20:=hHi hg
  have HR20:=hHi hr
  have HG20:=hHi (gr_tr HG19.out hg)
  clear hr hg
  have Kr_20:=kZ Kr_19 HN20.out HLT.out HZ1.out
  have Ks_20:=kZ Ks_19 HN20.out HLT.out HZ4.out
  cases q1:isT [42] L20 with
  | true=>
   have Q1:=hHi q1
   clear q1
   have HI1:Hid (∀W,Rd W R D L20→Calls Tryz.prog 183 #[.pointer (some ⟨R,0,none⟩),.string ⟨#[42]⟩] W fun e w'=>e=.returned (.bool true)∧Below W.heap.size W w'):=fun W h=>by have:=rd_is R D L20 [42] W h;rw[Q1.out] at this;exact this
   go_wp2_with fail
   refine (HI1.out a20 HR20.out).mono ?_
   rintro e a21 ⟨rfl,hb⟩
   have HN21:Hid (Below a20.heap.size a20 a21):=hb
   clear hb
   have HR21:=hHi (HR20.out.below HN21.out)
   have HG21:=hHi (grown_below HG20.out HN21.out)
   have Kr_21:=kA Kr_20 HN21
   have Ks_21:=kA Ks_20 HN21
   obtain⟨cs0_22,cs1_23,cs2_24,cs3_25,cs4_26,cs5_27,cs6_28,cs7_29⟩:=Ks_21.out.c8
   have HC30:=hU (rd_often R D L20 ⟨0,⟨#[]⟩,⟨0,0,0,0⟩,n,p⟩ a21 HR21.out)
   go_wp2_with fail
   cases hr30:oftenR ⟨0,⟨#[]⟩,⟨0,0,0,0⟩,n,p⟩ L20 with
   | bad p30 c30=>
    rw[hr30] at HC30
    have HE30:=hHi hr30
    clear hr30
    refine hMo HC30 ?_
    rintro e wf ⟨rfl,hgf⟩
    simp only[FE]
    go_wp2
    refine⟨rfl,?_⟩
    have hfin:bracesR L=.bad p30 c30:=by unfold bracesR;rw[HE2.out];dsimp only[PR.bind];rw[HE3.out];dsimp only[PR.bind];rw[if_neg HIF.out];rw[HE9.out];dsimp only[PR.bind];rw[HE20.out];dsimp only[PR.bind];rw[if_neg (fun h=>by rw[Q1.out] at h;exact absurd h.1 (by simp))];rw[HE30.out];try rfl
    show RC R D w symv (bracesR L) _ _
    rw[hfin]
    exact⟨rfl,gr_tr HG21.out hgf⟩
   | ok y L30=>
   rw[hr30] at HC30
   have HE30:=hHi hr30
   clear hr30
   refine hMo HC30 ?_
   rintro e a30 ⟨rfl,hr,hg⟩
   have HN30:=hHi hg
   have HR30:=hHi hr
   have HG30:=hHi (gr_tr HG21.out hg)
   clear hr hg
   have Kr_30:=kZ Kr_21 HN30.out HLT.out HZ1.out
   have Ks_30:=kZ Ks_21 HN30.out HLT.out HZ4.out
   dsimp only[symv]
   obtain⟨cr0_31,cr1_32,cr2_33,cr3_34,cr4_35,cr5_36,cr6_37,cr7_38⟩:=Kr_30.out.c8
   have zr_39:=Kr_30.out.frozen
   have lr_39:=Kr_30.out.lt
   go_wp2
   refine gen (fun W=>Blk W w.heap.size 134 _∧a30.grownBy W (some w.heap.size)) ⟨Blk.set8 (W:=a30) Kr_30.out _ _ _ _ _ _ _ _,grset8 _ _ _ _ _ _ _ _ _ _⟩ ?_
   rintro W ⟨hb,hgW⟩
   refine bodyPost_ret (results_cell_row rfl _ _ w.heap.size 134 _ (0,0) _ rfl hb Tryz.underlying134 rfl (by kernel_rfl)) rfl ?_
   have hfin:bracesR L=.ok y L30:=by unfold bracesR;rw[HE2.out];dsimp only[PR.bind];rw[HE3.out];dsimp only[PR.bind];rw[if_neg HIF.out];rw[HE9.out];dsimp only[PR.bind];rw[HE20.out];dsimp only[PR.bind];rw[if_neg (fun h=>by rw[Q1.out] at h;exact absurd h.1 (by simp))];rw[HE30.out]
   show RC R D w symv (bracesR L) _ _
   rw[hfin]
   exact⟨rfl,Rd.kept HR30.out hgW (by have:=HLT.out;have:=HZ1.out;omega),gr_new HG30.out hgW HZ1.out⟩
  | false=>
  have Q1:=hHi q1
  clear q1
  have HI1:Hid (∀W,Rd W R D L20→Calls Tryz.prog 183 #[.pointer (some ⟨R,0,none⟩),.string ⟨#[42]⟩] W fun e w'=>e=.returned (.bool false)∧Below W.heap.size W w'):=fun W h=>by have:=rd_is R D L20 [42] W h;rw[Q1.out] at this;exact this
  cases q2:isT [43] L20 with
  | true=>
   have Q2:=hHi q2
   clear q2
   have HI2:Hid (∀W,Rd W R D L20→Calls Tryz.prog 183 #[.pointer (some ⟨R,0,none⟩),.string ⟨#[43]⟩] W fun e w'=>e=.returned (.bool true)∧Below W.heap.size W w'):=fun W h=>by have:=rd_is R D L20 [43] W h;rw[Q2.out] at this;exact this
   go_wp2_with fail
   refine (HI1.out a20 HR20.out).mono ?_
   rintro e a21 ⟨rfl,hb⟩
   have HN21:Hid (Below a20.heap.size a20 a21):=hb
   clear hb
   have HR21:=hHi (HR20.out.below HN21.out)
   have HG21:=hHi (grown_below HG20.out HN21.out)
   have Kr_21:=kA Kr_20 HN21
   have Ks_21:=kA Ks_20 HN21
   go_wp2_with fail
   refine (HI2.out a21 HR21.out).mono ?_
   rintro e a22 ⟨rfl,hb⟩
   have HN22:Hid (Below a21.heap.size a21 a22):=hb
   clear hb
   have HR22:=hHi (HR21.out.below HN22.out)
   have HG22:=hHi (grown_below HG21.out HN22.out)
   have Kr_22:=kA Kr_21 HN22
   have Ks_22:=kA Ks_21 HN22
   obtain⟨cs0_23,cs1_24,cs2_25,cs3_26,cs4_27,cs5_28,cs6_29,cs7_30⟩:=Ks_22.out.c8
   have HC31:=hU (rd_often R D L20 ⟨0,⟨#[]⟩,⟨0,0,0,0⟩,n,p⟩ a22 HR22.out)
   go_wp2_with fail
   cases hr31:oftenR ⟨0,⟨#[]⟩,⟨0,0,0,0⟩,n,p⟩ L20 with
   | bad p31 c31=>
    rw[hr31] at HC31
    have HE31:=hHi hr31
    clear hr31
    refine hMo HC31 ?_
    rintro e wf ⟨rfl,hgf⟩
    simp only[FE]
    go_wp2
    refine⟨rfl,?_⟩
    have hfin:bracesR L=.bad p31 c31:=by unfold bracesR;rw[HE2.out];dsimp only[PR.bind];rw[HE3.out];dsimp only[PR.bind];rw[if_neg HIF.out];rw[HE9.out];dsimp only[PR.bind];rw[HE20.out];dsimp only[PR.bind];rw[if_neg (fun h=>by rw[Q2.out] at h;exact absurd h.2 (by simp))];rw[HE31.out];try rfl
    show RC R D w symv (bracesR L) _ _
    rw[hfin]
    exact⟨rfl,gr_tr HG22.out hgf⟩
   | ok y L31=>
   rw[hr31] at HC31
   have HE31:=hHi hr31
   clear hr31
   refine hMo HC31 ?_
   rintro e a31 ⟨rfl,hr,hg⟩
   have HN31:=hHi hg
   have HR31:=hHi hr
   have HG31:=hHi (gr_tr HG22.out hg)
   clear hr hg
   have Kr_31:=kZ Kr_22 HN31.out HLT.out HZ1.out
   have Ks_31:=kZ Ks_22 HN31.out HLT.out HZ4.out
   dsimp only[symv]
   obtain⟨cr0_32,cr1_33,cr2_34,cr3_35,cr4_36,cr5_37,cr6_38,cr7_39⟩:=Kr_31.out.c8
   have zr_40:=Kr_31.out.frozen
   have lr_40:=Kr_31.out.lt
   go_wp2
   refine gen (fun W=>Blk W w.heap.size 134 _∧a31.grownBy W (some w.heap.size)) ⟨Blk.set8 (W:=a31) Kr_31.out _ _ _ _ _ _ _ _,grset8 _ _ _ _ _ _ _ _ _ _⟩ ?_
   rintro W ⟨hb,hgW⟩
   refine bodyPost_ret (results_cell_row rfl _ _ w.heap.size 134 _ (0,0) _ rfl hb Tryz.underlying134 rfl (by kernel_rfl)) rfl ?_
   have hfin:bracesR L=.ok y L31:=by unfold bracesR;rw[HE2.out];dsimp only[PR.bind];rw[HE3.out];dsimp only[PR.bind];rw[if_neg HIF.out];rw[HE9.out];dsimp only[PR.bind];rw[HE20.out];dsimp only[PR.bind];rw[if_neg (fun h=>by rw[Q2.out] at h;exact absurd h.2 (by simp))];rw[HE31.out]
   show RC R D w symv (bracesR L) _ _
   rw[hfin]
   exact⟨rfl,Rd.kept HR31.out hgW (by have:=HLT.out;have:=HZ1.out;omega),gr_new HG31.out hgW HZ1.out⟩
  | false=>
  have Q2:=hHi q2
  clear q2
  have HI2:Hid (∀W,Rd W R D L20→Calls Tryz.prog 183 #[.pointer (some ⟨R,0,none⟩),.string ⟨#[43]⟩] W fun e w'=>e=.returned (.bool false)∧Below W.heap.size W w'):=fun W h=>by have:=rd_is R D L20 [43] W h;rw[Q2.out] at this;exact this
  go_wp2_with fail
  refine (HI1.out a20 HR20.out).mono ?_
  rintro e a21 ⟨rfl,hb⟩
  have HN21:Hid (Below a20.heap.size a20 a21):=hb
  clear hb
  have HR21:=hHi (HR20.out.below HN21.out)
  have HG21:=hHi (grown_below HG20.out HN21.out)
  have Kr_21:=kA Kr_20 HN21
  have Ks_21:=kA Ks_20 HN21
  go_wp2_with fail
  refine (HI2.out a21 HR21.out).mono ?_
  rintro e a22 ⟨rfl,hb⟩
  have HN22:Hid (Below a21.heap.size a21 a22):=hb
  clear hb
  have HR22:=hHi (HR21.out.below HN22.out)
  have HG22:=hHi (grown_below HG21.out HN22.out)
  have Kr_22:=kA Kr_21 HN22
  have Ks_22:=kA Ks_21 HN22
  go_wp2_with fail
  refine (rd_fail R D L20 30 a22 HR22.out).mono ?_
  rintro e wf ⟨rfl,hbf⟩
  simp only[FE]
  go_wp2
  refine⟨rfl,?_⟩
  have hfin:bracesR L=.bad (wd L20).fro 30:=by unfold bracesR;rw[HE2.out];dsimp only[PR.bind];rw[HE3.out];dsimp only[PR.bind];rw[if_neg HIF.out];rw[HE9.out];dsimp only[PR.bind];rw[HE20.out];dsimp only[PR.bind];rw[if_pos ⟨Q1.out,Q2.out⟩]
  show RC R D w symv (bracesR L) _ _
  rw[hfin]
  exact⟨rfl,grown_below HG22.out hbf⟩
 have k1:((x.kind:Int)==4)=false:=by simp;omega
 clear hc hk
 have HC9:=hU (rd_text R D L3 a6 HR6.out)
 go_wp2_with fail
 cases hr9:textR L3 with
 | bad p9 c9=>
  rw[hr9] at HC9
  have HE9:=hHi hr9
  clear hr9
  refine hMo HC9 ?_
  rintro e wf ⟨rfl,hgf⟩
  simp only[FE]
  go_wp2
  refine⟨rfl,?_⟩
  have hfin:bracesR L=.bad p9 c9:=by unfold bracesR;rw[HE2.out];dsimp only[PR.bind];rw[HE3.out];dsimp only[PR.bind];rw[if_neg HIF.out];rw[HE9.out];try rfl
  show RC R D w symv (bracesR L) _ _
  rw[hfin]
  exact⟨rfl,gr_tr HG6.out hgf⟩
 | ok p L9=>
 rw[hr9] at HC9
 have HE9:=hHi hr9
 clear hr9
 refine hMo HC9 ?_
 rintro e a9 ⟨rfl,hr,hg⟩
 have HN9:=hHi hg
 have HR9:=hHi hr
 have HG9:=hHi (gr_tr HG6.out hg)
 clear hr hg
 have Kr_9:=kZ Kr_6 HN9.out HLT.out HZ1.out
 have Ks_9:=kZ Ks_6 HN9.out HLT.out HZ4.out
 have Kx_9:=kZ Kx_6 HN9.out HLT.out HZ6.out
 obtain⟨cs0_10,cs1_11,cs2_12,cs3_13,cs4_14,cs5_15,cs6_16,cs7_17⟩:=Ks_9.out.c8
 have zs_18:=Ks_9.out.frozen
 have ls_18:=Ks_9.out.lt
 obtain⟨a19,ha19⟩:∃q,a9.setCell ⟨a3.heap.size,7,none⟩ (.string p)=q:=⟨_,rfl⟩
 have HN19:Hid (a9.grownBy a19 (some a3.heap.size)):=by show World.grownBy _ _ _;rw[←ha19];exact grownBy_setCell _ _ _ _
 have HR19:=hHi (Rd.kept HR9.out HN19.out (by have:=HLT.out;have:=HZ4.out;omega))
 have HG19:Hid (w.grownBy a19 (some R)):=gr_new HG9.out HN19.out HZ4.out
 have Kr_19:=kK Kr_9 HN19.out (by have h1:=Blk.lt Kr_1.out;have h2:=HNs.out;simp;omega)
 have Ks_19:Hid (Blk a19 a3.heap.size 134 #[.int .i64 0,.string ⟨#[]⟩,.int .u64 0,.int .u64 0,.int .u64 0,.int .u64 0,.string n,.string p]):=by show Blk _ _ _ _;rw[←ha19];exact Blk.set Ks_9.out 7 _
 have HC20:=hU (rd_want R D L9 [125] a19 HR19.out (by simp))
 go_wp2_with fail
 cases hr20:wantR [125] L9 with
 | bad p20 c20=>
  rw[hr20] at HC20
  have HE20:=hHi hr20
  clear hr20
  refine hMo HC20 ?_
  rintro e wf ⟨rfl,hgf⟩
  simp only[FE]
  go_wp2
  refine⟨rfl,?_⟩
  have hfin:bracesR L=.bad p20 c20:=by unfold bracesR;rw[HE2.out];dsimp only[PR.bind];rw[HE3.out];dsimp only[PR.bind];rw[if_neg HIF.out];rw[HE9.out];dsimp only[PR.bind];rw[HE20.out];try rfl
  show RC R D w symv (bracesR L) _ _
  rw[hfin]
  exact⟨rfl,gr_tr HG19.out hgf⟩
 | ok u2 L20=>
 rw[hr20] at HC20
 have HE20:=hHi hr20
 clear hr20
 refine hMo HC20 ?_
 rintro e a20 ⟨rfl,hr,hg⟩
 have HN20:=hHi hg
 have HR20:=hHi hr
 have HG20:=hHi (gr_tr HG19.out hg)
 clear hr hg
 have Kr_20:=kZ Kr_19 HN20.out HLT.out HZ1.out
 have Ks_20:=kZ Ks_19 HN20.out HLT.out HZ4.out
 cases q1:isT [42] L20 with
 | true=>
  have Q1:=hHi q1
  clear q1
  have HI1:Hid (∀W,Rd W R D L20→Calls Tryz.prog 183 #[.pointer (some ⟨R,0,none⟩),.string ⟨#[42]⟩] W fun e w'=>e=.returned (.bool true)∧Below W.heap.size W w'):=fun W h=>by have:=rd_is R D L20 [42] W h;rw[Q1.out] at this;exact this
  go_wp2_with fail
  refine (HI1.out a20 HR20.out).mono ?_
  rintro e a21 ⟨rfl,hb⟩
  have HN21:Hid (Below a20.heap.size a20 a21):=hb
  clear hb
  have HR21:=hHi (HR20.out.below HN21.out)
  have HG21:=hHi (grown_below HG20.out HN21.out)
  have Kr_21:=kA Kr_20 HN21
  have Ks_21:=kA Ks_20 HN21
  obtain⟨cs0_22,cs1_23,cs2_24,cs3_25,cs4_26,cs5_27,cs6_28,cs7_29⟩:=Ks_21.out.c8
  have HC30:=hU (rd_often R D L20 ⟨0,⟨#[]⟩,⟨0,0,0,0⟩,n,p⟩ a21 HR21.out)
  go_wp2_with fail
  cases hr30:oftenR ⟨0,⟨#[]⟩,⟨0,0,0,0⟩,n,p⟩ L20 with
  | bad p30 c30=>
   rw[hr30] at HC30
   have HE30:=hHi hr30
   clear hr30
   refine hMo HC30 ?_
   rintro e wf ⟨rfl,hgf⟩
   simp only[FE]
   go_wp2
   refine⟨rfl,?_⟩
   have hfin:bracesR L=.bad p30 c30:=by unfold bracesR;rw[HE2.out];dsimp only[PR.bind];rw[HE3.out];dsimp only[PR.bind];rw[if_neg HIF.out];rw[HE9.out];dsimp only[PR.bind];rw[HE20.out];dsimp only[PR.bind];rw[if_neg (fun h=>by rw[Q1.out] at h;exact absurd h.1 (by simp))];rw[HE30.out];try rfl
   show RC R D w symv (bracesR L) _ _
   rw[hfin]
   exact⟨rfl,gr_tr HG21.out hgf⟩
  | ok y L30=>
  rw[hr30] at HC30
  have HE30:=hHi hr30
  clear hr30
  refine hMo HC30 ?_
  rintro e a30 ⟨rfl,hr,hg⟩
  have HN30:=hHi hg
  have HR30:=hHi hr
  have HG30:=hHi (gr_tr HG21.out hg)
  clear hr hg
  have Kr_30:=kZ Kr_21 HN30.out HLT.out HZ1.out
  have Ks_30:=kZ Ks_21 HN30.out HLT.out HZ4.out
  dsimp only[symv]
  obtain⟨cr0_31,cr1_32,cr2_33,cr3_34,cr4_35,cr5_36,cr6_37,cr7_38⟩:=Kr_30.out.c8
  have zr_39:=Kr_30.out.frozen
  have lr_39:=Kr_30.out.lt
  go_wp2
  refine gen (fun W=>Blk W w.heap.size 134 _∧a30.grownBy W (some w.heap.size)) ⟨Blk.set8 (W:=a30) Kr_30.out _ _ _ _ _ _ _ _,grset8 _ _ _ _ _ _ _ _ _ _⟩ ?_
  rintro W ⟨hb,hgW⟩
  refine bodyPost_ret (results_cell_row rfl _ _ w.heap.size 134 _ (0,0) _ rfl hb Tryz.underlying134 rfl (by kernel_rfl)) rfl ?_
  have hfin:bracesR L=.ok y L30:=by unfold bracesR;rw[HE2.out];dsimp only[PR.bind];rw[HE3.out];dsimp only[PR.bind];rw[if_neg HIF.out];rw[HE9.out];dsimp only[PR.bind];rw[HE20.out];dsimp only[PR.bind];rw[if_neg (fun h=>by rw[Q1.out] at h;exact absurd h.1 (by simp))];rw[HE30.out]
  show RC R D w symv (bracesR L) _ _
  rw[hfin]
  exact⟨rfl,Rd.kept HR30.out hgW (by have:=HLT.out;have:=HZ1.out;omega),gr_new HG30.out hgW HZ1.out⟩
 | false=>
 have Q1:=hHi q1
 clear q1
 have HI1:Hid (∀W,Rd W R D L20→Calls Tryz.prog 183 #[.pointer (some ⟨R,0,none⟩),.string ⟨#[42]⟩] W fun e w'=>e=.returned (.bool false)∧Below W.heap.size W w'):=fun W h=>by have:=rd_is R D L20 [42] W h;rw[Q1.out] at this;exact this
 cases q2:isT [43] L20 with
 | true=>
  have Q2:=hHi q2
  clear q2
  have HI2:Hid (∀W,Rd W R D L20→Calls Tryz.prog 183 #[.pointer (some ⟨R,0,none⟩),.string ⟨#[43]⟩] W fun e w'=>e=.returned (.bool true)∧Below W.heap.size W w'):=fun W h=>by have:=rd_is R D L20 [43] W h;rw[Q2.out] at this;exact this
  go_wp2_with fail
  refine (HI1.out a20 HR20.out).mono ?_
  rintro e a21 ⟨rfl,hb⟩
  have HN21:Hid (Below a20.heap.size a20 a21):=hb
  clear hb
  have HR21:=hHi (HR20.out.below HN21.out)
  have HG21:=hHi (grown_below HG20.out HN21.out)
  have Kr_21:=kA Kr_20 HN21
  have Ks_21:=kA Ks_20 HN21
  go_wp2_with fail
  refine (HI2.out a21 HR21.out).mono ?_
  rintro e a22 ⟨rfl,hb⟩
  have HN22:Hid (Below a21.heap.size a21 a22):=hb
  clear hb
  have HR22:=hHi (HR21.out.below HN22.out)
  have HG22:=hHi (grown_below HG21.out HN22.out)
  have Kr_22:=kA Kr_21 HN22
  have Ks_22:=kA Ks_21 HN22
  obtain⟨cs0_23,cs1_24,cs2_25,cs3_26,cs4_27,cs5_28,cs6_29,cs7_30⟩:=Ks_22.out.c8
  have HC31:=hU (rd_often R D L20 ⟨0,⟨#[]⟩,⟨0,0,0,0⟩,n,p⟩ a22 HR22.out)
  go_wp2_with fail
  cases hr31:oftenR ⟨0,⟨#[]⟩,⟨0,0,0,0⟩,n,p⟩ L20 with
  | bad p31 c31=>
   rw[hr31] at HC31
   have HE31:=hHi hr31
   clear hr31
   refine hMo HC31 ?_
   rintro e wf ⟨rfl,hgf⟩
   simp only[FE]
   go_wp2
   refine⟨rfl,?_⟩
   have hfin:bracesR L=.bad p31 c31:=by unfold bracesR;rw[HE2.out];dsimp only[PR.bind];rw[HE3.out];dsimp only[PR.bind];rw[if_neg HIF.out];rw[HE9.out];dsimp only[PR.bind];rw[HE20.out];dsimp only[PR.bind];rw[if_neg (fun h=>by rw[Q2.out] at h;exact absurd h.2 (by simp))];rw[HE31.out];try rfl
   show RC R D w symv (bracesR L) _ _
   rw[hfin]
   exact⟨rfl,gr_tr HG22.out hgf⟩
  | ok y L31=>
  rw[hr31] at HC31
  have HE31:=hHi hr31
  clear hr31
  refine hMo HC31 ?_
  rintro e a31 ⟨rfl,hr,hg⟩
  have HN31:=hHi hg
  have HR31:=hHi hr
  have HG31:=hHi (gr_tr HG22.out hg)
  clear hr hg
  have Kr_31:=kZ Kr_22 HN31.out HLT.out HZ1.out
  have Ks_31:=kZ Ks_22 HN31.out HLT.out HZ4.out
  dsimp only[symv]
  obtain⟨cr0_32,cr1_33,cr2_34,cr3_35,cr4_36,cr5_37,cr6_38,cr7_39⟩:=Kr_31.out.c8
  have zr_40:=Kr_31.out.frozen
  have lr_40:=Kr_31.out.lt
  go_wp2
  refine gen (fun W=>Blk W w.heap.size 134 _∧a31.grownBy W (some w.heap.size)) ⟨Blk.set8 (W:=a31) Kr_31.out _ _ _ _ _ _ _ _,grset8 _ _ _ _ _ _ _ _ _ _⟩ ?_
  rintro W ⟨hb,hgW⟩
  refine bodyPost_ret (results_cell_row rfl _ _ w.heap.size 134 _ (0,0) _ rfl hb Tryz.underlying134 rfl (by kernel_rfl)) rfl ?_
  have hfin:bracesR L=.ok y L31:=by unfold bracesR;rw[HE2.out];dsimp only[PR.bind];rw[HE3.out];dsimp only[PR.bind];rw[if_neg HIF.out];rw[HE9.out];dsimp only[PR.bind];rw[HE20.out];dsimp only[PR.bind];rw[if_neg (fun h=>by rw[Q2.out] at h;exact absurd h.2 (by simp))];rw[HE31.out]
  show RC R D w symv (bracesR L) _ _
  rw[hfin]
  exact⟨rfl,Rd.kept HR31.out hgW (by have:=HLT.out;have:=HZ1.out;omega),gr_new HG31.out hgW HZ1.out⟩
 | false=>
 have Q2:=hHi q2
 clear q2
 have HI2:Hid (∀W,Rd W R D L20→Calls Tryz.prog 183 #[.pointer (some ⟨R,0,none⟩),.string ⟨#[43]⟩] W fun e w'=>e=.returned (.bool false)∧Below W.heap.size W w'):=fun W h=>by have:=rd_is R D L20 [43] W h;rw[Q2.out] at this;exact this
 go_wp2_with fail
 refine (HI1.out a20 HR20.out).mono ?_
 rintro e a21 ⟨rfl,hb⟩
 have HN21:Hid (Below a20.heap.size a20 a21):=hb
 clear hb
 have HR21:=hHi (HR20.out.below HN21.out)
 have HG21:=hHi (grown_below HG20.out HN21.out)
 have Kr_21:=kA Kr_20 HN21
 have Ks_21:=kA Ks_20 HN21
 go_wp2_with fail
 refine (HI2.out a21 HR21.out).mono ?_
 rintro e a22 ⟨rfl,hb⟩
 have HN22:Hid (Below a21.heap.size a21 a22):=hb
 clear hb
 have HR22:=hHi (HR21.out.below HN22.out)
 have HG22:=hHi (grown_below HG21.out HN22.out)
 have Kr_22:=kA Kr_21 HN22
 have Ks_22:=kA Ks_21 HN22
 go_wp2_with fail
 refine (rd_fail R D L20 30 a22 HR22.out).mono ?_
 rintro e wf ⟨rfl,hbf⟩
 simp only[FE]
 go_wp2
 refine⟨rfl,?_⟩
 have hfin:bracesR L=.bad (wd L20).fro 30:=by unfold bracesR;rw[HE2.out];dsimp only[PR.bind];rw[HE3.out];dsimp only[PR.bind];rw[if_neg HIF.out];rw[HE9.out];dsimp only[PR.bind];rw[HE20.out];dsimp only[PR.bind];rw[if_pos ⟨Q1.out,Q2.out⟩]
 show RC R D w symv (bracesR L) _ _
 rw[hfin]
 exact⟨rfl,grown_below HG22.out hbf⟩
theorem rd_sym (R:Nat) (D:List Value) (L:List Wd) (w:World) (h:Rd w R D L) :
  Calls Tryz.prog 197 #[.pointer (some ⟨R,0,none⟩)] w fun e w'=>RC R D w symv (symR L) e w':=by
 have hfd:=fld_kind
 have HD1:Hid (symR L=if (wd L).kind=4 then (textR L).bind fun t L=>.ok ⟨1,t,⟨0,0,0,0⟩,⟨#[]⟩,⟨#[]⟩⟩ L else if (wd L).kind=1 then (nameR L).bind fun n L=>oftenR ⟨3,⟨#[]⟩,⟨0,0,0,0⟩,n,⟨#[]⟩⟩ L else if (wd L).kind=5 then (setR L).bind fun s L=>oftenR ⟨2,⟨#[]⟩,s,⟨#[]⟩,⟨#[]⟩⟩ L else bracesR L):=rfl
 have HLT:Hid _:=h.lt
 have HR0:Hid (Rd w R D L):=h
 have HG0:Hid (w.grownBy w (some R)):=gr_refl _ _
 clear h
 obtain⟨a1,ha1⟩:∃q,w.alloc (.cells #[.int .i64 0,.string ⟨#[]⟩,.int .u64 0,.int .u64 0,.int .u64 0,.int .u64 0,.string ⟨#[]⟩,.string ⟨#[]⟩] 134)=q:=⟨_,rfl⟩
 have HN1:=kB ha1
 have HZ1:=hHi HG0.out.size
 have HR1:=hHi (HR0.out.below HN1.out)
 have HG1:=hHi (grown_below HG0.out HN1.out)
 have Kr_1:=kN ha1
 by_cases k4:(wd L).kind=4
 case pos=>
  rw[if_pos k4] at HD1
  have HQ:Hid (symR L=(textR L).bind fun t L=>.ok ⟨1,t,⟨0,0,0,0⟩,⟨#[]⟩,⟨#[]⟩⟩ L):=HD1.out
  have hk4:(((wd L).kind:Int)==4)=true:=by simp;omega
  clear k4 HD1
  go_enter Tryz.func197,Tryz.ntmps197
  go_wp2_with fail
  refine (rd_word R D L a1 HR1.out).mono ?_
  rintro e a2 ⟨⟨ba,bc,rfl,_⟩,hb⟩
  have HN2:Hid (Below a1.heap.size a1 a2):=hb
  clear hb
  have HR2:=hHi (HR1.out.below HN2.out)
  have HG2:=hHi (grown_below HG1.out HN2.out)
  have Kr_2:=kA Kr_1 HN2
  have HC3:=hU (rd_text R D L a2 HR2.out)
  go_wp2_with fail
  cases hr3:textR L with
  | bad p3 c3=>
   rw[hr3] at HC3
   have HE3:=hHi hr3
   clear hr3
   refine hMo HC3 ?_
   rintro e wf ⟨rfl,hgf⟩
   simp only[FE]
   go_wp2
   refine⟨rfl,?_⟩
   have hfin:symR L=.bad p3 c3:=by rw[HQ.out];rw[HE3.out];try rfl
   show RC R D w symv (symR L) _ _
   rw[hfin]
   exact⟨rfl,gr_tr HG2.out hgf⟩
  | ok t L3=>
  rw[hr3] at HC3
  have HE3:=hHi hr3
  clear hr3
  refine hMo HC3 ?_
  rintro e a3 ⟨rfl,hr,hg⟩
  have HN3:=hHi hg
  have HR3:=hHi hr
  have HG3:=hHi (gr_tr HG2.out hg)
  clear hr hg
  have Kr_3:=kZ Kr_2 HN3.out HLT.out HZ1.out
  obtain⟨cr0_4,cr1_5,cr2_6,cr3_7,cr4_8,cr5_9,cr6_10,cr7_11⟩:=Kr_3.out.c8
  have zr_12:=Kr_3.out.frozen
  have lr_12:=Kr_3.out.lt
  go_wp2
  refine gen (fun W=>Blk W w.heap.size 134 _∧a3.grownBy W (some w.heap.size)) ⟨Blk.set8 (W:=a3) Kr_3.out _ _ _ _ _ _ _ _,grset8 _ _ _ _ _ _ _ _ _ _⟩ ?_
  rintro W ⟨hb,hgW⟩
  refine bodyPost_ret (results_cell_row rfl _ _ w.heap.size 134 _ (0,0) _ rfl hb Tryz.underlying134 rfl (by kernel_rfl)) rfl ?_
  have hfin:symR L=.ok ⟨1,t,⟨0,0,0,0⟩,⟨#[]⟩,⟨#[]⟩⟩ L3:=by rw[HQ.out];rw[HE3.out];dsimp only[PR.bind]
  show RC R D w symv (symR L) _ _
  rw[hfin]
  exact⟨rfl,Rd.kept HR3.out hgW (by have:=HLT.out;have:=HZ1.out;omega),gr_new HG3.out hgW HZ1.out⟩
 rw[if_neg k4] at HD1
 have hk4:(((wd L).kind:Int)==4)=false:=by simp;omega
 clear k4
 by_cases k1:(wd L).kind=1
 case pos=>
  rw[if_pos k1] at HD1
  have HQ:Hid (symR L=(nameR L).bind fun n L=>oftenR ⟨3,⟨#[]⟩,⟨0,0,0,0⟩,n,⟨#[]⟩⟩ L):=HD1.out
  have hk1:(((wd L).kind:Int)==1)=true:=by simp;omega
  clear k1 HD1
  go_enter Tryz.func197,Tryz.ntmps197
  go_wp2_with fail
  refine (rd_word R D L a1 HR1.out).mono ?_
  rintro e a2 ⟨⟨ba,bc,rfl,_⟩,hb⟩
  have HN2:Hid (Below a1.heap.size a1 a2):=hb
  clear hb
  have HR2:=hHi (HR1.out.below HN2.out)
  have HG2:=hHi (grown_below HG1.out HN2.out)
  have Kr_2:=kA Kr_1 HN2
  have HC3:=hU (rd_name R D L a2 HR2.out)
  go_wp2_with fail
  cases hr3:nameR L with
  | bad p3 c3=>
   rw[hr3] at HC3
   have HE3:=hHi hr3
   clear hr3
   refine hMo HC3 ?_
   rintro e wf ⟨rfl,hgf⟩
   simp only[FE]
   go_wp2
   refine⟨rfl,?_⟩
   have hfin:symR L=.bad p3 c3:=by rw[HQ.out];rw[HE3.out];try rfl
   show RC R D w symv (symR L) _ _
   rw[hfin]
   exact⟨rfl,gr_tr HG2.out hgf⟩
  | ok n L3=>
  rw[hr3] at HC3
  have HE3:=hHi hr3
  clear hr3
  refine hMo HC3 ?_
  rintro e a3 ⟨rfl,hr,hg⟩
  have HN3:=hHi hg
  have HR3:=hHi hr
  have HG3:=hHi (gr_tr HG2.out hg)
  clear hr hg
  have Kr_3:=kZ Kr_2 HN3.out HLT.out HZ1.out
  have HC4:=hU (rd_often R D L3 ⟨3,⟨#[]⟩,⟨0,0,0,0⟩,n,⟨#[]⟩⟩ a3 HR3.out)
  go_wp2_with fail
  cases hr4:oftenR ⟨3,⟨#[]⟩,⟨0,0,0,0⟩,n,⟨#[]⟩⟩ L3 with
  | bad p4 c4=>
   rw[hr4] at HC4
   have HE4:=hHi hr4
   clear hr4
   refine hMo HC4 ?_
   rintro e wf ⟨rfl,hgf⟩
   simp only[FE]
   go_wp2
   refine⟨rfl,?_⟩
   have hfin:symR L=.bad p4 c4:=by rw[HQ.out];rw[HE3.out];dsimp only[PR.bind];rw[HE4.out];try rfl
   show RC R D w symv (symR L) _ _
   rw[hfin]
   exact⟨rfl,gr_tr HG3.out hgf⟩
  | ok y L4=>
  rw[hr4] at HC4
  have HE4:=hHi hr4
  clear hr4
  refine hMo HC4 ?_
  rintro e a4 ⟨rfl,hr,hg⟩
  have HN4:=hHi hg
  have HR4:=hHi hr
  have HG4:=hHi (gr_tr HG3.out hg)
  clear hr hg
  have Kr_4:=kZ Kr_3 HN4.out HLT.out HZ1.out
  dsimp only[symv]
  obtain⟨cr0_5,cr1_6,cr2_7,cr3_8,cr4_9,cr5_10,cr6_11,cr7_12⟩:=Kr_4.out.c8
  have zr_13:=Kr_4.out.frozen
  have lr_13:=Kr_4.out.lt
  go_wp2
  refine gen (fun W=>Blk W w.heap.size 134 _∧a4.grownBy W (some w.heap.size)) ⟨Blk.set8 (W:=a4) Kr_4.out _ _ _ _ _ _ _ _,grset8 _ _ _ _ _ _ _ _ _ _⟩ ?_
  rintro W ⟨hb,hgW⟩
  refine bodyPost_ret (results_cell_row rfl _ _ w.heap.size 134 _ (0,0) _ rfl hb Tryz.underlying134 rfl (by kernel_rfl)) rfl ?_
  have hfin:symR L=.ok y L4:=by rw[HQ.out];rw[HE3.out];dsimp only[PR.bind];rw[HE4.out]
  show RC R D w symv (symR L) _ _
  rw[hfin]
  exact⟨rfl,Rd.kept HR4.out hgW (by have:=HLT.out;have:=HZ1.out;omega),gr_new HG4.out hgW HZ1.out⟩
 rw[if_neg k1] at HD1
 have hk1:(((wd L).kind:Int)==1)=false:=by simp;omega
 clear k1
 by_cases k5:(wd L).kind=5
 case pos=>
  rw[if_pos k5] at HD1
  have HQ:Hid (symR L=(setR L).bind fun s L=>oftenR ⟨2,⟨#[]⟩,s,⟨#[]⟩,⟨#[]⟩⟩ L):=HD1.out
  have hk5:(((wd L).kind:Int)==5)=true:=by simp;omega
  clear k5 HD1
  go_enter Tryz.func197,Tryz.ntmps197
  go_wp2_with fail
  refine (rd_word R D L a1 HR1.out).mono ?_
  rintro e a2 ⟨⟨ba,bc,rfl,_⟩,hb⟩
  have HN2:Hid (Below a1.heap.size a1 a2):=hb
  clear hb
  have HR2:=hHi (HR1.out.below HN2.out)
  have HG2:=hHi (grown_below HG1.out HN2.out)
  have Kr_2:=kA Kr_1 HN2
  have HC3:=hU (rd_set R D L a2 HR2.out)
  go_wp2_with fail
  cases hr3:setR L with
  | bad p3 c3=>
   rw[hr3] at HC3
   have HE3:=hHi hr3
   clear hr3
   refine hMo HC3 ?_
   rintro e wf ⟨rfl,hgf⟩
   simp only[FE]
   go_wp2
   refine⟨rfl,?_⟩
   have hfin:symR L=.bad p3 c3:=by rw[HQ.out];rw[HE3.out];try rfl
   show RC R D w symv (symR L) _ _
   rw[hfin]
   exact⟨rfl,gr_tr HG2.out hgf⟩
  | ok s L3=>
  rw[hr3] at HC3
  have HE3:=hHi hr3
  clear hr3
  refine hMo HC3 ?_
  rintro e a3 ⟨rfl,hr,hg⟩
  have HN3:=hHi hg
  have HR3:=hHi hr
  have HG3:=hHi (gr_tr HG2.out hg)
  clear hr hg
  have Kr_3:=kZ Kr_2 HN3.out HLT.out HZ1.out
  have HC4:=hU (rd_often R D L3 ⟨2,⟨#[]⟩,s,⟨#[]⟩,⟨#[]⟩⟩ a3 HR3.out)
  go_wp2_with fail
  cases hr4:oftenR ⟨2,⟨#[]⟩,s,⟨#[]⟩,⟨#[]⟩⟩ L3 with
  | bad p4 c4=>
   rw[hr4] at HC4
   have HE4:=hHi hr4
   clear hr4
   refine hMo HC4 ?_
   rintro e wf ⟨rfl,hgf⟩
   simp only[FE]
   go_wp2
   refine⟨rfl,?_⟩
   have hfin:symR L=.bad p4 c4:=by rw[HQ.out];rw[HE3.out];dsimp only[PR.bind];rw[HE4.out];try rfl
   show RC R D w symv (symR L) _ _
   rw[hfin]
   exact⟨rfl,gr_tr HG3.out hgf⟩
  | ok y L4=>
  rw[hr4] at HC4
  have HE4:=hHi hr4
  clear hr4
  refine hMo HC4 ?_
  rintro e a4 ⟨rfl,hr,hg⟩
  have HN4:=hHi hg
  have HR4:=hHi hr
  have HG4:=hHi (gr_tr HG3.out hg)
  clear hr hg
  have Kr_4:=kZ Kr_3 HN4.out HLT.out HZ1.out
  dsimp only[symv]
  obtain⟨cr0_5,cr1_6,cr2_7,cr3_8,cr4_9,cr5_10,cr6_11,cr7_12⟩:=Kr_4.out.c8
  have zr_13:=Kr_4.out.frozen
  have lr_13:=Kr_4.out.lt
  go_wp2
  refine gen (fun W=>Blk W w.heap.size 134 _∧a4.grownBy W (some w.heap.size)) ⟨Blk.set8 (W:=a4) Kr_4.out _ _ _ _ _ _ _ _,grset8 _ _ _ _ _ _ _ _ _ _⟩ ?_
  rintro W ⟨hb,hgW⟩
  refine bodyPost_ret (results_cell_row rfl _ _ w.heap.size 134 _ (0,0) _ rfl hb Tryz.underlying134 rfl (by kernel_rfl)) rfl ?_
  have hfin:symR L=.ok y L4:=by rw[HQ.out];rw[HE3.out];dsimp only[PR.bind];rw[HE4.out]
  show RC R D w symv (symR L) _ _
  rw[hfin]
  exact⟨rfl,Rd.kept HR4.out hgW (by have:=HLT.out;have:=HZ1.out;omega),gr_new HG4.out hgW HZ1.out⟩
 rw[if_neg k5] at HD1
 have hk5:(((wd L).kind:Int)==5)=false:=by simp;omega
 clear k5
 have HQ:Hid (symR L=bracesR L):=HD1.out
 clear HD1
 go_enter Tryz.func197,Tryz.ntmps197
 go_wp2_with fail
 refine (rd_word R D L a1 HR1.out).mono ?_
 rintro e a2 ⟨⟨ba,bc,rfl,_⟩,hb⟩
 have HN2:Hid (Below a1.heap.size a1 a2):=hb
 clear hb
 have HR2:=hHi (HR1.out.below HN2.out)
 have HG2:=hHi (grown_below HG1.out HN2.out)
 have Kr_2:=kA Kr_1 HN2
 have HC3:=hU (rd_braces R D L a2 HR2.out)
 go_wp2_with fail
 cases hr3:bracesR L with
 | bad p3 c3=>
  rw[hr3] at HC3
  have HE3:=hHi hr3
  clear hr3
  refine hMo HC3 ?_
  rintro e wf ⟨rfl,hgf⟩
  simp only[FE]
  go_wp2
  refine⟨rfl,?_⟩
  have hfin:symR L=.bad p3 c3:=by rw[HQ.out];rw[HE3.out];try rfl
  show RC R D w symv (symR L) _ _
  rw[hfin]
  exact⟨rfl,gr_tr HG2.out hgf⟩
 | ok y L3=>
 rw[hr3] at HC3
 have HE3:=hHi hr3
 clear hr3
 refine hMo HC3 ?_
 rintro e a3 ⟨rfl,hr,hg⟩
 have HN3:=hHi hg
 have HR3:=hHi hr
 have HG3:=hHi (gr_tr HG2.out hg)
 clear hr hg
 have Kr_3:=kZ Kr_2 HN3.out HLT.out HZ1.out
 dsimp only[symv]
 obtain⟨cr0_4,cr1_5,cr2_6,cr3_7,cr4_8,cr5_9,cr6_10,cr7_11⟩:=Kr_3.out.c8
 have zr_12:=Kr_3.out.frozen
 have lr_12:=Kr_3.out.lt
 go_wp2
 refine gen (fun W=>Blk W w.heap.size 134 _∧a3.grownBy W (some w.heap.size)) ⟨Blk.set8 (W:=a3) Kr_3.out _ _ _ _ _ _ _ _,grset8 _ _ _ _ _ _ _ _ _ _⟩ ?_
 rintro W ⟨hb,hgW⟩
 refine bodyPost_ret (results_cell_row rfl _ _ w.heap.size 134 _ (0,0) _ rfl hb Tryz.underlying134 rfl (by kernel_rfl)) rfl ?_
 have hfin:symR L=.ok y L3:=by rw[HQ.out];rw[HE3.out]
 show RC R D w symv (symR L) _ _
 rw[hfin]
 exact⟨rfl,Rd.kept HR3.out hgW (by have:=HLT.out;have:=HZ1.out;omega),gr_new HG3.out hgW HZ1.out⟩
theorem often_ok {s y:Sy} {L L':List Wd} (h:oftenR s L=.ok y L'):y.set=s.set:=by
 unfold oftenR at h
 split at h
 ·cases h;rfl
 split at h
 ·cases h;rfl
 split at h
 ·cases h;rfl
 cases h;rfl
theorem set_zero:(⟨0,0,0,0⟩:St).ok:=⟨by decide,by decide,by decide,by decide⟩
theorem sym_set {y:Sy} {L L':List Wd} (hs:(wd L).set.ok) (h:symR L=.ok y L'):y.set.ok:=by
 unfold symR at h
 split at h
 ·cases ht:textR L with
  | bad p c=>rw[ht] at h;cases h
  | ok t L1=>rw[ht] at h;cases h;exact set_zero
 split at h
 ·cases ht:nameR L with
  | bad p c=>rw[ht] at h;cases h
  | ok t L1=>rw[ht] at h;dsimp only[PR.bind] at h;rw[often_ok h];exact set_zero
 split at h
 ·rename_i k5
  have ht:setR L=.ok (wd L).set L.tail:=by unfold setR takeR;rw[if_pos k5];rfl
  rw[ht] at h
  dsimp only[PR.bind] at h
  rw[often_ok h]
  exact hs
 ·unfold bracesR at h
  cases h1:wantR [123] L with
  | bad p c=>rw[h1] at h;cases h
  | ok u L1=>
  rw[h1] at h;dsimp only[PR.bind] at h
  cases h2:nameR L1 with
  | bad p c=>rw[h2] at h;cases h
  | ok n L2=>
  rw[h2] at h;dsimp only[PR.bind] at h
  split at h
  ·cases h
  cases h3:textR L2 with
  | bad p c=>rw[h3] at h;cases h
  | ok p L3=>
  rw[h3] at h;dsimp only[PR.bind] at h
  cases h4:wantR [125] L3 with
  | bad p c=>rw[h4] at h;cases h
  | ok u L4=>
  rw[h4] at h;dsimp only[PR.bind] at h
  split at h
  ·cases h
  rw[often_ok h];exact set_zero
def lenV:Value→Nat | .slice _ n _=>n | _=>0
def RL {α:Type} (R:Nat) (D:List Value) (w:World) (V:World→α→Value→Prop):PR α→Ending→World→Prop
 | .ok a L',e,w'=>(∃v,e=.returned v∧V w' a v)∧Rd w' R D L'∧w.grownBy w' (some R)
 | .bad p c,e,w'=>e=FE p c∧w.grownBy w' (some R)
theorem Rd.keptO {W W':World} {R:Nat} {o:Option Nat} {D:List Value} {L:List Wd} (h:Rd W R D L) (hg:W.grownBy W' o) (ho:∀b,o=some b→R<b):Rd W' R D L:=by
 cases o with
 | none=>exact h.below ⟨hg.os,hg.tape,hg.output,hg.size,fun b hb=>hg.block b hb (by simp)⟩
 | some b=>exact h.kept hg (ho b rfl)
theorem gr_newO {w W W':World} {R:Nat} {o:Option Nat} (h:w.grownBy W (some R)) (hg:W.grownBy W' o) (ho:∀b,o=some b→w.heap.size≤b):w.grownBy W' (some R):=by
 cases o with
 | none=>exact grown_below h ⟨hg.os,hg.tape,hg.output,hg.size,fun b hb=>hg.block b hb (by simp)⟩
 | some b=>exact gr_new h hg (ho b rfl)
theorem own_kept {W W':World} {base e size n b:Nat} {v:Value} {xs:List Value} (h:W.ownsRow base e size v n xs) (hg:W.grownBy W' (some b)) (hb:b<base):W'.ownsRow base e size v n xs:=row_kept_lt h hg hb
theorem own_after {W W':World} {base e size n:Nat} {v:Value} {xs:List Value} (h:W.ownsRow base e size v n xs) (hg:Below W.heap.size W W'):W'.ownsRow base e size v n xs:=row_below h hg
theorem own_slice {W:World} {base e size n:Nat} {v:Value} {xs:List Value} (h:W.ownsRow base e size v n xs):∃va vc,v=.slice va n vc:=row_slice h
def scell (x:Sy):List Value:=[.int .i64 x.kind,.string x.text,.int .u64 x.set.a,.int .u64 x.set.b,.int .u64 x.set.c,.int .u64 x.set.d,.string x.name,.string x.sep]
def scells (l:List Sy):List Value:=l.flatMap scell
theorem scells_snoc (l:List Sy) (x:Sy):scells (l++[x])=scells l++scell x:=by simp[scells]
structure SymsAt (W:World) (base:Nat) (l:List Sy) (v:Value):Prop where
 row:W.ownsRow base 134 8 v l.length (scells l)
 ok:∀x∈l,x.set.ok
theorem SymsAt.kept {W W':World} {base b:Nat} {l:List Sy} {v:Value} (h:SymsAt W base l v) (hg:W.grownBy W' (some b)) (hb:b<base):SymsAt W' base l v:=⟨own_kept h.row hg hb,h.ok⟩
theorem SymsAt.after {W W':World} {base:Nat} {l:List Sy} {v:Value} (h:SymsAt W base l v) (hg:Below W.heap.size W W'):SymsAt W' base l v:=⟨own_after h.row hg,h.ok⟩
theorem info134:(Tryz.prog.info? 134).map (fun i=>(i.zero,i.size,i.bytes))=some (some (.agg #[.int .i64 0,.string ⟨#[]⟩,.int .u64 0,.int .u64 0,.int .u64 0,.int .u64 0,.string ⟨#[]⟩,.string ⟨#[]⟩]),8,88):=by kernel_rfl
theorem new_cells (w:World) (t:TypeId) (l:List Value):∀j u,l[j]?=some u→(w.alloc (.cells l.toArray t)).cell? ((⟨w.heap.size,0,none⟩:Addr).add j)=some u:=by
 intro j u hj
 have e:(⟨w.heap.size,0,none⟩:Addr).add j=⟨w.heap.size,j,none⟩:=by unfold Addr.add;split<;>simp_all
 rw[e]
 exact cell_new j (by simpa using hj)
theorem rd_syms (R:Nat) (D:List Value) (L:List Wd) (w:World) (h:Rd w R D L) :
  Calls Tryz.prog 182 #[.pointer (some ⟨R,0,none⟩)] w fun e w'=>RL R D w (fun w' l v=>SymsAt w' w.heap.size l v) (syms1 L) e w':=by
 obtain⟨i0,hi,hz0,hz1,hz2⟩:=info_parts info134
 have HOK:Hid (∀ {W:World} {L:List Wd} {y:Sy} {L':List Wd},Rd W R D L→symR L=.ok y L'→y.set.ok):=fun h e=>sym_set h.okset e
 have HLT:Hid _:=h.lt
 have HR0:Hid (Rd w R D L):=h
 have HG0:Hid (w.grownBy w (some R)):=gr_refl _ _
 clear h
 go_enter Tryz.func182,Tryz.ntmps182
 have HC1:=hU (rd_sym R D L w HR0.out)
 go_wp2_with fail
 cases hr1:symR L with
 | bad p1 c1=>
  rw[hr1] at HC1
  have HE1:=hHi hr1
  clear hr1
  refine hMo HC1 ?_
  rintro e wf ⟨rfl,hgf⟩
  simp only[FE]
  go_wp2
  refine⟨rfl,?_⟩
  have hfin:syms1 L=.bad p1 c1:=by unfold syms1;rw[HE1.out];try rfl
  show RL R D w _ (syms1 L) _ _
  rw[hfin]
  exact⟨rfl,gr_tr HG0.out hgf⟩
 | ok y L1=>
 rw[hr1] at HC1
 have HE1:=hHi hr1
 clear hr1
 refine hMo HC1 ?_
 rintro e a1 ⟨rfl,hr,hg⟩
 have HR1:=hHi hr
 have HG1:=hHi (gr_tr HG0.out hg)
 clear hr hg
 have HT0:Hid (syms1 L=symsR 13 [y] L1):=by show _=_;unfold syms1;rw[HE1.out];rfl
 have hyok:=HOK.out HR0.out HE1.out
 have hr0:SymsAt (a1.alloc (.cells #[.int .i64 y.kind,.string y.text,.int .u64 y.set.a,.int .u64 y.set.b,.int .u64 y.set.c,.int .u64 y.set.d,.string y.name,.string y.sep] 134)) w.heap.size [y] (.slice (some ⟨a1.heap.size,0,none⟩) 1 1):=⟨World.ownsRow_lit a1 #[.int .i64 y.kind,.string y.text,.int .u64 y.set.a,.int .u64 y.set.b,.int .u64 y.set.c,.int .u64 y.set.d,.string y.name,.string y.sep] 1 HG1.out.size (by unfold maxLen;omega) rfl,fun x hx=>by simp at hx;rw[hx];exact hyok⟩
 have HS0:=hHi hr0
 have HRa:Hid (Rd (a1.alloc (.cells #[.int .i64 y.kind,.string y.text,.int .u64 y.set.a,.int .u64 y.set.b,.int .u64 y.set.c,.int .u64 y.set.d,.string y.name,.string y.sep] 134)) R D L1):=HR1.out.below ((Below.refl _ _).alloc (Nat.le_refl _) _)
 have HGa:Hid (w.grownBy (a1.alloc (.cells #[.int .i64 y.kind,.string y.text,.int .u64 y.set.a,.int .u64 y.set.b,.int .u64 y.set.c,.int .u64 y.set.d,.string y.name,.string y.sep] 134)) (some R)):=grown_below HG1.out ((Below.refl _ _).alloc (Nat.le_refl _) _)
 clear hr0 hyok
 dsimp only[symv]
 go_wp2
 go_loopw[3] (fun lv W=>∃(f:Nat) (acc:List Sy) (L':List Wd) (va:Option Addr) (vc:Nat),lv=.slice va acc.length vc∧SymsAt W w.heap.size acc lv∧Rd W R D L'∧w.grownBy W (some R)∧f+acc.length=14∧1≤acc.length∧acc.length≤12∧syms1 L=symsR f acc L') (fun lv _=>14-lenV lv)
 case atStart=>exact⟨13,[y],L1,_,_,rfl,HS0.out,HRa.out,HGa.out,rfl,Nat.le_refl _,by simp,HT0.out⟩
 case round=>
  obtain⟨f,acc,L',va,vc,rfl,hs,hr,hg,hf,h1,h12,ht⟩:=hrel
  have HS1:Hid (SymsAt wr w.heap.size acc (.slice va acc.length vc)):=hs
  have HT1:=hHi ht
  have HR7:=hHi hr
  have HG7:=hHi hg
  obtain⟨f,rfl⟩:∃f',f=f'+1:=⟨f-1,by omega⟩
  have HF1:=hHi hf
  have HUN:Hid (symsR (f+1) acc L'=if atSymB L' then (if 12≤acc.length then .bad (wd L').fro 2 else (symR L').bind fun s L=>symsR f (acc++[s]) L) else .ok acc L'):=rfl
  clear hs hr hg ht hf HT0 HS0 HRa HGa
  have HAT:Hid (∀q,atSymB L'=q→Calls Tryz.prog 198 #[.pointer (some ⟨R,0,none⟩)] wr fun e w'=>e=.returned (.bool q)∧Below wr.heap.size wr w'):=fun q hq=>by have:=rd_atSym R D L' wr HR7.out;rw[hq] at this;exact this
  cases hq:atSymB L' with
  | false=>
   have HA:=hU (HAT.out _ hq)
   have hqe:Hid (∀ {α:Type} (a b:PR α),(if atSymB L'=true then a else b)=b):=fun a b=>if_neg (by rw[hq];simp)
   clear hq HAT
   go_wp2_with fail
   refine hMo HA ?_
   rintro e a21 ⟨rfl,hb⟩
   have HN21:Hid (Below wr.heap.size wr a21):=hb
   clear hb
   have HR21:=hHi (HR7.out.below HN21.out)
   have HG21:=hHi (grown_below HG7.out HN21.out)
   go_wp2
   go_ret
   show RL R D w _ (syms1 L) _ _
   rw[HT1.out,HUN.out,hqe.out]
   exact⟨⟨_,rfl,HS1.out.after HN21.out⟩,HR21.out,HG21.out⟩
  | true=>
  have HA:=hU (HAT.out _ hq)
  have hqe:Hid (∀ {α:Type} (a b:PR α),(if atSymB L'=true then a else b)=a):=fun a b=>if_pos hq
  clear hq HAT
  go_wp2_with fail
  refine hMo HA ?_
  rintro e a21 ⟨rfl,hb⟩
  have HN21:Hid (Below wr.heap.size wr a21):=hb
  clear hb
  have HR21:=hHi (HR7.out.below HN21.out)
  have HG21:=hHi (grown_below HG7.out HN21.out)
  have HS2:Hid (SymsAt a21 w.heap.size acc (.slice va acc.length vc)):=HS1.out.after HN21.out
  clear HS1
  by_cases hroom:12≤acc.length
  case pos=>
   have HX:Hid (∀ {α:Type} (a b:PR α),(if 12≤acc.length then a else b)=a):=fun a b=>if_pos hroom
   have HB:=hU (room_bad R D L' acc.length 12 a21 HR21.out hroom)
   clear hroom
   go_wp2_with fail
   refine hMo HB ?_
   rintro e wf ⟨rfl,hbf⟩
   simp only[FE]
   go_wp2
   refine⟨rfl,?_⟩
   show RL R D w _ (syms1 L) _ _
   rw[HT1.out,HUN.out,hqe.out,HX.out]
   exact⟨rfl,grown_below HG21.out hbf⟩
  have HX:Hid (∀ {α:Type} (a b:PR α),(if 12≤acc.length then a else b)=b):=fun a b=>if_neg hroom
  have HB:=hU (room_ok R acc.length 12 a21 (by omega))
  have h11:acc.length<12:=by omega
  clear hroom
  go_wp2_with fail
  refine hMo HB ?_
  rintro e wz9 ⟨rfl,hwz⟩
  have hwz:=hwz.symm
  subst hwz
  have HC22:=hU (rd_sym R D L' a21 HR21.out)
  go_wp2_with fail
  cases hr22:symR L' with
  | bad p22 c22=>
   rw[hr22] at HC22
   have HE22:=hHi hr22
   clear hr22
   refine hMo HC22 ?_
   rintro e wf ⟨rfl,hgf⟩
   simp only[FE]
   go_wp2
   refine⟨rfl,?_⟩
   show RL R D w _ (syms1 L) _ _
   rw[HT1.out,HUN.out,hqe.out,HX.out,HE22.out]
   exact⟨rfl,gr_tr HG21.out hgf⟩
  | ok z L22=>
  rw[hr22] at HC22
  have HE22:=hHi hr22
  clear hr22
  refine hMo HC22 ?_
  rintro e a22 ⟨rfl,hr,hg⟩
  have HN22:=hHi hg
  have HR22:=hHi hr
  have HG22:=hHi (gr_tr HG21.out hg)
  clear hr hg
  have hzok:=HOK.out HR21.out HE22.out
  have HS3:Hid (SymsAt a22 w.heap.size acc (.slice va acc.length vc)):=HS2.out.kept HN22.out HLT.out
  dsimp only[symv]
  have HROW:=hU HS3.out.row
  have HGS:=hHi HG22.out.size
  go_wp2_with (at_builtin;refine wpList_append_lies _ rfl _ _ 55 rfl w.heap.size 134 i0 _ 8 88 Tryz.underlying55 hi hz0 hz1 hz2 rfl (by decide) (.slice va acc.length vc) acc.length (scells acc) rfl ((HROW.out ()).alloc _) ⟨a22.heap.size,0,none⟩ 1 1 (scell z) rfl rfl ?ca1 ?ca2 (by decide) ?ca3 ?ca4 ?ca5 (a22.heap.size+1) (by simp) ?_)
  case ca1=>exact new_cells _ _ (scell z)
  case ca2=>intro u hu;simp[scell] at hu;rcases hu with rfl | rfl | rfl | rfl | rfl | rfl | rfl | rfl<;>rfl
  case ca3=>unfold maxLen;omega
  case ca4=>omega
  case ca5=>have:=HGS.out;simp;omega
  intro g1 cap1 w7 hown hgrow hat hlt7
  have HS4:Hid (SymsAt w7 w.heap.size (acc++[z]) (.slice (some ⟨g1,0,none⟩) (acc.length+1) cap1)):=⟨by rw[scells_snoc,List.length_append];exact hown,fun x hx=>by
   rcases List.mem_append.1 hx with hx | hx
   ·exact HS3.out.ok x hx
   ·simp at hx;rw[hx];exact hzok⟩
  have hob:∀b,(Value.slice va acc.length vc).ownBlock=some b→w.heap.size≤b:=fun b hb=>(HS3.out.row.lt b hb).1
  have HR9:Hid (Rd w7 R D L22):=(HR22.out.below ((Below.refl _ _).alloc (Nat.le_refl _) _)).keptO hgrow (fun b hb=>Nat.lt_of_lt_of_le HLT.out (hob b hb))
  have HG9:Hid (w.grownBy w7 (some R)):=gr_newO (grown_below HG22.out ((Below.refl _ _).alloc (Nat.le_refl _) _)) hgrow hob
  clear hown hgrow hat hlt7 hob hzok
  go_wp2
  go_roundw
  case rel=>exact⟨f,acc++[z],L22,_,_,by rw[List.length_append];rfl,HS4.out,HR9.out,HG9.out,by have:=HF1.out;rw[List.length_append];simp;omega,by rw[List.length_append];simp,by rw[List.length_append];simp;omega,by rw[HT1.out,HUN.out,hqe.out,HX.out,HE22.out];rfl⟩
  case measure=>simp[lenV];omega
theorem rd_assoc (R:Nat) (D:List Value) (L:List Wd) (w:World) (h:Rd w R D L) :
  Calls Tryz.prog 199 #[.pointer (some ⟨R,0,none⟩)] w fun e w'=>e=.returned (.int .i64 (assocB L))∧Below w.heap.size w w':=by
 have HW:=hU (rd_word R D L w h)
 have hfd:=fld_text
 have HD1:Hid (assocB L=if isT [108,101,102,116] L then 1 else if isT [114,105,103,104,116] L then 2 else if isT [110,111,110] L then 3 else 0):=rfl
 generalize assocB L=Q at *
 clear h
 simp only[wval] at HW
 unfold strB at HW
 cases q0:isT [108,101,102,116] L with
 | true=>
  rw[q0] at HD1
  have n0:((wd L).text==[108,101,102,116])=true:=q0
  clear q0
  generalize wd L=x at *
  go_enter Tryz.func199,Tryz.ntmps199
  go_wp2_with fail
  refine hMo HW ?_
  rintro e w1 ⟨⟨ba,bc,rfl,_⟩,hb⟩
  go_wp2
  go_ret
  exact⟨by rw[HD1.out];rfl,hb⟩
 | false=>
 rw[q0] at HD1
 have n0:((wd L).text==[108,101,102,116])=false:=q0
 clear q0
 cases q1:isT [114,105,103,104,116] L with
 | true=>
  rw[q1] at HD1
  have n1:((wd L).text==[114,105,103,104,116])=true:=q1
  clear q1
  generalize wd L=x at *
  go_enter Tryz.func199,Tryz.ntmps199
  go_wp2_with fail
  refine hMo HW ?_
  rintro e w1 ⟨⟨ba,bc,rfl,_⟩,hb⟩
  go_wp2
  go_ret
  exact⟨by rw[HD1.out];rfl,hb⟩
 | false=>
 rw[q1] at HD1
 have n1:((wd L).text==[114,105,103,104,116])=false:=q1
 clear q1
 cases q2:isT [110,111,110] L with
 | true=>
  rw[q2] at HD1
  have n2:((wd L).text==[110,111,110])=true:=q2
  clear q2
  generalize wd L=x at *
  go_enter Tryz.func199,Tryz.ntmps199
  go_wp2_with fail
  refine hMo HW ?_
  rintro e w1 ⟨⟨ba,bc,rfl,_⟩,hb⟩
  go_wp2
  go_ret
  exact⟨by rw[HD1.out];rfl,hb⟩
 | false=>
 rw[q2] at HD1
 have n2:((wd L).text==[110,111,110])=false:=q2
 clear q2
 generalize wd L=x at *
 go_enter Tryz.func199,Tryz.ntmps199
 go_wp2_with fail
 refine hMo HW ?_
 rintro e w1 ⟨⟨ba,bc,rfl,_⟩,hb⟩
 go_wp2
 go_ret
 exact⟨by rw[HD1.out];rfl,hb⟩
end Go.Proofs.YtcpakcffiopfjaaGreatDoor
