/- A group of a chain, read. Lists that lie in blocks of a set; rows of their own, read. Items read: what stands in brackets, one item. -/
import Derived.Test.YtcpakcffiopfjaaGreatDoorC2
import Derived.Deep.RegionHeld3
import Derived.Test.YtcpakcffiopfjaaGreatDoorA1
namespace Go.Proofs.YtcpakcffiopfjaaGreatDoor
open Go.RowKit
set_option linter.unusedVariables false
set_option linter.unusedSimpArgs false
set_option maxRecDepth 100000
set_option maxHeartbeats 16000000
set_option linter.unusedVariables false
set_option linter.unusedSimpArgs false
set_option maxRecDepth 100000
set_option maxHeartbeats 16000000
def ncells (l:List ByteArray):List Value:=l.map fun s=>.string s
theorem ncells_snoc (l:List ByteArray) (x:ByteArray):ncells (l++[x])=ncells l++[.string x]:=by simp[ncells]
structure NamesAt (W:World) (base:Nat) (l:List ByteArray) (v:Value):Prop where
 row:W.ownsRow base 9 1 v l.length (ncells l)
theorem NamesAt.kept {W W':World} {base b:Nat} {l:List ByteArray} {v:Value} (h:NamesAt W base l v) (hg:W.grownBy W' (some b)) (hb:b<base):NamesAt W' base l v:=⟨own_kept h.row hg hb⟩
theorem NamesAt.after {W W':World} {base:Nat} {l:List ByteArray} {v:Value} (h:NamesAt W base l v) (hg:Below W.heap.size W W'):NamesAt W' base l v:=⟨own_after h.row hg⟩
theorem NamesAt.put {W W':World} {base b:Nat} {t:TypeId} {cs:Array Value} {l:List ByteArray} {v:Value} (h:NamesAt W base l v) (hg:W.grownBy W' (some b)) (hb:Blk W b t cs) (ht:t≠9):NamesAt W' base l v:=⟨h.row.kept hg (.inr (fun e=>hb.not_row ht h.row e.symm))⟩
def GroupAt (W:World) (base:Nat) (g:Gr) (v:Value):Prop:=∃va vc,v=.agg #[.int .i64 g.assoc,.slice va g.cons.length vc]∧NamesAt W base g.cons (.slice va g.cons.length vc)
theorem info9:(Tryz.prog.info? 9).map (fun i=>(i.zero,i.size,i.bytes))=some (some (.string ⟨#[]⟩),1,16):=by kernel_rfl
def lenAt (W:World) (b:Nat):Nat:=match W.cell? ⟨b,1,none⟩ with | some v=>lenV v | none=>0
theorem lenAt_blk {W:World} {b:Nat} {t:TypeId} {x:Value} {va:Option Addr} {n vc:Nat} (h:Blk W b t #[x,.slice va n vc]):lenAt W b=n:=by
 unfold lenAt
 rw[h.cell 1 rfl]
 rfl
theorem below_dr (W:World):Below W.heap.size W W.drew:=⟨rfl,rfl,rfl,Nat.le_refl _,fun _ _=>rfl⟩
theorem assoc_ne {L:List Wd} (h:¬assocB L=0):(wd L).text≠[]:=fun e=>by
 unfold assocB isT at h
 rw[e] at h
 exact h (by decide)
theorem rd_group (R:Nat) (D:List Value) (L:List Wd) (h:Nat) (w:World) (hR:Rd w R D L) :
  Calls Tryz.prog 184 #[.pointer (some ⟨R,0,none⟩),.int .i64 (h:Int)] w fun e w'=>RL R D w (fun w' g v=>GroupAt w' w.heap.size g v) (groupR h L) e w':=by
 obtain⟨i0,hi,hz0,hz1,hz2⟩:=info_parts info9
 have hfd:=fld_kind
 have HLT:Hid _:=hR.lt
 have HR0:Hid (Rd w R D L):=hR
 have HG0:Hid (w.grownBy w (some R)):=gr_refl _ _
 clear hR
 obtain⟨a1,ha1⟩:∃q,w.alloc (.cells #[.int .i64 0,.slice none 0 0] 61)=q:=⟨_,rfl⟩
 have HN1:=kB ha1
 have HZ1:=hHi HG0.out.size
 have HR1:=hHi (HR0.out.below HN1.out)
 have HG1:=hHi (grown_below HG0.out HN1.out)
 have Kr_1:=kN ha1
 obtain⟨q,hq⟩:∃q,assocB L=q:=⟨_,rfl⟩
 have HQ:=hHi hq
 clear hq
 go_enter Tryz.func184,Tryz.ntmps184
 have HAS:=hU (rd_assoc R D L a1 HR1.out)
 rw[HQ.out] at HAS
 go_wp2_with fail
 refine hMo HAS ?_
 rintro e a2 ⟨rfl,hb⟩
 have HN2:Hid (Below a1.heap.size a1 a2):=hb
 clear hb
 have HR2:=hHi (HR1.out.below HN2.out)
 have HG2:=hHi (grown_below HG1.out HN2.out)
 have Kr_2:=kA Kr_1 HN2
 by_cases hz:q=0
 case pos=>
  have HQN:=hHi hz
  have hq1:(q==0)=true:=by simpa using hz
  have hq2:(q != 0)=false:=by simpa using hz
  clear hz
  have HWD0:=hU (rd_word R D L a2 HR2.out)
  by_cases hk:(wd L).kind=1
  case neg=>
   have HK0:=hHi hk
   have hk2:(((wd L).kind:Int) != 1)=true:=by simp;omega
   have hk3:¬((wd L).kind:Int)=1:=by omega
   clear hk
   go_wp2_with fail
   refine hMo HWD0 ?_
   rintro e a3 ⟨⟨ba,bc,rfl,_⟩,hb⟩
   have HN3:Hid (Below a2.heap.size a2 a3):=hb
   clear hb
   have HR3:=hHi (HR2.out.below HN3.out)
   have HG3:=hHi (grown_below HG2.out HN3.out)
   have Kr_3:=kA Kr_2 HN3
   go_wp2_with fail
   refine (rd_fail R D L 30 a3 HR3.out).mono ?_
   rintro e wf ⟨rfl,hbf⟩
   simp only[FE]
   go_wp2
   refine⟨rfl,?_⟩
   have hfin:groupR h L=.bad (wd L).fro 30:=by unfold groupR;rw[if_pos ⟨by rw[HQ.out];exact HQN.out,HK0.out⟩]
   show RL R D w _ (groupR h L) _ _
   rw[hfin]
   exact⟨rfl,grown_below HG3.out hbf⟩
  have HK0:=hHi hk
  have hk2:(((wd L).kind:Int) != 1)=false:=by simp;omega
  clear hk
  go_wp2_with fail
  refine hMo HWD0 ?_
  rintro e a3 ⟨⟨ba,bc,rfl,_⟩,hb⟩
  have HN3:Hid (Below a2.heap.size a2 a3):=hb
  clear hb
  have HR3:=hHi (HR2.out.below HN3.out)
  have HG3:=hHi (grown_below HG2.out HN3.out)
  have Kr_3:=kA Kr_2 HN3
  by_cases hroom:16≤h
  case pos=>
   have HX:=hHi hroom
   have HB:=hU (room_bad R D L h 16 a3 HR3.out hroom)
   clear hroom
   go_wp2_with fail
   refine hMo HB ?_
   rintro e wf ⟨rfl,hbf⟩
   simp only[FE]
   go_wp2
   refine⟨rfl,?_⟩
   have hfin:groupR h L=.bad (wd L).fro 2:=by unfold groupR;rw[if_neg (fun h=>h.2 HK0.out)];rw[if_pos HX.out]
   show RL R D w _ (groupR h L) _ _
   rw[hfin]
   exact⟨rfl,grown_below HG3.out hbf⟩
  have HX:=hHi hroom
  have HB:=hU (room_ok R h 16 a3 (by omega))
  clear hroom
  go_wp2_with fail
  refine hMo HB ?_
  rintro e wz9 ⟨rfl,hwz⟩
  have hwz:=hwz.symm
  subst hwz
  have HC4:=hU (rd_name R D L a3 HR3.out)
  go_wp2_with fail
  cases hr4:nameR L with
  | bad p4 c4=>
   rw[hr4] at HC4
   have HE4:=hHi hr4
   clear hr4
   refine hMo HC4 ?_
   rintro e wf ⟨rfl,hgf⟩
   simp only[FE]
   go_wp2
   refine⟨rfl,?_⟩
   have hfin:groupR h L=.bad p4 c4:=by unfold groupR;rw[if_neg (fun h=>h.2 HK0.out)];rw[if_neg HX.out];rw[if_pos (by rw[HQ.out];exact HQN.out)];rw[HE4.out];try rfl
   show RL R D w _ (groupR h L) _ _
   rw[hfin]
   exact⟨rfl,gr_tr HG3.out hgf⟩
  | ok n L4=>
  rw[hr4] at HC4
  have HE4:=hHi hr4
  clear hr4
  refine hMo HC4 ?_
  rintro e a4 ⟨rfl,hr,hg⟩
  have HN4:=hHi hg
  have HR4:=hHi hr
  have HG4:=hHi (gr_tr HG3.out hg)
  clear hr hg
  have Kr_4:=kZ Kr_3 HN4.out HLT.out HZ1.out
  have HBX:Hid (Below a4.heap.size a4 (a4.alloc (.cells #[.string n] 9))):=(Below.refl _ _).alloc (Nat.le_refl _) _
  have HBY:Hid (Below (a4.alloc (.cells #[.string n] 9)).heap.size (a4.alloc (.cells #[.string n] 9)) ((a4.alloc (.cells #[.string n] 9)).alloc (.cells #[.int .i64 q,.slice (some ⟨a4.heap.size,0,none⟩) 1 1] 61))):=(Below.refl _ _).alloc (Nat.le_refl _) _
  have HBW:=hHi (below_tr HBX.out HBY.out)
  have HNM:Hid (NamesAt ((a4.alloc (.cells #[.string n] 9)).alloc (.cells #[.int .i64 q,.slice (some ⟨a4.heap.size,0,none⟩) 1 1] 61)) w.heap.size [n] (.slice (some ⟨a4.heap.size,0,none⟩) 1 1)):=NamesAt.after ⟨World.ownsRow_lit a4 #[.string n] 1 HG4.out.size (by unfold maxLen;omega) rfl⟩ HBY.out
  have HRY:=hHi (HR4.out.below HBW.out)
  have HGY:=hHi (grown_below HG4.out HBW.out)
  have HKR:=kA Kr_4 HBW
  have HKG:Hid (Blk ((a4.alloc (.cells #[.string n] 9)).alloc (.cells #[.int .i64 q,.slice (some ⟨a4.heap.size,0,none⟩) 1 1] 61)) (a4.heap.size+1) 61 #[.int .i64 q,.slice (some ⟨a4.heap.size,0,none⟩) 1 1]):=by
   have:=Blk.new (a4.alloc (.cells #[.string n] 9)) 61 #[.int .i64 q,.slice (some ⟨a4.heap.size,0,none⟩) 1 1]
   rw[World.size_alloc] at this
   exact this
  have HZG:Hid (w.heap.size<a4.heap.size+1):=by have:=HG4.out.size;show _<_;omega
  have HNL:Hid (∀T:PR (List ByteArray),namesR 17 [n] L4=T→groupR h L=T.bind fun ns L'=>.ok ⟨q,ns⟩ L'):=fun T hT=>by unfold groupR;rw[if_neg (fun h=>h.2 HK0.out)];rw[if_neg HX.out];rw[if_pos (by rw[HQ.out];exact HQN.out)];rw[HE4.out];dsimp only[PR.bind];rw[hT,HQ.out]
  go_wp2_with fail
  obtain⟨gb,hgb⟩:∃gb,a4.heap.size+1=gb:=⟨_,rfl⟩
  rw[hgb] at HKG HZG ⊢
  have HGB:=hHi hgb
  clear hgb
  go_loopw[] (fun W=>∃(f:Nat) (acc:List ByteArray) (L':List Wd) (va:Option Addr) (vc:Nat),Blk W gb 61 #[.int .i64 q,.slice va acc.length vc]∧NamesAt W w.heap.size acc (.slice va acc.length vc)∧Blk W w.heap.size 61 #[.int .i64 0,.slice none 0 0]∧Rd W R D L'∧w.grownBy W (some R)∧f+acc.length=18∧acc.length≤16∧namesR 17 [n] L4=namesR f acc L') (fun W=>18-lenAt W gb)
  case atStart=>exact⟨17,[n],L4,_,_,HKG.out,HNM.out,HKR.out,HRY.out,HGY.out,rfl,by simp,rfl⟩
  case round=>
   clear HKG HNM HKR HRY HGY HBX HBY HBW
   obtain⟨f,acc,L',va,vc,hkg,hnm,hkr,hr,hg,hf,h16,ht⟩:=hrel
   obtain⟨f,rfl⟩:∃f',f=f'+1:=⟨f-1,by omega⟩
   have Kg_50:Hid (Blk wr gb 61 #[.int .i64 q,.slice va acc.length vc]):=hkg
   have Kr_50:Hid (Blk wr w.heap.size 61 #[.int .i64 0,.slice none 0 0]):=hkr
   have HNM1:Hid (NamesAt wr w.heap.size acc (.slice va acc.length vc)):=hnm
   have HR50:=hHi hr
   have HG50:=hHi hg
   have HT1:=hHi ht
   have HF1:=hHi hf
   have HUN:Hid (namesR (f+1) acc L'=if (wd L').kind=1 then (if 16≤acc.length then .bad (wd L').fro 2 else (nameR L').bind fun n L=>namesR f (acc++[n]) L) else .ok acc L'):=rfl
   clear hkg hkr hnm hr hg ht hf
   have HWD:=hU (rd_word R D L' wr HR50.out)
   by_cases hk:(wd L').kind=1
   case neg=>
    have hk1:(((wd L').kind:Int)==1)=false:=by simp;omega
    have HK:=hHi hk
    clear hk
    go_wp2_with fail
    refine hMo HWD ?_
    rintro e a51 ⟨⟨ba,bc,rfl,_⟩,hb⟩
    have HN51:Hid (Below wr.heap.size wr a51):=hb
    clear hb
    have HR51:=hHi (HR50.out.below HN51.out)
    have HG51:=hHi (grown_below HG50.out HN51.out)
    have Kg_51:=kA Kg_50 HN51
    have Kr_51:=kA Kr_50 HN51
    have HNM2:Hid (NamesAt a51 w.heap.size acc (.slice va acc.length vc)):=HNM1.out.after HN51.out
    obtain⟨cg0_52,cg1_53⟩:=Kg_51.out.c2
    obtain⟨cr0_54,cr1_55⟩:=Kr_51.out.c2
    have zr_56:=Kr_51.out.frozen
    have lr_56:=Kr_51.out.lt
    go_wp2
    refine gen (fun W=>Blk W w.heap.size 61 _∧a51.grownBy W (some w.heap.size)) ⟨Blk.set2 (W:=a51) Kr_51.out _ _,gr_tr (gr_set _ _ _ _) (gr_set _ _ _ _)⟩ ?_
    rintro W ⟨hb,hgW⟩
    refine bodyPost_ret (results_cell_row rfl _ _ w.heap.size 61 _ (0,0) _ rfl hb Tryz.underlying61 rfl (by kernel_rfl)) rfl ?_
    have hfin:groupR h L=.ok ⟨q,acc⟩ L':=by rw[HNL.out _ (HT1.out.trans (HUN.out.trans (if_neg HK.out)))];rfl
    show RL R D w _ (groupR h L) _ _
    rw[hfin]
    exact⟨⟨_,rfl,va,vc,rfl,HNM2.out.put hgW Kr_51.out (by decide)⟩,Rd.kept HR51.out hgW (by have:=HLT.out;have:=HZ1.out;omega),gr_new HG51.out hgW HZ1.out⟩
   have hk1:(((wd L').kind:Int)==1)=true:=by simp;omega
   have HK:=hHi hk
   clear hk
   go_wp2_with fail
   refine hMo HWD ?_
   rintro e a51 ⟨⟨ba,bc,rfl,_⟩,hb⟩
   have HN51:Hid (Below wr.heap.size wr a51):=hb
   clear hb
   have HR51:=hHi (HR50.out.below HN51.out)
   have HG51:=hHi (grown_below HG50.out HN51.out)
   have Kg_51:=kA Kg_50 HN51
   have Kr_51:=kA Kr_50 HN51
   have HNM2:Hid (NamesAt a51 w.heap.size acc (.slice va acc.length vc)):=HNM1.out.after HN51.out
   obtain⟨cg0_52,cg1_53⟩:=Kg_51.out.c2
   by_cases hroom:16≤acc.length
   case pos=>
    have HX2:=hHi hroom
    have HB2:=hU (room_bad R D L' acc.length 16 a51 HR51.out hroom)
    clear hroom
    go_wp2_with fail
    refine hMo HB2 ?_
    rintro e wf ⟨rfl,hbf⟩
    simp only[FE]
    go_wp2
    refine⟨rfl,?_⟩
    have hfin:groupR h L=.bad (wd L').fro 2:=by rw[HNL.out _ (HT1.out.trans (HUN.out.trans ((if_pos HK.out).trans (if_pos HX2.out))))];rfl
    show RL R D w _ (groupR h L) _ _
    rw[hfin]
    exact⟨rfl,grown_below HG51.out hbf⟩
   have HX2:=hHi hroom
   have h15:acc.length<16:=by omega
   have HB2:=hU (room_ok R acc.length 16 a51 (by omega))
   clear hroom
   go_wp2_with fail
   refine hMo HB2 ?_
   rintro e wz9 ⟨rfl,hwz⟩
   have hwz:=hwz.symm
   subst hwz
   have HCN:=hU (rd_name R D L' a51.drew (HR51.out.below (below_dr _)))
   have HGD:Hid (w.grownBy a51.drew (some R)):=grown_below HG51.out (below_dr _)
   have HKGd:Hid (Blk a51.drew gb 61 #[.int .i64 q,.slice va acc.length vc]):=Blk.after Kg_51.out (below_dr _)
   have HKRd:Hid (Blk a51.drew w.heap.size 61 #[.int .i64 0,.slice none 0 0]):=Blk.after Kr_51.out (below_dr _)
   have HNMd:Hid (NamesAt a51.drew w.heap.size acc (.slice va acc.length vc)):=HNM2.out.after (below_dr _)
   have cg1:=HKGd.out.cell 1 rfl
   go_wp2
   cases hn:nameR L' with
   | bad p c=>
    rw[hn] at HCN
    have HEN:=hHi hn
    clear hn
    refine wp_region_held_drew (S:=fun _=>True) (by kernel_rfl) trivial (fun hHeld=>?_)
    refine tk 0 rfl (by assumption) ?_
    refine tk 2 rfl (by assumption) ?_
    refine wpAnyH_ready (rs:=[1,3]) (by kernel_rfl) (by simp) ?_
    refine (AllReadyH.cons rfl (fun K hK=>?_) (AllReadyH.cons rfl (fun K hK=>?_) AllReadyH.nil))
    ·skip
     go_simp
     refine hK.out _ _ trivial (fun hHeld=>?_)
     clear hK K
     refine rd1 3 rfl (fun K hK=>?_)
     go_simp
     refine hMo HCN ?_
     rintro e wf ⟨rfl,hgf⟩
     simp only[FE]
     go_wp2_with fail
     refine⟨rfl,?_⟩
     have hfin:groupR h L=.bad p c:=by rw[HNL.out _ (HT1.out.trans (HUN.out.trans ((if_pos HK.out).trans ((if_neg HX2.out).trans (by rw[HEN.out];try rfl)))))];rfl
     show RL R D w _ (groupR h L) _ _
     rw[hfin]
     exact⟨rfl,gr_tr HGD.out hgf⟩
    ·skip
     go_simp
     refine hMo HCN ?_
     rintro e wf ⟨rfl,hgf⟩
     simp only[FE]
     go_wp2_with fail
     refine⟨rfl,?_⟩
     have hfin:groupR h L=.bad p c:=by rw[HNL.out _ (HT1.out.trans (HUN.out.trans ((if_pos HK.out).trans ((if_neg HX2.out).trans (by rw[HEN.out];try rfl)))))];rfl
     show RL R D w _ (groupR h L) _ _
     rw[hfin]
     exact⟨rfl,gr_tr HGD.out hgf⟩
   | ok z L3=>
   rw[hn] at HCN
   have HEN:=hHi hn
   clear hn
   have HRB:Hid ((w.heap.size:Nat)≠gb):=by have:=HZG.out;show _≠_;omega
   refine wp_region_held_drew (S:=fun _=>True) (by kernel_rfl) trivial (fun hHeld=>?_)
   refine tk 0 rfl (by assumption) ?_
   refine tk 2 rfl (by assumption) ?_
   refine wpAnyH_ready (rs:=[1,3]) (by kernel_rfl) (by simp) ?_
   refine (AllReadyH.cons rfl (fun K hK=>?_) (AllReadyH.cons rfl (fun K hK=>?_) AllReadyH.nil))
   ·skip
    go_simp
    refine hK.out _ _ trivial (fun hHeld=>?_)
    clear hK K
    refine rd1 3 rfl (fun K hK=>?_)
    go_simp
    refine hMo HCN ?_
    rintro e w3 ⟨rfl,hr,hg⟩
    have HR3:=hHi hr
    have HG3:=hHi (gr_tr HGD.out hg)
    have HKG3:Hid (Blk w3 gb 61 #[.int .i64 q,.slice va acc.length vc]):=Blk.kept (W:=a51.drew) HKGd.out hg (by have:=HLT.out;have:=HZG.out;simp;omega)
    have HKR3:Hid (Blk w3 w.heap.size 61 #[.int .i64 0,.slice none 0 0]):=Blk.kept (W:=a51.drew) HKRd.out hg (by have:=HLT.out;have:=HZ1.out;simp;omega)
    have HNM3:Hid (NamesAt w3 w.heap.size acc (.slice va acc.length vc)):=HNMd.out.kept hg HLT.out
    have HS3:=hHi HG3.out.size
    have cg3:=HKG3.out.cell 1 rfl
    clear hr hg
    go_wp2_with fail
    refine hK.out _ _ trivial (fun hHeld=>?_)
    clear hK K
    refine rd1 4 rfl (fun K hK=>?_)
    go_simp
    refine hK.out _ _ trivial (fun hHeld=>?_)
    clear hK K
    refine rd1 5 rfl (fun K hK=>?_)
    refine step_append_lies _ rfl _ _ 59 rfl w.heap.size 9 i0 _ 1 16 Tryz.underlying59 hi hz0 hz1 hz2 rfl (by decide) (.slice va acc.length vc) acc.length (ncells acc) rfl (HNM3.out.row.alloc _) ⟨w3.heap.size,0,none⟩ 1 1 [.string z] rfl rfl (new_cells w3 9 [.string z]) (by intro u hu;simp at hu;rw[hu];rfl) (by decide) (by unfold maxLen;omega) (by omega) (by have:=HS3.out;simp;omega) (w3.heap.size+1) (by simp) ?_
    intro g1 cap1 w7 hown hgrow hat hlt7
    have hob:∀b,(Value.slice va acc.length vc).ownBlock=some b→w.heap.size≤b:=fun b hb=>(HNM3.out.row.lt b hb).1
    have HNM7:Hid (NamesAt w7 w.heap.size (acc++[z]) (.slice (some ⟨g1,0,none⟩) (acc.length+1) cap1)):=⟨by rw[ncells_snoc,List.length_append];exact hown⟩
    have HR7:Hid (Rd w7 R D L3):=(HR3.out.below ((Below.refl _ _).alloc (Nat.le_refl _) _)).keptO hgrow (fun b hb=>Nat.lt_of_lt_of_le HLT.out (hob b hb))
    have HG7:Hid (w.grownBy w7 (some R)):=gr_newO (grown_below HG3.out ((Below.refl _ _).alloc (Nat.le_refl _) _)) hgrow hob
    have HKG7:Hid (Blk w7 gb 61 #[.int .i64 q,.slice va acc.length vc]):=Blk.kept (W:=(w3.alloc (.cells #[.string z] 9))) (Blk.alloc HKG3.out _) hgrow (Blk.not_row (W:=(w3.alloc (.cells #[.string z] 9))) (Blk.alloc HKG3.out _) (by decide) (HNM3.out.row.alloc _))
    have HKR7:Hid (Blk w7 w.heap.size 61 #[.int .i64 0,.slice none 0 0]):=Blk.kept (W:=(w3.alloc (.cells #[.string z] 9))) (Blk.alloc HKR3.out _) hgrow (Blk.not_row (W:=(w3.alloc (.cells #[.string z] 9))) (Blk.alloc HKR3.out _) (by decide) (HNM3.out.row.alloc _))
    have cg7:=HKG7.out.cell 1 rfl
    have zg7:=Blk.frozen HKG7.out 1
    have lg7:=HKG7.out.lt
    clear hown hgrow hat hlt7 hob
    refine hK.out _ _ trivial (fun hHeld=>?_)
    clear hK K
    refine tk 6 rfl (by assumption) ?_
    refine rd1 7 rfl (fun K hK=>?_)
    go_simp
    refine hK.out _ _ trivial (fun hHeld=>?_)
    clear hK K
    refine wpAnyH_done (by kernel_rfl) ?_ _
    clear hHeld
    have HFN:Hid (∀W,w7.setCell ⟨gb,1,none⟩ (.slice (some ⟨g1,0,none⟩) (acc.length+1) cap1)=W→Blk W gb 61 #[.int .i64 q,.slice (some ⟨g1,0,none⟩) (acc.length+1) cap1]∧NamesAt W w.heap.size (acc++[z]) (.slice (some ⟨g1,0,none⟩) (acc.length+1) cap1)∧Blk W w.heap.size 61 #[.int .i64 0,.slice none 0 0]∧Rd W R D L3∧w.grownBy W (some R)):=fun W hW=>by
     have hg:w7.grownBy W (some gb):=by rw[←hW];exact grownBy_setCell _ _ _ _
     refine⟨by rw[←hW];exact Blk.set HKG7.out 1 _,HNM7.out.put hg HKG7.out (by decide),Blk.kept HKR7.out hg (by have:=HRB.out;simp;omega),Rd.kept HR7.out hg (by have:=HLT.out;have:=HZG.out;omega),gr_new HG7.out hg (Nat.le_of_lt HZG.out)⟩
    go_wp2
    obtain⟨W8,hW8⟩:∃W8,w7.setCell ⟨gb,1,none⟩ (.slice (some ⟨g1,0,none⟩) (acc.length+1) cap1)=W8:=⟨_,rfl⟩
    have hF8:=HFN.out W8 hW8
    rw[hW8]
    go_roundw
    case rel=>exact⟨f,acc++[z],L3,_,_,by rw[List.length_append];exact hF8.1,by rw[List.length_append];exact hF8.2.1,hF8.2.2.1,hF8.2.2.2.1,hF8.2.2.2.2,by have:=HF1.out;rw[List.length_append];simp;omega,by rw[List.length_append];simp;omega,HT1.out.trans (HUN.out.trans ((if_pos HK.out).trans ((if_neg HX2.out).trans (by rw[HEN.out];try rfl))))⟩
    case measure=>rw[lenAt_blk hF8.1,lenAt_blk Kg_50.out];omega
   ·skip
    go_simp
    refine hMo HCN ?_
    rintro e w3 ⟨rfl,hr,hg⟩
    have HR3:=hHi hr
    have HG3:=hHi (gr_tr HGD.out hg)
    have HKG3:Hid (Blk w3 gb 61 #[.int .i64 q,.slice va acc.length vc]):=Blk.kept (W:=a51.drew) HKGd.out hg (by have:=HLT.out;have:=HZG.out;simp;omega)
    have HKR3:Hid (Blk w3 w.heap.size 61 #[.int .i64 0,.slice none 0 0]):=Blk.kept (W:=a51.drew) HKRd.out hg (by have:=HLT.out;have:=HZ1.out;simp;omega)
    have HNM3:Hid (NamesAt w3 w.heap.size acc (.slice va acc.length vc)):=HNMd.out.kept hg HLT.out
    have HS3:=hHi HG3.out.size
    have cg3:=HKG3.out.cell 1 rfl
    clear hr hg
    go_wp2_with fail
    refine hK.out _ _ trivial (fun hHeld=>?_)
    clear hK K
    refine wpAnyH_ready (rs:=[1,4]) (by kernel_rfl) (by simp) ?_
    refine (AllReadyH.cons rfl (fun K hK=>?_) (AllReadyH.cons rfl (fun K hK=>?_) AllReadyH.nil))
    ·skip
     go_simp
     refine hK.out _ _ trivial (fun hHeld=>?_)
     clear hK K
     refine rd1 4 rfl (fun K hK=>?_)
     go_simp
     refine hK.out _ _ trivial (fun hHeld=>?_)
     clear hK K
     refine rd1 5 rfl (fun K hK=>?_)
     refine step_append_lies _ rfl _ _ 59 rfl w.heap.size 9 i0 _ 1 16 Tryz.underlying59 hi hz0 hz1 hz2 rfl (by decide) (.slice va acc.length vc) acc.length (ncells acc) rfl (HNM3.out.row.alloc _) ⟨w3.heap.size,0,none⟩ 1 1 [.string z] rfl rfl (new_cells w3 9 [.string z]) (by intro u hu;simp at hu;rw[hu];rfl) (by decide) (by unfold maxLen;omega) (by omega) (by have:=HS3.out;simp;omega) (w3.heap.size+1) (by simp) ?_
     intro g1 cap1 w7 hown hgrow hat hlt7
     have hob:∀b,(Value.slice va acc.length vc).ownBlock=some b→w.heap.size≤b:=fun b hb=>(HNM3.out.row.lt b hb).1
     have HNM7:Hid (NamesAt w7 w.heap.size (acc++[z]) (.slice (some ⟨g1,0,none⟩) (acc.length+1) cap1)):=⟨by rw[ncells_snoc,List.length_append];exact hown⟩
     have HR7:Hid (Rd w7 R D L3):=(HR3.out.below ((Below.refl _ _).alloc (Nat.le_refl _) _)).keptO hgrow (fun b hb=>Nat.lt_of_lt_of_le HLT.out (hob b hb))
     have HG7:Hid (w.grownBy w7 (some R)):=gr_newO (grown_below HG3.out ((Below.refl _ _).alloc (Nat.le_refl _) _)) hgrow hob
     have HKG7:Hid (Blk w7 gb 61 #[.int .i64 q,.slice va acc.length vc]):=Blk.kept (W:=(w3.alloc (.cells #[.string z] 9))) (Blk.alloc HKG3.out _) hgrow (Blk.not_row (W:=(w3.alloc (.cells #[.string z] 9))) (Blk.alloc HKG3.out _) (by decide) (HNM3.out.row.alloc _))
     have HKR7:Hid (Blk w7 w.heap.size 61 #[.int .i64 0,.slice none 0 0]):=Blk.kept (W:=(w3.alloc (.cells #[.string z] 9))) (Blk.alloc HKR3.out _) hgrow (Blk.not_row (W:=(w3.alloc (.cells #[.string z] 9))) (Blk.alloc HKR3.out _) (by decide) (HNM3.out.row.alloc _))
     have cg7:=HKG7.out.cell 1 rfl
     have zg7:=Blk.frozen HKG7.out 1
     have lg7:=HKG7.out.lt
     clear hown hgrow hat hlt7 hob
     refine hK.out _ _ trivial (fun hHeld=>?_)
     clear hK K
     refine tk 6 rfl (by assumption) ?_
     refine rd1 7 rfl (fun K hK=>?_)
     go_simp
     refine hK.out _ _ trivial (fun hHeld=>?_)
     clear hK K
     refine wpAnyH_done (by kernel_rfl) ?_ _
     clear hHeld
     have HFN:Hid (∀W,w7.setCell ⟨gb,1,none⟩ (.slice (some ⟨g1,0,none⟩) (acc.length+1) cap1)=W→Blk W gb 61 #[.int .i64 q,.slice (some ⟨g1,0,none⟩) (acc.length+1) cap1]∧NamesAt W w.heap.size (acc++[z]) (.slice (some ⟨g1,0,none⟩) (acc.length+1) cap1)∧Blk W w.heap.size 61 #[.int .i64 0,.slice none 0 0]∧Rd W R D L3∧w.grownBy W (some R)):=fun W hW=>by
      have hg:w7.grownBy W (some gb):=by rw[←hW];exact grownBy_setCell _ _ _ _
      refine⟨by rw[←hW];exact Blk.set HKG7.out 1 _,HNM7.out.put hg HKG7.out (by decide),Blk.kept HKR7.out hg (by have:=HRB.out;simp;omega),Rd.kept HR7.out hg (by have:=HLT.out;have:=HZG.out;omega),gr_new HG7.out hg (Nat.le_of_lt HZG.out)⟩
     go_wp2
     obtain⟨W8,hW8⟩:∃W8,w7.setCell ⟨gb,1,none⟩ (.slice (some ⟨g1,0,none⟩) (acc.length+1) cap1)=W8:=⟨_,rfl⟩
     have hF8:=HFN.out W8 hW8
     rw[hW8]
     go_roundw
     case rel=>exact⟨f,acc++[z],L3,_,_,by rw[List.length_append];exact hF8.1,by rw[List.length_append];exact hF8.2.1,hF8.2.2.1,hF8.2.2.2.1,hF8.2.2.2.2,by have:=HF1.out;rw[List.length_append];simp;omega,by rw[List.length_append];simp;omega,HT1.out.trans (HUN.out.trans ((if_pos HK.out).trans ((if_neg HX2.out).trans (by rw[HEN.out];try rfl))))⟩
     case measure=>rw[lenAt_blk hF8.1,lenAt_blk Kg_50.out];omega
    ·skip
     go_simp
     refine hK.out _ _ trivial (fun hHeld=>?_)
     clear hK K
     have cg4:=Blk.cell (W:=(w3.alloc (.cells #[.string z] 9))) (Blk.alloc HKG3.out _) 1 rfl
     refine rd1 1 rfl (fun K hK=>?_)
     go_simp
     refine hK.out _ _ trivial (fun hHeld=>?_)
     clear hK K
     refine rd1 5 rfl (fun K hK=>?_)
     refine step_append_lies _ rfl _ _ 59 rfl w.heap.size 9 i0 _ 1 16 Tryz.underlying59 hi hz0 hz1 hz2 rfl (by decide) (.slice va acc.length vc) acc.length (ncells acc) rfl (HNM3.out.row.alloc _) ⟨w3.heap.size,0,none⟩ 1 1 [.string z] rfl rfl (new_cells w3 9 [.string z]) (by intro u hu;simp at hu;rw[hu];rfl) (by decide) (by unfold maxLen;omega) (by omega) (by have:=HS3.out;simp;omega) (w3.heap.size+1) (by simp) ?_
     intro g1 cap1 w7 hown hgrow hat hlt7
     have hob:∀b,(Value.slice va acc.length vc).ownBlock=some b→w.heap.size≤b:=fun b hb=>(HNM3.out.row.lt b hb).1
     have HNM7:Hid (NamesAt w7 w.heap.size (acc++[z]) (.slice (some ⟨g1,0,none⟩) (acc.length+1) cap1)):=⟨by rw[ncells_snoc,List.length_append];exact hown⟩
     have HR7:Hid (Rd w7 R D L3):=(HR3.out.below ((Below.refl _ _).alloc (Nat.le_refl _) _)).keptO hgrow (fun b hb=>Nat.lt_of_lt_of_le HLT.out (hob b hb))
     have HG7:Hid (w.grownBy w7 (some R)):=gr_newO (grown_below HG3.out ((Below.refl _ _).alloc (Nat.le_refl _) _)) hgrow hob
     have HKG7:Hid (Blk w7 gb 61 #[.int .i64 q,.slice va acc.length vc]):=Blk.kept (W:=(w3.alloc (.cells #[.string z] 9))) (Blk.alloc HKG3.out _) hgrow (Blk.not_row (W:=(w3.alloc (.cells #[.string z] 9))) (Blk.alloc HKG3.out _) (by decide) (HNM3.out.row.alloc _))
     have HKR7:Hid (Blk w7 w.heap.size 61 #[.int .i64 0,.slice none 0 0]):=Blk.kept (W:=(w3.alloc (.cells #[.string z] 9))) (Blk.alloc HKR3.out _) hgrow (Blk.not_row (W:=(w3.alloc (.cells #[.string z] 9))) (Blk.alloc HKR3.out _) (by decide) (HNM3.out.row.alloc _))
     have cg7:=HKG7.out.cell 1 rfl
     have zg7:=Blk.frozen HKG7.out 1
     have lg7:=HKG7.out.lt
     clear hown hgrow hat hlt7 hob
     refine hK.out _ _ trivial (fun hHeld=>?_)
     clear hK K
     refine tk 6 rfl (by assumption) ?_
     refine rd1 7 rfl (fun K hK=>?_)
     go_simp
     refine hK.out _ _ trivial (fun hHeld=>?_)
     clear hK K
     refine wpAnyH_done (by kernel_rfl) ?_ _
     clear hHeld
     have HFN:Hid (∀W,w7.setCell ⟨gb,1,none⟩ (.slice (some ⟨g1,0,none⟩) (acc.length+1) cap1)=W→Blk W gb 61 #[.int .i64 q,.slice (some ⟨g1,0,none⟩) (acc.length+1) cap1]∧NamesAt W w.heap.size (acc++[z]) (.slice (some ⟨g1,0,none⟩) (acc.length+1) cap1)∧Blk W w.heap.size 61 #[.int .i64 0,.slice none 0 0]∧Rd W R D L3∧w.grownBy W (some R)):=fun W hW=>by
      have hg:w7.grownBy W (some gb):=by rw[←hW];exact grownBy_setCell _ _ _ _
      refine⟨by rw[←hW];exact Blk.set HKG7.out 1 _,HNM7.out.put hg HKG7.out (by decide),Blk.kept HKR7.out hg (by have:=HRB.out;simp;omega),Rd.kept HR7.out hg (by have:=HLT.out;have:=HZG.out;omega),gr_new HG7.out hg (Nat.le_of_lt HZG.out)⟩
     go_wp2
     obtain⟨W8,hW8⟩:∃W8,w7.setCell ⟨gb,1,none⟩ (.slice (some ⟨g1,0,none⟩) (acc.length+1) cap1)=W8:=⟨_,rfl⟩
     have hF8:=HFN.out W8 hW8
     rw[hW8]
     go_roundw
     case rel=>exact⟨f,acc++[z],L3,_,_,by rw[List.length_append];exact hF8.1,by rw[List.length_append];exact hF8.2.1,hF8.2.2.1,hF8.2.2.2.1,hF8.2.2.2.2,by have:=HF1.out;rw[List.length_append];simp;omega,by rw[List.length_append];simp;omega,HT1.out.trans (HUN.out.trans ((if_pos HK.out).trans ((if_neg HX2.out).trans (by rw[HEN.out];try rfl))))⟩
     case measure=>rw[lenAt_blk hF8.1,lenAt_blk Kg_50.out];omega
 have HQN:=hHi hz
 have hq1:(q==0)=false:=by simpa using hz
 have hq2:(q != 0)=true:=by simpa using hz
 clear hz
 by_cases hroom:16≤h
 case pos=>
  have HX:=hHi hroom
  have HB:=hU (room_bad R D L h 16 a2 HR2.out hroom)
  clear hroom
  go_wp2_with fail
  refine hMo HB ?_
  rintro e wf ⟨rfl,hbf⟩
  simp only[FE]
  go_wp2
  refine⟨rfl,?_⟩
  have hfin:groupR h L=.bad (wd L).fro 2:=by unfold groupR;rw[if_neg (fun h=>HQN.out (by rw[←HQ.out];exact h.1))];rw[if_pos HX.out]
  show RL R D w _ (groupR h L) _ _
  rw[hfin]
  exact⟨rfl,grown_below HG2.out hbf⟩
 have HX:=hHi hroom
 have HB:=hU (room_ok R h 16 a2 (by omega))
 clear hroom
 go_wp2_with fail
 refine hMo HB ?_
 rintro e wz9 ⟨rfl,hwz⟩
 have hwz:=hwz.symm
 subst hwz
 have HP:=hU (rd_pass R D L a2 HR2.out (.inr (assoc_ne (by rw[HQ.out];exact HQN.out))))
 go_wp2_with fail
 refine hMo HP ?_
 rintro e a3 ⟨rfl,hr,hg⟩
 have HN3:=hHi hg
 have HR3:=hHi hr
 have HG3:=hHi (gr_tr HG2.out hg)
 clear hr hg
 have Kr_3:=kZ Kr_2 HN3.out HLT.out HZ1.out
 have HC4:=hU (rd_name R D L.tail a3 HR3.out)
 go_wp2_with fail
 cases hr4:nameR L.tail with
 | bad p4 c4=>
  rw[hr4] at HC4
  have HE4:=hHi hr4
  clear hr4
  refine hMo HC4 ?_
  rintro e wf ⟨rfl,hgf⟩
  simp only[FE]
  go_wp2
  refine⟨rfl,?_⟩
  have hfin:groupR h L=.bad p4 c4:=by unfold groupR;rw[if_neg (fun h=>HQN.out (by rw[←HQ.out];exact h.1))];rw[if_neg HX.out];rw[if_neg (by rw[HQ.out];exact HQN.out)];rw[HE4.out];try rfl
  show RL R D w _ (groupR h L) _ _
  rw[hfin]
  exact⟨rfl,gr_tr HG3.out hgf⟩
 | ok n L4=>
 rw[hr4] at HC4
 have HE4:=hHi hr4
 clear hr4
 refine hMo HC4 ?_
 rintro e a4 ⟨rfl,hr,hg⟩
 have HN4:=hHi hg
 have HR4:=hHi hr
 have HG4:=hHi (gr_tr HG3.out hg)
 clear hr hg
 have Kr_4:=kZ Kr_3 HN4.out HLT.out HZ1.out
 have HBX:Hid (Below a4.heap.size a4 (a4.alloc (.cells #[.string n] 9))):=(Below.refl _ _).alloc (Nat.le_refl _) _
 have HBY:Hid (Below (a4.alloc (.cells #[.string n] 9)).heap.size (a4.alloc (.cells #[.string n] 9)) ((a4.alloc (.cells #[.string n] 9)).alloc (.cells #[.int .i64 q,.slice (some ⟨a4.heap.size,0,none⟩) 1 1] 61))):=(Below.refl _ _).alloc (Nat.le_refl _) _
 have HBW:=hHi (below_tr HBX.out HBY.out)
 have HNM:Hid (NamesAt ((a4.alloc (.cells #[.string n] 9)).alloc (.cells #[.int .i64 q,.slice (some ⟨a4.heap.size,0,none⟩) 1 1] 61)) w.heap.size [n] (.slice (some ⟨a4.heap.size,0,none⟩) 1 1)):=NamesAt.after ⟨World.ownsRow_lit a4 #[.string n] 1 HG4.out.size (by unfold maxLen;omega) rfl⟩ HBY.out
 have HRY:=hHi (HR4.out.below HBW.out)
 have HGY:=hHi (grown_below HG4.out HBW.out)
 have HKR:=kA Kr_4 HBW
 have HKG:Hid (Blk ((a4.alloc (.cells #[.string n] 9)).alloc (.cells #[.int .i64 q,.slice (some ⟨a4.heap.size,0,none⟩) 1 1] 61)) (a4.heap.size+1) 61 #[.int .i64 q,.slice (some ⟨a4.heap.size,0,none⟩) 1 1]):=by
  have:=Blk.new (a4.alloc (.cells #[.string n] 9)) 61 #[.int .i64 q,.slice (some ⟨a4.heap.size,0,none⟩) 1 1]
  rw[World.size_alloc] at this
  exact this
 have HZG:Hid (w.heap.size<a4.heap.size+1):=by have:=HG4.out.size;show _<_;omega
 have HNL:Hid (∀T:PR (List ByteArray),namesR 17 [n] L4=T→groupR h L=T.bind fun ns L'=>.ok ⟨q,ns⟩ L'):=fun T hT=>by unfold groupR;rw[if_neg (fun h=>HQN.out (by rw[←HQ.out];exact h.1))];rw[if_neg HX.out];rw[if_neg (by rw[HQ.out];exact HQN.out)];rw[HE4.out];dsimp only[PR.bind];rw[hT,HQ.out]
 go_wp2_with fail
 obtain⟨gb,hgb⟩:∃gb,a4.heap.size+1=gb:=⟨_,rfl⟩
 rw[hgb] at HKG HZG ⊢
 have HGB:=hHi hgb
 clear hgb
 go_loopw[] (fun W=>∃(f:Nat) (acc:List ByteArray) (L':List Wd) (va:Option Addr) (vc:Nat),Blk W gb 61 #[.int .i64 q,.slice va acc.length vc]∧NamesAt W w.heap.size acc (.slice va acc.length vc)∧Blk W w.heap.size 61 #[.int .i64 0,.slice none 0 0]∧Rd W R D L'∧w.grownBy W (some R)∧f+acc.length=18∧acc.length≤16∧namesR 17 [n] L4=namesR f acc L') (fun W=>18-lenAt W gb)
 case atStart=>exact⟨17,[n],L4,_,_,HKG.out,HNM.out,HKR.out,HRY.out,HGY.out,rfl,by simp,rfl⟩
 case round=>
  clear HKG HNM HKR HRY HGY HBX HBY HBW
  obtain⟨f,acc,L',va,vc,hkg,hnm,hkr,hr,hg,hf,h16,ht⟩:=hrel
  obtain⟨f,rfl⟩:∃f',f=f'+1:=⟨f-1,by omega⟩
  have Kg_50:Hid (Blk wr gb 61 #[.int .i64 q,.slice va acc.length vc]):=hkg
  have Kr_50:Hid (Blk wr w.heap.size 61 #[.int .i64 0,.slice none 0 0]):=hkr
  have HNM1:Hid (NamesAt wr w.heap.size acc (.slice va acc.length vc)):=hnm
  have HR50:=hHi hr
  have HG50:=hHi hg
  have HT1:=hHi ht
  have HF1:=hHi hf
  have HUN:Hid (namesR (f+1) acc L'=if (wd L').kind=1 then (if 16≤acc.length then .bad (wd L').fro 2 else (nameR L').bind fun n L=>namesR f (acc++[n]) L) else .ok acc L'):=rfl
  clear hkg hkr hnm hr hg ht hf
  have HWD:=hU (rd_word R D L' wr HR50.out)
  by_cases hk:(wd L').kind=1
  case neg=>
   have hk1:(((wd L').kind:Int)==1)=false:=by simp;omega
   have HK:=hHi hk
   clear hk
   go_wp2_with fail
   refine hMo HWD ?_
   rintro e a51 ⟨⟨ba,bc,rfl,_⟩,hb⟩
   have HN51:Hid (Below wr.heap.size wr a51):=hb
   clear hb
   have HR51:=hHi (HR50.out.below HN51.out)
   have HG51:=hHi (grown_below HG50.out HN51.out)
   have Kg_51:=kA Kg_50 HN51
   have Kr_51:=kA Kr_50 HN51
   have HNM2:Hid (NamesAt a51 w.heap.size acc (.slice va acc.length vc)):=HNM1.out.after HN51.out
   obtain⟨cg0_52,cg1_53⟩:=Kg_51.out.c2
   obtain⟨cr0_54,cr1_55⟩:=Kr_51.out.c2
   have zr_56:=Kr_51.out.frozen
   have lr_56:=Kr_51.out.lt
   go_wp2
   refine gen (fun W=>Blk W w.heap.size 61 _∧a51.grownBy W (some w.heap.size)) ⟨Blk.set2 (W:=a51) Kr_51.out _ _,gr_tr (gr_set _ _ _ _) (gr_set _ _ _ _)⟩ ?_
   rintro W ⟨hb,hgW⟩
   refine bodyPost_ret (results_cell_row rfl _ _ w.heap.size 61 _ (0,0) _ rfl hb Tryz.underlying61 rfl (by kernel_rfl)) rfl ?_
   have hfin:groupR h L=.ok ⟨q,acc⟩ L':=by rw[HNL.out _ (HT1.out.trans (HUN.out.trans (if_neg HK.out)))];rfl
   show RL R D w _ (groupR h L) _ _
   rw[hfin]
   exact⟨⟨_,rfl,va,vc,rfl,HNM2.out.put hgW Kr_51.out (by decide)⟩,Rd.kept HR51.out hgW (by have:=HLT.out;have:=HZ1.out;omega),gr_new HG51.out hgW HZ1.out⟩
  have hk1:(((wd L').kind:Int)==1)=true:=by simp;omega
  have HK:=hHi hk
  clear hk
  go_wp2_with fail
  refine hMo HWD ?_
  rintro e a51 ⟨⟨ba,bc,rfl,_⟩,hb⟩
  have HN51:Hid (Below wr.heap.size wr a51):=hb
  clear hb
  have HR51:=hHi (HR50.out.below HN51.out)
  have HG51:=hHi (grown_below HG50.out HN51.out)
  have Kg_51:=kA Kg_50 HN51
  have Kr_51:=kA Kr_50 HN51
  have HNM2:Hid (NamesAt a51 w.heap.size acc (.slice va acc.length vc)):=HNM1.out.after HN51.out
  obtain⟨cg0_52,cg1_53⟩:=Kg_51.out.c2
  by_cases hroom:16≤acc.length
  case pos=>
   have HX2:=hHi hroom
   have HB2:=hU (room_bad R D L' acc.length 16 a51 HR51.out hroom)
   clear hroom
   go_wp2_with fail
   refine hMo HB2 ?_
   rintro e wf ⟨rfl,hbf⟩
   simp only[FE]
   go_wp2
   refine⟨rfl,?_⟩
   have hfin:groupR h L=.bad (wd L').fro 2:=by rw[HNL.out _ (HT1.out.trans (HUN.out.trans ((if_pos HK.out).trans (if_pos HX2.out))))];rfl
   show RL R D w _ (groupR h L) _ _
   rw[hfin]
   exact⟨rfl,grown_below HG51.out hbf⟩
  have HX2:=hHi hroom
  have h15:acc.length<16:=by omega
  have HB2:=hU (room_ok R acc.length 16 a51 (by omega))
  clear hroom
  go_wp2_with fail
  refine hMo HB2 ?_
  rintro e wz9 ⟨rfl,hwz⟩
  have hwz:=hwz.symm
  subst hwz
  have HCN:=hU (rd_name R D L' a51.drew (HR51.out.below (below_dr _)))
  have HGD:Hid (w.grownBy a51.drew (some R)):=grown_below HG51.out (below_dr _)
  have HKGd:Hid (Blk a51.drew gb 61 #[.int .i64 q,.slice va acc.length vc]):=Blk.after Kg_51.out (below_dr _)
  have HKRd:Hid (Blk a51.drew w.heap.size 61 #[.int .i64 0,.slice none 0 0]):=Blk.after Kr_51.out (below_dr _)
  have HNMd:Hid (NamesAt a51.drew w.heap.size acc (.slice va acc.length vc)):=HNM2.out.after (below_dr _)
  have cg1:=HKGd.out.cell 1 rfl
  go_wp2
  cases hn:nameR L' with
  | bad p c=>
   rw[hn] at HCN
   have HEN:=hHi hn
   clear hn
   refine wp_region_held_drew (S:=fun _=>True) (by kernel_rfl) trivial (fun hHeld=>?_)
   refine tk 0 rfl (by assumption) ?_
   refine tk 2 rfl (by assumption) ?_
   refine wpAnyH_ready (rs:=[1,3]) (by kernel_rfl) (by simp) ?_
   refine (AllReadyH.cons rfl (fun K hK=>?_) (AllReadyH.cons rfl (fun K hK=>?_) AllReadyH.nil))
   ·skip
    go_simp
    refine hK.out _ _ trivial (fun hHeld=>?_)
    clear hK K
    refine rd1 3 rfl (fun K hK=>?_)
    go_simp
    refine hMo HCN ?_
    rintro e wf ⟨rfl,hgf⟩
    simp only[FE]
    go_wp2_with fail
    refine⟨rfl,?_⟩
    have hfin:groupR h L=.bad p c:=by rw[HNL.out _ (HT1.out.trans (HUN.out.trans ((if_pos HK.out).trans ((if_neg HX2.out).trans (by rw[HEN.out];try rfl)))))];rfl
    show RL R D w _ (groupR h L) _ _
    rw[hfin]
    exact⟨rfl,gr_tr HGD.out hgf⟩
   ·skip
    go_simp
    refine hMo HCN ?_
    rintro e wf ⟨rfl,hgf⟩
    simp only[FE]
    go_wp2_with fail
    refine⟨rfl,?_⟩
    have hfin:groupR h L=.bad p c:=by rw[HNL.out _ (HT1.out.trans (HUN.out.trans ((if_pos HK.out).trans ((if_neg HX2.out).trans (by rw[HEN.out];try rfl)))))];rfl
    show RL R D w _ (groupR h L) _ _
    rw[hfin]
    exact⟨rfl,gr_tr HGD.out hgf⟩
  | ok z L3=>
  rw[hn] at HCN
  have HEN:=hHi hn
  clear hn
  have HRB:Hid ((w.heap.size:Nat)≠gb):=by have:=HZG.out;show _≠_;omega
  refine wp_region_held_drew (S:=fun _=>True) (by kernel_rfl) trivial (fun hHeld=>?_)
  refine tk 0 rfl (by assumption) ?_
  refine tk 2 rfl (by assumption) ?_
  refine wpAnyH_ready (rs:=[1,3]) (by kernel_rfl) (by simp) ?_
  refine (AllReadyH.cons rfl (fun K hK=>?_) (AllReadyH.cons rfl (fun K hK=>?_) AllReadyH.nil))
  ·skip
   go_simp
   refine hK.out _ _ trivial (fun hHeld=>?_)
   clear hK K
   refine rd1 3 rfl (fun K hK=>?_)
   go_simp
   refine hMo HCN ?_
   rintro e w3 ⟨rfl,hr,hg⟩
   have HR3:=hHi hr
   have HG3:=hHi (gr_tr HGD.out hg)
   have HKG3:Hid (Blk w3 gb 61 #[.int .i64 q,.slice va acc.length vc]):=Blk.kept (W:=a51.drew) HKGd.out hg (by have:=HLT.out;have:=HZG.out;simp;omega)
   have HKR3:Hid (Blk w3 w.heap.size 61 #[.int .i64 0,.slice none 0 0]):=Blk.kept (W:=a51.drew) HKRd.out hg (by have:=HLT.out;have:=HZ1.out;simp;omega)
   have HNM3:Hid (NamesAt w3 w.heap.size acc (.slice va acc.length vc)):=HNMd.out.kept hg HLT.out
   have HS3:=hHi HG3.out.size
   have cg3:=HKG3.out.cell 1 rfl
   clear hr hg
   go_wp2_with fail
   refine hK.out _ _ trivial (fun hHeld=>?_)
   clear hK K
   refine rd1 4 rfl (fun K hK=>?_)
   go_simp
   refine hK.out _ _ trivial (fun hHeld=>?_)
   clear hK K
   refine rd1 5 rfl (fun K hK=>?_)
   refine step_append_lies _ rfl _ _ 59 rfl w.heap.size 9 i0 _ 1 16 Tryz.underlying59 hi hz0 hz1 hz2 rfl (by decide) (.slice va acc.length vc) acc.length (ncells acc) rfl (HNM3.out.row.alloc _) ⟨w3.heap.size,0,none⟩ 1 1 [.string z] rfl rfl (new_cells w3 9 [.string z]) (by intro u hu;simp at hu;rw[hu];rfl) (by decide) (by unfold maxLen;omega) (by omega) (by have:=HS3.out;simp;omega) (w3.heap.size+1) (by simp) ?_
   intro g1 cap1 w7 hown hgrow hat hlt7
   have hob:∀b,(Value.slice va acc.length vc).ownBlock=some b→w.heap.size≤b:=fun b hb=>(HNM3.out.row.lt b hb).1
   have HNM7:Hid (NamesAt w7 w.heap.size (acc++[z]) (.slice (some ⟨g1,0,none⟩) (acc.length+1) cap1)):=⟨by rw[ncells_snoc,List.length_append];exact hown⟩
   have HR7:Hid (Rd w7 R D L3):=(HR3.out.below ((Below.refl _ _).alloc (Nat.le_refl _) _)).keptO hgrow (fun b hb=>Nat.lt_of_lt_of_le HLT.out (hob b hb))
   have HG7:Hid (w.grownBy w7 (some R)):=gr_newO (grown_below HG3.out ((Below.refl _ _).alloc (Nat.le_refl _) _)) hgrow hob
   have HKG7:Hid (Blk w7 gb 61 #[.int .i64 q,.slice va acc.length vc]):=Blk.kept (W:=(w3.alloc (.cells #[.string z] 9))) (Blk.alloc HKG3.out _) hgrow (Blk.not_row (W:=(w3.alloc (.cells #[.string z] 9))) (Blk.alloc HKG3.out _) (by decide) (HNM3.out.row.alloc _))
   have HKR7:Hid (Blk w7 w.heap.size 61 #[.int .i64 0,.slice none 0 0]):=Blk.kept (W:=(w3.alloc (.cells #[.string z] 9))) (Blk.alloc HKR3.out _) hgrow (Blk.not_row (W:=(w3.alloc (.cells #[.string z] 9))) (Blk.alloc HKR3.out _) (by decide) (HNM3.out.row.alloc _))
   have cg7:=HKG7.out.cell 1 rfl
   have zg7:=Blk.frozen HKG7.out 1
   have lg7:=HKG7.out.lt
   clear hown hgrow hat hlt7 hob
   refine hK.out _ _ trivial (fun hHeld=>?_)
   clear hK K
   refine tk 6 rfl (by assumption) ?_
   refine rd1 7 rfl (fun K hK=>?_)
   go_simp
   refine hK.out _ _ trivial (fun hHeld=>?_)
   clear hK K
   refine wpAnyH_done (by kernel_rfl) ?_ _
   clear hHeld
   have HFN:Hid (∀W,w7.setCell ⟨gb,1,none⟩ (.slice (some ⟨g1,0,none⟩) (acc.length+1) cap1)=W→Blk W gb 61 #[.int .i64 q,.slice (some ⟨g1,0,none⟩) (acc.length+1) cap1]∧NamesAt W w.heap.size (acc++[z]) (.slice (some ⟨g1,0,none⟩) (acc.length+1) cap1)∧Blk W w.heap.size 61 #[.int .i64 0,.slice none 0 0]∧Rd W R D L3∧w.grownBy W (some R)):=fun W hW=>by
    have hg:w7.grownBy W (some gb):=by rw[←hW];exact grownBy_setCell _ _ _ _
    refine⟨by rw[←hW];exact Blk.set HKG7.out 1 _,HNM7.out.put hg HKG7.out (by decide),Blk.kept HKR7.out hg (by have:=HRB.out;simp;omega),Rd.kept HR7.out hg (by have:=HLT.out;have:=HZG.out;omega),gr_new HG7.out hg (Nat.le_of_lt HZG.out)⟩
   go_wp2
   obtain⟨W8,hW8⟩:∃W8,w7.setCell ⟨gb,1,none⟩ (.slice (some ⟨g1,0,none⟩) (acc.length+1) cap1)=W8:=⟨_,rfl⟩
   have hF8:=HFN.out W8 hW8
   rw[hW8]
   go_roundw
   case rel=>exact⟨f,acc++[z],L3,_,_,by rw[List.length_append];exact hF8.1,by rw[List.length_append];exact hF8.2.1,hF8.2.2.1,hF8.2.2.2.1,hF8.2.2.2.2,by have:=HF1.out;rw[List.length_append];simp;omega,by rw[List.length_append];simp;omega,HT1.out.trans (HUN.out.trans ((if_pos HK.out).trans ((if_neg HX2.out).trans (by rw[HEN.out];try rfl))))⟩
   case measure=>rw[lenAt_blk hF8.1,lenAt_blk Kg_50.out];omega
  ·skip
   go_simp
   refine hMo HCN ?_
   rintro e w3 ⟨rfl,hr,hg⟩
   have HR3:=hHi hr
   have HG3:=hHi (gr_tr HGD.out hg)
   have HKG3:Hid (Blk w3 gb 61 #[.int .i64 q,.slice va acc.length vc]):=Blk.kept (W:=a51.drew) HKGd.out hg (by have:=HLT.out;have:=HZG.out;simp;omega)
   have HKR3:Hid (Blk w3 w.heap.size 61 #[.int .i64 0,.slice none 0 0]):=Blk.kept (W:=a51.drew) HKRd.out hg (by have:=HLT.out;have:=HZ1.out;simp;omega)
   have HNM3:Hid (NamesAt w3 w.heap.size acc (.slice va acc.length vc)):=HNMd.out.kept hg HLT.out
   have HS3:=hHi HG3.out.size
   have cg3:=HKG3.out.cell 1 rfl
   clear hr hg
   go_wp2_with fail
   refine hK.out _ _ trivial (fun hHeld=>?_)
   clear hK K
   refine wpAnyH_ready (rs:=[1,4]) (by kernel_rfl) (by simp) ?_
   refine (AllReadyH.cons rfl (fun K hK=>?_) (AllReadyH.cons rfl (fun K hK=>?_) AllReadyH.nil))
   ·skip
    go_simp
    refine hK.out _ _ trivial (fun hHeld=>?_)
    clear hK K
    refine rd1 4 rfl (fun K hK=>?_)
    go_simp
    refine hK.out _ _ trivial (fun hHeld=>?_)
    clear hK K
    refine rd1 5 rfl (fun K hK=>?_)
    refine step_append_lies _ rfl _ _ 59 rfl w.heap.size 9 i0 _ 1 16 Tryz.underlying59 hi hz0 hz1 hz2 rfl (by decide) (.slice va acc.length vc) acc.length (ncells acc) rfl (HNM3.out.row.alloc _) ⟨w3.heap.size,0,none⟩ 1 1 [.string z] rfl rfl (new_cells w3 9 [.string z]) (by intro u hu;simp at hu;rw[hu];rfl) (by decide) (by unfold maxLen;omega) (by omega) (by have:=HS3.out;simp;omega) (w3.heap.size+1) (by simp) ?_
    intro g1 cap1 w7 hown hgrow hat hlt7
    have hob:∀b,(Value.slice va acc.length vc).ownBlock=some b→w.heap.size≤b:=fun b hb=>(HNM3.out.row.lt b hb).1
    have HNM7:Hid (NamesAt w7 w.heap.size (acc++[z]) (.slice (some ⟨g1,0,none⟩) (acc.length+1) cap1)):=⟨by rw[ncells_snoc,List.length_append];exact hown⟩
    have HR7:Hid (Rd w7 R D L3):=(HR3.out.below ((Below.refl _ _).alloc (Nat.le_refl _) _)).keptO hgrow (fun b hb=>Nat.lt_of_lt_of_le HLT.out (hob b hb))
    have HG7:Hid (w.grownBy w7 (some R)):=gr_newO (grown_below HG3.out ((Below.refl _ _).alloc (Nat.le_refl _) _)) hgrow hob
    have HKG7:Hid (Blk w7 gb 61 #[.int .i64 q,.slice va acc.length vc]):=Blk.kept (W:=(w3.alloc (.cells #[.string z] 9))) (Blk.alloc HKG3.out _) hgrow (Blk.not_row (W:=(w3.alloc (.cells #[.string z] 9))) (Blk.alloc HKG3.out _) (by decide) (HNM3.out.row.alloc _))
    have HKR7:Hid (Blk w7 w.heap.size 61 #[.int .i64 0,.slice none 0 0]):=Blk.kept (W:=(w3.alloc (.cells #[.string z] 9))) (Blk.alloc HKR3.out _) hgrow (Blk.not_row (W:=(w3.alloc (.cells #[.string z] 9))) (Blk.alloc HKR3.out _) (by decide) (HNM3.out.row.alloc _))
    have cg7:=HKG7.out.cell 1 rfl
    have zg7:=Blk.frozen HKG7.out 1
    have lg7:=HKG7.out.lt
    clear hown hgrow hat hlt7 hob
    refine hK.out _ _ trivial (fun hHeld=>?_)
    clear hK K
    refine tk 6 rfl (by assumption) ?_
    refine rd1 7 rfl (fun K hK=>?_)
    go_simp
    refine hK.out _ _ trivial (fun hHeld=>?_)
    clear hK K
    refine wpAnyH_done (by kernel_rfl) ?_ _
    clear hHeld
    have HFN:Hid (∀W,w7.setCell ⟨gb,1,none⟩ (.slice (some ⟨g1,0,none⟩) (acc.length+1) cap1)=W→Blk W gb 61 #[.int .i64 q,.slice (some ⟨g1,0,none⟩) (acc.length+1) cap1]∧NamesAt W w.heap.size (acc++[z]) (.slice (some ⟨g1,0,none⟩) (acc.length+1) cap1)∧Blk W w.heap.size 61 #[.int .i64 0,.slice none 0 0]∧Rd W R D L3∧w.grownBy W (some R)):=fun W hW=>by
     have hg:w7.grownBy W (some gb):=by rw[←hW];exact grownBy_setCell _ _ _ _
     refine⟨by rw[←hW];exact Blk.set HKG7.out 1 _,HNM7.out.put hg HKG7.out (by decide),Blk.kept HKR7.out hg (by have:=HRB.out;simp;omega),Rd.kept HR7.out hg (by have:=HLT.out;have:=HZG.out;omega),gr_new HG7.out hg (Nat.le_of_lt HZG.out)⟩
    go_wp2
    obtain⟨W8,hW8⟩:∃W8,w7.setCell ⟨gb,1,none⟩ (.slice (some ⟨g1,0,none⟩) (acc.length+1) cap1)=W8:=⟨_,rfl⟩
    have hF8:=HFN.out W8 hW8
    rw[hW8]
    go_roundw
    case rel=>exact⟨f,acc++[z],L3,_,_,by rw[List.length_append];exact hF8.1,by rw[List.length_append];exact hF8.2.1,hF8.2.2.1,hF8.2.2.2.1,hF8.2.2.2.2,by have:=HF1.out;rw[List.length_append];simp;omega,by rw[List.length_append];simp;omega,HT1.out.trans (HUN.out.trans ((if_pos HK.out).trans ((if_neg HX2.out).trans (by rw[HEN.out];try rfl))))⟩
    case measure=>rw[lenAt_blk hF8.1,lenAt_blk Kg_50.out];omega
   ·skip
    go_simp
    refine hK.out _ _ trivial (fun hHeld=>?_)
    clear hK K
    have cg4:=Blk.cell (W:=(w3.alloc (.cells #[.string z] 9))) (Blk.alloc HKG3.out _) 1 rfl
    refine rd1 1 rfl (fun K hK=>?_)
    go_simp
    refine hK.out _ _ trivial (fun hHeld=>?_)
    clear hK K
    refine rd1 5 rfl (fun K hK=>?_)
    refine step_append_lies _ rfl _ _ 59 rfl w.heap.size 9 i0 _ 1 16 Tryz.underlying59 hi hz0 hz1 hz2 rfl (by decide) (.slice va acc.length vc) acc.length (ncells acc) rfl (HNM3.out.row.alloc _) ⟨w3.heap.size,0,none⟩ 1 1 [.string z] rfl rfl (new_cells w3 9 [.string z]) (by intro u hu;simp at hu;rw[hu];rfl) (by decide) (by unfold maxLen;omega) (by omega) (by have:=HS3.out;simp;omega) (w3.heap.size+1) (by simp) ?_
    intro g1 cap1 w7 hown hgrow hat hlt7
    have hob:∀b,(Value.slice va acc.length vc).ownBlock=some b→w.heap.size≤b:=fun b hb=>(HNM3.out.row.lt b hb).1
    have HNM7:Hid (NamesAt w7 w.heap.size (acc++[z]) (.slice (some ⟨g1,0,none⟩) (acc.length+1) cap1)):=⟨by rw[ncells_snoc,List.length_append];exact hown⟩
    have HR7:Hid (Rd w7 R D L3):=(HR3.out.below ((Below.refl _ _).alloc (Nat.le_refl _) _)).keptO hgrow (fun b hb=>Nat.lt_of_lt_of_le HLT.out (hob b hb))
    have HG7:Hid (w.grownBy w7 (some R)):=gr_newO (grown_below HG3.out ((Below.refl _ _).alloc (Nat.le_refl _) _)) hgrow hob
    have HKG7:Hid (Blk w7 gb 61 #[.int .i64 q,.slice va acc.length vc]):=Blk.kept (W:=(w3.alloc (.cells #[.string z] 9))) (Blk.alloc HKG3.out _) hgrow (Blk.not_row (W:=(w3.alloc (.cells #[.string z] 9))) (Blk.alloc HKG3.out _) (by decide) (HNM3.out.row.alloc _))
    have HKR7:Hid (Blk w7 w.heap.size 61 #[.int .i64 0,.slice none 0 0]):=Blk.kept (W:=(w3.alloc (.cells #[.string z] 9))) (Blk.alloc HKR3.out _) hgrow (Blk.not_row (W:=(w3.alloc (.cells #[.string z] 9))) (Blk.alloc HKR3.out _) (by decide) (HNM3.out.row.alloc _))
    have cg7:=HKG7.out.cell 1 rfl
    have zg7:=Blk.frozen HKG7.out 1
    have lg7:=HKG7.out.lt
    clear hown hgrow hat hlt7 hob
    refine hK.out _ _ trivial (fun hHeld=>?_)
    clear hK K
    refine tk 6 rfl (by assumption) ?_
    refine rd1 7 rfl (fun K hK=>?_)
    go_simp
    refine hK.out _ _ trivial (fun hHeld=>?_)
    clear hK K
    refine wpAnyH_done (by kernel_rfl) ?_ _
    clear hHeld
    have HFN:Hid (∀W,w7.setCell ⟨gb,1,none⟩ (.slice (some ⟨g1,0,none⟩) (acc.length+1) cap1)=W→Blk W gb 61 #[.int .i64 q,.slice (some ⟨g1,0,none⟩) (acc.length+1) cap1]∧NamesAt W w.heap.size (acc++[z]) (.slice (some ⟨g1,0,none⟩) (acc.length+1) cap1)∧Blk W w.heap.size 61 #[.int .i64 0,.slice none 0 0]∧Rd W R D L3∧w.grownBy W (some R)):=fun W hW=>by
     have hg:w7.grownBy W (some gb):=by rw[←hW];exact grownBy_setCell _ _ _ _
     refine⟨by rw[←hW];exact Blk.set HKG7.out 1 _,HNM7.out.put hg HKG7.out (by decide),Blk.kept HKR7.out hg (by have:=HRB.out;simp;omega),Rd.kept HR7.out hg (by have:=HLT.out;have:=HZG.out;omega),gr_new HG7.out hg (Nat.le_of_lt HZG.out)⟩
    go_wp2
    obtain⟨W8,hW8⟩:∃W8,w7.setCell ⟨gb,1,none⟩ (.slice (some ⟨g1,0,none⟩) (acc.length+1) cap1)=W8:=⟨_,rfl⟩
    have hF8:=HFN.out W8 hW8
    rw[hW8]
    go_roundw
    case rel=>exact⟨f,acc++[z],L3,_,_,by rw[List.length_append];exact hF8.1,by rw[List.length_append];exact hF8.2.1,hF8.2.2.1,hF8.2.2.2.1,hF8.2.2.2.2,by have:=HF1.out;rw[List.length_append];simp;omega,by rw[List.length_append];simp;omega,HT1.out.trans (HUN.out.trans ((if_pos HK.out).trans ((if_neg HX2.out).trans (by rw[HEN.out];try rfl))))⟩
    case measure=>rw[lenAt_blk hF8.1,lenAt_blk Kg_50.out];omega
theorem flat_get {α:Type} {n:Nat} {cf:α→List Value} (hn:∀x,(cf x).length=n):∀(l:List α) (j:Nat) (x:α) (i:Nat) (u:Value),l[j]?=some x→(cf x)[i]?=some u→(l.flatMap cf)[j*n+i]?=some u
 | [],j,x,i,u,h,_=>by simp at h
 | y::l,0,x,i,u,h,hu=>by
  simp at h;subst h
  rw[List.flatMap_cons,Nat.zero_mul,Nat.zero_add,List.getElem?_append_left (by have:=(List.getElem?_eq_some_iff.1 hu).1;exact this)]
  exact hu
 | y::l,j+1,x,i,u,h,hu=>by
  rw[List.flatMap_cons,List.getElem?_append_right (by rw[hn];have:n≤(j+1)*n:=Nat.le_mul_of_pos_left n (by omega);omega),hn]
  rw[show (j+1)*n+i-n=j*n+i by rw[Nat.add_mul,Nat.one_mul];omega]
  exact flat_get hn l j x i u (by simpa using h) hu
theorem own_rows {α:Type} {n:Nat} {cf:α→List Value} (hn:∀x,(cf x).length=n) {W:World} {base e:Nat} {l:List α} {v:Value} (h:W.ownsRow base e n v l.length (l.flatMap cf)) {j:Nat} {x:α} (hj:l[j]?=some x):∃g cap,v=.slice (some ⟨g,0,none⟩) l.length cap∧base≤g∧g<W.heap.size∧∀i u,(cf x)[i]?=some u→W.cell? ⟨g,0+j*n+i,none⟩=some u:=by
 have hlt:=(List.getElem?_eq_some_iff.1 hj).1
 obtain⟨g,cap,rfl,hb,hg⟩:=h.form (by omega)
 refine⟨g,cap,rfl,hb,hg,fun i u hu=>?_⟩
 have h1:=flat_get hn l j x i u hj hu
 have h2:=h.cells (g:=g) rfl (j*n+i) u h1
 have e:(⟨g,0,none⟩:Addr).add (j*n+i)=⟨g,0+j*n+i,none⟩:=by unfold Addr.add;split<;>simp_all
 rw[←e];exact h2
def RowS {α:Type} (w:World) (S:Nat→Prop) (n:Nat) (V:α→List Value→Prop) (a:Option Addr) (l:List α):Prop:=
 ∀j x,l[j]?=some x→∃b o vs,a=some ⟨b,o,none⟩∧S b∧V x vs∧∀i v,vs[i]?=some v→w.cell? ⟨b,o+j*n+i,none⟩=some v
def SlS {α:Type} (w:World) (S:Nat→Prop) (n:Nat) (V:α→List Value→Prop) (l:List α) (v:Value):Prop:=
 ∃a c,v=.slice a l.length c∧l.length≤c∧l.length≤140737488355328∧RowS w S n V a l
theorem SlS.keep {α:Type} {w w':World} {S S':Nat→Prop} {n:Nat} {V V':α→List Value→Prop} {l:List α} {v:Value} (h:SlS w S n V l v) (hc:∀b,S b→∀q,w'.cell? ⟨b,q,none⟩=w.cell? ⟨b,q,none⟩) (hS:∀b,S b→S' b) (hV:∀x vs,V x vs→V' x vs):SlS w' S' n V' l v:=by
 obtain⟨a,c,e,h1,h2,h3⟩:=h
 refine⟨a,c,e,h1,h2,fun j x hj=>?_⟩
 obtain⟨b,o,vs,e,hs,hv,hcc⟩:=h3 j x hj
 exact⟨b,o,vs,e,hS b hs,hV x vs hv,fun i u hu=>(hc b hs _).trans (hcc i u hu)⟩
theorem SlS.sl {α:Type} {w:World} {S:Nat→Prop} {B n:Nat} {V V':α→List Value→Prop} {l:List α} {v:Value} (h:SlS w S n V l v) (hS:∀b,S b→b<B) (hV:∀x vs,V x vs→V' x vs):Sl w B n V' l v:=by
 obtain⟨a,c,e,h1,h2,h3⟩:=h
 refine⟨a,c,e,h1,h2,fun j x hj=>?_⟩
 obtain⟨b,o,vs,e,hs,hv,hcc⟩:=h3 j x hj
 exact⟨b,o,vs,e,hS b hs,hV x vs hv,hcc⟩
def ItS (w:World) (S:Nat→Prop):Nat→It→List Value→Prop
 | 0,_,_=>False
 | f+1,i,vs=>∃v,vs=[.int .i64 i.kind,.string i.text,.int .i64 i.n,v]∧SlS w S 4 (ItS w S f) i.items v
theorem ItS.keep {w w':World} {S S':Nat→Prop} (hc:∀b,S b→∀q,w'.cell? ⟨b,q,none⟩=w.cell? ⟨b,q,none⟩) (hS:∀b,S b→S' b):∀ {f:Nat} {i:It} {vs:List Value},ItS w S f i vs→ItS w' S' f i vs
 | 0,_,_,h=>h
 | f+1,i,vs,h=>by
  obtain⟨v,e,h⟩:=h
  exact⟨v,e,h.keep hc hS (fun _ _ h=>ItS.keep hc hS h)⟩
theorem ItS.up {w:World} {S:Nat→Prop}:∀ {f:Nat} {i:It} {vs:List Value},ItS w S f i vs→ItS w S (f+1) i vs
 | 0,_,_,h=>h.elim
 | f+1,i,vs,h=>by
  obtain⟨v,e,h⟩:=h
  exact⟨v,e,h.keep (fun _ _ _=>rfl) (fun _ h=>h) (fun _ _ h=>ItS.up h)⟩
theorem ItS.ups {w:World} {S:Nat→Prop} {f g:Nat} {i:It} {vs:List Value} (h:ItS w S f i vs) (hg:f≤g):ItS w S g i vs:=by
 induction hg with
 | refl=>exact h
 | step _ ih=>exact ih.up
theorem ItS.it {w:World} {S:Nat→Prop} {B:Nat} (hS:∀b,S b→b<B):∀ {f:Nat} {i:It} {vs:List Value},ItS w S f i vs→ItV w B f i vs
 | 0,_,_,h=>h
 | f+1,i,vs,h=>by
  obtain⟨v,e,h⟩:=h
  exact⟨v,e,h.sl hS (fun _ _ h=>ItS.it hS h)⟩
def ItsAt (w:World) (S:Nat→Prop) (l:List It) (v:Value):Prop:=∃f,SlS w S 4 (ItS w S f) l v
theorem ItsAt.keep {w w':World} {S S':Nat→Prop} {l:List It} {v:Value} (h:ItsAt w S l v) (hc:∀b,S b→∀q,w'.cell? ⟨b,q,none⟩=w.cell? ⟨b,q,none⟩) (hS:∀b,S b→S' b):ItsAt w' S' l v:=by
 obtain⟨f,h⟩:=h
 exact⟨f,h.keep hc hS (fun _ _ h=>h.keep hc hS)⟩
theorem ItsAt.nil (w:World) (S:Nat→Prop):ItsAt w S [] (.slice none 0 0):=⟨0,none,0,rfl,Nat.le_refl _,by simp,fun j x hj=>by simp at hj⟩
theorem ItsAt.slice {w:World} {S:Nat→Prop} {l:List It} {v:Value} (h:ItsAt w S l v):∃a c,v=.slice a l.length c:=by
 obtain⟨f,a,c,e,_⟩:=h
 exact⟨a,c,e⟩
def icell (q:It×Value):List Value:=[.int .i64 q.1.kind,.string q.1.text,.int .i64 q.1.n,q.2]
structure Its (W:World) (base:Nat) (lv:Value) (L:List (It×Value)):Prop where
 row:W.ownsRow base 124 4 lv L.length (L.flatMap icell)
 subs:∀q∈L,ItsAt W (fun b=>base≤b∧b<W.heap.size∧some b≠lv.ownBlock) q.1.items q.2
theorem its_fuel {W:World} {S:Nat→Prop}:∀ {L:List (It×Value)},(∀q∈L,ItsAt W S q.1.items q.2)→∃f,∀q∈L,SlS W S 4 (ItS W S f) q.1.items q.2
 | [],_=>⟨0,fun q h=>by cases h⟩
 | x::L,h=>by
  obtain⟨f,hf⟩:=its_fuel (L:=L) (fun q hq=>h q (List.mem_cons_of_mem _ hq))
  obtain⟨g,hg⟩:=h x (by simp)
  refine⟨f+g,fun q hq=>?_⟩
  rcases List.mem_cons.1 hq with rfl | hq
  ·exact hg.keep (fun _ _ _=>rfl) (fun _ h=>h) (fun _ _ h=>h.ups (by omega))
  ·exact (hf q hq).keep (fun _ _ _=>rfl) (fun _ h=>h) (fun _ _ h=>h.ups (by omega))
theorem Its.at' {W:World} {base:Nat} {lv:Value} {L:List (It×Value)} (h:Its W base lv L) (hl:L.length≤140737488355328):ItsAt W (fun b=>base≤b∧b<W.heap.size) (L.map (·.1)) lv:=by
 obtain⟨f,hf⟩:=its_fuel h.subs
 obtain⟨va,vc,rfl⟩:=own_slice h.row
 refine⟨f+1,va,vc,by rw[List.length_map],?_,by rw[List.length_map];exact hl,fun j x hj=>?_⟩
 ·rw[List.length_map]
  rcases h.row.2 with ⟨e,e2⟩ | ⟨g,cap,cur,e,_,_,hcap,_⟩
  ·omega
  ·cases e;exact hcap
 ·rw[List.getElem?_map,Option.map_eq_some_iff] at hj
  obtain⟨q,hq,rfl⟩:=hj
  obtain⟨g,cap,e,hb,hg,hc⟩:=own_rows (cf:=icell) (fun _=>rfl) h.row hq
  cases e
  refine⟨g,0,icell q,rfl,⟨hb,hg⟩,⟨q.2,rfl,?_⟩,hc⟩
  exact (hf q (List.mem_of_getElem? hq)).keep (fun _ _ _=>rfl) (fun b h=>⟨h.1,h.2.1⟩) (fun _ _ h=>h.keep (fun _ _ _=>rfl) (fun b h=>⟨h.1,h.2.1⟩))
structure Gr2 (w w':World) (R H:Nat):Prop where
 os:w'.os=w.os
 tape:w'.tape=w.tape
 output:w'.output=w.output
 size:w.heap.size≤w'.heap.size
 block:∀b,b<w.heap.size→b≠R→b≠H→w'.heap[b]?=w.heap[b]?
theorem Gr2.refl (w:World) (R H:Nat):Gr2 w w R H:=⟨rfl,rfl,rfl,Nat.le_refl _,fun _ _ _ _=>rfl⟩
theorem Gr2.tr {u v w:World} {R H:Nat} (h:Gr2 u v R H) (k:Gr2 v w R H):Gr2 u w R H:=⟨k.os.trans h.os,k.tape.trans h.tape,k.output.trans h.output,Nat.le_trans h.size k.size,fun b hb h1 h2=>(k.block b (Nat.lt_of_lt_of_le hb h.size) h1 h2).trans (h.block b hb h1 h2)⟩
theorem Gr2.gr {u v w:World} {R H:Nat} (h:Gr2 u v R H) (k:v.grownBy w (some R)):Gr2 u w R H:=h.tr ⟨k.os,k.tape,k.output,k.size,fun b hb h1 _=>k.block b hb (by simpa using h1)⟩
theorem Gr2.below {u v w:World} {R H:Nat} (h:Gr2 u v R H) (k:Below v.heap.size v w):Gr2 u w R H:=h.tr ⟨k.os,k.tape,k.output,k.size,fun b hb _ _=>k.block b hb⟩
theorem Gr2.new {u v w:World} {R H b:Nat} (h:Gr2 u v R H) (k:v.grownBy w (some b)) (hb:u.heap.size≤b):Gr2 u w R H:=⟨k.os.trans h.os,k.tape.trans h.tape,k.output.trans h.output,Nat.le_trans h.size k.size,fun c hc h1 h2=>(k.block c (Nat.lt_of_lt_of_le hc h.size) (by simp;omega)).trans (h.block c hc h1 h2)⟩
structure Env (W:World) (R rb hb ib wb:Nat) (h:Nat):Prop where
 r:Blk W rb 98 #[.pointer (some ⟨R,0,none⟩)]
 h:Blk W hb 3 #[.int .i64 (h:Int)]
 i:Blk W ib 199 #[.func (.func 201) #[] #[.pointer (some ⟨rb,0,none⟩),.pointer (some ⟨hb,0,none⟩),.pointer (some ⟨wb,0,none⟩)]]
 w:Blk W wb 199 #[.func (.func 200) #[] #[.pointer (some ⟨rb,0,none⟩),.pointer (some ⟨ib,0,none⟩)]]
 lr:R<rb
 lh:R<hb
 li:R<ib
 lw:R<wb
end Go.Proofs.YtcpakcffiopfjaaGreatDoor
