/- Statements read: templates. Statements read: chains. Statements read: start and layout. -/
import Derived.Test.YtcpakcffiopfjaaGreatDoorKq
import Derived.Laws.EntriesVeiled
import Derived.Test.YtcpakcffiopfjaaGreatDoorA1
namespace Go.Proofs.YtcpakcffiopfjaaGreatDoor
open Go.RowKit
set_option linter.unusedVariables false
set_option linter.unusedSimpArgs false
set_option maxRecDepth 100000
set_option maxHeartbeats 16000000
set_option linter.unusedVariables false
set_option linter.unusedSimpArgs false
set_option maxRecDepth 100000
set_option maxHeartbeats 16000000
theorem Gr2.one {w W W':World} {R H:Nat} (h:w.grownBy W (some R)) (k:Gr2 W W' R H) (hH:w.heap.size≤H):w.grownBy W' (some R):=⟨k.os.trans h.os,k.tape.trans h.tape,k.output.trans h.output,Nat.le_trans h.size k.size,fun b hb hne=>(k.block b (Nat.lt_of_lt_of_le hb h.size) (by simpa using hne) (by omega)).trans (h.block b hb hne)⟩
theorem info64:(Tryz.prog.info? 64).map (fun i=>(i.zero,i.size,i.bytes))=some (some (.agg #[.string ⟨#[]⟩,.slice none 0 0]),2,40):=by kernel_rfl
def chainR (d:Df) (L:List Wd):PR Df:=(groupsR 17 [] L.tail).bind fun c L=>.ok { d with chains:=d.chains++[c] } L
structure Grs (W:World) (base:Nat) (lv:Value) (L:List (Gr×Value)):Prop where
 row:W.ownsRow base 61 2 lv L.length (L.flatMap gcell)
 subs:∀q∈L,NamesAt W base q.1.cons q.2
theorem Grs.nil (W:World) (base:Nat):Grs W base (.slice none 0 0) []:=⟨World.ownsRow_nil _ _ _ _,fun q h=>by cases h⟩
theorem Grs.kept {W W':World} {base b:Nat} {lv:Value} {L:List (Gr×Value)} (h:Grs W base lv L) (hg:W.grownBy W' (some b)) (hb:b<base):Grs W' base lv L:=⟨own_kept h.row hg hb,fun q hq=>(h.subs q hq).kept hg hb⟩
theorem Grs.after {W W':World} {base:Nat} {lv:Value} {L:List (Gr×Value)} (h:Grs W base lv L) (hg:Below W.heap.size W W'):Grs W' base lv L:=⟨own_after h.row hg,fun q hq=>(h.subs q hq).after hg⟩
theorem Grs.push {W w7:World} {base g1 cap:Nat} {lv:Value} {L:List (Gr×Value)} {tmp:Obj} (h:Grs W base lv L) {g:Gr} {v:Value} (hv:NamesAt W base g.cons v) (hown:w7.ownsRow base 61 2 (.slice (some ⟨g1,0,none⟩) (L.length+1) cap) (L.length+1) (L.flatMap gcell++gcell (g,v))) (hgrow:(W.alloc tmp).grownBy w7 lv.ownBlock):Grs w7 base (.slice (some ⟨g1,0,none⟩) (L.length+1) cap) (L++[(g,v)]):=by
 refine⟨by rw[List.flatMap_append,List.length_append];simpa using hown,fun q hq=>?_⟩
 have hk:∀q:Gr×Value,NamesAt W base q.1.cons q.2→NamesAt w7 base q.1.cons q.2:=fun q hq=>⟨(hq.row.alloc tmp).kept hgrow (row_ne (hq.row.alloc tmp) (h.row.alloc tmp) (by decide))⟩
 rcases List.mem_append.1 hq with hq | hq
 ·exact hk q (h.subs q hq)
 ·simp at hq;subst hq;exact hk (g,v) hv
theorem own_cap {W:World} {base e size n:Nat} {v:Value} {xs:List Value} (h:W.ownsRow base e size v n xs):∃a c,v=.slice a n c∧n≤c:=by
 rcases h.2 with ⟨rfl,rfl⟩ | ⟨g,cap,cur,rfl,_,_,hcap,_⟩
 ·exact⟨none,0,rfl,Nat.le_refl _⟩
 ·exact⟨_,cap,rfl,hcap⟩
theorem Grs.sls {W:World} {base:Nat} {lv:Value} {L:List (Gr×Value)} (h:Grs W base lv L) (hl:L.length≤16) (hn:∀q∈L,q.1.cons.length≤16):SlS W (fun b=>base≤b∧b<W.heap.size) 2 (GrS W (fun b=>base≤b∧b<W.heap.size)) (L.map (·.1)) lv:=by
 obtain⟨a,c,rfl,hc⟩:=own_cap h.row
 refine⟨a,c,by rw[List.length_map],by rw[List.length_map];exact hc,by rw[List.length_map];omega,fun j x hj=>?_⟩
 rw[List.getElem?_map,Option.map_eq_some_iff] at hj
 obtain⟨q,hq,rfl⟩:=hj
 obtain⟨g,cap,e,hb,hg,hcl⟩:=own_rows (cf:=gcell) (fun _=>rfl) h.row hq
 cases e
 refine⟨g,0,gcell q,rfl,⟨hb,hg⟩,⟨q.2,rfl,?_⟩,hcl⟩
 have hm:=List.mem_of_getElem? hq
 have hq2:=(h.subs q hm).row
 obtain⟨a2,c2,e2,hc2⟩:=own_cap hq2
 refine⟨a2,c2,e2,hc2,by have:=hn q hm;omega,fun i y hy=>?_⟩
 have hq3:W.ownsRow base 9 1 q.2 q.1.cons.length (q.1.cons.flatMap fun s=>[Value.string s]):=by
  have e:(q.1.cons.flatMap fun s=>[Value.string s])=ncells q.1.cons:=by unfold ncells;rw[List.map_eq_flatMap]
  rw[e];exact hq2
 obtain⟨g',cap',e',hb',hg',hcl'⟩:=own_rows (cf:=fun s:ByteArray=>[Value.string s]) (fun _=>rfl) hq3 hy
 rw[e2] at e'
 cases e'
 exact⟨g',0,[.string y],rfl,⟨hb',hg'⟩,rfl,hcl'⟩
theorem names_len:∀(f:Nat) (acc:List ByteArray) (L:List Wd) (l:List ByteArray) (L':List Wd),acc.length≤16→namesR f acc L=.ok l L'→l.length≤16
 | 0,acc,L,l,L',_,h=>by rw[namesR] at h;cases h
 | f+1,acc,L,l,L',ha,h=>by
  rw[namesR] at h
  split at h
  ·split at h
   ·cases h
   ·cases hs:nameR L with
    | bad p c=>rw[hs] at h;cases h
    | ok s L1=>
     rw[hs] at h
     exact names_len f (acc++[s]) L1 l L' (by rw[List.length_append];simp;omega) h
  ·cases h;exact ha
theorem group_len {h:Nat} {L L':List Wd} {g:Gr} (e:groupR h L=.ok g L'):g.cons.length≤16:=by
 unfold groupR at e
 split at e
 ·cases e
 split at e
 ·cases e
 cases h1:nameR (if assocB L=0 then L else L.tail) with
 | bad p c=>rw[h1] at e;cases e
 | ok n L1=>
  rw[h1] at e
  dsimp only[PR.bind] at e
  cases h2:namesR 17 [n] L1 with
  | bad p c=>rw[h2] at e;cases e
  | ok ns L2=>
   rw[h2] at e
   have:=names_len 17 [n] L1 ns L2 (by simp) h2
   cases e
   exact this
theorem group_room {h:Nat} {L L':List Wd} {g:Gr} (e:groupR h L=.ok g L'):h<16:=by
 unfold groupR at e
 split at e
 ·cases e
 split at e
 ·cases e
 ·omega
theorem info61:(Tryz.prog.info? 61).map (fun i=>(i.zero,i.size,i.bytes))=some (some (.agg #[.int .i64 0,.slice none 0 0]),2,32):=by kernel_rfl
theorem info58:(Tryz.prog.info? 58).map (fun i=>(i.zero,i.size,i.bytes))=some (some (.slice none 0 0),1,24):=by kernel_rfl
theorem st_chain (R:Nat) (D:List Value) (L:List Wd) (d:Df) (h0:Nat) (w:World) (hR:Rd w R D L) (hD:DefAt w (R+1) h0 d D) (hlen:DLen d) (hu0:R+1≤h0) (htx:(wd L).text≠[]) :
  Calls Tryz.prog 153 #[.pointer (some ⟨R,0,none⟩)] w (RS R w (chainR d L)):=by
 obtain⟨i0,hi,hz0,hz1,hz2⟩:=info_parts info61
 obtain⟨j0,ji,jz0,jz1,jz2⟩:=info_parts info58
 obtain⟨v2,v3,v4,v5,v6,Lp,Lc,Lb,rfl,hdi⟩:=hD
 have HDI:Hid (DefIn w (R+1) h0 d v2 v3 v4 v5 v6 Lp Lc Lb):=hdi
 have HUP:Hid (R+1≤h0):=hu0
 have hln:Lc.length≤65537:=by have:=hlen.c;rw[←hdi.ec,List.length_map] at this;exact this
 have HTX:=hHi htx
 obtain⟨D,hDD⟩:∃D:List Value,[.string d.start,.string d.layout,v2,v3,v4,v5,v6]=D:=⟨_,rfl⟩
 rw[hDD] at hR
 have HDE:=hHi hDD
 clear hdi hlen htx hu0 hDD
 have HLT:Hid _:=hR.lt
 have HR0:Hid (Rd w R D L):=hR
 have HG0:Hid (w.grownBy w (some R)):=gr_refl _ _
 clear hR
 go_enter Tryz.func153,Tryz.ntmps153
 have HP:=hU (rd_pass R D L w HR0.out (.inr HTX.out))
 go_wp2_with fail
 refine hMo HP ?_
 rintro e a1 ⟨rfl,hr,hg⟩
 have HR1:=hHi hr
 have HG1:=hHi (gr_tr HG0.out hg)
 clear hr hg
 have HRa:Hid (Rd a1 R D L.tail):=HR1.out
 have HGa:Hid (w.grownBy a1 (some R)):=HG1.out
 go_wp2
 go_loopw[2] (fun lv W=>∃(f:Nat) (acc:List (Gr×Value)) (L':List Wd) (va:Option Addr) (vc:Nat),lv=.slice va acc.length vc∧Grs W w.heap.size lv acc∧(∀q∈acc,q.1.cons.length≤16)∧Rd W R D L'∧w.grownBy W (some R)∧f+acc.length=17∧acc.length≤16∧groupsR 17 [] L.tail=groupsR f (acc.map (·.1)) L') (fun lv _=>17-lenV lv)
 case atStart=>exact⟨17,[],L.tail,_,_,rfl,Grs.nil _ _,(fun q h=>by cases h),HRa.out,HGa.out,rfl,by simp,rfl⟩
 case round=>
  obtain⟨f,acc,L',va,vc,rfl,hs,hn16,hr,hg,hf,h16,ht⟩:=hrel
  obtain⟨f,rfl⟩:∃f',f=f'+1:=⟨f-1,by omega⟩
  have HS1:Hid (Grs wr w.heap.size (.slice va acc.length vc) acc):=hs
  have HN16:=hHi hn16
  have HT1:=hHi ht
  have HR50:=hHi hr
  have HG50:=hHi hg
  have HF1:=hHi hf
  have HUN:Hid (groupsR (f+1) (acc.map (·.1)) L'=(groupR acc.length L').bind fun g L=>if isT [62] L then groupsR f (acc.map (·.1)++[g]) L.tail else .ok (acc.map (·.1)++[g]) L):=by show _=_;rw[groupsR,List.length_map]
  clear hs hn16 hr hg ht hf HRa HGa
  have HC51:=hU (rd_group R D L' acc.length wr HR50.out)
  go_wp2_with fail
  cases hr51:groupR acc.length L' with
  | bad p51 c51=>
   rw[hr51] at HC51
   have HE51:=hHi hr51
   clear hr51
   refine hMo HC51 ?_
   rintro e wf ⟨rfl,hgf⟩
   simp only[FE]
   go_wp2
   refine⟨rfl,?_⟩
   have hfin:chainR d L=.bad p51 c51:=by unfold chainR;rw[HT1.out,HUN.out,HE51.out];try rfl
   show RS R w (chainR d L) _ _
   rw[hfin]
   exact⟨rfl,FrS.of <| gr_tr HG50.out hgf⟩
  | ok g L51=>
  rw[hr51] at HC51
  have HE51:=hHi hr51
  clear hr51
  refine hMo HC51 ?_
  rintro e a51 ⟨⟨gv,rfl,xa,xc,rfl,hnm⟩,hr,hg⟩
  have HN51:=hHi hg
  have HR51:=hHi hr
  have HG51:=hHi (gr_tr HG50.out hg)
  clear hr hg
  have HGL:Hid (g.cons.length≤16):=group_len HE51.out
  have hrm:=group_room HE51.out
  have HGW:=hHi HG50.out.size
  have HNM:Hid (NamesAt a51 w.heap.size g.cons (.slice xa g.cons.length xc)):=⟨row_mono hnm.row HGW.out⟩
  have HS2:Hid (Grs a51 w.heap.size (.slice va acc.length vc) acc):=HS1.out.kept HN51.out HLT.out
  have HROW:=hU HS2.out.row
  have HGS:=hHi HG51.out.size
  clear hnm
  go_wp2_with (at_builtin;refine wpList_append_lies _ rfl _ _ 58 rfl w.heap.size 61 i0 _ 2 32 Tryz.underlying58 hi hz0 hz1 hz2 rfl (by decide) (.slice va acc.length vc) acc.length (acc.flatMap gcell) rfl ((HROW.out ()).alloc _) ⟨a51.heap.size,0,none⟩ 1 1 (gcell (g,.slice xa g.cons.length xc)) rfl rfl ?ca1 ?ca2 (by decide) ?ca3 ?ca4 ?ca5 (a51.heap.size+1) (by simp) ?_)
  case ca1=>exact new_cells _ _ (gcell (g,.slice xa g.cons.length xc))
  case ca2=>intro u hu;simp[gcell] at hu;rcases hu with rfl | rfl<;>rfl
  case ca3=>unfold maxLen;omega
  case ca4=>omega
  case ca5=>have:=HGS.out;simp;omega
  intro g1 cap1 w7 hown hgrow hat hlt7
  have HS3:Hid (Grs w7 w.heap.size (.slice (some ⟨g1,0,none⟩) (acc.length+1) cap1) (acc++[(g,.slice xa g.cons.length xc)])):=HS2.out.push HNM.out hown hgrow
  have hob:∀b,(Value.slice va acc.length vc).ownBlock=some b→w.heap.size≤b:=fun b hb=>(HS2.out.row.lt b hb).1
  have HR70:Hid (Rd w7 R D L51):=(HR51.out.below ((Below.refl _ _).alloc (Nat.le_refl _) _)).keptO hgrow (fun b hb=>Nat.lt_of_lt_of_le HLT.out (hob b hb))
  have HG70:Hid (w.grownBy w7 (some R)):=gr_newO (grown_below HG51.out ((Below.refl _ _).alloc (Nat.le_refl _) _)) hgrow hob
  have HNX:Hid (∀q∈acc++[(g,Value.slice xa g.cons.length xc)],q.1.cons.length≤16):=fun q hq=>by
   rcases List.mem_append.1 hq with hq | hq
   ·exact HN16.out q hq
   ·simp at hq;subst hq;exact HGL.out
  clear hown hgrow hat hlt7 hob
  cases q1:isT [62] L51 with
  | true=>
   have Q1:=hHi q1
   have HSK:=hU (skip_yes R D L51 [62] w7 HR70.out q1 (by simp))
   clear q1
   go_wp2_with fail
   refine hMo HSK ?_
   rintro e w8 ⟨rfl,hr,hg⟩
   have HR80:=hHi hr
   have HG80:=hHi (gr_tr HG70.out hg)
   have HS80:Hid (Grs w8 w.heap.size (.slice (some ⟨g1,0,none⟩) (acc.length+1) cap1) (acc++[(g,.slice xa g.cons.length xc)])):=HS3.out.kept hg HLT.out
   clear hr hg
   go_wp2
   go_roundw
   case rel=>exact⟨f,acc++[(g,.slice xa g.cons.length xc)],L51.tail,_,_,by rw[List.length_append];rfl,HS80.out,HNX.out,HR80.out,HG80.out,by have:=HF1.out;rw[List.length_append];simp;omega,by rw[List.length_append];simp;omega,by rw[HT1.out,HUN.out,HE51.out];dsimp only[PR.bind];rw[if_pos Q1.out,List.map_append];rfl⟩
   case measure=>simp[lenV];omega
  | false=>
  have Q1:=hHi q1
  have HSK:=hU (skip_no R D L51 [62] w7 HR70.out q1)
  clear q1
  obtain⟨ca,cc,hca⟩:=own_slice HDI.out.rc
  have HCA:=hHi hca
  have HFN:Hid (chainR d L=.ok { d with chains:=d.chains++[acc.map (·.1)++[g]] } L51):=by show _=_;unfold chainR;rw[HT1.out,HUN.out,HE51.out];dsimp only[PR.bind];rw[if_neg (by rw[Q1.out];simp)]
  go_wp2_with fail
  refine hMo HSK ?_
  rintro e w8 ⟨rfl,hb8⟩
  have HR80:Hid (Rd w8 R [.string d.start,.string d.layout,v2,v3,v4,v5,v6] L51):=by have:=HR70.out.below hb8;rw[←HDE.out] at this;exact this
  have HG80:Hid (w.grownBy w8 (some R)):=grown_below HG70.out hb8
  have HS80:Hid (Grs w8 w.heap.size (.slice (some ⟨g1,0,none⟩) (acc.length+1) cap1) (acc++[(g,.slice xa g.cons.length xc)])):=HS3.out.after hb8
  have HDD:Hid (DefIn w8 (R+1) h0 d v2 v3 v4 v5 v6 Lp Lc Lb):=HDI.out.keep (fun b h1 h2=>HG80.out.block b (Nat.lt_of_lt_of_le h2 HDI.out.up) (by simp;omega)) HG80.out.size
  have cv8:w8.cell? ⟨R,4,none⟩=some (.slice ca Lc.length cc):=by have:=Rd.cellD HR80.out 3 (v:=v3) rfl;rw[hca] at this;exact this
  have lr8:=HR80.out.lt
  have HRC:Hid (w8.ownsRow (R+1) 58 1 (.slice ca Lc.length cc) Lc.length (Lc.flatMap ccell)):=by have:=HDD.out.rc;rw[hca] at this;exact this
  have HZ8:Hid (R+1≤w8.heap.size):=HR80.out.lt
  clear hb8 hca
  go_wp2_with (at_builtin;refine wpList_append_lies _ rfl _ _ 23 rfl (R+1) 58 j0 _ 1 24 Tryz.underlying23 ji jz0 jz1 jz2 rfl (by decide) (.slice ca Lc.length cc) Lc.length (Lc.flatMap ccell) rfl (HRC.out.alloc _) ⟨w8.heap.size,0,none⟩ 1 1 [.slice (some ⟨g1,0,none⟩) (acc.length+1) cap1] rfl rfl ?cb1 ?cb2 (by decide) ?cb3 ?cb4 ?cb5 (w8.heap.size+1) (by simp) ?_)
  case cb1=>exact new_cells _ _ [.slice (some ⟨g1,0,none⟩) (acc.length+1) cap1]
  case cb2=>intro u hu;simp at hu;rw[hu];rfl
  case cb3=>unfold maxLen;omega
  case cb4=>omega
  case cb5=>have:=HZ8.out;simp;omega
  intro g2 cap2 w9 hown hgrow hat hlt9
  have hgv:(w8.alloc (.cells #[.slice (some ⟨g1,0,none⟩) (acc.length+1) cap1] 58)).grownBy w9 v3.ownBlock:=by rw[HCA.out];exact hgrow
  have HFR:Hid (FrS w w9 R):=FrS.push (FrS.of HG80.out) HDD.out.rc (by decide) hgv
  have hob:∀b,v3.ownBlock=some b→R+1≤b:=fun b hb=>(HDD.out.rc.lt b hb).1
  have HR9:Hid (Rd w9 R [.string d.start,.string d.layout,v2,v3,v4,v5,v6] L51):=(HR80.out.below ((Below.refl _ _).alloc (Nat.le_refl _) _)).keptO hgv (fun b hb=>hob b hb)
  have hsl:=(HS80.out.sls (by rw[List.length_append];simp;omega) HNX.out).keep (S':=fun b=>h0≤b∧b<w8.heap.size) (V':=GrS w8 (fun b=>h0≤b∧b<w8.heap.size)) (fun _ _ _=>rfl) (fun b hb=>⟨by have:=HDI.out.up;omega,hb.2⟩) (fun _ _ h=>h.keep (fun _ _ _=>rfl) (fun b hb=>⟨by have:=HDI.out.up;omega,hb.2⟩))
  rw[List.map_append] at hsl
  have HD9:Hid _:=HDD.out.push_chain (acc.map (·.1)++[g]) (.slice (some ⟨g1,0,none⟩) (acc.length+1) cap1) hsl HUP.out hown hgv (by rw[HCA.out];exact hat) hlt9
  have cr9:w9.cell? ⟨R,4,none⟩=some (.slice ca Lc.length cc):=by have:=Rd.cellD HR9.out 3 (v:=v3) rfl;rw[HCA.out] at this;exact this
  have zr9:=Rd.frozenD HR9.out 4
  have lr9:=HR9.out.lt
  clear hown hgrow hgv hat hlt9 hob hsl
  go_wp2
  go_end0
  have hgs:w9.grownBy (w9.setCell ⟨R,4,none⟩ (.slice (some ⟨g2,0,none⟩) (Lc.length+1) cap2)) (some R):=grownBy_setCell _ _ _ _
  show RS R w (chainR d L) _ _
  rw[HFN.out]
  exact⟨rfl,⟨_,_,Rd.setD (i:=3) HR9.out _,_,_,_,_,_,_,_,_,rfl,HD9.out.gr hgs (.inl (Nat.lt_succ_self _))⟩,HFR.out.set _⟩
theorem NT.blk {w:World} {b t:Nat} {cs:Array Value} (h:Blk w b t cs) (ht:¬(t=57∨t=58∨t=52∨t=73∨t=64)):NT w b:=fun cs' e he=>by
 have:=(show w.heap[b]?=_ from h).symm.trans he
 simp at this
 rw[←this.2];exact ht
theorem FrS.blk {w w':World} {R b t:Nat} {cs:Array Value} (h:FrS w w' R) (hb:Blk w b t cs) (hne:b≠R) (ht:¬(t=57∨t=58∨t=52∨t=73∨t=64)):Blk w' b t cs:=(h.block b hb.lt hne (.inl (NT.blk hb ht))).trans hb
end Go.Proofs.YtcpakcffiopfjaaGreatDoor
