/- Statements read: lexical productions. What each key begins: a map of closures, made and looked up. -/
import Derived.Test.YtcpakcffiopfjaaGreatDoorC6
import Derived.Test.YtcpakcffiopfjaaGreatDoorA1
import Derived.WideMake
import Derived.Maps.OwnOps
namespace Go.Proofs.YtcpakcffiopfjaaGreatDoor
open Go.RowKit
set_option linter.unusedVariables false
set_option linter.unusedSimpArgs false
set_option maxRecDepth 100000
set_option maxHeartbeats 16000000
set_option linter.unusedVariables false
set_option linter.unusedSimpArgs false
set_option maxRecDepth 100000
set_option maxHeartbeats 16000000
def lenAt2 (W:World) (b:Nat):Nat:=match W.cell? ⟨b,3,none⟩ with | some v=>lenV v | none=>0
theorem lenAt2_rd {W:World} {R:Nat} {L:List Wd} {x y u3 u4 u5 u6:Value} {va:Option Addr} {n vc:Nat} (h:Rd W R [x,y,.slice va n vc,u3,u4,u5,u6] L):lenAt2 W R=n:=by
 unfold lenAt2
 rw[Rd.cellD h 2 rfl]
 rfl
def lexW (L:List Wd):Bool:=match nameR L.tail with
 | .ok _ A=>!isT [46] A&&match wantR [61] A with
  | .ok _ B=>match syms1 B with
   | .ok _ _=>false
   | .bad _ _=>true
  | .bad _ _=>true
 | .bad _ _=>true
theorem st_lexical (R:Nat) (D:List Value) (L:List Wd) (d:Df) (h0:Nat) (w:World) (hR:Rd w R D L) (hD:DefAt w (R+1) h0 d D) (hlen:DLen d) (hu0:R+1≤h0) (htx:(wd L).text≠[]) (hW:lexW L=true) :
  Calls Tryz.prog 151 #[.pointer (some ⟨R,0,none⟩)] w (RS R w (lexicalR d L)):=by
 obtain⟨i0,hi,hz0,hz1,hz2⟩:=info_parts info57
 obtain⟨v2,v3,v4,v5,v6,Lp,Lc,Lb,rfl,hdi⟩:=hD
 have HDI:Hid (DefIn w (R+1) h0 d v2 v3 v4 v5 v6 Lp Lc Lb):=hdi
 have HUP:Hid (R+1≤h0):=hu0
 have hln:Lp.length≤200:=by have:=hlen.p;rw[←hdi.ep,List.length_map] at this;exact this
 have HTX:=hHi htx
 obtain⟨D,hDD⟩:∃D:List Value,[.string d.start,.string d.layout,v2,v3,v4,v5,v6]=D:=⟨_,rfl⟩
 rw[hDD] at hR
 have HDE:=hHi hDD
 clear hdi hlen htx hu0 hDD
 have HR0:Hid (Rd w R D L):=hR
 have HG0:Hid (w.grownBy w (some R)):=gr_refl _ _
 clear hR
 have HLP:Hid (d.prods.length=Lp.length):=by show _=_;rw[←HDI.out.ep,List.length_map]
 obtain⟨pa,pc,hpa⟩:=own_slice HDI.out.rp
 have cp0:w.cell? ⟨R,3,none⟩=some (.slice pa Lp.length pc):=by have:=Rd.cellD HR0.out 2 (v:=v2) (by rw[←HDE.out];rfl);rw[hpa] at this;exact this
 clear hpa
 have HLX:=hHi hW
 clear hW
 go_enter Tryz.func151,Tryz.ntmps151
 by_cases hroom:200≤Lp.length
 case pos=>
  have HX:Hid (200≤d.prods.length):=by show _≤_;rw[HLP.out];exact hroom
  have HB:=hU (room_bad R D L Lp.length 200 w HR0.out hroom)
  clear hroom
  go_wp2_with fail
  refine hMo HB ?_
  rintro e wf ⟨rfl,hbf⟩
  simp only[FE]
  go_wp2
  refine⟨rfl,?_⟩
  have hfin:lexicalR d L=.bad (wd L).fro 2:=by unfold lexicalR;rw[if_pos HX.out]
  show RS R w (lexicalR d L) _ _
  rw[hfin]
  exact⟨rfl,FrS.of <| grown_below HG0.out hbf⟩
 have HX:Hid (¬ 200≤d.prods.length):=by show ¬_≤_;rw[HLP.out];exact hroom
 have HB:=hU (room_ok R Lp.length 200 w (by omega))
 clear hroom
 go_wp2_with fail
 refine hMo HB ?_
 rintro e wz9 ⟨rfl,hwz⟩
 have hwz:=hwz.symm
 subst hwz
 clear cp0
 have HP:=hU (rd_pass R D L w HR0.out (.inr HTX.out))
 go_wp2_with fail
 refine hMo HP ?_
 rintro e a1 ⟨rfl,hr,hg⟩
 have HR1:=hHi hr
 have HG1:=hHi (gr_tr HG0.out hg)
 clear hr hg
 have HC2:=hU (rd_name R D L.tail a1 HR1.out)
 go_wp2_with fail
 cases hr2:nameR L.tail with
 | bad p2 c2=>
  rw[hr2] at HC2
  have HE2:=hHi hr2
  clear hr2
  refine hMo HC2 ?_
  rintro e wf ⟨rfl,hgf⟩
  simp only[FE]
  go_wp2
  refine⟨rfl,?_⟩
  have hfin:lexicalR d L=.bad p2 c2:=by unfold lexicalR;rw[if_neg HX.out];rw[HE2.out];try rfl
  show RS R w (lexicalR d L) _ _
  rw[hfin]
  exact⟨rfl,FrS.of <| gr_tr HG1.out hgf⟩
 | ok n L2=>
 rw[hr2] at HC2
 have HE2:=hHi hr2
 clear hr2
 refine hMo HC2 ?_
 rintro e a2 ⟨rfl,hr,hg⟩
 have HR2:=hHi hr
 have HG2:=hHi (gr_tr HG1.out hg)
 clear hr hg
 cases q1:isT [46] L2 with
 | false=>
  have Q1:=hHi q1
  have HSK:=hU (skip_no R D L2 [46] a2 HR2.out q1)
  have HCR:Hid (consR L2=.ok ⟨#[]⟩ L2):=by show _=_;unfold consR;rw[q1];rfl
  clear q1
  go_wp2_with fail
  refine hMo HSK ?_
  rintro e a3 ⟨rfl,hb⟩
  have HN3:Hid (Below a2.heap.size a2 a3):=hb
  clear hb
  have HR3:=hHi (HR2.out.below HN3.out)
  have HG3:=hHi (grown_below HG2.out HN3.out)
  have HC4:=hU (rd_want R D L2 [61] a3 HR3.out (by simp))
  go_wp2_with fail
  cases hr4:wantR [61] L2 with
  | bad p4 c4=>
   rw[hr4] at HC4
   have HE4:=hHi hr4
   clear hr4
   refine hMo HC4 ?_
   rintro e wf ⟨rfl,hgf⟩
   simp only[FE]
   go_wp2
   refine⟨rfl,?_⟩
   have hfin:lexicalR d L=.bad p4 c4:=by unfold lexicalR;rw[if_neg HX.out];rw[HE2.out];(try dsimp only[PR.bind]);(try dsimp only);rw[HCR.out];(try dsimp only[PR.bind]);(try dsimp only);rw[HE4.out];try rfl
   show RS R w (lexicalR d L) _ _
   rw[hfin]
   exact⟨rfl,FrS.of <| gr_tr HG3.out hgf⟩
  | ok u1 L4=>
  rw[hr4] at HC4
  have HE4:=hHi hr4
  clear hr4
  refine hMo HC4 ?_
  rintro e a4 ⟨rfl,hr,hg⟩
  have HR4:=hHi hr
  have HG4:=hHi (gr_tr HG3.out hg)
  clear hr hg
  have HR5:Hid (Rd a4 R [.string d.start,.string d.layout,v2,v3,v4,v5,v6] L4):=by have:=HR4.out;rw[←HDE.out] at this;exact this
  have HT0:Hid (lexicalR d L=(lexR 201 n ⟨#[]⟩ d.prods L4).bind fun ps L=>.ok { d with prods:=ps } L):=by show _=_;unfold lexicalR;rw[if_neg HX.out];rw[HE2.out];(try dsimp only[PR.bind]);(try dsimp only);rw[HCR.out];(try dsimp only[PR.bind]);(try dsimp only);rw[HE4.out];(try dsimp only[PR.bind]);(try dsimp only)
  have HD1:Hid (DefAt a4 (R+1) h0 { d with prods:=d.prods } [.string d.start,.string d.layout,v2,v3,v4,v5,v6]):=⟨v2,v3,v4,v5,v6,Lp,Lc,Lb,rfl,HDI.out.keep (fun b h1 h2=>HG4.out.block b (Nat.lt_of_lt_of_le h2 HDI.out.up) (by simp;omega)) HG4.out.size⟩
  go_wp2_with fail
  go_loopw[] (fun W=>∃(f:Nat) (ps:List Pr) (L':List Wd) (D':List Value) (hi':Nat),Rd W R D' L'∧DefAt W (R+1) hi' { d with prods:=ps } D'∧R+1≤hi'∧FrS w W R∧f+ps.length=201+d.prods.length∧d.prods.length≤ps.length∧ps.length<200∧lexR 201 n ⟨#[]⟩ d.prods L4=lexR f n ⟨#[]⟩ ps L'∧L'=L4) (fun W=>200-lenAt2 W R)
  case atStart=>exact⟨201,d.prods,L4,_,h0,HR5.out,HD1.out,HUP.out,FrS.of HG4.out,rfl,Nat.le_refl _,Nat.lt_of_not_le HX.out,rfl,rfl⟩
  case round=>
   clear HD1
   obtain⟨f,ps,L',D',hi',hr,hd,hup,hfr,hf,hge,h200,ht,hLL⟩:=hrel
   have hd200:=Nat.lt_of_not_le HX.out
   obtain⟨f,rfl⟩:∃f',f=f'+1:=⟨f-1,by omega⟩
   obtain⟨u2,u3,u4,u5,u6,Mp,Mc,Mb,rfl,hdm⟩:=hd
   obtain⟨va,vc,rfl⟩:=own_slice hdm.rp
   have hml:ps.length=Mp.length:=by have:=congrArg List.length hdm.ep;rw[List.length_map] at this;exact this.symm
   have HML:=hHi hml
   have HRW:=hHi hr
   have HDW:Hid (DefIn wr (R+1) hi' { d with prods:=ps } (.slice va Mp.length vc) u3 u4 u5 u6 Mp Mc Mb):=hdm
   have HUW:Hid (R+1≤hi'):=hup
   have HFW:Hid (FrS w wr R):=hfr
   have HT1:=hHi ht
   have HF1:Hid (f+1+ps.length=201+d.prods.length∧d.prods.length≤ps.length):=⟨hf,hge⟩
   have hm200:Mp.length<200:=by omega
   have HUN:Hid (lexR (f+1) n ⟨#[]⟩ ps L'=(syms1 L').bind fun y L=>if isT [124] L then (if 200≤ps.length+1 then .bad (wd L).fro 2 else lexR f n ⟨#[]⟩ (ps++[⟨true,n,⟨#[]⟩,false,y⟩]) L.tail) else .ok (ps++[⟨true,n,⟨#[]⟩,false,y⟩]) L):=rfl
   have HCN:=hU (rd_syms R [.string d.start,.string d.layout,.slice va Mp.length vc,u3,u4,u5,u6] L' wr.drew (HRW.out.below (below_dr _)))
   have HFD:Hid (FrS w wr.drew R):=HFW.out.tr (FrS.of (gr_b R (below_dr wr)))
   have HDD:Hid (DefIn wr.drew (R+1) hi' { d with prods:=ps } (.slice va Mp.length vc) u3 u4 u5 u6 Mp Mc Mb):=HDW.out.below (below_dr _)
   have HMS:Hid (lenAt2 wr R=Mp.length):=lenAt2_rd HRW.out
   have HWS:Hid (R<wr.drew.heap.size):=(HRW.out.below (below_dr _)).lt
   have cv1:wr.drew.cell? ⟨R,3,none⟩=some (.slice va Mp.length vc):=Rd.cellD (HRW.out.below (below_dr wr)) 2 rfl
   clear hr hup hfr hf hge h200 ht hdm hml hd200
   go_wp2
   cases hn:syms1 L' with
   | bad p c=>
    rw[hn] at HCN
    have HEN:=hHi hn
    clear hn
    refine wp_region_held_drew (S:=fun _=>True) (by kernel_rfl) trivial (fun hHeld=>?_)
    refine tk 0 rfl (by assumption) ?_
    refine tk 1 rfl (by assumption) ?_
    refine tk 2 rfl (by assumption) ?_
    refine tk 3 rfl (by assumption) ?_
    refine tk 4 rfl (by assumption) ?_
    refine tk 6 rfl (by assumption) ?_
    refine tk 7 rfl (by assumption) ?_
    refine tk 8 rfl (by assumption) ?_
    refine wpAnyH_ready (rs:=[5,9]) (by kernel_rfl) (by simp) ?_
    refine (AllReadyH.cons rfl (fun K hK=>?_) (AllReadyH.cons rfl (fun K hK=>?_) AllReadyH.nil))
    ·skip
     go_simp
     refine hK.out _ _ trivial (fun hHeld=>?_)
     clear hK K
     refine rd1 9 rfl (fun K hK=>?_)
     go_simp
     refine hMo HCN ?_
     rintro e wf ⟨rfl,hgf⟩
     simp only[FE]
     go_wp2_with fail
     refine⟨rfl,?_⟩
     have hfin:lexicalR d L=.bad p c:=by rw[HT0.out,HT1.out,HUN.out,HEN.out];rfl
     show RS R w (lexicalR d L) _ _
     rw[hfin]
     exact⟨rfl,HFD.out.tr (FrS.of hgf)⟩
    ·skip
     go_simp
     refine hMo HCN ?_
     rintro e wf ⟨rfl,hgf⟩
     simp only[FE]
     go_wp2_with fail
     refine⟨rfl,?_⟩
     have hfin:lexicalR d L=.bad p c:=by rw[HT0.out,HT1.out,HUN.out,HEN.out];rfl
     show RS R w (lexicalR d L) _ _
     rw[hfin]
     exact⟨rfl,HFD.out.tr (FrS.of hgf)⟩
   | ok y L3=>
   exfalso
   rw[hLL] at hn
   have h:=HLX.out
   simp[lexW,HE2.out,Q1.out,HE4.out,hn] at h
 | true=>
 exfalso
 have h:=HLX.out
 simp[lexW,HE2.out,q1] at h
theorem run_insert {W:World} {b clock:Nat} {es:Array MapEntry} (k:ByteArray) (v:Value) (hb:W.heap[b]?=some (.map es clock)) (hk:Instr.findNow .string (.string k) es.toList 0=some none) :
  (Instr.mapUpdate 148 (.map (some b)) (.string k) v).run Tryz.prog W=.ok () { W with heap:=W.heap.setIfInBounds b (.map (es.push { key:=.string k,val:=v,born:=clock }) (clock+1)) }:=by
 have hc:(Instr.checkKey false 10000 9 (.string k)).run Tryz.prog W=.ok () W:=MapKept.run_checkKey (k:=.string k) Tryz.underlying9 (by simp[MapKept.IsKey]) false 9999
 simp[Instr.mapUpdate,run_underlying Tryz.underlying148,MapKept.run_getObj_map hb,hc,MapKept.run_findKey Tryz.underlying9 hk,MapKept.run_setObj_map _ hb,Result.andThen]
theorem wpl_insert (w:World) {ops:Array Oper} {rest:List Oper} {o:Oper} {a:Act} {Q:Exit→Act→World→Prop}
  (hg:o.guard=none) (m x v:Operand) (hop:o.op=Op.insert 148 m x v) (b clock:Nat) (es:Array MapEntry) (hm:a.eval m=.map (some b)) (hb:w.heap[b]?=some (.map es clock)) (key:ByteArray) (val:Value) (hx:a.eval x=.string key) (hv:a.eval v=val) (hk:Instr.findNow .string (.string key) es.toList 0=some none)
  (hK:∀w',w'.heap[b]?=some (.map (es.push ⟨.string key,val,clock⟩) (clock+1))→w.grownBy w' (some b)→wpList Tryz.prog ops Q rest (a.put o.dst undef) w') :
  wpList Tryz.prog ops Q (o::rest) a w:=by
 refine wpList_plain hg fun K' hK'=>?_
 have hlt:b<w.heap.size:=(Array.getElem?_eq_some_iff.1 hb).1
 unfold Oper.wp
 simp[execOp,hop,hm,hx,hv,run_insert key val hb hk,Result.andThen]
 refine hK' _ _ (hK _ ?_ ⟨rfl,rfl,rfl,?_,fun c _ hne=>?_⟩)
 ·show (w.heap.setIfInBounds b _)[b]?=_
  rw[Array.getElem?_setIfInBounds_self_of_lt hlt]
 ·show _≤(w.heap.setIfInBounds b _).size
  rw[Array.size_setIfInBounds];exact Nat.le_refl _
 ·show (w.heap.setIfInBounds b _)[c]?=_
  rw[Array.getElem?_setIfInBounds_ne (fun e=>hne (by rw[e]))]
def begE (R rx:Nat):Array MapEntry:=#[⟨.string ⟨#[115,116,97,114,116]⟩,.func (.func 148) #[] #[.pointer (some ⟨rx,0,none⟩)],0⟩,⟨.string ⟨#[108,97,121,111,117,116]⟩,.func (.func 150) #[] #[.pointer (some ⟨rx,0,none⟩)],1⟩,⟨.string ⟨#[108,101,120]⟩,.func (.func 151) #[.pointer (some ⟨R,0,none⟩)] #[],2⟩,⟨.string ⟨#[99,102]⟩,.func (.func 152) #[.pointer (some ⟨R,0,none⟩)] #[],3⟩,⟨.string ⟨#[112,114,105,111]⟩,.func (.func 153) #[.pointer (some ⟨R,0,none⟩)] #[],4⟩,⟨.string ⟨#[102,111,108,108,111,119]⟩,.func (.func 154) #[] #[.pointer (some ⟨rx,0,none⟩)],5⟩,⟨.string ⟨#[114,101,106,101,99,116]⟩,.func (.func 158) #[] #[.pointer (some ⟨rx,0,none⟩)],6⟩,⟨.string ⟨#[98,111,120]⟩,.func (.func 159) #[.pointer (some ⟨R,0,none⟩)] #[],7⟩]
theorem begins_any (R:Nat) (w:World) (hR:R<w.heap.size):Calls Tryz.prog 103 #[.pointer (some ⟨R,0,none⟩)] w fun e w'=>∃b rx,e=.returned (.map (some b))∧w'.heap[b]?=some (.map (begE R rx) 8)∧Blk w' rx 98 #[.pointer (some ⟨R,0,none⟩)]∧w.heap.size≤rx∧w.heap.size≤b∧Below w.heap.size w w':=by
 obtain⟨rx,hrx⟩:∃rx,w.heap.size=rx:=⟨_,rfl⟩
 obtain⟨wa,hwa⟩:∃wa,w.alloc (.cells #[.pointer (some ⟨R,0,none⟩)] 98)=wa:=⟨_,rfl⟩
 have HXA:Hid (Blk wa rx 98 #[.pointer (some ⟨R,0,none⟩)]):=by show Blk _ _ _ _;rw[←hwa,←hrx];exact Blk.new _ _ _
 have HBA:=kB hwa
 have HRX:Hid (w.heap.size=rx):=hrx
 have HSA:Hid (wa.heap.size=rx+1):=by show _=_;rw[←hwa,World.size_alloc,hrx]
 obtain⟨b,hb⟩:∃b,wa.heap.size=b:=⟨_,rfl⟩
 obtain⟨w0,hw0⟩:∃w0,wa.alloc (.map #[] 0)=w0:=⟨_,rfl⟩
 have HBB:Hid (Below w.heap.size w w0):=by show Below _ _ _;rw[←hw0];exact HBA.out.alloc HBA.out.size _
 have HNB:Hid (w.heap.size≤b∧rx≠b∧b<w0.heap.size):=⟨by rw[←hb];exact HBA.out.size,by rw[←hb,HSA.out];omega,by rw[←hw0,World.size_alloc,hb];omega⟩
 have HX0:Hid (Blk w0 rx 98 #[.pointer (some ⟨R,0,none⟩)]):=by show Blk _ _ _ _;rw[←hw0];exact Blk.alloc HXA.out _
 have hm0:w0.heap[b]?=some (.map #[] 0):=by rw[←hw0,←hb];exact (MapKept.heap_alloc wa _).1
 have HM0:Hid (w0.heap[b]?=some (.map #[] 0)):=hm0
 have hmm:=@run_makeMap Tryz.prog
 have cx:=HX0.out.cell 0 rfl
 clear hm0 hR
 go_enter Tryz.func103,Tryz.ntmps103
 go_wp2_with (refine wpl_insert _ rfl _ _ _ rfl b 0 #[] rfl HM0.out _ _ rfl rfl (by kernel_rfl) ?_)
 intro w1 hm hg
 have HM1:Hid (w1.heap[b]?=some (.map (#[].push ⟨.string ⟨#[115,116,97,114,116]⟩,.func (.func 148) #[] #[.pointer (some ⟨rx,0,none⟩)],0⟩) 1)):=hm
 have HX1:=kK HX0 hg (by have:=HNB.out.2.1;simpa using this)
 have HB1:=hHi hg
 clear hm hg cx
 have cx:=HX1.out.cell 0 rfl
 go_wp2_with (refine wpl_insert _ rfl _ _ _ rfl b 1 (#[].push ⟨.string ⟨#[115,116,97,114,116]⟩,.func (.func 148) #[] #[.pointer (some ⟨rx,0,none⟩)],0⟩) rfl HM1.out _ _ rfl rfl (by kernel_rfl) ?_)
 intro w2 hm hg
 have HM2:Hid (w2.heap[b]?=some (.map ((#[].push ⟨.string ⟨#[115,116,97,114,116]⟩,.func (.func 148) #[] #[.pointer (some ⟨rx,0,none⟩)],0⟩).push ⟨.string ⟨#[108,97,121,111,117,116]⟩,.func (.func 150) #[] #[.pointer (some ⟨rx,0,none⟩)],1⟩) 2)):=hm
 have HX2:=kK HX1 hg (by have:=HNB.out.2.1;simpa using this)
 have HB2:=hHi (gr_tr HB1.out hg)
 clear hm hg cx
 have cx:=HX2.out.cell 0 rfl
 go_wp2_with (refine wpl_insert _ rfl _ _ _ rfl b 2 ((#[].push ⟨.string ⟨#[115,116,97,114,116]⟩,.func (.func 148) #[] #[.pointer (some ⟨rx,0,none⟩)],0⟩).push ⟨.string ⟨#[108,97,121,111,117,116]⟩,.func (.func 150) #[] #[.pointer (some ⟨rx,0,none⟩)],1⟩) rfl HM2.out _ _ rfl rfl (by kernel_rfl) ?_)
 intro w3 hm hg
 have HM3:Hid (w3.heap[b]?=some (.map (((#[].push ⟨.string ⟨#[115,116,97,114,116]⟩,.func (.func 148) #[] #[.pointer (some ⟨rx,0,none⟩)],0⟩).push ⟨.string ⟨#[108,97,121,111,117,116]⟩,.func (.func 150) #[] #[.pointer (some ⟨rx,0,none⟩)],1⟩).push ⟨.string ⟨#[108,101,120]⟩,.func (.func 151) #[.pointer (some ⟨R,0,none⟩)] #[],2⟩) 3)):=hm
 have HX3:=kK HX2 hg (by have:=HNB.out.2.1;simpa using this)
 have HB3:=hHi (gr_tr HB2.out hg)
 clear hm hg cx
 have cx:=HX3.out.cell 0 rfl
 go_wp2_with (refine wpl_insert _ rfl _ _ _ rfl b 3 (((#[].push ⟨.string ⟨#[115,116,97,114,116]⟩,.func (.func 148) #[] #[.pointer (some ⟨rx,0,none⟩)],0⟩).push ⟨.string ⟨#[108,97,121,111,117,116]⟩,.func (.func 150) #[] #[.pointer (some ⟨rx,0,none⟩)],1⟩).push ⟨.string ⟨#[108,101,120]⟩,.func (.func 151) #[.pointer (some ⟨R,0,none⟩)] #[],2⟩) rfl HM3.out _ _ rfl rfl (by kernel_rfl) ?_)
 intro w4 hm hg
 have HM4:Hid (w4.heap[b]?=some (.map ((((#[].push ⟨.string ⟨#[115,116,97,114,116]⟩,.func (.func 148) #[] #[.pointer (some ⟨rx,0,none⟩)],0⟩).push ⟨.string ⟨#[108,97,121,111,117,116]⟩,.func (.func 150) #[] #[.pointer (some ⟨rx,0,none⟩)],1⟩).push ⟨.string ⟨#[108,101,120]⟩,.func (.func 151) #[.pointer (some ⟨R,0,none⟩)] #[],2⟩).push ⟨.string ⟨#[99,102]⟩,.func (.func 152) #[.pointer (some ⟨R,0,none⟩)] #[],3⟩) 4)):=hm
 have HX4:=kK HX3 hg (by have:=HNB.out.2.1;simpa using this)
 have HB4:=hHi (gr_tr HB3.out hg)
 clear hm hg cx
 have cx:=HX4.out.cell 0 rfl
 go_wp2_with (refine wpl_insert _ rfl _ _ _ rfl b 4 ((((#[].push ⟨.string ⟨#[115,116,97,114,116]⟩,.func (.func 148) #[] #[.pointer (some ⟨rx,0,none⟩)],0⟩).push ⟨.string ⟨#[108,97,121,111,117,116]⟩,.func (.func 150) #[] #[.pointer (some ⟨rx,0,none⟩)],1⟩).push ⟨.string ⟨#[108,101,120]⟩,.func (.func 151) #[.pointer (some ⟨R,0,none⟩)] #[],2⟩).push ⟨.string ⟨#[99,102]⟩,.func (.func 152) #[.pointer (some ⟨R,0,none⟩)] #[],3⟩) rfl HM4.out _ _ rfl rfl (by kernel_rfl) ?_)
 intro w5 hm hg
 have HM5:Hid (w5.heap[b]?=some (.map (((((#[].push ⟨.string ⟨#[115,116,97,114,116]⟩,.func (.func 148) #[] #[.pointer (some ⟨rx,0,none⟩)],0⟩).push ⟨.string ⟨#[108,97,121,111,117,116]⟩,.func (.func 150) #[] #[.pointer (some ⟨rx,0,none⟩)],1⟩).push ⟨.string ⟨#[108,101,120]⟩,.func (.func 151) #[.pointer (some ⟨R,0,none⟩)] #[],2⟩).push ⟨.string ⟨#[99,102]⟩,.func (.func 152) #[.pointer (some ⟨R,0,none⟩)] #[],3⟩).push ⟨.string ⟨#[112,114,105,111]⟩,.func (.func 153) #[.pointer (some ⟨R,0,none⟩)] #[],4⟩) 5)):=hm
 have HX5:=kK HX4 hg (by have:=HNB.out.2.1;simpa using this)
 have HB5:=hHi (gr_tr HB4.out hg)
 clear hm hg cx
 have cx:=HX5.out.cell 0 rfl
 go_wp2_with (refine wpl_insert _ rfl _ _ _ rfl b 5 (((((#[].push ⟨.string ⟨#[115,116,97,114,116]⟩,.func (.func 148) #[] #[.pointer (some ⟨rx,0,none⟩)],0⟩).push ⟨.string ⟨#[108,97,121,111,117,116]⟩,.func (.func 150) #[] #[.pointer (some ⟨rx,0,none⟩)],1⟩).push ⟨.string ⟨#[108,101,120]⟩,.func (.func 151) #[.pointer (some ⟨R,0,none⟩)] #[],2⟩).push ⟨.string ⟨#[99,102]⟩,.func (.func 152) #[.pointer (some ⟨R,0,none⟩)] #[],3⟩).push ⟨.string ⟨#[112,114,105,111]⟩,.func (.func 153) #[.pointer (some ⟨R,0,none⟩)] #[],4⟩) rfl HM5.out _ _ rfl rfl (by kernel_rfl) ?_)
 intro w6 hm hg
 have HM6:Hid (w6.heap[b]?=some (.map ((((((#[].push ⟨.string ⟨#[115,116,97,114,116]⟩,.func (.func 148) #[] #[.pointer (some ⟨rx,0,none⟩)],0⟩).push ⟨.string ⟨#[108,97,121,111,117,116]⟩,.func (.func 150) #[] #[.pointer (some ⟨rx,0,none⟩)],1⟩).push ⟨.string ⟨#[108,101,120]⟩,.func (.func 151) #[.pointer (some ⟨R,0,none⟩)] #[],2⟩).push ⟨.string ⟨#[99,102]⟩,.func (.func 152) #[.pointer (some ⟨R,0,none⟩)] #[],3⟩).push ⟨.string ⟨#[112,114,105,111]⟩,.func (.func 153) #[.pointer (some ⟨R,0,none⟩)] #[],4⟩).push ⟨.string ⟨#[102,111,108,108,111,119]⟩,.func (.func 154) #[] #[.pointer (some ⟨rx,0,none⟩)],5⟩) 6)):=hm
 have HX6:=kK HX5 hg (by have:=HNB.out.2.1;simpa using this)
 have HB6:=hHi (gr_tr HB5.out hg)
 clear hm hg cx
 have cx:=HX6.out.cell 0 rfl
 go_wp2_with (refine wpl_insert _ rfl _ _ _ rfl b 6 ((((((#[].push ⟨.string ⟨#[115,116,97,114,116]⟩,.func (.func 148) #[] #[.pointer (some ⟨rx,0,none⟩)],0⟩).push ⟨.string ⟨#[108,97,121,111,117,116]⟩,.func (.func 150) #[] #[.pointer (some ⟨rx,0,none⟩)],1⟩).push ⟨.string ⟨#[108,101,120]⟩,.func (.func 151) #[.pointer (some ⟨R,0,none⟩)] #[],2⟩).push ⟨.string ⟨#[99,102]⟩,.func (.func 152) #[.pointer (some ⟨R,0,none⟩)] #[],3⟩).push ⟨.string ⟨#[112,114,105,111]⟩,.func (.func 153) #[.pointer (some ⟨R,0,none⟩)] #[],4⟩).push ⟨.string ⟨#[102,111,108,108,111,119]⟩,.func (.func 154) #[] #[.pointer (some ⟨rx,0,none⟩)],5⟩) rfl HM6.out _ _ rfl rfl (by kernel_rfl) ?_)
 intro w7 hm hg
 have HM7:Hid (w7.heap[b]?=some (.map (((((((#[].push ⟨.string ⟨#[115,116,97,114,116]⟩,.func (.func 148) #[] #[.pointer (some ⟨rx,0,none⟩)],0⟩).push ⟨.string ⟨#[108,97,121,111,117,116]⟩,.func (.func 150) #[] #[.pointer (some ⟨rx,0,none⟩)],1⟩).push ⟨.string ⟨#[108,101,120]⟩,.func (.func 151) #[.pointer (some ⟨R,0,none⟩)] #[],2⟩).push ⟨.string ⟨#[99,102]⟩,.func (.func 152) #[.pointer (some ⟨R,0,none⟩)] #[],3⟩).push ⟨.string ⟨#[112,114,105,111]⟩,.func (.func 153) #[.pointer (some ⟨R,0,none⟩)] #[],4⟩).push ⟨.string ⟨#[102,111,108,108,111,119]⟩,.func (.func 154) #[] #[.pointer (some ⟨rx,0,none⟩)],5⟩).push ⟨.string ⟨#[114,101,106,101,99,116]⟩,.func (.func 158) #[] #[.pointer (some ⟨rx,0,none⟩)],6⟩) 7)):=hm
 have HX7:=kK HX6 hg (by have:=HNB.out.2.1;simpa using this)
 have HB7:=hHi (gr_tr HB6.out hg)
 clear hm hg cx
 have cx:=HX7.out.cell 0 rfl
 go_wp2_with (refine wpl_insert _ rfl _ _ _ rfl b 7 (((((((#[].push ⟨.string ⟨#[115,116,97,114,116]⟩,.func (.func 148) #[] #[.pointer (some ⟨rx,0,none⟩)],0⟩).push ⟨.string ⟨#[108,97,121,111,117,116]⟩,.func (.func 150) #[] #[.pointer (some ⟨rx,0,none⟩)],1⟩).push ⟨.string ⟨#[108,101,120]⟩,.func (.func 151) #[.pointer (some ⟨R,0,none⟩)] #[],2⟩).push ⟨.string ⟨#[99,102]⟩,.func (.func 152) #[.pointer (some ⟨R,0,none⟩)] #[],3⟩).push ⟨.string ⟨#[112,114,105,111]⟩,.func (.func 153) #[.pointer (some ⟨R,0,none⟩)] #[],4⟩).push ⟨.string ⟨#[102,111,108,108,111,119]⟩,.func (.func 154) #[] #[.pointer (some ⟨rx,0,none⟩)],5⟩).push ⟨.string ⟨#[114,101,106,101,99,116]⟩,.func (.func 158) #[] #[.pointer (some ⟨rx,0,none⟩)],6⟩) rfl HM7.out _ _ rfl rfl (by kernel_rfl) ?_)
 intro w8 hm hg
 have HM8:Hid (w8.heap[b]?=some (.map ((((((((#[].push ⟨.string ⟨#[115,116,97,114,116]⟩,.func (.func 148) #[] #[.pointer (some ⟨rx,0,none⟩)],0⟩).push ⟨.string ⟨#[108,97,121,111,117,116]⟩,.func (.func 150) #[] #[.pointer (some ⟨rx,0,none⟩)],1⟩).push ⟨.string ⟨#[108,101,120]⟩,.func (.func 151) #[.pointer (some ⟨R,0,none⟩)] #[],2⟩).push ⟨.string ⟨#[99,102]⟩,.func (.func 152) #[.pointer (some ⟨R,0,none⟩)] #[],3⟩).push ⟨.string ⟨#[112,114,105,111]⟩,.func (.func 153) #[.pointer (some ⟨R,0,none⟩)] #[],4⟩).push ⟨.string ⟨#[102,111,108,108,111,119]⟩,.func (.func 154) #[] #[.pointer (some ⟨rx,0,none⟩)],5⟩).push ⟨.string ⟨#[114,101,106,101,99,116]⟩,.func (.func 158) #[] #[.pointer (some ⟨rx,0,none⟩)],6⟩).push ⟨.string ⟨#[98,111,120]⟩,.func (.func 159) #[.pointer (some ⟨R,0,none⟩)] #[],7⟩) 8)):=hm
 have HX8:=kK HX7 hg (by have:=HNB.out.2.1;simpa using this)
 have HB8:=hHi (gr_tr HB7.out hg)
 clear hm hg cx
 have cx:=HX8.out.cell 0 rfl
 go_wp2
 go_ret
 exact⟨b,rx,rfl,HM8.out,HX8.out,Nat.le_of_eq HRX.out,HNB.out.1,⟨HB8.out.os.trans HBB.out.os,HB8.out.tape.trans HBB.out.tape,HB8.out.output.trans HBB.out.output,Nat.le_trans HBB.out.size HB8.out.size,fun c hc=>(HB8.out.block c (Nat.lt_of_lt_of_le hc HBB.out.size) (by have:=HNB.out.1;simp;omega)).trans (HBB.out.block c hc)⟩⟩
end Go.Proofs.YtcpakcffiopfjaaGreatDoor
