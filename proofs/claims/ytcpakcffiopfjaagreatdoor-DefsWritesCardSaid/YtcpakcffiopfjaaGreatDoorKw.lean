/- Statements, one behind the other, read up to the end. -/
import Derived.Test.YtcpakcffiopfjaaGreatDoorC7
import Derived.Test.YtcpakcffiopfjaaGreatDoorE1
import Derived.Test.YtcpakcffiopfjaaGreatDoorA1
namespace Go.Proofs.YtcpakcffiopfjaaGreatDoor
open Go.RowKit
set_option linter.unusedVariables false
set_option linter.unusedSimpArgs false
set_option maxRecDepth 100000
set_option maxHeartbeats 16000000
set_option linter.unusedVariables false
set_option linter.unusedSimpArgs false
set_option maxRecDepth 100000
set_option maxHeartbeats 16000000
theorem run_look {W:World} {b clock:Nat} {es:Array MapEntry} (k:ByteArray) (i:Nat) (v:Value) (hb:W.heap[b]?=some (.map es clock)) (hk:Instr.findNow .string (.string k) es.toList 0=some (some (i,v))) :
  (Instr.lookup 148 (.map (some b)) (.string k) true).run Tryz.prog W=.ok (.tuple #[v,.bool true]) W:=by
 have hc:∀q,(Instr.checkKey q 10000 9 (.string k)).run Tryz.prog W=.ok () W:=fun q=>MapKept.run_checkKey (k:=.string k) Tryz.underlying9 (by simp[MapKept.IsKey]) q 9999
 simp[Instr.lookup,run_underlying Tryz.underlying148,MapKept.run_getObj_map hb,hc,MapKept.run_findKey Tryz.underlying9 hk,Result.andThen]
theorem DefAt.top {W:World} {base hi:Nat} {d:Df} {D:List Value} (h:DefAt W base hi d D):DefAt W base W.heap.size d D:=by
 obtain⟨v2,v3,v4,v5,v6,Lp,Lc,Lb,e,h⟩:=h
 have hS:∀b,SS base hi [v2,v3,v4,v5,v6] b→SS base W.heap.size [v2,v3,v4,v5,v6] b:=fun b hb=>⟨hb.1,Nat.lt_of_lt_of_le hb.2.1 h.up,hb.2.2⟩
 have hc:∀b,SS base hi [v2,v3,v4,v5,v6] b→∀q,W.cell? ⟨b,q,none⟩=W.cell? ⟨b,q,none⟩:=fun _ _ _=>rfl
 exact⟨v2,v3,v4,v5,v6,Lp,Lc,Lb,e,⟨h.rp,h.rc,h.rf,h.rr,h.rb,h.ep,h.ec,h.eb,fun q hq=>(h.sp q hq).keep hc hS (fun _ _ h=>h),fun q hq=>(h.sc q hq).keep hc hS (fun _ _ h=>h.keep hc hS),fun q hq=>(h.sb q hq).keep hc hS,h.ok,fun v hv b hb=>Nat.lt_of_lt_of_le (h.lo v hv b hb) h.up,Nat.le_refl _⟩⟩
theorem DefAt.after {W W':World} {base:Nat} {d:Df} {D:List Value} (h:DefAt W base W.heap.size d D) (hb:Below W.heap.size W W'):DefAt W' base W'.heap.size d D:=(h.keep (fun b _ hlt=>hb.block b hlt) hb.size).top
theorem FrS.map {w w':World} {R b clock:Nat} {es:Array MapEntry} (h:FrS w w' R) (hm:w.heap[b]?=some (.map es clock)) (hne:b≠R):w'.heap[b]?=some (.map es clock):=by
 have hlt:b<w.heap.size:=(Array.getElem?_eq_some_iff.1 hm).1
 exact (h.block b hlt hne (.inl (fun cs e he=>by rw[hm] at he;cases he))).trans hm
def lenAt0 (W:World) (b:Nat):Nat:=match W.cell? ⟨b,0,none⟩ with | some v=>lenV v | none=>0
theorem lenAt0_rd {W:World} {R:Nat} {D:List Value} {L:List Wd} (h:Rd W R D L):lenAt0 W R=L.length:=by
 obtain⟨a,c,h1,_⟩:=h.at'
 unfold lenAt0
 rw[h1.cell 0 rfl]
 rfl
structure Lens (d:Df) (n:Nat):Prop where
 p:d.prods.length≤200
 c:d.chains.length+n≤65537
 f:d.follows.length+n≤65537
 r:d.rejects.length+n≤65537
 b:d.boxes.length+n≤65537
theorem Lens.dlen {d:Df} {n:Nat} (h:Lens d n):DLen d:=⟨h.p,by have:=h.c;omega,by have:=h.f;omega,by have:=h.r;omega,by have:=h.b;omega⟩
theorem Lens.step {d d':Df} {n m:Nat} (h:Lens d n) (a:Adds d d') (hm:m+1≤n):Lens d' m:=⟨a.p h.p,by have:=h.c;have:=a.c;omega,by have:=h.f;have:=a.f;omega,by have:=h.r;have:=a.r;omega,by have:=h.b;have:=a.b;omega⟩
theorem stmt_is2 {L:List Wd} (ht:(wd L).text=[108,101,120]) (d:Df):stmtR d L=lexicalR d L:=by
 have hn:∀u:List UInt8,[108,101,120]≠u→¬isT u L=true:=fun u h=>by rw[isT,ht];simpa using h
 unfold stmtR
 rw[if_neg (hn _ (by decide)),if_neg (hn _ (by decide)),if_pos (by rw[isT,ht];rfl)]
 try rfl
theorem stmt_is3 {L:List Wd} (ht:(wd L).text=[99,102]) (d:Df):stmtR d L=plainR d L:=by
 have hn:∀u:List UInt8,[99,102]≠u→¬isT u L=true:=fun u h=>by rw[isT,ht];simpa using h
 unfold stmtR
 rw[if_neg (hn _ (by decide)),if_neg (hn _ (by decide)),if_neg (hn _ (by decide)),if_pos (by rw[isT,ht];rfl)]
 try rfl
theorem stmt_is4 {L:List Wd} (ht:(wd L).text=[112,114,105,111]) (d:Df):stmtR d L=chainR d L:=by
 have hn:∀u:List UInt8,[112,114,105,111]≠u→¬isT u L=true:=fun u h=>by rw[isT,ht];simpa using h
 unfold stmtR
 rw[if_neg (hn _ (by decide)),if_neg (hn _ (by decide)),if_neg (hn _ (by decide)),if_neg (hn _ (by decide)),if_pos (by rw[isT,ht];rfl)]
 try rfl
def safeS:Nat→Df→List Wd→Bool
 | 0,_,_=>true
 | f+1,d,L=>if (wd L).kind=7 then true else (decide ((wd L).text=[108,101,120])&&lexW L||decide ((wd L).text=[99,102])||decide ((wd L).text=[112,114,105,111]))&&match stmtR d L with
  | .ok e A=>match wantR [59] A with
   | .ok _ B=>safeS f e B
   | .bad _ _=>true
  | .bad _ _=>true
theorem safe_step {g:Nat} {d:Df} {L:List Wd} (h:safeS (g+1) d L=true) (hk:¬(wd L).kind=7):(((wd L).text=[108,101,120]∧lexW L=true)∨(wd L).text=[99,102]∨(wd L).text=[112,114,105,111])∧∀e A u B,stmtR d L=.ok e A→wantR [59] A=.ok u B→safeS g e B=true:=by
 rw[safeS,if_neg hk,Bool.and_eq_true] at h
 refine⟨by simpa[or_assoc] using h.1,fun e A u B h1 h2=>?_⟩
 have:=h.2
 rw[h1] at this
 simp only[h2] at this
 exact this
theorem stmts_any (R:Nat) (D:List Value) (L:List Wd) (d:Df) (f:Nat) (w:World) (hR:Rd w R D L) (hD:DefAt w (R+1) w.heap.size d D) (hl:Lens d L.length) (hf:L.length<f) (hsf:safeS f d L=true) :
  Calls Tryz.prog 55 #[.pointer (some ⟨R,0,none⟩)] w (RS R w (stmtsR f d L)):=by
 have HR0:Hid (Rd w R D L):=hR
 have HD0:Hid (DefAt w (R+1) w.heap.size d D):=hD
 have HL0:Hid (Lens d L.length):=hl
 have HF0:=hHi hf
 have HBG:=hU (begins_any R w hR.lt)
 have hfd:=fld_kind
 have hft:=fld_text
 clear hR hD hl hf
 go_enter Tryz.func55,Tryz.ntmps55
 go_wp2_with fail
 refine hMo HBG ?_
 rintro e w0 ⟨b,rx,rfl,hm0,hx0,hxs,hbs,hb0⟩
 have HM0:Hid (w0.heap[b]?=some (.map (begE R rx) 8)):=hm0
 have HX0:Hid (Blk w0 rx 98 #[.pointer (some ⟨R,0,none⟩)]):=hx0
 have HRX:Hid (R<rx∧R<b):=⟨Nat.lt_of_lt_of_le HR0.out.lt hxs,Nat.lt_of_lt_of_le HR0.out.lt hbs⟩
 have HB0:Hid (Below w.heap.size w w0):=hb0
 have HRa:Hid (Rd w0 R D L):=HR0.out.below hb0
 have HDa:Hid (DefAt w0 (R+1) w0.heap.size d D):=HD0.out.after hb0
 clear hm0 hx0 hxs hbs hb0
 go_wp2_with fail
 go_loopw[] (fun W=>∃(g:Nat) (d':Df) (L':List Wd) (D':List Value),Rd W R D' L'∧DefAt W (R+1) W.heap.size d' D'∧FrS w0 W R∧Lens d' L'.length∧L'.length<g∧stmtsR f d L=stmtsR g d' L'∧safeS g d' L'=true) (fun W=>lenAt0 W R)
 case atStart=>exact⟨f,d,L,D,HRa.out,HDa.out,FrS.of (gr_refl _ _),HL0.out,HF0.out,rfl,hsf⟩
 case round=>
  obtain⟨g,d',L',D',hr,hd,hfr,hl,hg,ht,hsa⟩:=hrel
  obtain⟨g,rfl⟩:∃g',g=g'+1:=⟨g-1,by omega⟩
  have HRW:=hHi hr
  have HDW:Hid (DefAt wr (R+1) wr.heap.size d' D'):=hd
  have HFW:Hid (FrS w0 wr R):=hfr
  have HLW:Hid (Lens d' L'.length):=hl
  have HGW:=hHi hg
  have HT1:Hid (stmtsR f d L=stmtsR (g+1) d' L'):=ht
  have HUN:Hid (stmtsR (g+1) d' L'=if (wd L').kind=7 then .ok d' L' else (stmtR d' L').bind fun d L=>(wantR [59] L).bind fun _ L=>stmtsR g d L):=rfl
  have HMW:Hid (lenAt0 wr R=L'.length):=lenAt0_rd HRW.out
  have HWD:=hU (rd_word R D' L' wr HRW.out)
  have HTR:Hid (∀W,FrS w0 W R→FrS w W R):=fun W h=>(FrS.of (gr_b R HB0.out)).tr h
  clear hr hd hfr hl hg ht HRa HDa
  by_cases hk:(wd L').kind=7
  case pos=>
   have hk1:(((wd L').kind:Int) != 7)=false:=by simp;omega
   have HK:=hHi hk
   clear hk
   go_wp2_with fail
   refine hMo HWD ?_
   rintro e w1 ⟨⟨ba,bc,rfl,_⟩,hb⟩
   have HB1:Hid (Below wr.heap.size wr w1):=hb
   clear hb
   go_wp2
   go_end0
   show RS R w (stmtsR f d L) _ _
   rw[HT1.out,HUN.out,if_pos HK.out]
   exact⟨rfl,⟨_,_,HRW.out.below HB1.out,HDW.out.after HB1.out⟩,HTR.out _ (HFW.out.tr (FrS.of (gr_b R HB1.out)))⟩
  have hk1:(((wd L').kind:Int) != 7)=true:=by simp;omega
  have HK:=hHi hk
  have HSP:=hHi (safe_step hsa hk)
  clear hk hsa
  go_wp2_with fail
  refine hMo HWD ?_
  rintro e w1 ⟨⟨ba,bc,rfl,_⟩,hb⟩
  have HR1:Hid (Rd w1 R D' L'):=HRW.out.below hb
  have HD1:Hid (DefAt w1 (R+1) w1.heap.size d' D'):=HDW.out.after hb
  have HF1:Hid (FrS w0 w1 R):=HFW.out.tr (FrS.of (gr_b R hb))
  have HWD1:=hU (rd_word R D' L' w1 HR1.out)
  clear hb
  have HNX:Hid (stmtsR f d L=(stmtR d' L').bind fun d L=>(wantR [59] L).bind fun _ L=>stmtsR g d L):=HT1.out.trans (HUN.out.trans (if_neg HK.out))
  go_wp2_with fail
  refine hMo HWD1 ?_
  rintro e w2 ⟨⟨ca,cc,rfl,_⟩,hb⟩
  have HR2:Hid (Rd w2 R D' L'):=HR1.out.below hb
  have HD2:Hid (DefAt w2 (R+1) w2.heap.size d' D'):=HD1.out.after hb
  have HF2:Hid (FrS w0 w2 R):=HF1.out.tr (FrS.of (gr_b R hb))
  have HM2:Hid (w2.heap[b]?=some (.map (begE R rx) 8)):=HF2.out.map HM0.out (by have:=HRX.out;omega)
  have HX2:Hid (Blk w2 rx 98 #[.pointer (some ⟨R,0,none⟩)]):=FrS.blk HF2.out HX0.out (by have:=HRX.out;omega) (by decide)
  clear hb
  by_cases hk2:(wd L').text=[108,101,120]
  case pos=>
   have hlk:(Instr.lookup 148 (.map (some b)) (.string (strB (wd L').text)) true).run Tryz.prog w2=.ok (.tuple #[.func (.func 151) #[.pointer (some ⟨R,0,none⟩)] #[],.bool true]) w2:=by rw[hk2];exact run_look _ 2 _ HM2.out (by kernel_rfl)
   have HST:=hU (st_lexical R _ L' d' _ w2 HR2.out HD2.out HLW.out.dlen HR2.out.lt (by rw[hk2];simp) (by have:=HSP.out.1;rw[hk2] at this;simpa using this))
   rw[←stmt_is2 hk2 d'] at HST
   clear hk2
   go_wp2_with fail
   cases hs:stmtR d' L' with
   | bad p c=>
    rw[hs] at HST
    have HE:=hHi hs
    clear hs
    refine hMo HST ?_
    rintro e wf ⟨rfl,hff⟩
    simp only[FE]
    go_wp2
    refine⟨rfl,?_⟩
    show RS R w (stmtsR f d L) _ _
    rw[HNX.out,HE.out]
    exact⟨rfl,HTR.out _ (HF2.out.tr hff)⟩
   | ok d3 L3=>
   rw[hs] at HST
   have HE:=hHi hs
   clear hs
   refine hMo HST ?_
   rintro e w3 ⟨rfl,⟨D3,h3,hr3,hd3⟩,hf3⟩
   have HR3:Hid (Rd w3 R D3 L3):=hr3
   have HD3:Hid (DefAt w3 (R+1) w3.heap.size d3 D3):=hd3.top
   have HF3:Hid (FrS w0 w3 R):=HF2.out.tr hf3
   clear hr3 hd3 hf3 hlk
   have HWT:=hU (rd_want R D3 L3 [59] w3 HR3.out (by simp))
   go_wp2_with fail
   cases hs:wantR [59] L3 with
   | bad p c=>
    rw[hs] at HWT
    have HE2:=hHi hs
    clear hs
    refine hMo HWT ?_
    rintro e wf ⟨rfl,hgf⟩
    simp only[FE]
    go_wp2
    refine⟨rfl,?_⟩
    show RS R w (stmtsR f d L) _ _
    rw[HNX.out,HE.out]
    simp only[PR.bind]
    rw[HE2.out]
    exact⟨rfl,HTR.out _ (HF3.out.tr (FrS.of hgf))⟩
   | ok u L4=>
   rw[hs] at HWT
   have HE2:=hHi hs
   clear hs
   refine hMo HWT ?_
   rintro e w4 ⟨rfl,hr4,hg4⟩
   have HR4:Hid (Rd w4 R D3 L4):=hr4
   have HD4:Hid (DefAt w4 (R+1) w4.heap.size d3 D3):=(HD3.out.keep (fun b h1 h2=>hg4.block b h2 (by simp;omega)) hg4.size).top
   have HF4:Hid (FrS w0 w4 R):=HF3.out.tr (FrS.of hg4)
   have HLN:Hid (L4.length+1≤L'.length):=by
    have h1:=(want_len (by simp) HE2.out).1
    have h2:=(rdr_stmt d').loc.len HE.out
    show _≤_;omega
   clear hr4 hg4
   go_wp2
   go_roundw
   case rel=>exact⟨g,d3,L4,D3,HR4.out,HD4.out,HF4.out,HLW.out.step (stmt_adds HE.out) HLN.out,by have:=HLN.out;have:=HGW.out;omega,by rw[HNX.out,HE.out];simp only[PR.bind];rw[HE2.out],HSP.out.2 _ _ _ _ HE.out HE2.out⟩
   case measure=>rw[lenAt0_rd HR4.out,HMW.out];have:=HLN.out;omega
  have hn2:Hid (¬(wd L').text=[108,101,120]):=hk2
  clear hk2
  by_cases hk3:(wd L').text=[99,102]
  case pos=>
   have hlk:(Instr.lookup 148 (.map (some b)) (.string (strB (wd L').text)) true).run Tryz.prog w2=.ok (.tuple #[.func (.func 152) #[.pointer (some ⟨R,0,none⟩)] #[],.bool true]) w2:=by rw[hk3];exact run_look _ 3 _ HM2.out (by kernel_rfl)
   have HST:=hU (st_plain R _ L' d' _ w2 HR2.out HD2.out HLW.out.dlen HR2.out.lt (by rw[hk3];simp))
   rw[←stmt_is3 hk3 d'] at HST
   clear hk3 hn2
   go_wp2_with fail
   cases hs:stmtR d' L' with
   | bad p c=>
    rw[hs] at HST
    have HE:=hHi hs
    clear hs
    refine hMo HST ?_
    rintro e wf ⟨rfl,hff⟩
    simp only[FE]
    go_wp2
    refine⟨rfl,?_⟩
    show RS R w (stmtsR f d L) _ _
    rw[HNX.out,HE.out]
    exact⟨rfl,HTR.out _ (HF2.out.tr hff)⟩
   | ok d3 L3=>
   rw[hs] at HST
   have HE:=hHi hs
   clear hs
   refine hMo HST ?_
   rintro e w3 ⟨rfl,⟨D3,h3,hr3,hd3⟩,hf3⟩
   have HR3:Hid (Rd w3 R D3 L3):=hr3
   have HD3:Hid (DefAt w3 (R+1) w3.heap.size d3 D3):=hd3.top
   have HF3:Hid (FrS w0 w3 R):=HF2.out.tr hf3
   clear hr3 hd3 hf3 hlk
   have HWT:=hU (rd_want R D3 L3 [59] w3 HR3.out (by simp))
   go_wp2_with fail
   cases hs:wantR [59] L3 with
   | bad p c=>
    rw[hs] at HWT
    have HE2:=hHi hs
    clear hs
    refine hMo HWT ?_
    rintro e wf ⟨rfl,hgf⟩
    simp only[FE]
    go_wp2
    refine⟨rfl,?_⟩
    show RS R w (stmtsR f d L) _ _
    rw[HNX.out,HE.out]
    simp only[PR.bind]
    rw[HE2.out]
    exact⟨rfl,HTR.out _ (HF3.out.tr (FrS.of hgf))⟩
   | ok u L4=>
   rw[hs] at HWT
   have HE2:=hHi hs
   clear hs
   refine hMo HWT ?_
   rintro e w4 ⟨rfl,hr4,hg4⟩
   have HR4:Hid (Rd w4 R D3 L4):=hr4
   have HD4:Hid (DefAt w4 (R+1) w4.heap.size d3 D3):=(HD3.out.keep (fun b h1 h2=>hg4.block b h2 (by simp;omega)) hg4.size).top
   have HF4:Hid (FrS w0 w4 R):=HF3.out.tr (FrS.of hg4)
   have HLN:Hid (L4.length+1≤L'.length):=by
    have h1:=(want_len (by simp) HE2.out).1
    have h2:=(rdr_stmt d').loc.len HE.out
    show _≤_;omega
   clear hr4 hg4
   go_wp2
   go_roundw
   case rel=>exact⟨g,d3,L4,D3,HR4.out,HD4.out,HF4.out,HLW.out.step (stmt_adds HE.out) HLN.out,by have:=HLN.out;have:=HGW.out;omega,by rw[HNX.out,HE.out];simp only[PR.bind];rw[HE2.out],HSP.out.2 _ _ _ _ HE.out HE2.out⟩
   case measure=>rw[lenAt0_rd HR4.out,HMW.out];have:=HLN.out;omega
  have hn3:Hid (¬(wd L').text=[99,102]):=hk3
  clear hk3
  by_cases hk4:(wd L').text=[112,114,105,111]
  case pos=>
   have hlk:(Instr.lookup 148 (.map (some b)) (.string (strB (wd L').text)) true).run Tryz.prog w2=.ok (.tuple #[.func (.func 153) #[.pointer (some ⟨R,0,none⟩)] #[],.bool true]) w2:=by rw[hk4];exact run_look _ 4 _ HM2.out (by kernel_rfl)
   have HST:=hU (st_chain R _ L' d' _ w2 HR2.out HD2.out HLW.out.dlen HR2.out.lt (by rw[hk4];simp))
   rw[←stmt_is4 hk4 d'] at HST
   clear hk4 hn2 hn3
   go_wp2_with fail
   cases hs:stmtR d' L' with
   | bad p c=>
    rw[hs] at HST
    have HE:=hHi hs
    clear hs
    refine hMo HST ?_
    rintro e wf ⟨rfl,hff⟩
    simp only[FE]
    go_wp2
    refine⟨rfl,?_⟩
    show RS R w (stmtsR f d L) _ _
    rw[HNX.out,HE.out]
    exact⟨rfl,HTR.out _ (HF2.out.tr hff)⟩
   | ok d3 L3=>
   rw[hs] at HST
   have HE:=hHi hs
   clear hs
   refine hMo HST ?_
   rintro e w3 ⟨rfl,⟨D3,h3,hr3,hd3⟩,hf3⟩
   have HR3:Hid (Rd w3 R D3 L3):=hr3
   have HD3:Hid (DefAt w3 (R+1) w3.heap.size d3 D3):=hd3.top
   have HF3:Hid (FrS w0 w3 R):=HF2.out.tr hf3
   clear hr3 hd3 hf3 hlk
   have HWT:=hU (rd_want R D3 L3 [59] w3 HR3.out (by simp))
   go_wp2_with fail
   cases hs:wantR [59] L3 with
   | bad p c=>
    rw[hs] at HWT
    have HE2:=hHi hs
    clear hs
    refine hMo HWT ?_
    rintro e wf ⟨rfl,hgf⟩
    simp only[FE]
    go_wp2
    refine⟨rfl,?_⟩
    show RS R w (stmtsR f d L) _ _
    rw[HNX.out,HE.out]
    simp only[PR.bind]
    rw[HE2.out]
    exact⟨rfl,HTR.out _ (HF3.out.tr (FrS.of hgf))⟩
   | ok u L4=>
   rw[hs] at HWT
   have HE2:=hHi hs
   clear hs
   refine hMo HWT ?_
   rintro e w4 ⟨rfl,hr4,hg4⟩
   have HR4:Hid (Rd w4 R D3 L4):=hr4
   have HD4:Hid (DefAt w4 (R+1) w4.heap.size d3 D3):=(HD3.out.keep (fun b h1 h2=>hg4.block b h2 (by simp;omega)) hg4.size).top
   have HF4:Hid (FrS w0 w4 R):=HF3.out.tr (FrS.of hg4)
   have HLN:Hid (L4.length+1≤L'.length):=by
    have h1:=(want_len (by simp) HE2.out).1
    have h2:=(rdr_stmt d').loc.len HE.out
    show _≤_;omega
   clear hr4 hg4
   go_wp2
   go_roundw
   case rel=>exact⟨g,d3,L4,D3,HR4.out,HD4.out,HF4.out,HLW.out.step (stmt_adds HE.out) HLN.out,by have:=HLN.out;have:=HGW.out;omega,by rw[HNX.out,HE.out];simp only[PR.bind];rw[HE2.out],HSP.out.2 _ _ _ _ HE.out HE2.out⟩
   case measure=>rw[lenAt0_rd HR4.out,HMW.out];have:=HLN.out;omega
  have hn4:Hid (¬(wd L').text=[112,114,105,111]):=hk4
  clear hk4
  exfalso
  rcases HSP.out.1 with h | h | h
  ·exact hn2.out h.1
  ·exact hn3.out h
  ·exact hn4.out h
end Go.Proofs.YtcpakcffiopfjaaGreatDoor
