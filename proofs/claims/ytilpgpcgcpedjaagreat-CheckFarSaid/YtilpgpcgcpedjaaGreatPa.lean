/- What a sort uses, and what that uses, it uses: the law's walk. -/
import Derived.Test.YtilpgpcgcpedjaaGreatNf
import Derived.Test.YtilpgpcgcpedjaaGreatOa
import Derived.Deep.CutRange
namespace Go.Proofs.YtilpgpcgcpedjaaGreat
open Go.RowKit
set_option linter.unusedVariables false
set_option linter.unusedSimpArgs false
set_option maxRecDepth 100000
set_option maxHeartbeats 16000000
theorem srt_le {d:Df} (h:lists d≤400∧symsN d.prods≤400):(srt d.prods).length≤400:=by
 have:=srt_len d.prods
 have h1:=h.1
 unfold lists at h1
 omega
theorem c7x {W:World} {b:Nat} {t:TypeId} {v0 v1 v2 v3 v4 v5 v6 u:Value} {q:Addr} (h:Blk W b t #[v0,v1,v2,v3,v4,v5,v6]) (hc:W.cell? q=some u):W.cell? ⟨b,0,none⟩=some v0∧W.cell? ⟨b,1,none⟩=some v1∧W.cell? ⟨b,2,none⟩=some v2∧W.cell? ⟨b,3,none⟩=some v3∧W.cell? ⟨b,4,none⟩=some v4∧W.cell? ⟨b,5,none⟩=some v5∧W.cell? ⟨b,6,none⟩=some v6∧W.cell? q=some u:=⟨h.c7.1,h.c7.2.1,h.c7.2.2.1,h.c7.2.2.2.1,h.c7.2.2.2.2.1,h.c7.2.2.2.2.2.1,h.c7.2.2.2.2.2.2,hc⟩
theorem far_walk (d:Df) (vs:List Value) (s:ByteArray) (w:World) (h:DO w d vs) (hs:s.size≤maxLen):
  Calls Tryz.prog 9 #[.agg ⟨vs⟩,.string s] w fun e w'=>e=.returned (.bool true)∧Below w.heap.size w w':=by
 have HDO:=hHi h
 have HA:=hU (fun W=>alive_any W)
 obtain⟨a2,p2,a3,p3,a4,p4,a5,p5,a6,p6,rfl,r2,_⟩:=h.form
 obtain⟨f,hf⟩:=h.sz
 have hz72:=hf.p
 have HHV:Hid (∀W,Below w.heap.size w W→Calls Tryz.prog 11 #[.agg #[.string d.start,.string d.layout,.slice a2 d.prods.length p2,.slice a3 d.chains.length p3,.slice a4 d.follows.length p4,.slice a5 d.rejects.length p5,.slice a6 d.boxes.length p6]] W fun e w'=>(∃b,e=.returned (.bool b)∧(b=false→lists d≤400∧symsN d.prods≤400))∧Below W.heap.size W w'):=fun W hb=>heavy_any d _ W (HDO.out.nx hb)
 have HR1:=hHi r2
 have HSZ:=hHi hs
 clear hs
 obtain⟨w1,hw1⟩:∃qW,w.alloc (.cells #[.string d.start,.string d.layout,.slice a2 d.prods.length p2,.slice a3 d.chains.length p3,.slice a4 d.follows.length p4,.slice a5 d.rejects.length p5,.slice a6 d.boxes.length p6] 28)=qW:=⟨_,rfl⟩
 have T:BX w w1 w.heap.size 28 #[.string d.start,.string d.layout,.slice a2 d.prods.length p2,.slice a3 d.chains.length p3,.slice a4 d.follows.length p4,.slice a5 d.rejects.length p5,.slice a6 d.boxes.length p6]:=⟨(kB hw1).out,(kN hw1).out⟩
 have HT:=hHi T
 clear T r2 hf h
 go_enter Tryz.func9,Tryz.ntmps9
 obtain⟨d0,d1,d2,d3,d4,d5,d6⟩:=HT.out.box.c7
 go_wp2_with fail
 refine hMo (hU (HHV.out w1 HT.out.bel)) ?_
 rintro e w2 ⟨⟨b,rfl,hq⟩,hb⟩
 have HQ:=hHi hq
 replace HT:=hHi (HT.out.nx hb)
 clear hq hb d0 d1 d2 d3 d4 d5 d6 HHV hw1
 cases b with
 | true=>
  go_wp2_with fail
  refine hMo (hU (HA.out () w2)) ?_
  rintro e w3 ⟨rfl,hb⟩
  have HB3:=hHi (HT.out.bel.trans (hb.mono HT.out.bel.size))
  clear hb
  go_wp2
  go_ret
  exact ⟨rfl,HB3.out⟩
 | false=>
 have HFEW:Hid _:=hHi (HQ.out rfl)
 clear HQ
 obtain⟨S,hS⟩:∃S,srt d.prods=S:=⟨_,rfl⟩
 obtain⟨F,hF⟩:∃F:ByteArray→List ByteArray,(fun x=>sthat (farB d.prods leadsN x) d.prods)=F:=⟨_,rfl⟩
 have HSL:Hid (S.length≤400):=by show _≤_;rw[←hS];exact srt_le HFEW.out
 have HSM:Hid (∀x,x∈S↔∃p∈d.prods,p.sort=x):=fun x=>by rw[←hS];exact mem_srt
 have HFM:Hid (∀x y,y∈F x↔y∈S∧Far d.prods leadsN x y):=fun x y=>by rw[←hF,←hS];unfold sthat;rw[List.mem_filter,farB_iff]
 have HFL:Hid (∀x,(F x).length≤400):=fun x=>by rw[←hF];exact Nat.le_trans (List.length_filter_le _ _) (srt_le HFEW.out)
 have HNZ:Hid (∀x∈S,x.size≤maxLen):=fun x hx=>by
  obtain⟨p,hp,rfl⟩:=(HSM.out x).1 hx
  exact (HDO.out.nm.prods p hp).sort
 have HSO:Hid (∀W,Below w.heap.size w W→Calls Tryz.prog 17 #[.agg #[.string d.start,.string d.layout,.slice a2 d.prods.length p2,.slice a3 d.chains.length p3,.slice a4 d.follows.length p4,.slice a5 d.rejects.length p5,.slice a6 d.boxes.length p6]] W fun e w'=>(∃va vc,e=.returned (.slice va S.length vc)∧NamesAt w' w.heap.size S (.slice va S.length vc))∧Below W.heap.size W w'):=fun W hb=>by rw[←hS];exact (sorts_any d _ W (HDO.out.nx hb)).mono (fun e w' ⟨⟨va,vc,he,hn⟩,hb'⟩=>⟨⟨va,vc,he,⟨row_mono hn.row hb.size⟩⟩,hb'⟩)
 have HUS:Hid (∀W x,Below w.heap.size w W→x.size≤maxLen→Calls Tryz.prog 22 #[.agg #[.string d.start,.string d.layout,.slice a2 d.prods.length p2,.slice a3 d.chains.length p3,.slice a4 d.follows.length p4,.slice a5 d.rejects.length p5,.slice a6 d.boxes.length p6],.string x] W fun e w'=>(∃va vc,e=.returned (.slice va (F x).length vc)∧NamesAt w' w.heap.size (F x) (.slice va (F x).length vc))∧Below W.heap.size W w'):=fun W x hb hx=>by rw[←hF];exact (uses_any d _ x W (HDO.out.nx hb) hx (by have:=HFEW.out.2;omega)).mono (fun e w' ⟨⟨va,vc,he,hn⟩,hb'⟩=>⟨⟨va,vc,he,⟨row_mono hn.row hb.size⟩⟩,hb'⟩)
 clear hS hF
 go_wp2
 go_cut [5,6] from 13 (fun s5 s6 wc=>∃va vc vb vd,s5=.slice va S.length vc∧s6=.slice vb (F s).length vd∧NamesAt wc w.heap.size S (.slice va S.length vc)∧NamesAt wc w.heap.size (F s) (.slice vb (F s).length vd)∧BX w wc w.heap.size 28 #[.string d.start,.string d.layout,.slice a2 d.prods.length p2,.slice a3 d.chains.length p3,.slice a4 d.follows.length p4,.slice a5 d.rejects.length p5,.slice a6 d.boxes.length p6])
 case first=>
  have T:=HT.out
  go_region_held3 (fun W=>W.cell? ⟨w.heap.size,0,none⟩=some (.string d.start)∧W.cell? ⟨w.heap.size,1,none⟩=some (.string d.layout)∧W.cell? ⟨w.heap.size,2,none⟩=some (.slice a2 d.prods.length p2)∧W.cell? ⟨w.heap.size,3,none⟩=some (.slice a3 d.chains.length p3)∧W.cell? ⟨w.heap.size,4,none⟩=some (.slice a4 d.follows.length p4)∧W.cell? ⟨w.heap.size,5,none⟩=some (.slice a5 d.rejects.length p5)∧W.cell? ⟨w.heap.size,6,none⟩=some (.slice a6 d.boxes.length p6)) (first | exact T.box.c7 | exact T.drew.box.c7) (first | (go_at_call 17;refine (HSO.out _ T.bel).mono ?_;rintro e w5 ⟨⟨va1,vc1,rfl,hi1⟩,hb5⟩;replace T:BX w w5 w.heap.size 28 _:=T.nx hb5;have HN1:=hHi hi1;clear hb5 hi1) | (go_at_call 17;refine (HSO.out _ T.drew.bel).mono ?_;rintro e w5 ⟨⟨va1,vc1,rfl,hi1⟩,hb5⟩;replace T:BX w w5 w.heap.size 28 _:=T.drew.nx hb5;have HN1:=hHi hi1;clear hb5 hi1) | (go_at_call 22;refine (HUS.out _ s T.bel HSZ.out).mono ?_;rintro e w5 ⟨⟨va2,vc2,rfl,hi2⟩,hb5⟩;replace T:BX w w5 w.heap.size 28 _:=T.nx hb5;replace HN1:=hHi (HN1.out.after hb5);have HN2:=hHi hi2;clear hb5 hi2) | (go_at_call 22;refine (HUS.out _ s T.drew.bel HSZ.out).mono ?_;rintro e w5 ⟨⟨va2,vc2,rfl,hi2⟩,hb5⟩;replace T:BX w w5 w.heap.size 28 _:=T.drew.nx hb5;replace HN1:=hHi (HN1.out.drew.after hb5);have HN2:=hHi hi2;clear hb5 hi2))
  all_goals go_wp2_with fail
  all_goals go_meet
  all_goals exact ⟨_,_,_,_,rfl,rfl,HN1.out,HN2.out,T⟩
 case rest=>
 obtain⟨va,vc,vb,vd,rfl,rfl,hn1,hn2,hT⟩:=hcut
 obtain⟨wa,hwa⟩:∃q,q=wc:=⟨_,rfl⟩
 subst hwa
 obtain⟨NS,hNS⟩:∃n,S.length=n:=⟨_,rfl⟩
 obtain⟨NU,hNU⟩:∃n,(F s).length=n:=⟨_,rfl⟩
 have HNS:=hHi hNS
 have HNU:=hHi hNU
 have hnu:NU≤400:=by rw[←hNU];exact HFL.out s
 have hns:NS≤400:=by rw[←hNS];exact HSL.out
 rw[hNS] at hn1 ⊢
 rw[hNU] at hn2 ⊢
 have HN1:=hHi hn1
 have HN2:=hHi hn2
 have HTC:=hHi hT
 clear hn1 hn2 hT hNS hNU
 go_wp2
 go_loopw[7] (fun iv W=>∃k:Nat,k≤NU∧iv=.int .i64 k∧Below wa.heap.size wa W) (fun iv _=>NU-(intOf iv).toNat)
 case atStart=>exact ⟨0,Nat.zero_le _,rfl,Below.refl _ _⟩
 case round=>
  obtain⟨k,hk,rfl,hB⟩:=hrel
  obtain⟨wo,hwo⟩:∃q,q=wr:=⟨_,rfl⟩
  subst hwo
  have HB:=hHi hB
  have HTO:=hHi (HTC.out.nx hB)
  clear hB
  by_cases hlt:k<NU
  case pos=>
   obtain⟨x,hx⟩:∃x,(F s)[k]?=some x:=⟨(F s)[k]'(by rw[HNU.out];exact hlt),by simp⟩
   have HXM:=hHi (List.mem_of_getElem? hx)
   obtain⟨g,cap,e1,_,hg,hc⟩:=names_cell (l:=F s) (v:=.slice vb (F s).length vd) (by rw[HNU.out];exact HN2.out.after HB.out) hx
   obtain⟨e1,-,-⟩:=Value.slice.inj e1
   subst e1
   have hltI:(k:Int)<NU:=by omega
   have HXZ:Hid (x.size≤maxLen):=HNZ.out x ((HFM.out s x).1 HXM.out).1
   have HCW:Hid (∀W,Below wo.heap.size wo W→W.cell? ⟨g,k,none⟩=some (.string x)):=fun W hb=>(hb.cell (p:=⟨g,k,none⟩) hg).trans hc
   clear hx hc hg
   go_wp2
   go_cut [8] from 21 to 45 (fun s8 wx=>∃va vc,s8=.slice va (F x).length vc∧NamesAt wx w.heap.size (F x) (.slice va (F x).length vc)∧BX wo wx w.heap.size 28 #[.string d.start,.string d.layout,.slice a2 d.prods.length p2,.slice a3 d.chains.length p3,.slice a4 d.follows.length p4,.slice a5 d.rejects.length p5,.slice a6 d.boxes.length p6])
   case first=>
    have T:BX wo wo w.heap.size 28 #[.string d.start,.string d.layout,.slice a2 d.prods.length p2,.slice a3 d.chains.length p3,.slice a4 d.follows.length p4,.slice a5 d.rejects.length p5,.slice a6 d.boxes.length p6]:=⟨Below.refl _ _,HTO.out.box⟩
    go_region_held3 (fun W=>W.cell? ⟨w.heap.size,0,none⟩=some (.string d.start)∧W.cell? ⟨w.heap.size,1,none⟩=some (.string d.layout)∧W.cell? ⟨w.heap.size,2,none⟩=some (.slice a2 d.prods.length p2)∧W.cell? ⟨w.heap.size,3,none⟩=some (.slice a3 d.chains.length p3)∧W.cell? ⟨w.heap.size,4,none⟩=some (.slice a4 d.follows.length p4)∧W.cell? ⟨w.heap.size,5,none⟩=some (.slice a5 d.rejects.length p5)∧W.cell? ⟨w.heap.size,6,none⟩=some (.slice a6 d.boxes.length p6)∧W.cell? ⟨g,k,none⟩=some (.string x)) (first | exact c7x T.box (HCW.out _ T.bel) | exact c7x T.drew.box (HCW.out _ T.drew.bel)) (first | (go_at_call 22;refine (HUS.out _ x (below_tr HTO.out.bel T.bel) HXZ.out).mono ?_;rintro e w5 ⟨⟨va2,vc2,rfl,hi2⟩,hb5⟩;replace T:BX wo w5 w.heap.size 28 _:=T.nx hb5;have HN3:=hHi hi2;clear hb5 hi2) | (go_at_call 22;refine (HUS.out _ x (below_tr HTO.out.bel T.drew.bel) HXZ.out).mono ?_;rintro e w5 ⟨⟨va2,vc2,rfl,hi2⟩,hb5⟩;replace T:BX wo w5 w.heap.size 28 _:=T.drew.nx hb5;have HN3:=hHi hi2;clear hb5 hi2))
    all_goals go_wp2_with fail
    all_goals go_meet
    all_goals exact ⟨_,_,rfl,HN3.out,T⟩
   case rest=>
   obtain⟨vx,vy,rfl,hnx,hTX⟩:=hcut
   obtain⟨wx,hwx⟩:∃q,q=wc:=⟨_,rfl⟩
   subst hwx
   obtain⟨NM,hNM⟩:∃n,(F x).length=n:=⟨_,rfl⟩
   have HNM:=hHi hNM
   have hnm:NM≤400:=by rw[←hNM];exact HFL.out x
   rw[hNM] at hnx ⊢
   have HNX:=hHi hnx
   have HTX:=hHi hTX
   clear hnx hTX hNM
   go_wp2
   go_loopw[9] (fun jv W=>∃j:Nat,j≤NM∧jv=.int .i64 j∧Below wx.heap.size wx W) (fun jv _=>NM-(intOf jv).toNat)
   case atStart=>exact ⟨0,Nat.zero_le _,rfl,Below.refl _ _⟩
   case round=>
    obtain⟨j,hj,rfl,hBj⟩:=hrel
    have HBJ:=hHi hBj
    have HBW:Hid (Below wa.heap.size wa wr):=below_tr HB.out (below_tr HTX.out.bel hBj)
    clear hBj
    by_cases hjl:j<NM
    ·obtain⟨y,hy⟩:∃y,(F x)[j]?=some y:=⟨(F x)[j]'(by rw[HNM.out];exact hjl),by simp⟩
     have HYM:=hHi (List.mem_of_getElem? hy)
     obtain⟨g2,cap2,e2,_,hg2,hc2⟩:=names_cell (l:=F x) (v:=.slice vx (F x).length vy) (by rw[HNM.out];exact HNX.out.after HBJ.out) hy
     obtain⟨e2,-,-⟩:=Value.slice.inj e2
     subst e2
     have hjI:(j:Int)<NM:=by omega
     have HIN:Hid (y∈F s):=(HFM.out s y).2 ⟨((HFM.out x y).1 HYM.out).1,((HFM.out s x).1 HXM.out).2.trans ((HFM.out x y).1 HYM.out).2⟩
     have HC:=hU (in30_any (F s) (.slice (some ⟨g,0,none⟩) NU vd) y _ wr (HN2.out.after HBW.out) (by rw[HNU.out];omega))
     rw[decide_eq_true HIN.out] at HC
     clear hy hg2
     go_wp2_with fail
     refine hMo HC ?_
     rintro e w5 ⟨rfl,hw⟩
     have hw:=hw.symm
     subst hw
     clear HC hc2
     go_wp2
     go_roundw
     case rel=>exact ⟨j+1,by omega,by go_num,HBJ.out⟩
     case measure=>simp[intOf];omega
    ·obtain rfl:j=NM:=by omega
     go_wp2
     go_roundw
     case rel=>exact ⟨k+1,by omega,by go_num,HBW.out⟩
     case measure=>simp[intOf];omega
  obtain rfl:NU=k:=by omega
  obtain⟨N,hLN⟩:∃N,d.prods.length=N:=⟨_,rfl⟩
  have HLN:=hHi hLN
  rw[hLN] at hz72
  have hBX:=HTO.out.box
  rw[hLN] at hBX
  have HBX:=hHi hBX
  clear hBX hLN
  obtain⟨d0,d1,d2,d3,d4,d5,d6⟩:=HBX.out.c7
  go_wp2
  go_loopw[10] (fun iv W=>∃k:Nat,k≤N∧iv=.int .i64 k∧W=wo) (fun iv _=>N-(intOf iv).toNat)
  case atStart=>exact ⟨0,Nat.zero_le _,rfl,rfl⟩
  case round=>
   obtain⟨k,hk,rfl,hW⟩:=hrel
   subst hW
   by_cases hlt:k<N
   case pos=>
    obtain⟨p,hp⟩:∃p,d.prods[k]?=some p:=⟨d.prods[k]'(by rw[HLN.out];exact hlt),by simp⟩
    obtain⟨b,o,us,hb,hlb,hus,hc⟩:=HR1.out k p hp
    obtain⟨v,rfl,a7,p7,rfl,hl8,hl7,hv7⟩:=hus
    subst hb
    have HPM:=hHi (List.mem_of_getElem? hp)
    have hq_:=hcb HTO.out.bel hlb hc
    have s1:=hq_ 1 _ rfl
    have s4:=hq_ 4 _ rfl
    have hltI:(k:Int)<N:=by omega
    obtain⟨K,hK⟩:∃K,p.syms.length=K:=⟨_,rfl⟩
    have HK:=hHi hK
    have HSY:=hHi hv7
    rw[hK] at s4 hl8 hl7
    clear hq_ hc hp hv7 hK
    go_wp2
    go_loopw[11] (fun jv W=>∃j:Nat,j≤K∧jv=.int .i64 j∧W=wr) (fun jv _=>K-(intOf jv).toNat)
    case atStart=>exact ⟨0,Nat.zero_le _,rfl,rfl⟩
    case round=>
     obtain⟨j,hj,rfl,hW⟩:=hrel
     subst hW
     by_cases hjl:j<K
     ·have hjI:(j:Int)<K:=by omega
      by_cases hps:p.sort=s
      ·have hnb:(p.sort.toList==s.toList)=true:=by rw[tl_beq];simp[hps]
       have HPS:=hHi hps
       obtain⟨y,hy⟩:∃y,p.syms[j]?=some y:=⟨p.syms[j]'(by rw[HK.out];exact hjl),by simp⟩
       obtain⟨by',oy,uy,hby,hlby,⟨_,rfl⟩,hcy⟩:=HSY.out j y hy
       subst hby
       have HMY:=hHi (List.mem_of_getElem? hy)
       have s6:=hcb HTO.out.bel hlby hcy 6 _ rfl
       clear hps hcy hy
       rcases emp_no y.name with ⟨hne,hd⟩|⟨hne,hd⟩
       ·clear hne
        go_wp2
        go_roundw
        case rel=>exact ⟨j+1,by omega,by go_num,trivial⟩
        case measure=>simp[intOf];omega
       ·have HNE:=hHi hne
        clear hne
        have HC1:=hU (in30_any S (.slice va NS vc) y.name _ wr (HN1.out.after HB.out) (by rw[HNS.out];omega))
        by_cases hin:y.name∈S
        ·have HIN:Hid (y.name∈F s):=(HFM.out s y.name).2 ⟨hin,.one ⟨p,HPM.out,HPS.out,by
          unfold leadsN
          exact List.mem_filter.2 ⟨List.mem_map.2 ⟨y,HMY.out,rfl⟩,by simpa using HNE.out⟩⟩⟩
         have HC2:=hU (in30_any (F s) (.slice vb NU vd) y.name _ wr (HN2.out.after HB.out) (by rw[HNU.out];omega))
         rw[decide_eq_true hin] at HC1
         rw[decide_eq_true HIN.out] at HC2
         clear hin
         go_wp2_with fail
         refine hMo HC1 ?_
         rintro e w5 ⟨rfl,hw⟩
         have hw:=hw.symm
         subst hw
         clear HC1
         go_wp2_with fail
         refine hMo HC2 ?_
         rintro e w5 ⟨rfl,hw⟩
         have hw:=hw.symm
         subst hw
         clear HC2
         go_wp2
         go_roundw
         case rel=>exact ⟨j+1,by omega,by go_num,trivial⟩
         case measure=>simp[intOf];omega
        ·rw[decide_eq_false hin] at HC1
         clear hin
         go_wp2_with fail
         refine hMo HC1 ?_
         rintro e w5 ⟨rfl,hw⟩
         have hw:=hw.symm
         subst hw
         clear HC1
         go_wp2
         go_roundw
         case rel=>exact ⟨j+1,by omega,by go_num,trivial⟩
         case measure=>simp[intOf];omega
      ·have hnb:(p.sort.toList==s.toList)=false:=by rw[tl_beq];simp[hps]
       clear hps
       go_wp2
       go_roundw
       case rel=>exact ⟨k+1,by omega,by go_num,trivial⟩
       case measure=>simp[intOf];omega
     ·obtain rfl:j=K:=by omega
      go_wp2
      go_roundw
      case rel=>exact ⟨k+1,by omega,by go_num,trivial⟩
      case measure=>simp[intOf];omega
   obtain rfl:k=N:=by omega
   go_wp2_with fail
   refine hMo (hU (HA.out () wr)) ?_
   rintro e w3 ⟨rfl,hb⟩
   have HB3:=hHi (HTO.out.bel.trans (hb.mono HTO.out.bel.size))
   clear hb
   go_wp2
   go_ret
   exact ⟨rfl,HB3.out⟩
end Go.Proofs.YtilpgpcgcpedjaaGreat
