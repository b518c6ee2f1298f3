/- The document's lists of lexical sorts and of what a sort uses. -/
import Derived.Test.YtilpgpcgcpedjaaGreatOb
import Derived.Test.YtilpgpcgcpedjaaGreatNg
import Derived.Test.YtilpgpcgcpedjaaGreatKv
namespace Go.Proofs.YtilpgpcgcpedjaaGreat
open Go.RowKit
set_option linter.unusedVariables false
set_option linter.unusedSimpArgs false
set_option maxRecDepth 100000
set_option maxHeartbeats 16000000
theorem c7y {W:World} {b:Nat} {t:TypeId} {v0 v1 v2 v3 v4 v5 v6 u:Value} {q:Addr} (h:Blk W b t #[v0,v1,v2,v3,v4,v5,v6]) (hc:W.cell? q=some u):W.cell? ⟨b,0,none⟩=some v0∧W.cell? ⟨b,1,none⟩=some v1∧W.cell? ⟨b,2,none⟩=some v2∧W.cell? ⟨b,3,none⟩=some v3∧W.cell? ⟨b,4,none⟩=some v4∧W.cell? ⟨b,5,none⟩=some v5∧W.cell? ⟨b,6,none⟩=some v6∧W.cell? q=some u:=⟨h.c7.1,h.c7.2.1,h.c7.2.2.1,h.c7.2.2.2.1,h.c7.2.2.2.2.1,h.c7.2.2.2.2.2.1,h.c7.2.2.2.2.2.2,hc⟩
theorem srt_le3 {d:Df} (h:lists d≤400∧symsN d.prods≤400):(srt d.prods).length≤400:=by
 have:=srt_len d.prods
 have h1:=h.1
 unfold lists at h1
 omega
theorem filt_snoc {α:Type} (f:α→Bool) {l:List α} {k:Nat} {x:α} (hx:l[k]?=some x):(l.take (k+1)).filter f=if f x then (l.take k).filter f++[x] else (l.take k).filter f:=by
 rw[take_snoc' hx,List.filter_append,List.filter_cons]
 cases f x<;>simp
theorem rlexical_any (d:Df) (vs:List Value) (w:World) (h:DO w d vs) (hq:lists d≤400∧symsN d.prods≤400):
  Calls Tryz.prog 21 #[.agg ⟨vs⟩] w fun e w'=>(∃va vc,e=.returned (.slice va (sthat (lexd d.prods) d.prods).length vc)∧NamesAt w' w.heap.size (sthat (lexd d.prods) d.prods) (.slice va (sthat (lexd d.prods) d.prods).length vc))∧Below w.heap.size w w':=by
 have HDO:=hHi h
 obtain⟨a2,p2,a3,p3,a4,p4,a5,p5,a6,p6,rfl,_⟩:=h.form
 have HQL:=hHi (srt_le3 hq)
 obtain⟨S,hS⟩:∃S,srt d.prods=S:=⟨_,rfl⟩
 have HS:=hHi hS
 have HSO:Hid (∀W,Below w.heap.size w W→Calls Tryz.prog 19 #[.agg #[.string d.start,.string d.layout,.slice a2 d.prods.length p2,.slice a3 d.chains.length p3,.slice a4 d.follows.length p4,.slice a5 d.rejects.length p5,.slice a6 d.boxes.length p6]] W fun e w'=>(∃va vc,e=.returned (.slice va S.length vc)∧NamesAt w' w.heap.size S (.slice va S.length vc))∧Below W.heap.size W w'):=fun W hb=>by rw[←hS];exact (rsorts_any d _ W (HDO.out.nx hb)).mono (fun e w' ⟨⟨va,vc,he,hn⟩,hb'⟩=>⟨⟨va,vc,he,⟨row_mono hn.row hb.size⟩⟩,hb'⟩)
 obtain⟨i0,hi,hz0,hz1,hz2⟩:=info_parts info9
 obtain⟨w0,hw0⟩:∃qW,w.alloc (.cells #[.string d.start,.string d.layout,.slice a2 d.prods.length p2,.slice a3 d.chains.length p3,.slice a4 d.follows.length p4,.slice a5 d.rejects.length p5,.slice a6 d.boxes.length p6] 28)=qW:=⟨_,rfl⟩
 have T:BX w w0 w.heap.size 28 #[.string d.start,.string d.layout,.slice a2 d.prods.length p2,.slice a3 d.chains.length p3,.slice a4 d.follows.length p4,.slice a5 d.rejects.length p5,.slice a6 d.boxes.length p6]:=⟨(kB hw0).out,(kN hw0).out⟩
 have HT:=hHi T
 clear T
 have HLO:Hid (∀W x,Below w.heap.size w W→Calls Tryz.prog 62 #[.agg #[.string d.start,.string d.layout,.slice a2 d.prods.length p2,.slice a3 d.chains.length p3,.slice a4 d.follows.length p4,.slice a5 d.rejects.length p5,.slice a6 d.boxes.length p6],.string x,.bool true] W fun e w'=>e=.returned (.bool (lexd d.prods x))∧Below W.heap.size W w'):=fun W x hb=>by rw[←isL_true];exact rislex_any d _ x true W (HDO.out.nx hb)
 obtain⟨f,hf⟩:∃f:ByteArray→Bool,lexd d.prods=f:=⟨_,rfl⟩
 have HSL:Hid (S.length≤400):=by show _≤_;rw[←hS];exact HQL.out
 rw[hf] at HLO ⊢
 have HRS:Hid (sthat f d.prods=S.filter f):=by show _=_;rw[←hS];rfl
 rw[HRS.out]
 clear hS hf HRS h hq
 go_enter Tryz.func21,Tryz.ntmps21
 obtain⟨d0,d1,d2,d3,d4,d5,d6⟩:=HT.out.box.c7
 go_wp2_with fail
 refine hMo (hU (HSO.out _ HT.out.bel)) ?_
 rintro e w1 ⟨⟨va,vc,rfl,hn⟩,hb⟩
 replace HT:=hHi (HT.out.nx hb)
 have HN:=hHi hn
 obtain⟨NS,hNS⟩:∃n,S.length=n:=⟨_,rfl⟩
 have HNS:=hHi hNS
 have hns:NS≤400:=by rw[←hNS];exact HSL.out
 rw[hNS] at HN ⊢
 clear hn hb hNS d0 d1 d2 d3 d4 d5 d6
 go_wp2
 go_loopw[3,5] (fun ov iv W=>∃(k:Nat) (vo:Option Addr) (vp:Nat),k≤NS∧iv=.int .i64 k∧ov=.slice vo ((S.take k).filter f).length vp∧NamesAt W w1.heap.size ((S.take k).filter f) (.slice vo ((S.take k).filter f).length vp)∧Below w1.heap.size w1 W) (fun _ iv _=>NS-(intOf iv).toNat)
 case atStart=>exact ⟨0,none,0,Nat.zero_le _,rfl,rfl,⟨World.ownsRow_nil _ _ _ _⟩,Below.refl _ _⟩
 case round=>
  obtain⟨k,vo,vp,hk,rfl,rfl,hO,hB⟩:=hrel
  have HO:=hHi hO
  have HB:=hHi hB
  have HTR:=hHi (HT.out.nx hB)
  have HOL:Hid (((S.take k).filter f).length≤400):=Nat.le_trans (List.length_filter_le _ _) (by rw[List.length_take,HNS.out];omega)
  clear hO hB
  by_cases hlt:k<NS
  case pos=>
   obtain⟨x,hx⟩:∃x,S[k]?=some x:=⟨S[k]'(by rw[HNS.out];exact hlt),by simp⟩
   have HFS:=hHi (filt_snoc f hx)
   obtain⟨g,cap,e1,_,hg,hc⟩:=names_cell (l:=S) (v:=.slice va S.length vc) (by rw[HNS.out];exact HN.out.after HB.out) hx
   obtain⟨e1,-,-⟩:=Value.slice.inj e1
   subst e1
   have hltI:(k:Int)<NS:=by omega
   have HCW:Hid (∀W,Below wr.heap.size wr W→W.cell? ⟨g,k,none⟩=some (.string x)):=fun W hb=>(hb.cell (p:=⟨g,k,none⟩) hg).trans hc
   obtain⟨r,hr⟩:∃r,f x=r:=⟨_,rfl⟩
   have HLX:Hid (∀W,Below w.heap.size w W→Calls Tryz.prog 62 #[.agg #[.string d.start,.string d.layout,.slice a2 d.prods.length p2,.slice a3 d.chains.length p3,.slice a4 d.follows.length p4,.slice a5 d.rejects.length p5,.slice a6 d.boxes.length p6],.string x,.bool true] W fun e w'=>e=.returned (.bool r)∧Below W.heap.size W w'):=fun W hb=>by rw[←hr];exact HLO.out W x hb
   rw[hr] at HFS
   clear hx hc hg hr
   obtain⟨OUT,hOUT⟩:∃l,(S.take k).filter f=l:=⟨_,rfl⟩
   rw[hOUT] at HFS HO HOL ⊢
   clear hOUT
   have T:BX wr wr w.heap.size 28 #[.string d.start,.string d.layout,.slice a2 d.prods.length p2,.slice a3 d.chains.length p3,.slice a4 d.follows.length p4,.slice a5 d.rejects.length p5,.slice a6 d.boxes.length p6]:=⟨Below.refl _ _,HTR.out.box⟩
   cases r with
   | false=>
    go_wp2
    go_region_held3 (fun W=>W.cell? ⟨w.heap.size,0,none⟩=some (.string d.start)∧W.cell? ⟨w.heap.size,1,none⟩=some (.string d.layout)∧W.cell? ⟨w.heap.size,2,none⟩=some (.slice a2 d.prods.length p2)∧W.cell? ⟨w.heap.size,3,none⟩=some (.slice a3 d.chains.length p3)∧W.cell? ⟨w.heap.size,4,none⟩=some (.slice a4 d.follows.length p4)∧W.cell? ⟨w.heap.size,5,none⟩=some (.slice a5 d.rejects.length p5)∧W.cell? ⟨w.heap.size,6,none⟩=some (.slice a6 d.boxes.length p6)∧W.cell? ⟨g,k,none⟩=some (.string x)) (first | exact c7y T.box (HCW.out _ T.bel) | exact c7y T.drew.box (HCW.out _ T.drew.bel)) (first | (go_at_call 62;refine (HLX.out _ (below_tr HTR.out.bel T.bel)).mono ?_;rintro e w5 ⟨rfl,hb5⟩;replace T:BX wr w5 w.heap.size 28 _:=T.nx hb5;clear hb5) | (go_at_call 62;refine (HLX.out _ (below_tr HTR.out.bel T.drew.bel)).mono ?_;rintro e w5 ⟨rfl,hb5⟩;replace T:BX wr w5 w.heap.size 28 _:=T.drew.nx hb5;clear hb5))
    all_goals
     have HE:Hid ((S.take (k+1)).filter f=OUT):=HFS.out
     go_wp2
     go_roundw
     case rel=>exact ⟨k+1,vo,vp,by omega,by go_num,by rw[HE.out],by rw[HE.out];exact HO.out.after T.bel,below_tr HB.out T.bel⟩
     case measure=>simp[intOf];omega
   | true=>
    go_wp2
    go_region_held3 (fun W=>W.cell? ⟨w.heap.size,0,none⟩=some (.string d.start)∧W.cell? ⟨w.heap.size,1,none⟩=some (.string d.layout)∧W.cell? ⟨w.heap.size,2,none⟩=some (.slice a2 d.prods.length p2)∧W.cell? ⟨w.heap.size,3,none⟩=some (.slice a3 d.chains.length p3)∧W.cell? ⟨w.heap.size,4,none⟩=some (.slice a4 d.follows.length p4)∧W.cell? ⟨w.heap.size,5,none⟩=some (.slice a5 d.rejects.length p5)∧W.cell? ⟨w.heap.size,6,none⟩=some (.slice a6 d.boxes.length p6)∧W.cell? ⟨g,k,none⟩=some (.string x)) (first | exact c7y T.box (HCW.out _ T.bel) | exact c7y T.drew.box (HCW.out _ T.drew.bel)) (first | (go_at_call 62;refine (HLX.out _ (below_tr HTR.out.bel T.bel)).mono ?_;rintro e w5 ⟨rfl,hb5⟩;replace T:BX wr w5 w.heap.size 28 _:=T.nx hb5;have HW5:=hHi (rfl:w5=w5);clear hb5) | (go_at_call 62;refine (HLX.out _ (below_tr HTR.out.bel T.drew.bel)).mono ?_;rintro e w5 ⟨rfl,hb5⟩;replace T:BX wr w5 w.heap.size 28 _:=T.drew.nx hb5;have HW5:=hHi (rfl:w5=w5);clear hb5))
    all_goals
     have HE:Hid ((S.take (k+1)).filter f=OUT++[x]):=HFS.out
     have HCX:=HCW.out _ T.bel
     have HO5:=hHi (HO.out.after T.bel)
     have HB5:=hHi (below_tr HB.out T.bel)
     clear T HTR HCW
     have HROW:=hU HO5.out.row
     have HOB:Hid (∀b,(Value.slice vo (OUT).length vp).ownBlock=some b→w1.heap.size≤b∧b<w5.heap.size):=fun b hb=>by have:=HO5.out.row.lt b hb;omega
     have h16:((OUT).length+1)*16≤140737488355328:=by have:=HOL.out;omega
     go_wp2_with (at_builtin;refine wpList_append_lies _ rfl _ _ 36 rfl (w1.heap.size) 9 i0 _ 1 16 Tryz.underlying36 hi hz0 hz1 hz2 rfl (by decide) (.slice vo (OUT).length vp) (OUT).length (ncells (OUT)) rfl ((HROW.out ()).alloc _) ⟨w5.heap.size,0,none⟩ 1 1 [.string x] rfl rfl ?ca1 ?ca2 (by decide) ?ca3 ?ca4 ?ca5 (w5.heap.size+1) (by simp) ?_)
     case ca1=>exact new_cells _ _ [.string x]
     case ca2=>intro u hu;simp at hu;subst hu;rfl
     case ca3=>unfold maxLen;omega
     case ca4=>exact h16
     case ca5=>have:=HB5.out.size;simp;omega
     intro g1 cap1 w7 hown hgrow hat hlt7
     have HI5:Hid (NamesAt w7 (w1.heap.size) (OUT++[x]) (.slice (some ⟨g1,0,none⟩) (OUT++[x]).length cap1)):=by show NamesAt _ _ _ _;rw[List.length_append];exact ⟨by simpa [ncells] using hown⟩
     have HB7:Hid (Below w1.heap.size w1 w7):=HB5.out.trans (((Below.refl _ _).alloc HB5.out.size _).trans (belO hgrow (fun b hb=>(HOB.out b hb).1) (by have:=HB5.out.size;simp;omega)))
     clear hown hgrow hat hlt7
     clear HCX
     go_wp2
     go_roundw
     case rel=>exact ⟨k+1,_,_,by omega,by go_num,by rw[HE.out,List.length_append];rfl,by rw[HE.out];exact HI5.out,HB7.out⟩
     case measure=>simp[intOf];omega
  obtain rfl:NS=k:=by omega
  have HEE:Hid (S.take NS=S):=List.take_of_length_le (by rw[HNS.out];exact Nat.le_refl _)
  go_wp2
  go_ret
  rw[HEE.out] at HO ⊢
  exact ⟨⟨vo,vp,rfl,⟨row_mono HO.out.row HT.out.bel.size⟩⟩,below_tr HT.out.bel HB.out⟩
theorem ruses_any (d:Df) (vs:List Value) (s:ByteArray) (w:World) (h:DO w d vs) (hq:lists d≤400∧symsN d.prods≤400):
  Calls Tryz.prog 23 #[.agg ⟨vs⟩,.string s] w fun e w'=>(∃va vc,e=.returned (.slice va (sthat (farB d.prods leadsN s) d.prods).length vc)∧NamesAt w' w.heap.size (sthat (farB d.prods leadsN s) d.prods) (.slice va (sthat (farB d.prods leadsN s) d.prods).length vc))∧Below w.heap.size w w':=by
 have HDO:=hHi h
 obtain⟨a2,p2,a3,p3,a4,p4,a5,p5,a6,p6,rfl,_⟩:=h.form
 have HQL:=hHi (srt_le3 hq)
 obtain⟨S,hS⟩:∃S,srt d.prods=S:=⟨_,rfl⟩
 have HS:=hHi hS
 have HSO:Hid (∀W,Below w.heap.size w W→Calls Tryz.prog 19 #[.agg #[.string d.start,.string d.layout,.slice a2 d.prods.length p2,.slice a3 d.chains.length p3,.slice a4 d.follows.length p4,.slice a5 d.rejects.length p5,.slice a6 d.boxes.length p6]] W fun e w'=>(∃va vc,e=.returned (.slice va S.length vc)∧NamesAt w' w.heap.size S (.slice va S.length vc))∧Below W.heap.size W w'):=fun W hb=>by rw[←hS];exact (rsorts_any d _ W (HDO.out.nx hb)).mono (fun e w' ⟨⟨va,vc,he,hn⟩,hb'⟩=>⟨⟨va,vc,he,⟨row_mono hn.row hb.size⟩⟩,hb'⟩)
 obtain⟨i0,hi,hz0,hz1,hz2⟩:=info_parts info9
 obtain⟨w0,hw0⟩:∃qW,w.alloc (.cells #[.string d.start,.string d.layout,.slice a2 d.prods.length p2,.slice a3 d.chains.length p3,.slice a4 d.follows.length p4,.slice a5 d.rejects.length p5,.slice a6 d.boxes.length p6] 28)=qW:=⟨_,rfl⟩
 have T:BX w w0 w.heap.size 28 #[.string d.start,.string d.layout,.slice a2 d.prods.length p2,.slice a3 d.chains.length p3,.slice a4 d.follows.length p4,.slice a5 d.rejects.length p5,.slice a6 d.boxes.length p6]:=⟨(kB hw0).out,(kN hw0).out⟩
 have HT:=hHi T
 clear T
 have HFO:Hid (∀W,Below w.heap.size w W→Calls Tryz.prog 67 #[.agg #[.string d.start,.string d.layout,.slice a2 d.prods.length p2,.slice a3 d.chains.length p3,.slice a4 d.follows.length p4,.slice a5 d.rejects.length p5,.slice a6 d.boxes.length p6],.string s,.bool false] W fun e w'=>(∃va vc M,e=.returned (.slice va M.length vc)∧NamesAt w' W.heap.size M (.slice va M.length vc)∧(∀x,x∈M↔Far d.prods leadsN s x)∧M.length≤1000000)∧Below W.heap.size W w'):=fun W hb=>rfar_any d _ s W (HDO.out.nx hb) (by have:=hq.2;omega)
 have HSL:Hid (S.length≤400):=by show _≤_;rw[←hS];exact HQL.out
 obtain⟨f,hf⟩:∃f:ByteArray→Bool,farB d.prods leadsN s=f:=⟨_,rfl⟩
 have HFF:Hid (∀x,f x=true↔Far d.prods leadsN s x):=fun x=>by rw[←hf];exact farB_iff
 rw[hf]
 have HRS:Hid (sthat f d.prods=S.filter f):=by show _=_;rw[←hS];rfl
 rw[HRS.out]
 clear hS hf HRS h hq
 go_enter Tryz.func23,Tryz.ntmps23
 obtain⟨d0,d1,d2,d3,d4,d5,d6⟩:=HT.out.box.c7
 go_wp2_with fail
 refine hMo (hU (HFO.out _ HT.out.bel)) ?_
 rintro e w2 ⟨⟨vm,vn,M,rfl,hm,hfm,hml⟩,hb⟩
 replace HT:=hHi (HT.out.nx hb)
 have HM:=hHi hm
 have HFM:=hHi hfm
 obtain⟨NM,hNM⟩:∃n,M.length=n:=⟨_,rfl⟩
 have HNM:=hHi hNM
 rw[hNM] at HM hml ⊢
 clear hm hfm hb hNM d0 d1 d2 d3 d4 d5 d6
 obtain⟨d0,d1,d2,d3,d4,d5,d6⟩:=HT.out.box.c7
 go_wp2_with fail
 refine hMo (hU (HSO.out _ HT.out.bel)) ?_
 rintro e w1 ⟨⟨va,vc,rfl,hn⟩,hb⟩
 replace HT:=hHi (HT.out.nx hb)
 replace HM:=hHi (HM.out.after hb)
 have HN:=hHi hn
 obtain⟨NS,hNS⟩:∃n,S.length=n:=⟨_,rfl⟩
 have HNS:=hHi hNS
 have hns:NS≤400:=by rw[←hNS];exact HSL.out
 rw[hNS] at HN ⊢
 clear hn hb hNS d0 d1 d2 d3 d4 d5 d6
 go_wp2
 go_loopw[5,8] (fun ov iv W=>∃(k:Nat) (vo:Option Addr) (vp:Nat),k≤NS∧iv=.int .i64 k∧ov=.slice vo ((S.take k).filter f).length vp∧NamesAt W w1.heap.size ((S.take k).filter f) (.slice vo ((S.take k).filter f).length vp)∧Below w1.heap.size w1 W) (fun _ iv _=>NS-(intOf iv).toNat)
 case atStart=>exact ⟨0,none,0,Nat.zero_le _,rfl,rfl,⟨World.ownsRow_nil _ _ _ _⟩,Below.refl _ _⟩
 case round=>
  obtain⟨k,vo,vp,hk,rfl,rfl,hO,hB⟩:=hrel
  have HO:=hHi hO
  have HB:=hHi hB
  have HOL:Hid (((S.take k).filter f).length≤400):=Nat.le_trans (List.length_filter_le _ _) (by rw[List.length_take,HNS.out];omega)
  clear hO hB
  by_cases hlt:k<NS
  case pos=>
   obtain⟨x,hx⟩:∃x,S[k]?=some x:=⟨S[k]'(by rw[HNS.out];exact hlt),by simp⟩
   have HFS:=hHi (filt_snoc f hx)
   obtain⟨g,cap,e1,_,hg,hc⟩:=names_cell (l:=S) (v:=.slice va S.length vc) (by rw[HNS.out];exact HN.out.after HB.out) hx
   obtain⟨e1,-,-⟩:=Value.slice.inj e1
   subst e1
   have hltI:(k:Int)<NS:=by omega
   have HC:=hU (in60_any M (.slice vm NM vn) x _ wr (HM.out.after HB.out) (by rw[HNM.out];omega))
   have HRX:Hid (decide (x∈M)=f x):=by
    show _=_
    cases hx:f x with
    | true=>exact decide_eq_true ((HFM.out x).2 ((HFF.out x).1 hx))
    | false=>exact decide_eq_false (fun h=>by have:=(HFF.out x).2 ((HFM.out x).1 h);rw[hx] at this;cases this)
   rw[HRX.out] at HC
   obtain⟨r,hr⟩:∃r,f x=r:=⟨_,rfl⟩
   rw[hr] at HFS HC
   clear hx hg hr HRX
   obtain⟨OUT,hOUT⟩:∃l,(S.take k).filter f=l:=⟨_,rfl⟩
   rw[hOUT] at HFS HO HOL ⊢
   clear hOUT
   cases r with
   | false=>
    have HE:Hid ((S.take (k+1)).filter f=OUT):=HFS.out
    go_wp2_with fail
    refine hMo HC ?_
    rintro e w5 ⟨rfl,hw⟩
    have hw:=hw.symm
    subst hw
    clear HC
    go_wp2
    go_roundw
    case rel=>exact ⟨k+1,vo,vp,by omega,by go_num,by rw[HE.out],by rw[HE.out];exact HO.out,HB.out⟩
    case measure=>simp[intOf];omega
   | true=>
    have HE:Hid ((S.take (k+1)).filter f=OUT++[x]):=HFS.out
    go_wp2_with fail
    refine hMo HC ?_
    rintro e w5 ⟨rfl,hw⟩
    have hw:=hw.symm
    subst hw
    clear HC
    have HROW:=hU HO.out.row
    have HOB:Hid (∀b,(Value.slice vo (OUT).length vp).ownBlock=some b→w1.heap.size≤b∧b<wr.heap.size):=fun b hb=>by have:=HO.out.row.lt b hb;omega
    have h16:((OUT).length+1)*16≤140737488355328:=by have:=HOL.out;omega
    go_wp2_with (at_builtin;refine wpList_append_lies _ rfl _ _ 36 rfl (w1.heap.size) 9 i0 _ 1 16 Tryz.underlying36 hi hz0 hz1 hz2 rfl (by decide) (.slice vo (OUT).length vp) (OUT).length (ncells (OUT)) rfl ((HROW.out ()).alloc _) ⟨wr.heap.size,0,none⟩ 1 1 [.string x] rfl rfl ?ca1 ?ca2 (by decide) ?ca3 ?ca4 ?ca5 (wr.heap.size+1) (by simp) ?_)
    case ca1=>exact new_cells _ _ [.string x]
    case ca2=>intro u hu;simp at hu;subst hu;rfl
    case ca3=>unfold maxLen;omega
    case ca4=>exact h16
    case ca5=>have:=HB.out.size;simp;omega
    intro g1 cap1 w7 hown hgrow hat hlt7
    have HI5:Hid (NamesAt w7 (w1.heap.size) (OUT++[x]) (.slice (some ⟨g1,0,none⟩) (OUT++[x]).length cap1)):=by show NamesAt _ _ _ _;rw[List.length_append];exact ⟨by simpa [ncells] using hown⟩
    have HB7:Hid (Below w1.heap.size w1 w7):=HB.out.trans (((Below.refl _ _).alloc HB.out.size _).trans (belO hgrow (fun b hb=>(HOB.out b hb).1) (by have:=HB.out.size;simp;omega)))
    clear hown hgrow hat hlt7
    clear hc
    go_wp2
    go_roundw
    case rel=>exact ⟨k+1,_,_,by omega,by go_num,by rw[HE.out,List.length_append];rfl,by rw[HE.out];exact HI5.out,HB7.out⟩
    case measure=>simp[intOf];omega
  obtain rfl:NS=k:=by omega
  have HEE:Hid (S.take NS=S):=List.take_of_length_le (by rw[HNS.out];exact Nat.le_refl _)
  go_wp2
  go_ret
  rw[HEE.out] at HO ⊢
  exact ⟨⟨vo,vp,rfl,⟨row_mono HO.out.row HT.out.bel.size⟩⟩,below_tr HT.out.bel HB.out⟩
end Go.Proofs.YtilpgpcgcpedjaaGreat
