/- Which sorts there are, which are lexical, which ones a sort uses, where a constructor stands: the law's walk. -/
import Derived.Test.YtilpgpcgcpedjaaGreatNf
import Derived.Test.YtilpgpcgcpedjaaGreatOc
import Derived.Test.YtilpgpcgcpedjaaGreatNh
import Derived.Deep.CutRange
namespace Go.Proofs.YtilpgpcgcpedjaaGreat
open Go.RowKit
set_option linter.unusedVariables false
set_option linter.unusedSimpArgs false
set_option maxRecDepth 100000
set_option maxHeartbeats 16000000
theorem names_sl {W:World} {lo:Nat} {l:List ByteArray} {v:Value} (h:NamesAt W lo l v) (hl:l.length≤140737488355328):Sl W W.heap.size 1 StrV l v:=by
 obtain⟨a,c,e,hc⟩:=own_cap h.row
 refine ⟨a,c,e,hc,hl,fun j x hj=>?_⟩
 obtain⟨g,cap,e1,_,hg,hcell⟩:=names_cell h hj
 rw[e] at e1
 obtain⟨e2,-,-⟩:=Value.slice.inj e1
 refine ⟨g,0,[.string x],e2,hg,rfl,fun i v hi=>?_⟩
 match i,hi with
 | 0,hi=>
  rw[←Option.some.inj hi,Nat.mul_one,Nat.zero_add]
  exact hcell
theorem same_names {W:World} {b1 b2:Nat} {l:List ByteArray} {v u:Value} (h1:NamesAt W b1 l v) (h2:NamesAt W b2 l u) (hl:l.length≤400):Calls Tryz.prog 18 #[v,u] W fun e w'=>e=.returned (.bool true)∧Below W.heap.size W w':=(rnames_same l l v u W (names_sl h1 (by omega)) (names_sl h2 (by omega))).mono (fun e w' ⟨he,hw⟩=>⟨by rw[he,eqD_self],below_dn hw⟩)
def Spl (W:World) (B NS:Nat) (va:Option Addr):Prop:=NS=0∨∃g cs,va=some ⟨g,0,none⟩∧Blk W g 9 cs∧NS≤cs.size∧B≤g
theorem spl_of {W:World} {B n c:Nat} {l:List ByteArray} {va:Option Addr} (h:NamesAt W B l (.slice va n c)):Spl W B n va:=by
 obtain⟨hl,⟨e,h0⟩|⟨g,cap,cur,e,hg,hh,hn,hcap,hsz,htk⟩⟩:=h.row
 ·cases e
  exact .inl rfl
 ·cases e
  exact .inr ⟨g,cur,rfl,hh,by omega,hg⟩
theorem lists_walk (d:Df) (vs:List Value) (s:ByteArray) (w:World) (h:DO w d vs) (hs:s.size≤maxLen):
  Calls Tryz.prog 4 #[.agg ⟨vs⟩,.string s] w fun e w'=>e=.returned (.bool true)∧Below w.heap.size w w':=by
 have HDO:=hHi h
 have HA:=hU (fun W=>alive_any W)
 obtain⟨a2,p2,a3,p3,a4,p4,a5,p5,a6,p6,rfl,r2,_⟩:=h.form
 obtain⟨f,hf⟩:=h.sz
 have hz72:=hf.p
 have HHV:Hid (∀W,Below w.heap.size w W→Calls Tryz.prog 11 #[.agg #[.string d.start,.string d.layout,.slice a2 d.prods.length p2,.slice a3 d.chains.length p3,.slice a4 d.follows.length p4,.slice a5 d.rejects.length p5,.slice a6 d.boxes.length p6]] W fun e w'=>(∃b,e=.returned (.bool b)∧(b=false→lists d≤400∧symsN d.prods≤400))∧Below W.heap.size W w'):=fun W hb=>heavy_any d _ W (HDO.out.nx hb)
 have HR1:=hHi r2
 have HSZ:=hHi hs
 clear hs
 obtain⟨w1,hw1⟩:∃qW,w.alloc (.cells #[.string d.start,.string d.layout,.slice a2 d.prods.length p2,.slice a3 d.chains.length p3,.slice a4 d.follows.length p4,.slice a5 d.rejects.length p5,.slice a6 d.boxes.length p6] 28)=qW:=⟨_,rfl⟩
 have T:BX w w1 w.heap.size 28 #[.string d.start,.string d.layout,.slice a2 d.prods.length p2,.slice a3 d.chains.length p3,.slice a4 d.follows.length p4,.slice a5 d.rejects.length p5,.slice a6 d.boxes.length p6]:=⟨(kB hw1).out,(kN hw1).out⟩
 have HT:=hHi T
 clear T r2 hf h
 go_enter Tryz.func4,Tryz.ntmps4
 obtain⟨d0,d1,d2,d3,d4,d5,d6⟩:=HT.out.box.c7
 go_wp2_with fail
 refine hMo (hU (HHV.out w1 HT.out.bel)) ?_
 rintro e w2 ⟨⟨b,rfl,hq⟩,hb⟩
 have HQ:=hHi hq
 replace HT:=hHi (HT.out.nx hb)
 clear hq hb d0 d1 d2 d3 d4 d5 d6 HHV hw1
 cases b with
 | true=>
  go_wp2_with fail
  refine hMo (hU (HA.out () w2)) ?_
  rintro e w3 ⟨rfl,hb⟩
  have HB3:=hHi (HT.out.bel.trans (hb.mono HT.out.bel.size))
  clear hb
  go_wp2
  go_ret
  exact ⟨rfl,HB3.out⟩
 | false=>
 have HFEW:Hid _:=hHi (HQ.out rfl)
 clear HQ
 obtain⟨S,hS⟩:∃S,srt d.prods=S:=⟨_,rfl⟩
 obtain⟨X,hX⟩:∃S,sthat (lexd d.prods) d.prods=S:=⟨_,rfl⟩
 obtain⟨U,hU⟩:∃S,sthat (farB d.prods leadsN s) d.prods=S:=⟨_,rfl⟩
 obtain⟨cI,hcI⟩:∃z,consI d.prods s=z:=⟨_,rfl⟩
 have HL1:Hid (S.length≤400):=by show _≤_;rw[←hS];exact srt_le3 HFEW.out
 have HL2:Hid (X.length≤400):=by show _≤_;rw[←hX];exact Nat.le_trans (List.length_filter_le _ _) (srt_le3 HFEW.out)
 have HL3:Hid (U.length≤400):=by show _≤_;rw[←hU];exact Nat.le_trans (List.length_filter_le _ _) (srt_le3 HFEW.out)
 have HS1:Hid (∀W,Below w.heap.size w W→Calls Tryz.prog 17 #[.agg #[.string d.start,.string d.layout,.slice a2 d.prods.length p2,.slice a3 d.chains.length p3,.slice a4 d.follows.length p4,.slice a5 d.rejects.length p5,.slice a6 d.boxes.length p6]] W fun e w'=>(∃va vc,e=.returned (.slice va S.length vc)∧NamesAt w' w.heap.size S (.slice va S.length vc))∧Below W.heap.size W w'):=fun W hb=>by rw[←hS];exact (sorts_any d _ W (HDO.out.nx hb)).mono (fun e w' ⟨⟨va,vc,he,hn⟩,hb'⟩=>⟨⟨va,vc,he,⟨row_mono hn.row hb.size⟩⟩,hb'⟩)
 have HS2:Hid (∀W,Below w.heap.size w W→Calls Tryz.prog 19 #[.agg #[.string d.start,.string d.layout,.slice a2 d.prods.length p2,.slice a3 d.chains.length p3,.slice a4 d.follows.length p4,.slice a5 d.rejects.length p5,.slice a6 d.boxes.length p6]] W fun e w'=>(∃va vc,e=.returned (.slice va S.length vc)∧NamesAt w' w.heap.size S (.slice va S.length vc))∧Below W.heap.size W w'):=fun W hb=>by rw[←hS];exact (rsorts_any d _ W (HDO.out.nx hb)).mono (fun e w' ⟨⟨va,vc,he,hn⟩,hb'⟩=>⟨⟨va,vc,he,⟨row_mono hn.row hb.size⟩⟩,hb'⟩)
 have HX1:Hid (∀W,Below w.heap.size w W→Calls Tryz.prog 20 #[.agg #[.string d.start,.string d.layout,.slice a2 d.prods.length p2,.slice a3 d.chains.length p3,.slice a4 d.follows.length p4,.slice a5 d.rejects.length p5,.slice a6 d.boxes.length p6]] W fun e w'=>(∃va vc,e=.returned (.slice va X.length vc)∧NamesAt w' w.heap.size X (.slice va X.length vc))∧Below W.heap.size W w'):=fun W hb=>by rw[←hX];exact (lexical_any d _ W (HDO.out.nx hb)).mono (fun e w' ⟨⟨va,vc,he,hn⟩,hb'⟩=>⟨⟨va,vc,he,⟨row_mono hn.row hb.size⟩⟩,hb'⟩)
 have HX2:Hid (∀W,Below w.heap.size w W→Calls Tryz.prog 21 #[.agg #[.string d.start,.string d.layout,.slice a2 d.prods.length p2,.slice a3 d.chains.length p3,.slice a4 d.follows.length p4,.slice a5 d.rejects.length p5,.slice a6 d.boxes.length p6]] W fun e w'=>(∃va vc,e=.returned (.slice va X.length vc)∧NamesAt w' w.heap.size X (.slice va X.length vc))∧Below W.heap.size W w'):=fun W hb=>by rw[←hX];exact (rlexical_any d _ W (HDO.out.nx hb) HFEW.out).mono (fun e w' ⟨⟨va,vc,he,hn⟩,hb'⟩=>⟨⟨va,vc,he,⟨row_mono hn.row hb.size⟩⟩,hb'⟩)
 have HU1:Hid (∀W,Below w.heap.size w W→Calls Tryz.prog 22 #[.agg #[.string d.start,.string d.layout,.slice a2 d.prods.length p2,.slice a3 d.chains.length p3,.slice a4 d.follows.length p4,.slice a5 d.rejects.length p5,.slice a6 d.boxes.length p6],.string s] W fun e w'=>(∃va vc,e=.returned (.slice va U.length vc)∧NamesAt w' w.heap.size U (.slice va U.length vc))∧Below W.heap.size W w'):=fun W hb=>by rw[←hU];exact (uses_any d _ s W (HDO.out.nx hb) HSZ.out (by have:=HFEW.out.2;omega)).mono (fun e w' ⟨⟨va,vc,he,hn⟩,hb'⟩=>⟨⟨va,vc,he,⟨row_mono hn.row hb.size⟩⟩,hb'⟩)
 have HU2:Hid (∀W,Below w.heap.size w W→Calls Tryz.prog 23 #[.agg #[.string d.start,.string d.layout,.slice a2 d.prods.length p2,.slice a3 d.chains.length p3,.slice a4 d.follows.length p4,.slice a5 d.rejects.length p5,.slice a6 d.boxes.length p6],.string s] W fun e w'=>(∃va vc,e=.returned (.slice va U.length vc)∧NamesAt w' w.heap.size U (.slice va U.length vc))∧Below W.heap.size W w'):=fun W hb=>by rw[←hU];exact (ruses_any d _ s W (HDO.out.nx hb) HFEW.out).mono (fun e w' ⟨⟨va,vc,he,hn⟩,hb'⟩=>⟨⟨va,vc,he,⟨row_mono hn.row hb.size⟩⟩,hb'⟩)
 have HK1:Hid (∀W,Below w.heap.size w W→Calls Tryz.prog 24 #[.agg #[.string d.start,.string d.layout,.slice a2 d.prods.length p2,.slice a3 d.chains.length p3,.slice a4 d.follows.length p4,.slice a5 d.rejects.length p5,.slice a6 d.boxes.length p6],.string s] W fun e w'=>e=.returned (.int .i64 cI)∧Below W.heap.size W w'):=fun W hb=>by rw[←hcI];exact cons_any d _ s W (HDO.out.nx hb) HSZ.out
 have HK2:Hid (∀W,Below w.heap.size w W→Calls Tryz.prog 25 #[.agg #[.string d.start,.string d.layout,.slice a2 d.prods.length p2,.slice a3 d.chains.length p3,.slice a4 d.follows.length p4,.slice a5 d.rejects.length p5,.slice a6 d.boxes.length p6],.string s] W fun e w'=>e=.returned (.int .i64 cI)∧Below W.heap.size W w'):=fun W hb=>by rw[←hcI];exact rcons_any d _ s W (HDO.out.nx hb)
 clear hS hX hU hcI
 obtain⟨d0,d1,d2,d3,d4,d5,d6⟩:=HT.out.box.c7
 go_wp2_with fail
 refine hMo (hU (HS1.out _ HT.out.bel)) ?_
 rintro e w3 ⟨⟨va,vc,rfl,hn⟩,hb⟩
 replace HT:=hHi (HT.out.nx hb)
 have HN0:=hHi hn
 clear hn hb d0 d1 d2 d3 d4 d5 d6
 go_wp2_with fail
 go_cut [34] from 12 (fun s34 wc=>s34=.bool false∧NamesAt wc w.heap.size S (.slice va S.length vc)∧BX w wc w.heap.size 28 #[.string d.start,.string d.layout,.slice a2 d.prods.length p2,.slice a3 d.chains.length p3,.slice a4 d.follows.length p4,.slice a5 d.rejects.length p5,.slice a6 d.boxes.length p6])
 case first=>
  have T:=HT.out
  go_region_held3 (fun W=>W.cell? ⟨w.heap.size,0,none⟩=some (.string d.start)∧W.cell? ⟨w.heap.size,1,none⟩=some (.string d.layout)∧W.cell? ⟨w.heap.size,2,none⟩=some (.slice a2 d.prods.length p2)∧W.cell? ⟨w.heap.size,3,none⟩=some (.slice a3 d.chains.length p3)∧W.cell? ⟨w.heap.size,4,none⟩=some (.slice a4 d.follows.length p4)∧W.cell? ⟨w.heap.size,5,none⟩=some (.slice a5 d.rejects.length p5)∧W.cell? ⟨w.heap.size,6,none⟩=some (.slice a6 d.boxes.length p6)) (first | exact T.box.c7 | exact T.drew.box.c7) (first | (go_at_call 19;refine (HS2.out _ T.bel).mono ?_;rintro e w5 ⟨⟨vaN1,vcN1,rfl,hi1⟩,hb5⟩;replace T:BX w w5 w.heap.size 28 _:=T.nx hb5;replace HN0:=hHi (HN0.out.after hb5);have N1:=hHi hi1;clear hb5 hi1) | (go_at_call 19;refine (HS2.out _ T.drew.bel).mono ?_;rintro e w5 ⟨⟨vaN1,vcN1,rfl,hi1⟩,hb5⟩;replace T:BX w w5 w.heap.size 28 _:=T.drew.nx hb5;replace HN0:=hHi (HN0.out.drew.after hb5);have N1:=hHi hi1;clear hb5 hi1) | (go_at_call_of 18 va;refine (same_names HN0.out N1.out HL1.out).mono ?_;rintro e w5 ⟨rfl,hb5⟩;replace T:BX w w5 w.heap.size 28 _:=T.nx hb5;replace HN0:=hHi (HN0.out.after hb5);clear hb5) | (go_at_call_of 18 va;refine (same_names HN0.out.drew N1.out.drew HL1.out).mono ?_;rintro e w5 ⟨rfl,hb5⟩;replace T:BX w w5 w.heap.size 28 _:=T.drew.nx hb5;replace HN0:=hHi (HN0.out.drew.after hb5);clear hb5) | (go_at_call 20;refine (HX1.out _ T.bel).mono ?_;rintro e w5 ⟨⟨vaN2,vcN2,rfl,hi1⟩,hb5⟩;replace T:BX w w5 w.heap.size 28 _:=T.nx hb5;replace HN0:=hHi (HN0.out.after hb5);have N2:=hHi hi1;clear hb5 hi1) | (go_at_call 20;refine (HX1.out _ T.drew.bel).mono ?_;rintro e w5 ⟨⟨vaN2,vcN2,rfl,hi1⟩,hb5⟩;replace T:BX w w5 w.heap.size 28 _:=T.drew.nx hb5;replace HN0:=hHi (HN0.out.drew.after hb5);have N2:=hHi hi1;clear hb5 hi1) | (go_at_call 21;refine (HX2.out _ T.bel).mono ?_;rintro e w5 ⟨⟨vaN3,vcN3,rfl,hi1⟩,hb5⟩;replace T:BX w w5 w.heap.size 28 _:=T.nx hb5;replace HN0:=hHi (HN0.out.after hb5);replace N2:=hHi (N2.out.after hb5);have N3:=hHi hi1;clear hb5 hi1) | (go_at_call 21;refine (HX2.out _ T.drew.bel).mono ?_;rintro e w5 ⟨⟨vaN3,vcN3,rfl,hi1⟩,hb5⟩;replace T:BX w w5 w.heap.size 28 _:=T.drew.nx hb5;replace HN0:=hHi (HN0.out.drew.after hb5);replace N2:=hHi (N2.out.drew.after hb5);have N3:=hHi hi1;clear hb5 hi1) | (go_at_call_of 18 vaN2;refine (same_names N2.out N3.out HL2.out).mono ?_;rintro e w5 ⟨rfl,hb5⟩;replace T:BX w w5 w.heap.size 28 _:=T.nx hb5;replace HN0:=hHi (HN0.out.after hb5);clear hb5) | (go_at_call_of 18 vaN2;refine (same_names N2.out.drew N3.out.drew HL2.out).mono ?_;rintro e w5 ⟨rfl,hb5⟩;replace T:BX w w5 w.heap.size 28 _:=T.drew.nx hb5;replace HN0:=hHi (HN0.out.drew.after hb5);clear hb5) | (go_at_call 22;refine (HU1.out _ T.bel).mono ?_;rintro e w5 ⟨⟨vaN4,vcN4,rfl,hi1⟩,hb5⟩;replace T:BX w w5 w.heap.size 28 _:=T.nx hb5;replace HN0:=hHi (HN0.out.after hb5);have N4:=hHi hi1;clear hb5 hi1) | (go_at_call 22;refine (HU1.out _ T.drew.bel).mono ?_;rintro e w5 ⟨⟨vaN4,vcN4,rfl,hi1⟩,hb5⟩;replace T:BX w w5 w.heap.size 28 _:=T.drew.nx hb5;replace HN0:=hHi (HN0.out.drew.after hb5);have N4:=hHi hi1;clear hb5 hi1) | (go_at_call 23;refine (HU2.out _ T.bel).mono ?_;rintro e w5 ⟨⟨vaN5,vcN5,rfl,hi1⟩,hb5⟩;replace T:BX w w5 w.heap.size 28 _:=T.nx hb5;replace HN0:=hHi (HN0.out.after hb5);replace N4:=hHi (N4.out.after hb5);have N5:=hHi hi1;clear hb5 hi1) | (go_at_call 23;refine (HU2.out _ T.drew.bel).mono ?_;rintro e w5 ⟨⟨vaN5,vcN5,rfl,hi1⟩,hb5⟩;replace T:BX w w5 w.heap.size 28 _:=T.drew.nx hb5;replace HN0:=hHi (HN0.out.drew.after hb5);replace N4:=hHi (N4.out.drew.after hb5);have N5:=hHi hi1;clear hb5 hi1) | (go_at_call_of 18 vaN4;refine (same_names N4.out N5.out HL3.out).mono ?_;rintro e w5 ⟨rfl,hb5⟩;replace T:BX w w5 w.heap.size 28 _:=T.nx hb5;replace HN0:=hHi (HN0.out.after hb5);clear hb5) | (go_at_call_of 18 vaN4;refine (same_names N4.out.drew N5.out.drew HL3.out).mono ?_;rintro e w5 ⟨rfl,hb5⟩;replace T:BX w w5 w.heap.size 28 _:=T.drew.nx hb5;replace HN0:=hHi (HN0.out.drew.after hb5);clear hb5))
  all_goals go_wp2_with fail
  all_goals go_meet
  all_goals exact ⟨rfl,HN0.out,T⟩
 case rest=>
 obtain⟨rfl,hn0,hT⟩:=hcut
 replace HT:=hHi hT
 obtain⟨wa,hwa⟩:∃q,q=wc:=⟨_,rfl⟩
 subst hwa
 obtain⟨NS,hNS⟩:∃n,S.length=n:=⟨_,rfl⟩
 have hns:NS≤400:=by rw[←hNS];exact HL1.out
 rw[hNS] at hn0 ⊢
 have HSP:Hid (Spl wa w.heap.size NS va):=spl_of hn0
 clear hn0 hT hNS HN0 HX1 HX2 HU1 HU2
 go_wp2
 go_loopw[6] (fun iv W=>∃k:Nat,k≤NS∧iv=.int .i64 k∧Spl W w.heap.size NS va∧BX w W w.heap.size 28 #[.string d.start,.string d.layout,.slice a2 d.prods.length p2,.slice a3 d.chains.length p3,.slice a4 d.follows.length p4,.slice a5 d.rejects.length p5,.slice a6 d.boxes.length p6]) (fun iv _=>NS-(intOf iv).toNat)
 case atStart=>exact ⟨0,Nat.zero_le _,rfl,HSP.out,HT.out⟩
 case round=>
  obtain⟨k,hk,rfl,hsp,hT⟩:=hrel
  by_cases hlt:k<NS
  ·rcases hsp with h0|⟨g,cs,rfl,hb,hcs,hg⟩
   ·omega
   have HSB:=hHi hb
   have HTB:=hHi hT
   have HNE:Hid (w.heap.size≠g):=fun e=>by
    subst e
    have h1:wr.heap[w.heap.size]?=_:=hb
    have h2:wr.heap[w.heap.size]?=_:=hT.box
    rw[h1] at h2
    simp at h2
   obtain⟨y,hy⟩:∃y,cs[k]?=some y:=⟨cs[k]'(by omega),by simp⟩
   have c0:=hb.cell k hy
   have cf:=hb.frozen k
   have hltI:(k:Int)<NS:=by omega
   have HSN:Hid (Spl (wr.setCell ⟨g,k,none⟩ (.string ⟨#[115,112,111,105,108,116]⟩)) w.heap.size NS (some ⟨g,0,none⟩)):=.inr ⟨g,_,rfl,Blk.set hb k _,by simpa using hcs,hg⟩
   have HTN:Hid (BX w (wr.setCell ⟨g,k,none⟩ (.string ⟨#[115,112,111,105,108,116]⟩)) w.heap.size 28 #[.string d.start,.string d.layout,.slice a2 d.prods.length p2,.slice a3 d.chains.length p3,.slice a4 d.follows.length p4,.slice a5 d.rejects.length p5,.slice a6 d.boxes.length p6]):=⟨hT.bel.trans (belG (grownBy_setCell _ _ _ _) hg hT.bel.size),hT.box.put g k _ HNE.out⟩
   clear hb hT hy hcs hg
   go_wp2
   go_roundw
   case rel=>exact ⟨k+1,by omega,by go_num,HSN.out,HTN.out⟩
   case measure=>simp[intOf];omega
  ·obtain rfl:k=NS:=by omega
   have T:=hT
   clear hT hsp
   have hcc:(cI==cI)=true:=by simp
   go_wp2
   go_region_held3 (fun W=>W.cell? ⟨w.heap.size,0,none⟩=some (.string d.start)∧W.cell? ⟨w.heap.size,1,none⟩=some (.string d.layout)∧W.cell? ⟨w.heap.size,2,none⟩=some (.slice a2 d.prods.length p2)∧W.cell? ⟨w.heap.size,3,none⟩=some (.slice a3 d.chains.length p3)∧W.cell? ⟨w.heap.size,4,none⟩=some (.slice a4 d.follows.length p4)∧W.cell? ⟨w.heap.size,5,none⟩=some (.slice a5 d.rejects.length p5)∧W.cell? ⟨w.heap.size,6,none⟩=some (.slice a6 d.boxes.length p6)) (first | exact T.box.c7 | exact T.drew.box.c7) (first | (go_at_call 12;refine (HA.out () _).mono ?_;rintro e w5 ⟨rfl,hb5⟩;replace T:BX w w5 w.heap.size 28 _:=T.nx hb5;clear hb5) | (go_at_call 12;refine (HA.out () _).mono ?_;rintro e w5 ⟨rfl,hb5⟩;replace T:BX w w5 w.heap.size 28 _:=T.drew.nx hb5;clear hb5) | (go_at_call 17;refine (HS1.out _ T.bel).mono ?_;rintro e w5 ⟨⟨vaN1,vcN1,rfl,hi1⟩,hb5⟩;replace T:BX w w5 w.heap.size 28 _:=T.nx hb5;have N1:=hHi hi1;clear hb5 hi1) | (go_at_call 17;refine (HS1.out _ T.drew.bel).mono ?_;rintro e w5 ⟨⟨vaN1,vcN1,rfl,hi1⟩,hb5⟩;replace T:BX w w5 w.heap.size 28 _:=T.drew.nx hb5;have N1:=hHi hi1;clear hb5 hi1) | (go_at_call 19;refine (HS2.out _ T.bel).mono ?_;rintro e w5 ⟨⟨vaN2,vcN2,rfl,hi1⟩,hb5⟩;replace T:BX w w5 w.heap.size 28 _:=T.nx hb5;replace N1:=hHi (N1.out.after hb5);have N2:=hHi hi1;clear hb5 hi1) | (go_at_call 19;refine (HS2.out _ T.drew.bel).mono ?_;rintro e w5 ⟨⟨vaN2,vcN2,rfl,hi1⟩,hb5⟩;replace T:BX w w5 w.heap.size 28 _:=T.drew.nx hb5;replace N1:=hHi (N1.out.drew.after hb5);have N2:=hHi hi1;clear hb5 hi1) | (go_at_call 18;refine (same_names N1.out N2.out HL1.out).mono ?_;rintro e w5 ⟨rfl,hb5⟩;replace T:BX w w5 w.heap.size 28 _:=T.nx hb5;clear hb5) | (go_at_call 18;refine (same_names N1.out.drew N2.out.drew HL1.out).mono ?_;rintro e w5 ⟨rfl,hb5⟩;replace T:BX w w5 w.heap.size 28 _:=T.drew.nx hb5;clear hb5) | (go_at_call 24;refine (HK1.out _ T.bel).mono ?_;rintro e w5 ⟨rfl,hb5⟩;replace T:BX w w5 w.heap.size 28 _:=T.nx hb5;clear hb5) | (go_at_call 24;refine (HK1.out _ T.drew.bel).mono ?_;rintro e w5 ⟨rfl,hb5⟩;replace T:BX w w5 w.heap.size 28 _:=T.drew.nx hb5;clear hb5) | (go_at_call 25;refine (HK2.out _ T.bel).mono ?_;rintro e w5 ⟨rfl,hb5⟩;replace T:BX w w5 w.heap.size 28 _:=T.nx hb5;clear hb5) | (go_at_call 25;refine (HK2.out _ T.drew.bel).mono ?_;rintro e w5 ⟨rfl,hb5⟩;replace T:BX w w5 w.heap.size 28 _:=T.drew.nx hb5;clear hb5))
   all_goals go_wp2
   all_goals go_ret
   all_goals exact ⟨by simp,T.bel⟩
end Go.Proofs.YtilpgpcgcpedjaaGreat
