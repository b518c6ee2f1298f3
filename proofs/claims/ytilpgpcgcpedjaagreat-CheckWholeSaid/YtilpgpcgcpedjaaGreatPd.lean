/- Of a right definition each sort that is named is one, and so on: the law's walk. -/
import Derived.Test.YtilpgpcgcpedjaaGreatPb
import Derived.Test.YtilpgpcgcpedjaaGreatOa
import Derived.Deep.CutRange
namespace Go.Proofs.YtilpgpcgcpedjaaGreat
open Go.RowKit
set_option linter.unusedVariables false
set_option linter.unusedSimpArgs false
set_option maxRecDepth 100000
set_option maxHeartbeats 16000000
structure Whole (d:Df):Prop where
 sy:∀p∈d.prods,∀s∈p.syms,s.name≠no→s.name∈srt d.prods∧(p.lex=true→lexd d.prods s.name=true)
 mu:∀p∈d.prods,0<(p.syms.filter fun s=>!omit' s).length
 lx:∀p∈d.prods,lexd d.prods p.sort=p.lex
 st:d.start∈srt d.prods∧lexd d.prods d.start=false
 la:d.layout=no∨d.layout≠no∧d.layout∈srt d.prods∧lexd d.prods d.layout=true
theorem lexd_srt {l:List Pr} {s:Nm} (h:lexd l s=true):s∈srt l:=by
 unfold lexd at h
 obtain⟨p,hp,h⟩:=List.any_eq_true.1 h
 simp at h
 exact mem_srt.2 ⟨p,hp,h.1⟩
theorem filt_add {α:Type} (f:α→Bool):∀l:List α,(l.filter f).length+(l.filter fun x=>!f x).length=l.length
 | []=>rfl
 | x::l=>by
  have:=filt_add f l
  rw[List.filter_cons,List.filter_cons]
  cases f x
  ·simp;omega
  ·simp;omega
theorem whole_ok {d:Df} (h:OkD d):Whole d:=by
 have h0:=tell_none.1 (h.l 0 (by omega))
 have h1:=h.l 1 (by omega)
 have h2:=h.l 2 (by omega)
 have h3:=tell_none.1 (h.l 3 (by omega))
 have h4:=tell_none.1 (h.l 4 (by omega))
 have h8:=tell_none.1 (h.l 8 (by omega))
 rw[Option.map_eq_none_iff,List.find?_eq_none] at h4 h8
 rw[List.find?_eq_none] at h0 h3
 have hst:d.start∈srt d.prods∧lexd d.prods d.start=false:=by
  have h1':(if decide (d.start∈srt d.prods)=false∨lexd d.prods d.start=true then some ((40:Int),d.start) else none)=none:=h1
  split at h1'
  ·cases h1'
  ·rename_i hq
   rw[not_or] at hq
   simpa using hq
 refine ⟨fun p hp s hs hn=>⟨?_,fun hl=>?_⟩,fun p hp=>?_,fun p hp=>?_,hst,?_⟩
 ·have:=h3 s.name (by
   unfold namesAll
   refine List.mem_append.2 (.inl (List.mem_append.2 (.inl (List.mem_flatMap.2 ⟨p,hp,?_⟩))))
   unfold leadsN
   exact List.mem_filter.2 ⟨List.mem_map.2 ⟨s,hs,rfl⟩,by simpa using hn⟩)
  simpa using this
 ·have:=h4 p hp
  unfold kindBad at this
  rw[if_pos hl] at this
  cases hx:lexd d.prods s.name with
  | true=>rfl
  | false=>
   exfalso
   exact this (List.any_eq_true.2 ⟨s,hs,by simp[hn,hx]⟩)
 ·have h:=h8 p hp
  unfold nullBad omitN at h
  have hq:=filt_add omit' p.syms
  rcases Nat.eq_zero_or_pos (p.syms.filter fun s=>!omit' s).length with h9|h9
  ·exfalso
   apply h
   have:(p.syms.filter omit').length=p.syms.length:=by omega
   simp only[this,decide_true,Bool.true_or]
  ·exact h9
 ·cases hl:p.lex with
  | true=>
   unfold lexd
   exact List.any_eq_true.2 ⟨p,hp,by simp[hl]⟩
  | false=>
   have:=h0 p.sort (mem_srt.2 ⟨p,hp,rfl⟩)
   have hpl:plnd d.prods p.sort=true:=by
    unfold plnd
    exact List.any_eq_true.2 ⟨p,hp,by simp[hl]⟩
   rw[hpl] at this
   simpa using this
 ·have h2':(if d.layout≠no∧lexd d.prods d.layout=false then some ((41:Int),d.layout) else none)=none:=h2
  split at h2'
  ·cases h2'
  ·rename_i hq
   by_cases hn:d.layout=no
   ·exact .inl hn
   ·have hx:lexd d.prods d.layout=true:=by
     cases hx:lexd d.prods d.layout with
     | true=>rfl
     | false=>exact absurd ⟨hn,hx⟩ hq
    exact .inr ⟨hn,lexd_srt hx,hx⟩
theorem srt_le2 {d:Df} (h:lists d≤400∧symsN d.prods≤400):(srt d.prods).length≤400:=by
 have:=srt_len d.prods
 have h1:=h.1
 unfold lists at h1
 omega
theorem whole_walk (d:Df) (vs:List Value) (w:World) (h:DO w d vs):
  Calls Tryz.prog 8 #[.agg ⟨vs⟩] w fun e w'=>e=.returned (.bool true)∧Below w.heap.size w w':=by
 have HDO:=hHi h
 have HA:=hU (fun W=>alive_any W)
 obtain⟨a2,p2,a3,p3,a4,p4,a5,p5,a6,p6,rfl,r2,_⟩:=h.form
 obtain⟨f,hf⟩:=h.sz
 have hz72:=hf.p
 have HHV:Hid (∀W,Below w.heap.size w W→Calls Tryz.prog 11 #[.agg #[.string d.start,.string d.layout,.slice a2 d.prods.length p2,.slice a3 d.chains.length p3,.slice a4 d.follows.length p4,.slice a5 d.rejects.length p5,.slice a6 d.boxes.length p6]] W fun e w'=>(∃b,e=.returned (.bool b)∧(b=false→lists d≤400∧symsN d.prods≤400))∧Below W.heap.size W w'):=fun W hb=>heavy_any d _ W (HDO.out.nx hb)
 have HR1:=hHi r2
 obtain⟨w1,hw1⟩:∃qW,w.alloc (.cells #[.string d.start,.string d.layout,.slice a2 d.prods.length p2,.slice a3 d.chains.length p3,.slice a4 d.follows.length p4,.slice a5 d.rejects.length p5,.slice a6 d.boxes.length p6] 28)=qW:=⟨_,rfl⟩
 have T:BX w w1 w.heap.size 28 #[.string d.start,.string d.layout,.slice a2 d.prods.length p2,.slice a3 d.chains.length p3,.slice a4 d.follows.length p4,.slice a5 d.rejects.length p5,.slice a6 d.boxes.length p6]:=⟨(kB hw1).out,(kN hw1).out⟩
 have HT:=hHi T
 clear T r2 hf h
 go_enter Tryz.func8,Tryz.ntmps8
 obtain⟨d0,d1,d2,d3,d4,d5,d6⟩:=HT.out.box.c7
 go_wp2_with fail
 refine hMo (hU (HHV.out w1 HT.out.bel)) ?_
 rintro e w2 ⟨⟨b,rfl,hq⟩,hb⟩
 have HQ:=hHi hq
 replace HT:=hHi (HT.out.nx hb)
 clear hq hb d0 d1 d2 d3 d4 d5 d6 HHV hw1
 cases b with
 | true=>
  go_wp2_with fail
  refine hMo (hU (HA.out () w2)) ?_
  rintro e w3 ⟨rfl,hb⟩
  have HB3:=hHi (HT.out.bel.trans (hb.mono HT.out.bel.size))
  clear hb
  go_wp2
  go_ret
  exact ⟨rfl,HB3.out⟩
 | false=>
 have HFEW:Hid _:=hHi (HQ.out rfl)
 clear HQ
 obtain⟨ce,hce⟩:∃z,(chk d (rightB d)).1=z:=⟨_,rfl⟩
 obtain⟨cn,hcn⟩:∃z,(chk d (rightB d)).2=z:=⟨_,rfl⟩
 have HCE:=hHi hce
 have HCN:=hHi hcn
 have HCK:Hid (∀W,Below w.heap.size w W→Calls Tryz.prog 14 #[.agg #[.string d.start,.string d.layout,.slice a2 d.prods.length p2,.slice a3 d.chains.length p3,.slice a4 d.follows.length p4,.slice a5 d.rejects.length p5,.slice a6 d.boxes.length p6]] W fun e w'=>e=.returned (.tuple #[.int .i64 ce,.string cn])∧Below W.heap.size W w'):=fun W hb=>by rw[←HCE.out,←HCN.out];exact check_do d _ W (HDO.out.nx hb) HFEW.out
 clear hce hcn
 obtain⟨d0,d1,d2,d3,d4,d5,d6⟩:=HT.out.box.c7
 go_wp2_with fail
 refine hMo (hU (HCK.out w2 HT.out.bel)) ?_
 rintro e w3 ⟨rfl,hb⟩
 replace HT:=hHi (HT.out.nx hb)
 clear hb d0 d1 d2 d3 d4 d5 d6
 obtain⟨d0,d1,d2,d3,d4,d5,d6⟩:=HT.out.box.c7
 by_cases h0:ce=0
 case neg=>
  have h0b:(ce==0)=false:=by simp[h0]
  go_wp2_with fail
  refine hMo (hU (HA.out () w3)) ?_
  rintro e w4 ⟨rfl,hb⟩
  have HB4:=hHi (below_tr HT.out.bel hb)
  clear hb
  go_wp2
  go_ret
  exact ⟨rfl,HB4.out⟩
 have HWH:=hHi (whole_ok ((chk_ok d).1 (HCE.out.trans h0)))
 subst h0
 obtain⟨S,hS⟩:∃S,srt d.prods=S:=⟨_,rfl⟩
 obtain⟨LX,hLX⟩:∃S,sthat (lexd d.prods) d.prods=S:=⟨_,rfl⟩
 have HS:=hHi hS
 have HSL:Hid (S.length≤400):=by show _≤_;rw[←hS];exact srt_le2 HFEW.out
 have HLM:Hid (∀x,x∈LX↔x∈S∧lexd d.prods x=true):=fun x=>by rw[←hLX,←hS];unfold sthat;rw[List.mem_filter]
 have HLL:Hid (LX.length≤400):=by show _≤_;rw[←hLX];exact Nat.le_trans (List.length_filter_le _ _) (srt_le2 HFEW.out)
 have HSO:Hid (∀W,Below w.heap.size w W→Calls Tryz.prog 17 #[.agg #[.string d.start,.string d.layout,.slice a2 d.prods.length p2,.slice a3 d.chains.length p3,.slice a4 d.follows.length p4,.slice a5 d.rejects.length p5,.slice a6 d.boxes.length p6]] W fun e w'=>(∃va vc,e=.returned (.slice va S.length vc)∧NamesAt w' w.heap.size S (.slice va S.length vc))∧Below W.heap.size W w'):=fun W hb=>by rw[←hS];exact (sorts_any d _ W (HDO.out.nx hb)).mono (fun e w' ⟨⟨va,vc,he,hn⟩,hb'⟩=>⟨⟨va,vc,he,⟨row_mono hn.row hb.size⟩⟩,hb'⟩)
 have HLO:Hid (∀W,Below w.heap.size w W→Calls Tryz.prog 20 #[.agg #[.string d.start,.string d.layout,.slice a2 d.prods.length p2,.slice a3 d.chains.length p3,.slice a4 d.follows.length p4,.slice a5 d.rejects.length p5,.slice a6 d.boxes.length p6]] W fun e w'=>(∃va vc,e=.returned (.slice va LX.length vc)∧NamesAt w' w.heap.size LX (.slice va LX.length vc))∧Below W.heap.size W w'):=fun W hb=>by rw[←hLX];exact (lexical_any d _ W (HDO.out.nx hb)).mono (fun e w' ⟨⟨va,vc,he,hn⟩,hb'⟩=>⟨⟨va,vc,he,⟨row_mono hn.row hb.size⟩⟩,hb'⟩)
 clear hS hLX HCK
 go_wp2
 clear d0 d1 d2 d3 d4 d5 d6
 go_cut [5,6] from 23 (fun s5 s6 wc=>∃va vc vb vd,s5=.slice va S.length vc∧s6=.slice vb LX.length vd∧NamesAt wc w.heap.size S (.slice va S.length vc)∧NamesAt wc w.heap.size LX (.slice vb LX.length vd)∧BX w wc w.heap.size 28 #[.string d.start,.string d.layout,.slice a2 d.prods.length p2,.slice a3 d.chains.length p3,.slice a4 d.follows.length p4,.slice a5 d.rejects.length p5,.slice a6 d.boxes.length p6])
 case first=>
  have T:=HT.out
  go_region_held3 (fun W=>W.cell? ⟨w.heap.size,0,none⟩=some (.string d.start)∧W.cell? ⟨w.heap.size,1,none⟩=some (.string d.layout)∧W.cell? ⟨w.heap.size,2,none⟩=some (.slice a2 d.prods.length p2)∧W.cell? ⟨w.heap.size,3,none⟩=some (.slice a3 d.chains.length p3)∧W.cell? ⟨w.heap.size,4,none⟩=some (.slice a4 d.follows.length p4)∧W.cell? ⟨w.heap.size,5,none⟩=some (.slice a5 d.rejects.length p5)∧W.cell? ⟨w.heap.size,6,none⟩=some (.slice a6 d.boxes.length p6)) (first | exact T.box.c7 | exact T.drew.box.c7) (first | (go_at_call 17;refine (HSO.out _ T.bel).mono ?_;rintro e w5 ⟨⟨va1,vc1,rfl,hi1⟩,hb5⟩;replace T:BX w w5 w.heap.size 28 _:=T.nx hb5;have HN1:=hHi hi1;clear hb5 hi1) | (go_at_call 17;refine (HSO.out _ T.drew.bel).mono ?_;rintro e w5 ⟨⟨va1,vc1,rfl,hi1⟩,hb5⟩;replace T:BX w w5 w.heap.size 28 _:=T.drew.nx hb5;have HN1:=hHi hi1;clear hb5 hi1) | (go_at_call 20;refine (HLO.out _ T.bel).mono ?_;rintro e w5 ⟨⟨va2,vc2,rfl,hi2⟩,hb5⟩;replace T:BX w w5 w.heap.size 28 _:=T.nx hb5;replace HN1:=hHi (HN1.out.after hb5);have HN2:=hHi hi2;clear hb5 hi2) | (go_at_call 20;refine (HLO.out _ T.drew.bel).mono ?_;rintro e w5 ⟨⟨va2,vc2,rfl,hi2⟩,hb5⟩;replace T:BX w w5 w.heap.size 28 _:=T.drew.nx hb5;replace HN1:=hHi (HN1.out.drew.after hb5);have HN2:=hHi hi2;clear hb5 hi2))
  all_goals go_wp2_with fail
  all_goals go_meet
  all_goals exact ⟨_,_,_,_,rfl,rfl,HN1.out,HN2.out,T⟩
 case rest=>
 obtain⟨va,vc,vb,vd,rfl,rfl,hn1,hn2,hT⟩:=hcut
 obtain⟨wa,hwa⟩:∃q,q=wc:=⟨_,rfl⟩
 subst hwa
 obtain⟨NS,hNS⟩:∃n,S.length=n:=⟨_,rfl⟩
 obtain⟨NL,hNL⟩:∃n,LX.length=n:=⟨_,rfl⟩
 have HNS:=hHi hNS
 have HNL:=hHi hNL
 have hnl:NL≤400:=by rw[←hNL];exact HLL.out
 have hns:NS≤400:=by rw[←hNS];exact HSL.out
 rw[hNS] at hn1 ⊢
 rw[hNL] at hn2 ⊢
 have HN1:=hHi hn1
 have HN2:=hHi hn2
 have HTC:=hHi hT
 obtain⟨N,hLN⟩:∃N,d.prods.length=N:=⟨_,rfl⟩
 have HLN:=hHi hLN
 have hBX:=hT.box
 rw[hLN] at hz72 hBX
 have HBX:=hHi hBX
 clear hn1 hn2 hT hNS hNL hLN hBX
 obtain⟨d0,d1,d2,d3,d4,d5,d6⟩:=HBX.out.c7
 go_wp2
 go_loopw[7] (fun iv W=>∃k:Nat,k≤N∧iv=.int .i64 k∧Below wa.heap.size wa W) (fun iv _=>N-(intOf iv).toNat)
 case atStart=>exact ⟨0,Nat.zero_le _,rfl,Below.refl _ _⟩
 case round=>
  obtain⟨k,hk,rfl,hB⟩:=hrel
  obtain⟨wo,hwo⟩:∃q,q=wr:=⟨_,rfl⟩
  subst hwo
  have HB:=hHi hB
  have HXO:=kA HBX HB
  have HWB:=hHi (below_tr HTC.out.bel hB)
  clear hB d0 d1 d2 d3 d4 d5 d6
  obtain⟨d0,d1,d2,d3,d4,d5,d6⟩:=HXO.out.c7
  by_cases hlt:k<N
  case pos=>
   obtain⟨p,hp⟩:∃p,d.prods[k]?=some p:=⟨d.prods[k]'(by rw[HLN.out];exact hlt),by simp⟩
   obtain⟨b,o,us,hb,hlb,hus,hc⟩:=HR1.out k p hp
   obtain⟨v,rfl,a7,p7,rfl,hl8,hl7,hv7⟩:=hus
   subst hb
   have HPM:=hHi (List.mem_of_getElem? hp)
   have hq_:=hcb HWB.out hlb hc
   have s0:=hq_ 0 _ rfl
   have s1:=hq_ 1 _ rfl
   have s2:=hq_ 2 _ rfl
   have s3:=hq_ 3 _ rfl
   have s4:=hq_ 4 _ rfl
   rw[Nat.add_zero] at s0
   have hltI:(k:Int)<N:=by omega
   obtain⟨K,hK⟩:∃K,p.syms.length=K:=⟨_,rfl⟩
   have HK:=hHi hK
   have HSY:=hHi hv7
   obtain⟨lx,hlx⟩:∃q,p.lex=q:=⟨_,rfl⟩
   have HLX:=hHi hlx
   rw[hK] at s4 hl8 hl7
   rw[hlx] at s0
   clear hq_ hc hp hv7 hK hlx
   obtain⟨wP,hwP⟩:∃q,wo.alloc (.cells #[.bool lx,.string p.sort,.string p.cons,.bool p.bracket,.slice a7 K p7] 44)=q:=⟨_,rfl⟩
   have HXP:=kN hwP
   have HBP:=kB hwP
   have HWP:=hHi (below_tr HWB.out HBP.out)
   go_wp2
   clear s0 s1 s2 s3 s4 d0 d1 d2 d3 d4 d5 d6
   go_loopw[9,10] (fun mv jv W=>∃j m:Nat,j≤K∧jv=.int .i64 j∧mv=.int .i64 m∧m=((p.syms.take j).filter fun s=>!omit' s).length∧Below wP.heap.size wP W) (fun _ jv _=>K-(intOf jv).toNat)
   case atStart=>exact ⟨0,0,Nat.zero_le _,rfl,rfl,by simp,Below.refl _ _⟩
   case round=>
    obtain⟨j,m,hj,rfl,rfl,hm,hBj⟩:=hrel
    have HM:=hHi hm
    have hmj:m≤j:=by rw[hm];exact Nat.le_trans (List.length_filter_le _ _) (by rw[List.length_take];exact Nat.min_le_left _ _)
    have HBJ:=hHi hBj
    have HXR:=kA HXP HBJ
    obtain⟨t0,t1,t2,t3,t4⟩:=HXR.out.c5
    have HWR:=hHi (below_tr HWP.out hBj)
    have HWA:Hid (Below wa.heap.size wa wr):=below_tr HB.out (below_tr HBP.out hBj)
    clear hBj hm
    by_cases hjl:j<K
    ·obtain⟨y,hy⟩:∃y,p.syms[j]?=some y:=⟨p.syms[j]'(by rw[HK.out];exact hjl),by simp⟩
     obtain⟨by',oy,uy,hby,hlby,⟨_,rfl⟩,hcy⟩:=HSY.out j y hy
     subst hby
     have hjI:(j:Int)<K:=by omega
     have HTY:Hid (p.syms.take (j+1)=p.syms.take j++[y]):=take_snoc' hy
     have HMY:=hHi (List.mem_of_getElem? hy)
     have hq_:=hcb HWR.out hlby hcy
     have s0:=hq_ 0 _ rfl
     have s1:=hq_ 1 _ rfl
     have s2:=hq_ 2 _ rfl
     have s3:=hq_ 3 _ rfl
     have s4:=hq_ 4 _ rfl
     have s5:=hq_ 5 _ rfl
     have s6:=hq_ 6 _ rfl
     have s7:=hq_ 7 _ rfl
     rw[Nat.add_zero] at s0
     obtain⟨kd,hkd⟩:∃z,y.kind=z:=⟨_,rfl⟩
     have HKD:=hHi hkd
     rw[hkd] at s0
     have HMX:Hid ((omit' y=true→m=((p.syms.take (j+1)).filter fun s=>!omit' s).length)∧(omit' y=false→m+1=((p.syms.take (j+1)).filter fun s=>!omit' s).length)):=by
      show _∧_
      rw[HTY.out,List.filter_append,List.length_append,←HM.out]
      refine ⟨fun h=>?_,fun h=>?_⟩
      ·simp[h]
      ·simp[h]
     have HWY:=hHi (HWH.out.sy p HPM.out y HMY.out)
     clear hq_ hcy hy hkd
     obtain⟨w3,hw3⟩:∃q,wr.alloc (.cells #[.int .i64 kd,.string y.text,.int .u64 y.set.a,.int .u64 y.set.b,.int .u64 y.set.c,.int .u64 y.set.d,.string y.name,.string y.sep] 62)=q:=⟨_,rfl⟩
     have HX3:=kN hw3
     have HXP3:=kA HXR (kB hw3)
     have HB3:=hHi (below_tr HBJ.out (kB hw3).out)
     have HWA3:=hHi (below_tr HWA.out (kB hw3).out)
     obtain⟨e0,e1,e2,e3,e4,e5,e6,e7⟩:=c8 HX3.out
     obtain⟨f0,f1,f2,f3,f4⟩:=HXP3.out.c5
     rcases emp_no y.name with ⟨hne,hd⟩|⟨hne,hd⟩
     ·clear hne
      by_cases hk4:kd=4
      ·have HOM:Hid (omit' y=true):=by show _=_;unfold omit';rw[HKD.out,hk4];rfl
       subst hk4
       go_wp2
       go_roundw
       case rel=>exact ⟨j+1,m,by omega,by go_num,rfl,HMX.out.1 HOM.out,HB3.out⟩
       case measure=>simp[intOf];omega
      ·by_cases hk5:kd=5
       ·have HOM:Hid (omit' y=true):=by show _=_;unfold omit';rw[HKD.out,hk5];rfl
        subst hk5
        go_wp2
        go_roundw
        case rel=>exact ⟨j+1,m,by omega,by go_num,rfl,HMX.out.1 HOM.out,HB3.out⟩
        case measure=>simp[intOf];omega
       ·have HOM:Hid (omit' y=false):=by show _=_;unfold omit';rw[HKD.out];simp[hk4,hk5]
        have hb4:(kd==4)=false:=by simp[hk4]
        have hb5:(kd==5)=false:=by simp[hk5]
        have hc4:(kd != 4)=true:=by simp[hk4]
        have hc5:(kd != 5)=true:=by simp[hk5]
        go_wp2
        go_roundw
        case rel=>exact ⟨j+1,m+1,by omega,by go_num,by go_num,HMX.out.2 HOM.out,HB3.out⟩
        case measure=>simp[intOf];omega
     ·have HWN:=hHi (HWY.out hne)
      clear hne
      have HC1:=hU (in30_any S (.slice va NS vc) y.name _ w3 (HN1.out.after HWA3.out) (by rw[HNS.out];omega))
      rw[decide_eq_true (HS.out▸HWN.out.1)] at HC1
      cases lx with
      | true=>
       have HC2:=hU (in30_any LX (.slice vb NL vd) y.name _ w3 (HN2.out.after HWA3.out) (by rw[HNL.out];omega))
       rw[decide_eq_true ((HLM.out y.name).2 ⟨HS.out▸HWN.out.1,HWN.out.2 HLX.out⟩)] at HC2
       go_wp2_with fail
       refine hMo HC1 ?_
       rintro e w5 ⟨rfl,hw⟩
       have hw:=hw.symm
       subst hw
       clear HC1
       go_wp2_with fail
       refine hMo HC2 ?_
       rintro e w5 ⟨rfl,hw⟩
       have hw:=hw.symm
       subst hw
       clear HC2
       by_cases hk4:kd=4
       ·have HOM:Hid (omit' y=true):=by show _=_;unfold omit';rw[HKD.out,hk4];rfl
        subst hk4
        go_wp2
        go_roundw
        case rel=>exact ⟨j+1,m,by omega,by go_num,rfl,HMX.out.1 HOM.out,HB3.out⟩
        case measure=>simp[intOf];omega
       ·by_cases hk5:kd=5
        ·have HOM:Hid (omit' y=true):=by show _=_;unfold omit';rw[HKD.out,hk5];rfl
         subst hk5
         go_wp2
         go_roundw
         case rel=>exact ⟨j+1,m,by omega,by go_num,rfl,HMX.out.1 HOM.out,HB3.out⟩
         case measure=>simp[intOf];omega
        ·have HOM:Hid (omit' y=false):=by show _=_;unfold omit';rw[HKD.out];simp[hk4,hk5]
         have hb4:(kd==4)=false:=by simp[hk4]
         have hb5:(kd==5)=false:=by simp[hk5]
         have hc4:(kd != 4)=true:=by simp[hk4]
         have hc5:(kd != 5)=true:=by simp[hk5]
         go_wp2
         go_roundw
         case rel=>exact ⟨j+1,m+1,by omega,by go_num,by go_num,HMX.out.2 HOM.out,HB3.out⟩
         case measure=>simp[intOf];omega
      | false=>
       go_wp2_with fail
       refine hMo HC1 ?_
       rintro e w5 ⟨rfl,hw⟩
       have hw:=hw.symm
       subst hw
       clear HC1
       by_cases hk4:kd=4
       ·have HOM:Hid (omit' y=true):=by show _=_;unfold omit';rw[HKD.out,hk4];rfl
        subst hk4
        go_wp2
        go_roundw
        case rel=>exact ⟨j+1,m,by omega,by go_num,rfl,HMX.out.1 HOM.out,HB3.out⟩
        case measure=>simp[intOf];omega
       ·by_cases hk5:kd=5
        ·have HOM:Hid (omit' y=true):=by show _=_;unfold omit';rw[HKD.out,hk5];rfl
         subst hk5
         go_wp2
         go_roundw
         case rel=>exact ⟨j+1,m,by omega,by go_num,rfl,HMX.out.1 HOM.out,HB3.out⟩
         case measure=>simp[intOf];omega
        ·have HOM:Hid (omit' y=false):=by show _=_;unfold omit';rw[HKD.out];simp[hk4,hk5]
         have hb4:(kd==4)=false:=by simp[hk4]
         have hb5:(kd==5)=false:=by simp[hk5]
         have hc4:(kd != 4)=true:=by simp[hk4]
         have hc5:(kd != 5)=true:=by simp[hk5]
         go_wp2
         go_roundw
         case rel=>exact ⟨j+1,m+1,by omega,by go_num,by go_num,HMX.out.2 HOM.out,HB3.out⟩
         case measure=>simp[intOf];omega
    ·obtain rfl:K=j:=by omega
     have HMU:Hid (0<m):=by
      have:=HWH.out.mu p HPM.out
      show _<_
      rw[HM.out,List.take_of_length_le (by rw[HK.out];exact Nat.le_refl _)]
      exact this
     have hm0:0<m:=HMU.out
     have hm1:((m:Int)==0)=false:=by simp;omega
     have HC20:Hid (∀W,Below wr.heap.size wr W→Calls Tryz.prog 30 #[.slice vb NL vd,.string p.sort] W fun e w'=>e=.returned (.bool lx)∧Below W.heap.size W w'):=fun W hb=>(in30_any LX (.slice vb NL vd) p.sort _ W (HN2.out.after (below_tr HWA.out hb)) (by rw[HNL.out];omega)).mono (fun e w' ⟨he,hw⟩=>⟨by
      rw[he]
      have h1:=HWH.out.lx p HPM.out
      rw[HLX.out] at h1
      cases hx:lx with
      | true=>rw[decide_eq_true ((HLM.out p.sort).2 ⟨HS.out▸mem_srt.2 ⟨p,HPM.out,rfl⟩,h1.trans hx⟩)]
      | false=>rw[decide_eq_false (fun h=>by have:=((HLM.out p.sort).1 h).2;rw[h1,hx] at this;cases this)],hw▸Below.refl _ _⟩)
     go_wp2
     have T:BX wr wr wo.heap.size 44 #[.bool lx,.string p.sort,.string p.cons,.bool p.bracket,.slice _ K p7]:=⟨Below.refl _ _,HXR.out⟩
     clear t0 t1 t2 t3 t4
     go_region_held3 (fun W=>W.cell? ⟨wo.heap.size,0,none⟩=some (.bool lx)∧W.cell? ⟨wo.heap.size,1,none⟩=some (.string p.sort)∧W.cell? ⟨wo.heap.size,2,none⟩=some (.string p.cons)) (first | exact ⟨T.box.c5.1,T.box.c5.2.1,T.box.c5.2.2.1⟩ | exact ⟨T.drew.box.c5.1,T.drew.box.c5.2.1,T.drew.box.c5.2.2.1⟩) (first | (go_at_call 30;refine (HC20.out _ T.bel).mono ?_;rintro e w5 ⟨rfl,hb5⟩;replace T:BX wr w5 wo.heap.size 44 _:=T.nx hb5;clear hb5) | (go_at_call 30;refine (HC20.out _ T.drew.bel).mono ?_;rintro e w5 ⟨rfl,hb5⟩;replace T:BX wr w5 wo.heap.size 44 _:=T.drew.nx hb5;clear hb5))
     all_goals
      have hnl:(lx != lx)=false:=by simp
      go_wp2
      go_roundw
      case rel=>exact ⟨k+1,by omega,by go_num,below_tr HWA.out T.bel⟩
      case measure=>simp[intOf];omega
  obtain rfl:N=k:=by omega
  go_wp2_with fail
  refine hMo (hU (HA.out () wo)) ?_
  rintro e w4 ⟨rfl,hb⟩
  have HB4:=hHi (below_tr HB.out hb)
  have HX4:=kA HXO (hHi hb)
  have HE4:=hHi (below_tr HWB.out hb)
  clear hb d0 d1 d2 d3 d4 d5 d6
  obtain⟨d0,d1,d2,d3,d4,d5,d6⟩:=HX4.out.c7
  have HC1:=hU (in30_any S (.slice va NS vc) d.start _ w4 (HN1.out.after HB4.out) (by rw[HNS.out];omega))
  rw[decide_eq_true (HS.out▸HWH.out.st.1)] at HC1
  have HC2:=hU (in30_any LX (.slice vb NL vd) d.start _ w4 (HN2.out.after HB4.out) (by rw[HNL.out];omega))
  rw[decide_eq_false (fun h=>by have:=((HLM.out _).1 h).2;rw[HWH.out.st.2] at this;cases this)] at HC2
  go_wp2_with fail
  refine hMo HC1 ?_
  rintro e w5 ⟨rfl,hw⟩
  have hw:=hw.symm
  subst hw
  clear HC1
  go_wp2_with fail
  refine hMo HC2 ?_
  rintro e w5 ⟨rfl,hw⟩
  have hw:=hw.symm
  subst hw
  clear HC2
  have HLA:=hHi HWH.out.la
  rcases emp_no d.layout with ⟨hne,hd⟩|⟨hne,hd⟩
  ·clear hne
   go_wp2
   go_ret
   exact ⟨rfl,HE4.out⟩
  ·have HIN:Hid (d.layout∈LX):=by
    rcases HLA.out with h|h
    ·exact absurd h hne
    ·exact (HLM.out _).2 ⟨HS.out▸h.2.1,h.2.2⟩
   clear hne
   have HC3:=hU (in30_any LX (.slice vb NL vd) d.layout _ w4 (HN2.out.after HB4.out) (by rw[HNL.out];omega))
   rw[decide_eq_true HIN.out] at HC3
   go_wp2_with fail
   refine hMo HC3 ?_
   rintro e w5 ⟨rfl,hw⟩
   have hw:=hw.symm
   subst hw
   clear HC3
   go_wp2
   go_ret
   exact ⟨rfl,HE4.out⟩
end Go.Proofs.YtilpgpcgcpedjaaGreat
