/- Which names one step or several lead to: the program's count of those that it meets. -/
import Derived.Test.YtilpgpcgcpedjaaGreatKk
import Derived.WalkSmall
namespace Go.Proofs.YtilpgpcgcpedjaaGreat
open Go.RowKit
set_option linter.unusedVariables false
set_option linter.unusedSimpArgs false
set_option maxRecDepth 100000
set_option maxHeartbeats 16000000
theorem least_ex {p:Nat→Prop}:∀n,p n→∃k,p k∧∀k',p k'→k≤k':=by
 intro n
 induction n using Nat.strongRecOn with
 | _ n ih=>
  intro h
  by_cases hx:∃m,m<n∧p m
  ·obtain⟨m,hm,hp⟩:=hx
   exact ih m hm hp
  ·exact ⟨n,h,fun k' hk=>by
    rcases Nat.lt_or_ge k' n with h1|h1
    ·exact absurd ⟨k',h1,hk⟩ hx
    ·exact h1⟩
open Classical in
noncomputable def least (p:Nat→Prop):Nat:=if h:∃k,p k∧∀k',p k'→k≤k' then Classical.choose h else 0
theorem least_spec {p:Nat→Prop} {k:Nat} (h:p k):p (least p):=by
 unfold least
 rw[dif_pos (least_ex k h)]
 exact (Classical.choose_spec (least_ex k h)).1
theorem least_le {p:Nat→Prop} {k:Nat} (h:p k):least p≤k:=by
 unfold least
 rw[dif_pos (least_ex k h)]
 exact (Classical.choose_spec (least_ex k h)).2 k h
theorem nodup_len:∀(M U:List ByteArray),M.Nodup→(∀x∈M,x∈U)→M.length≤U.length
 | [],_,_,_=>Nat.zero_le _
 | m::M,U,hn,hs=>by
  have hm:=hs m (by simp)
  obtain⟨h1,h2⟩:=List.nodup_cons.1 hn
  have:=nodup_len M (U.erase m) h2 (fun x hx=>(List.mem_erase_of_ne (fun e=>h1 (by rw[←e];exact hx))).2 (hs x (by simp[hx])))
  rw[List.length_erase_of_mem hm] at this
  have:0<U.length:=List.length_pos_of_mem hm
  rw[List.length_cons]
  omega
def univ (F:Pr→List ByteArray) (l:List Pr):List ByteArray:=l.flatMap F
theorem mem_leadsAll {F:Pr→List ByteArray} {l:List Pr} {a b:ByteArray}:b∈leadsAll F l a↔Step l F a b:=by
 unfold leadsAll Step
 simp only[List.mem_flatMap,List.mem_filter,decide_eq_true_eq]
 constructor
 ·rintro⟨p,⟨h1,h2⟩,h3⟩
  exact ⟨p,h1,h2,h3⟩
 ·rintro⟨p,h1,h2,h3⟩
  exact ⟨p,⟨h1,h2⟩,h3⟩
theorem step_univ {F:Pr→List ByteArray} {l:List Pr} {a b:ByteArray} (h:Step l F a b):b∈univ F l:=by
 obtain⟨p,h1,h2,h3⟩:=h
 exact List.mem_flatMap.2 ⟨p,h1,h3⟩
theorem univ_len {F:Pr→List ByteArray} (hF:∀p,(F p).length≤p.syms.length):∀l:List Pr,(univ F l).length≤symsN l
 | []=>Nat.le_refl _
 | p::l=>by
  have h1:=univ_len hF l
  have h2:=hF p
  unfold univ at h1 ⊢
  rw[List.flatMap_cons,List.length_append]
  have:symsN (p::l)=p.syms.length+symsN l:=by simp[symsN]
  omega
def metF (M:List ByteArray) (s:ByteArray):Option Value:=if s∈M then some (.int .i64 1) else none
theorem metF_get (M:List ByteArray) (s:ByteArray):(metF M s).getD (.int .i64 0)=.int .i64 (if s∈M then 1 else 0):=by
 unfold metF
 split<;>rfl
theorem metF_snoc (M:List ByteArray) (s:ByteArray):metF (M++[s])=upd (metF M) s (.int .i64 1):=by
 funext x
 unfold metF upd
 by_cases h:x=s
 ·simp[h]
 ·simp[h]
structure RI (F:Pr→List ByteArray) (l:List Pr) (fr:ByteArray) (M:List ByteArray):Prop where
 nd:M.Nodup
 sound:∀x∈M,Far l F fr x
theorem RI.univ {F:Pr→List ByteArray} {l:List Pr} {fr:ByteArray} {M:List ByteArray} (h:RI F l fr M):∀x∈M,x∈univ F l:=fun x hx=>by
 cases h.sound x hx with
 | one h=>exact step_univ h
 | more _ h=>exact step_univ h
theorem RI.len {F:Pr→List ByteArray} {l:List Pr} {fr:ByteArray} {M:List ByteArray} (h:RI F l fr M):M.length≤(Go.Proofs.YtilpgpcgcpedjaaGreat.univ F l).length:=nodup_len _ _ h.nd h.univ
theorem RI.push {F:Pr→List ByteArray} {l:List Pr} {fr:ByteArray} {M:List ByteArray} (h:RI F l fr M) {x:ByteArray} (hx:x∉M) (hf:Far l F fr x):RI F l fr (M++[x]):=⟨by
 rw[List.nodup_append]
 refine ⟨h.nd,by simp,?_⟩
 intro a ha b hb e
 simp at hb
 subst hb
 subst e
 exact hx ha,fun y hy=>by
 rcases List.mem_append.1 hy with h1|h1
 ·exact h.sound y h1
 ·simp at h1
  subst h1
  exact hf⟩
theorem names_cell {W:World} {lo:Nat} {l:List ByteArray} {v:Value} (h:NamesAt W lo l v) {j:Nat} {x:ByteArray} (hj:l[j]?=some x):∃g cap,v=.slice (some ⟨g,0,none⟩) l.length cap∧lo≤g∧g<W.heap.size∧W.cell? ⟨g,j,none⟩=some (.string x):=by
 obtain⟨_,⟨rfl,h0⟩|⟨g,cap,cur,rfl,hg,hh,hn,hcap,hsz,htk⟩⟩:=h.row
 ·rw[List.length_eq_zero_iff.1 h0] at hj
  cases hj
 ·have hjl:j<l.length:=(List.getElem?_eq_some_iff.1 hj).1
  refine ⟨g,cap,rfl,hg,(Array.getElem?_eq_some_iff.1 hh).1,?_⟩
  rw[h.row.cellAt j (by omega)]
  simp[ncells,hj]
structure PE (w W:World) (F:Pr→List ByteArray) (l:List Pr) (fr:ByteArray) (B T:Nat) (M wk:List ByteArray) (wv:Value) (k:Nat):Prop where
 sh:∃va vc,wv=.slice va wk.length vc
 nm:NamesAt W (B+1) wk wv
 mp:Mp W B M.length (metF M)
 ri:RI F l fr M
 wkm:∀x∈wk,x=fr∨x∈M
 ms:k=2*(T-M.length)+wk.length
 le:k≤2*T+1
 bel:Below w.heap.size w W
theorem PE.pop {w W:World} {F:Pr→List ByteArray} {l:List Pr} {fr:ByteArray} {B T:Nat} {M q:List ByteArray} {x:ByteArray} {g n c k:Nat} (h:PE w W F l fr B T M (q++[x]) (.slice (some ⟨g,0,none⟩) n c) k):PE w W F l fr B T M q (.slice (some ⟨g,0,none⟩) q.length c) (k-1):=by
 obtain⟨va,vc,e⟩:=h.sh
 simp only[Value.slice.injEq] at e
 obtain⟨rfl,rfl,rfl⟩:=e
 have hl:(q++[x]).length=q.length+1:=by simp
 have hr:=h.nm.row
 rw[hl] at hr
 refine ⟨⟨_,_,rfl⟩,⟨ownsRow_pop (last:=[.string x]) (by simp[ncells]) (by simpa [ncells] using hr)⟩,h.mp,h.ri,fun y hy=>h.wkm y (by simp[hy]),?_,?_,h.bel⟩
 ·have:=h.ms
  rw[hl] at this
  omega
 ·have:=h.le
  omega
def PK (w W:World) (F:Pr→List ByteArray) (l:List Pr) (fr:ByteArray) (B T:Nat) (wv:Value) (k:Nat):Prop:=∃M wk,PE w W F l fr B T M wk wv k∧∀a,(a=fr∨a∈M)→a∉wk→∀b,Step l F a b→b∈M
theorem reach_any (F:Pr→List ByteArray) (hFl:∀p,(F p).length≤p.syms.length) (l:List Pr) (fr:ByteArray) (w:World) (lo0 B0 m0:Nat) (f:ByteArray→Option Value) (hS:SP w lo0 B0 m0 (leadsAll F l) f) (hfew:symsN l≤1000000) (hfr:fr.size≤maxLen) (hnm:∀a b,Step l F a b→b.size≤maxLen):
  Calls Tryz.prog 63 #[.map (some B0),.string fr] w fun e w'=>(∃B M,e=.returned (.map (some B))∧Mp w' B M.length (metF M)∧(∀x,x∈M↔Far l F fr x)∧M.length≤1000000∧w.heap.size≤B)∧Below w.heap.size w w':=by
 obtain⟨i0,hi,hz0,hz1,hz2⟩:=info_parts info9
 obtain⟨T,hT⟩:∃T,(univ F l).length=T:=⟨_,rfl⟩
 have HTB:Hid (T≤1000000):=by show _≤_;rw[←hT];exact Nat.le_trans (univ_len hFl l) hfew
 have HUL:Hid (∀M,RI F l fr M→M.length≤T):=fun M h=>by rw[←hT];exact h.len
 have HSP:=hHi hS
 have HNM:=hHi hnm
 have HLB:Hid (∀s,(leadsAll F l s).length≤1000000):=fun s=>Nat.le_trans (leadsAll_len F 0 hFl l s) hfew
 clear hS hfew hnm hT hFl
 have hmm:=@run_makeMap Tryz.prog
 go_enter Tryz.func63,Tryz.ntmps63
 obtain⟨w1,hw1⟩:∃qW,w.alloc (.map #[] 0)=qW:=⟨_,rfl⟩
 have HM1:Hid (Mp w1 w.heap.size 0 (fun _=>none)):=by show Mp _ _ _ _;rw[←hw1];exact Mp.made w
 have HB1:=kB hw1
 have HS1:Hid (w1.heap.size=w.heap.size+1):=by show _=_;rw[←hw1];simp
 obtain⟨w2,hw2⟩:∃qW,w1.alloc (.cells #[.string fr] 9)=qW:=⟨_,rfl⟩
 have HB2:=kB hw2
 have HM2:=Mp.below HM1 HB2
 have HN2:Hid (NamesAt w2 (w.heap.size+1) [fr] (.slice (some ⟨w1.heap.size,0,none⟩) 1 1)):=by
  show NamesAt _ _ _ _
  rw[←hw2]
  exact ⟨World.ownsRow_lit w1 #[.string fr] 1 (by have:=HS1.out;omega) (by decide) rfl⟩
 have HB12:Hid (Below w.heap.size w w2):=below_tr HB1.out HB2.out
 go_wp2
 go_loopw[6] (fun wv W=>∃k,PK w W F l fr w.heap.size T wv k) (fun wv W=>least (PK w W F l fr w.heap.size T wv))
 case atStart=>exact ⟨2*T+1,[],[fr],⟨⟨_,_,rfl⟩,HN2.out,(by have e:metF []=fun _=>none:=(by funext s;simp[metF]);rw[e];exact HM2.out),⟨List.nodup_nil,fun x hx=>by cases hx⟩,fun x hx=>.inl (by simpa using hx),by simp,Nat.le_refl _,HB12.out⟩,fun a ha hn=>absurd (ha.elim (fun e=>by simp[e]) (fun h=>by cases h)) hn⟩
 case round=>
  obtain⟨k0,hk0⟩:=hrel
  have hsp:=least_spec hk0
  clear hk0
  generalize hke:least (PK w wr F l fr w.heap.size T _)=k at hsp
  obtain⟨M,wk,hP,hcl⟩:=hsp
  have HKE:=hHi hke
  clear hke
  obtain⟨va,vc,rfl⟩:=hP.sh
  have HP:=hHi hP
  have HCL:=hHi hcl
  clear hP hcl
  rcases List.eq_nil_or_concat wk with rfl|⟨q,at',rfl⟩
  ·go_wp2
   go_ret
   refine ⟨⟨_,M,rfl,HP.out.mp,fun x=>⟨HP.out.ri.sound x,fun hx=>?_⟩,Nat.le_trans (HUL.out _ HP.out.ri) HTB.out,Nat.le_refl _⟩,HP.out.bel⟩
   exact hx.mem (fun x=>x∈M) (fun x hx=>HCL.out fr (.inl rfl) (by simp) x hx) (fun x y hx hs=>HCL.out x (.inr hx) (by simp) y hs)
  rw[List.concat_eq_append] at HP HCL
  have HAT:Hid (at'=fr∨at'∈M):=HP.out.wkm at' (by simp)
  have HSR:Hid (∀b∈leadsAll F l at',Step l F at' b):=fun b hb=>mem_leadsAll.1 hb
  have hsz:at'.size≤maxLen:=by
   rcases HAT.out with rfl|h
   ·exact hfr
   ·cases HP.out.ri.sound _ h with
    | one h=>exact HNM.out _ _ h
    | more _ h=>exact HNM.out _ _ h
  obtain⟨g,cap,he,hg,hgl,hc⟩:=names_cell HP.out.nm (j:=q.length) (x:=at') (by simp)
  simp only[Value.slice.injEq] at he
  obtain⟨rfl,_,rfl⟩:=he
  have HPP:Hid (PE w wr F l fr w.heap.size T M q (.slice (some ⟨g,0,none⟩) q.length vc) (k-1)):=HP.out.pop
  have HKK:Hid (k-1<k):=by show _<_;have:=HP.out.ms;simp at this;omega
  have HC2:Hid (∀a,(a=fr∨a∈M)→a∉q→a≠at'→∀b,Step l F a b→b∈M):=fun a ha hn hne=>HCL.out a ha (by simp[hn,hne])
  have hlk:=((HSP.out.nx HP.out.bel).map).look Tryz.underlying91 (zero36 wr) hsz
  have HNA:Hid (NamesAt w lo0 (leadsAll F l at') ((f at').getD nilV)):=HSP.out.rows at'
  obtain⟨na,nc,hna⟩:=own_slice HNA.out.row
  rw[show (f at').getD (.slice none 0 0)=_ from hna] at hlk
  rw[hna] at HNA
  obtain⟨NL,hNL⟩:∃NL,leadsAll F l at'=NL:=⟨_,rfl⟩
  rw[hNL] at hlk HNA HSR
  obtain⟨Q,hQ⟩:∃Q,q.length=Q:=⟨_,rfl⟩
  have hq1:(q++[at']).length=Q+1:=by simp[hQ]
  have hhc:=hc
  rw[hQ] at hhc
  have HQ:=hHi hQ
  have hq2:((Q+1:Nat):Int)-1=(Q:Int):=by omega
  obtain⟨N2,hN2⟩:∃n,NL.length=n:=⟨_,rfl⟩
  rw[hN2] at hlk
  have hN2b:N2≤1000000:=by rw[←hN2,←hNL];exact HLB.out at'
  have HNL:=hHi hNL
  have HN2:=hHi hN2
  clear hNL hN2 hna hc hQ
  rw[List.concat_eq_append,hq1]
  have hQb:Q≤2000001:=by
   have h1:=HP.out.ms
   have h2:=HP.out.le
   have h3:=HTB.out
   rw[hq1] at h1
   omega
  have hcap:Q≤vc:=by
   obtain⟨a,c,e,h⟩:=own_cap HP.out.nm.row
   simp only[Value.slice.injEq] at e
   rw[hq1] at h
   obtain⟨_,_,rfl⟩:=e
   omega
  have hcapI:(Q:Int)≤(vc:Int):=by omega
  go_wp2
  go_loopw[6,31] (fun wv iv W=>∃(j k2:Nat) (M:List ByteArray) (wk:List ByteArray),j≤N2∧iv=.int .i64 j∧PE w W F l fr w.heap.size T M wk wv k2∧k2<k∧(at'=fr∨at'∈M)∧(∀a,(a=fr∨a∈M)→a∉wk→a≠at'→∀b,Step l F a b→b∈M)∧∀b∈NL.take j,b∈M) (fun _ iv _=>N2-(intOf iv).toNat)
  case atStart=>exact ⟨0,k-1,M,q,Nat.zero_le _,rfl,(by have:=HPP.out;rw[HQ.out] at this;exact this),HKK.out,HAT.out,HC2.out,fun b hb=>by simp at hb⟩
  case round=>
   obtain⟨j,k2,M2,wk2,hj,rfl,hP2,hk2,hat2,hc2,htk⟩:=hrel
   obtain⟨va2,vc2,rfl⟩:=hP2.sh
   have HP2:=hHi hP2
   have HK2:=hHi hk2
   have HA2:=hHi hat2
   have HCC:=hHi hc2
   have HTK:=hHi htk
   clear hP2 hk2 hat2 hc2 htk hlk hhc
   by_cases hlt:j<N2
   case pos=>
    obtain⟨x,hx⟩:∃x,NL[j]?=some x:=⟨NL[j]'(by rw[HN2.out];exact hlt),by simp⟩
    have hst:=HSR.out x (List.mem_of_getElem? hx)
    obtain⟨g2,cap2,he2,hg2,hgl2,hcx⟩:=names_cell HNA.out hx
    simp only[Value.slice.injEq] at he2
    obtain⟨rfl,_,rfl⟩:=he2
    have hsx:=HNM.out _ _ hst
    have hcx2:wr.cell? ⟨g2,j,none⟩=some (.string x):=(HP2.out.bel.cell (p:=⟨g2,j,none⟩) hgl2).trans hcx
    have hltI:(j:Int)<N2:=by omega
    have HT:Hid (NL.take (j+1)=NL.take j++[x]):=take_snoc' hx
    have HST:=hHi hst
    have HFX:Hid (Far l F fr x):=by
     rcases HA2.out with rfl|h
     ·exact .one hst
     ·exact .more (HP2.out.ri.sound _ h) hst
    have hl2:=HP2.out.mp.look Tryz.underlying72 (zero3 wr) hsx
    rw[metF_get] at hl2
    clear hcx hx hst
    by_cases hm:x∈M2
    ·rw[if_pos hm] at hl2
     have HM:=hHi hm
     clear hm
     go_wp2
     go_roundw
     case rel=>exact ⟨j+1,k2,M2,wk2,by omega,by go_num,HP2.out,HK2.out,HA2.out,HCC.out,fun b hb=>by rw[HT.out] at hb;rcases List.mem_append.1 hb with h|h;exact HTK.out b h;simp at h;rw[h];exact HM.out⟩
     case measure=>simp[intOf];omega
    ·rw[if_neg hm] at hl2
     have HNM2:=hHi hm
     clear hm
     obtain⟨m2,hm2⟩:∃m,M2.length=m:=⟨_,rfl⟩
     have hmb:m2<T:=by
      have h1:=HUL.out _ (HP2.out.ri.push HNM2.out HFX.out)
      rw[List.length_append,hm2] at h1
      simp at h1
      omega
     have HMP:=hHi HP2.out.mp
     rw[hm2] at HMP
     have hTb:=HTB.out
     go_wp2_with (first | (at_mapUpdate;refine wpList_mapUpdate_mp rfl _ _ _ 72 rfl 3 Tryz.underlying72 HMP rfl (by unfold maxLen;omega) x (.int .i64 1) rfl rfl hsx ?_) | go_in)
     intro w4 HM4 HG4
     have HN4:Hid (NamesAt w4 (w.heap.size+1) wk2 (.slice va2 wk2.length vc2)):=HP2.out.nm.kept HG4.out (Nat.lt_succ_self _)
     have HB4:Hid (Below w.heap.size w w4):=HP2.out.bel.trans (belG HG4.out (Nat.le_refl _) HP2.out.bel.size)
     have HWK:Hid (wk2.length≤2000001):=by have h1:=HP2.out.ms;have h2:=HP2.out.le;show _≤_;omega
     have HOB:Hid (∀b,(Value.slice va2 wk2.length vc2).ownBlock=some b→w.heap.size+1≤b∧b<w4.heap.size):=fun b hb=>by have:=HN4.out.row.lt b hb;omega
     have HROW:=hU HN4.out.row
     have h16:(wk2.length+1)*16≤140737488355328:=by have:=HWK.out;omega
     have HLT4:=hHi HM4.out.lt
     clear hcx2 hl2
     go_wp2_with (at_builtin;refine wpList_append_lies _ rfl _ _ 36 rfl (w.heap.size+1) 9 i0 _ 1 16 Tryz.underlying36 hi hz0 hz1 hz2 rfl (by decide) (.slice va2 wk2.length vc2) wk2.length (ncells wk2) rfl ((HROW.out ()).alloc _) ⟨w4.heap.size,0,none⟩ 1 1 [.string x] rfl rfl ?ca1 ?ca2 (by decide) ?ca3 ?ca4 ?ca5 (w4.heap.size+1) (by simp) ?_)
     case ca1=>exact new_cells _ _ [.string x]
     case ca2=>intro u hu;simp at hu;subst hu;rfl
     case ca3=>unfold maxLen;omega
     case ca4=>exact h16
     case ca5=>have:=HLT4.out;simp;omega
     intro g1 cap1 w7 hown hgrow hat hlt7
     have HP7:Hid (PE w w7 F l fr w.heap.size T (M2++[x]) (wk2++[x]) (.slice (some ⟨g1,0,none⟩) (wk2++[x]).length cap1) (k2-1)):=⟨⟨_,_,rfl⟩,⟨by rw[List.length_append];simpa [ncells] using hown⟩,
      (by
       have e:(M2++[x]).length=m2+1:=by simp[hm2]
       rw[e,metF_snoc]
       exact (HM4.out.keep (World.grownBy_alloc _ _ none) (by simp)).keep hgrow (fun e=>by have:=(HOB.out _ e.symm).1;omega)),
      HP2.out.ri.push HNM2.out HFX.out,
      fun y hy=>(List.mem_append.1 hy).elim (fun h=>(HP2.out.wkm y h).imp id (fun h=>by simp[h])) (fun h=>.inr (by simp at h;simp[h])),
      (by have h1:=HP2.out.ms;simp only[List.length_append,List.length_cons,List.length_nil,hm2] at h1 ⊢;omega),
      (by have:=HP2.out.le;omega),
      HB4.out.trans (((Below.refl _ _).alloc HB4.out.size _).trans (belO hgrow (fun b hb=>by have:=(HOB.out b hb).1;omega) (by have:=HB4.out.size;simp;omega)))⟩
     have HKL:Hid (k2-1<k):=by show _<_;have:=HK2.out;omega
     clear hown hgrow hat hlt7
     go_wp2
     go_roundw
     case rel=>exact ⟨j+1,k2-1,M2++[x],wk2++[x],by omega,by go_num,(by have h:=HP7.out;rw[List.length_append] at h;exact h),HKL.out,HA2.out.imp id (fun h=>by simp[h]),fun a ha hn hne b hs=>by
      simp only[List.mem_append,List.mem_singleton] at ha hn ⊢
      rcases ha with h|h|h
      ·exact .inl (HCC.out a (.inl h) (fun e=>hn (.inl e)) hne b hs)
      ·exact .inl (HCC.out a (.inr h) (fun e=>hn (.inl e)) hne b hs)
      ·exact absurd (.inr h) hn,fun b hb=>by
      rw[HT.out] at hb
      simp only[List.mem_append,List.mem_singleton] at hb ⊢
      exact hb.imp (HTK.out b) id⟩
     case measure=>simp[intOf];omega
   obtain rfl:j=N2:=by omega
   have HCF:Hid (∀a,(a=fr∨a∈M2)→a∉wk2→∀b,Step l F a b→b∈M2):=fun a ha hn b hs=>by
    by_cases hne:a=at'
    ·subst hne
     have:b∈NL:=by rw[←HNL.out];exact mem_leadsAll.2 hs
     exact HTK.out b (by rw[List.take_of_length_le (by rw[HN2.out];exact Nat.le_refl _)];exact this)
    ·exact HCC.out a ha hn hne b hs
   have HPK:Hid (PK w wr F l fr w.heap.size T (.slice va2 wk2.length vc2) k2):=⟨M2,wk2,HP2.out,HCF.out⟩
   go_wp2
   go_roundw
   case rel=>exact ⟨k2,HPK.out⟩
   case measure=>
    have e:=HKE.out
    rw[List.concat_eq_append,hq1] at e
    exact Nat.lt_of_lt_of_eq (Nat.lt_of_le_of_lt (least_le HPK.out) HK2.out) e.symm
end Go.Proofs.YtilpgpcgcpedjaaGreat
