/- A definition whose productions, follows, rejects and templates stand in another order is right or not, as it was: plainly. -/
import Derived.Test.YtilpgpcgcpedjaaGreatPf
namespace Go.Proofs.YtilpgpcgcpedjaaGreat
open Go.RowKit
set_option linter.unusedVariables false
set_option linter.unusedSimpArgs false
set_option maxRecDepth 100000
set_option maxHeartbeats 16000000
theorem fw_none {α:Type} {f:List α→α→Bool} {P:α→Prop} {R:α→α→Prop} (hf:∀b x,f b x=true↔P x∨∃y∈b,R y x):∀(l b:List α),firstWith f b l=none↔(∀x∈l,¬P x)∧(∀x∈l,∀y∈b,¬R y x)∧l.Pairwise (fun y x=>¬R y x)
 | [],b=>by simp[firstWith]
 | x::l,b=>by
  rw[firstWith]
  by_cases h:f b x=true
  ·rw[if_pos h]
   simp only[reduceCtorEq,false_iff]
   rintro ⟨h1,h2,_⟩
   rcases (hf b x).1 h with h|⟨y,hy,h⟩
   ·exact h1 x (by simp) h
   ·exact h2 x (by simp) y hy h
  ·rw[if_neg h,fw_none hf l (b++[x])]
   have hn:¬P x∧∀y∈b,¬R y x:=⟨fun hp=>h ((hf b x).2 (.inl hp)),fun y hy hr=>h ((hf b x).2 (.inr ⟨y,hy,hr⟩))⟩
   rw[List.pairwise_cons]
   constructor
   ·rintro ⟨h1,h2,h3⟩
    refine ⟨fun z hz=>?_,fun z hz y hy=>?_,fun z hz=>h2 z hz x (by simp),h3⟩
    ·rcases List.mem_cons.1 hz with rfl|hz
     ·exact hn.1
     ·exact h1 z hz
    ·rcases List.mem_cons.1 hz with rfl|hz
     ·exact hn.2 y hy
     ·exact h2 z hz y (by simp[hy])
   ·rintro ⟨h1,h2,h3,h4⟩
    refine ⟨fun z hz=>h1 z (by simp[hz]),fun z hz y hy=>?_,h4⟩
    rcases List.mem_append.1 hy with hy|hy
    ·exact h2 z (by simp[hz]) y hy
    ·simp at hy
     subst hy
     exact h3 z hz
structure Turned (d x:Df):Prop where
 st:x.start=d.start
 la:x.layout=d.layout
 ch:x.chains=d.chains
 pr:x.prods.Perm d.prods
 fo:x.follows.Perm d.follows
 re:x.rejects.Perm d.rejects
 bo:x.boxes.Perm d.boxes
theorem Turned.symm {d x:Df} (h:Turned d x):Turned x d:=⟨h.st.symm,h.la.symm,h.ch.symm,h.pr.symm,h.fo.symm,h.re.symm,h.bo.symm⟩
theorem any_perm {α:Type} {l l':List α} (h:l.Perm l') (f:α→Bool):l.any f=l'.any f:=by
 rw[Bool.eq_iff_iff,List.any_eq_true,List.any_eq_true]
 constructor
 ·rintro ⟨x,hx,hf⟩
  exact ⟨x,h.mem_iff.1 hx,hf⟩
 ·rintro ⟨x,hx,hf⟩
  exact ⟨x,h.mem_iff.2 hx,hf⟩
theorem lexd_perm {l l':List Pr} (h:l.Perm l') (s:Nm):lexd l s=lexd l' s:=any_perm h _
theorem plnd_perm {l l':List Pr} (h:l.Perm l') (s:Nm):plnd l s=plnd l' s:=any_perm h _
theorem srt_perm {l l':List Pr} (h:l.Perm l') (s:Nm):s∈srt l↔s∈srt l':=by
 rw[mem_srt,mem_srt]
 constructor
 ·rintro ⟨x,hx,hf⟩
  exact ⟨x,h.mem_iff.1 hx,hf⟩
 ·rintro ⟨x,hx,hf⟩
  exact ⟨x,h.mem_iff.2 hx,hf⟩
theorem step_perm {l l':List Pr} (h:l.Perm l') (L:Pr→List Nm) (a b:Nm):Step l L a b↔Step l' L a b:=by
 constructor
 ·rintro ⟨x,hx,hf⟩
  exact ⟨x,h.mem_iff.1 hx,hf⟩
 ·rintro ⟨x,hx,hf⟩
  exact ⟨x,h.mem_iff.2 hx,hf⟩
theorem farB_perm {l l':List Pr} (h:l.Perm l') (L:Pr→List Nm) (a b:Nm):farB l L a b=farB l' L a b:=farB_eq (step_perm h L) a b
theorem isCons_iff (d:Df) (s:Nm):isCons d s=true↔∃p∈d.prods,consOf p=s∧s≠no:=by
 unfold isCons firstCons
 rw[List.findIdx?_isSome,List.any_eq_true]
 simp
theorem isCons_perm {d x:Df} (h:Turned d x) (s:Nm):isCons x s=isCons d s:=by
 rw[Bool.eq_iff_iff,isCons_iff,isCons_iff]
 constructor
 ·rintro ⟨q,hx,hf⟩
  exact ⟨q,h.pr.mem_iff.1 hx,hf⟩
 ·rintro ⟨q,hx,hf⟩
  exact ⟨q,h.pr.mem_iff.2 hx,hf⟩
def RCx (q p:Pr):Prop:=consOf p≠no∧consOf q=consOf p
theorem cons_none (l:List Pr):consBad l=none↔l.Pairwise (fun q p=>¬RCx q p):=by
 unfold consBad
 rw[Option.map_eq_none_iff,fw_none (P:=fun _=>False) (R:=RCx) (fun b x=>by
  unfold RCx
  simp
  exact ⟨fun ⟨a,y,b,c⟩=>⟨y,b,a,c⟩,fun ⟨y,b,a,c⟩=>⟨a,y,b,c⟩⟩)]
 simp
theorem kind_perm {d x:Df} (h:Turned d x) (p:Pr):kindBad x p=kindBad d p:=by
 unfold kindBad
 simp only[lexd_perm h.pr,h.la]
theorem said_perm {d x:Df} (h:Turned d x) (s:Nm):said x s=said d s:=by
 unfold said
 rw[any_perm h.re,any_perm h.fo]
theorem meets_perm {d x:Df} (h:Turned d x) (s:Nm):meets x s=meets d s:=by
 have hu:usesB x=usesB d:=by
  funext a b
  exact farB_perm h.pr leadsN a b
 have hs:said x=said d:=funext (said_perm h)
 unfold meets
 rw[hu,hs]
def PRx (d:Df) (r:Re):Prop:=(!lexd d.prods r.sort||!lexd d.prods r.by'||decide (r.sort=r.by')||meets d r.by')=true
theorem rej_none (d:Df) (l:List Re):firstWith (rejBad d) [] l=none↔(∀r∈l,¬PRx d r)∧l.Pairwise (fun q r=>¬q.sort=r.sort):=by
 rw[fw_none (P:=PRx d) (R:=fun q r=>q.sort=r.sort) (fun b x=>by
  unfold rejBad PRx
  simp only[Bool.or_eq_true,List.any_eq_true,decide_eq_true_eq]
  constructor
  ·intro h
   rcases h with (h|h)|h
   ·exact .inl (.inl h)
   ·exact .inr h
   ·exact .inl (.inr h)
  ·intro h
   rcases h with (h|h)|h
   ·exact .inl (.inl h)
   ·exact .inr h
   ·exact .inl (.inr h))]
 simp
theorem pr_perm {d x:Df} (h:Turned d x) (r:Re):PRx x r↔PRx d r:=by
 unfold PRx
 rw[lexd_perm h.pr,lexd_perm h.pr,meets_perm h]
def PBx (d:Df) (x:Bo):Prop:=¬∃p∈d.prods,consOf p=x.cons∧x.cons≠no∧fitsB x p=true
def boxP (d:Df) (x:Bo):Bool:=match firstCons d.prods x.cons with
 | none=>true
 | some i=>match d.prods[i]? with
  | some p=>!fitsB x p
  | none=>true
theorem boxP_iff {d:Df} (hp:d.prods.Pairwise (fun q p=>¬RCx q p)) (x:Bo):boxP d x=true↔PBx d x:=by
 unfold boxP PBx
 cases hc:firstCons d.prods x.cons with
 | none=>
  simp only[true_iff]
  rintro ⟨p,hm,h1,h2,_⟩
  have:=List.findIdx?_eq_none_iff.1 hc p hm
  simp[h1,h2] at this
 | some i=>
  obtain⟨hi,h1,_⟩:=List.findIdx?_eq_some_iff_getElem.1 hc
  simp only[List.getElem?_eq_getElem hi]
  have h1:consOf d.prods[i]=x.cons∧x.cons≠no:=by simpa using h1
  constructor
  ·rintro h ⟨p,hm,h2,h3,h4⟩
   obtain⟨j,hj,rfl⟩:=List.getElem_of_mem hm
   have:i=j:=by
    rw[List.pairwise_iff_getElem] at hp
    rcases Nat.lt_trichotomy i j with hlt|he|hgt
    ·exact absurd ⟨by rw[h2];exact h3,h1.1.trans h2.symm⟩ (hp i j hi hj hlt)
    ·exact he
    ·exact absurd ⟨by rw[h1.1];exact h3,h2.trans h1.1.symm⟩ (hp j i hj hi hgt)
   subst this
   rw[h4] at h
   cases h
  ·intro h
   cases hf:fitsB x d.prods[i] with
   | true=>exact absurd ⟨_,List.getElem_mem hi,h1.1,h1.2,hf⟩ h
   | false=>rfl
theorem box_none {d:Df} (hp:d.prods.Pairwise (fun q p=>¬RCx q p)) (l:List Bo):firstWith (boxBad d) [] l=none↔(∀x∈l,¬PBx d x)∧l.Pairwise (fun q r=>¬q.cons=r.cons):=by
 rw[fw_none (P:=PBx d) (R:=fun q r=>q.cons=r.cons) (fun b x=>by
  rw[←boxP_iff hp]
  show (b.any (fun y=>decide (y.cons=x.cons))||boxP d x)=true↔_
  simp only[Bool.or_eq_true,List.any_eq_true,decide_eq_true_eq]
  exact or_comm)]
 simp
theorem pb_perm {d x:Df} (h:Turned d x) (b:Bo):PBx x b↔PBx d b:=by
 unfold PBx
 constructor
 ·rintro hn ⟨p,hm,hq⟩
  exact hn ⟨p,h.pr.mem_iff.2 hm,hq⟩
 ·rintro hn ⟨p,hm,hq⟩
  exact hn ⟨p,h.pr.mem_iff.1 hm,hq⟩
theorem map_none {α β:Type} {o:Option α} {f:α→β}:o.map f=none↔o=none:=Option.map_eq_none_iff
theorem find_perm {α:Type} {l l':List α} (h:l'.Perm l) {f g:α→Bool} (hfg:∀x,g x=f x) (hn:l.find? f=none):l'.find? g=none:=by
 rw[List.find?_eq_none] at hn ⊢
 intro x hx
 rw[hfg]
 exact hn x (h.mem_iff.1 hx)
theorem turned_ok {d x:Df} (h:Turned d x) (ho:OkD d):OkD x:=by
 have hr:=(right_iff d).1 ho.r
 have h5:=(cons_none _).1 (tell_none.1 (ho.l 5 (by omega)))
 have hsR:∀{q p:Pr},¬RCx q p→¬RCx p q:=fun {q p} h1 h2=>h1 ⟨by rw[h2.2];exact h2.1,h2.2.symm⟩
 have h5x:x.prods.Pairwise (fun q p=>¬RCx q p):=(h.pr.pairwise_iff (fun {a b} hab=>hsR hab)).2 h5
 refine ⟨(right_iff x).2 ⟨by rw[h.st];exact hr.s,by rw[h.la];exact hr.l,by rw[h.pr.length_eq];exact hr.n,fun p hp=>hr.p p (h.pr.mem_iff.1 hp),by rw[h.ch];exact hr.c,fun p hp=>hr.f p (h.fo.mem_iff.1 hp),fun p hp=>hr.r p (h.re.mem_iff.1 hp),fun p hp=>hr.b p (h.bo.mem_iff.1 hp)⟩,fun k hk=>?_⟩
 match k,hk with
 | 0,_=>
  have h0:=tell_none.1 (ho.l 0 (by omega))
  refine tell_none.2 ?_
  rw[List.find?_eq_none] at h0 ⊢
  intro s hs
  rw[lexd_perm h.pr,plnd_perm h.pr]
  exact h0 s ((srt_perm h.pr s).1 hs)
 | 1,_=>
  have h1:=ho.l 1 (by omega)
  show (if decide (x.start∈srt x.prods)=false∨lexd x.prods x.start=true then some ((40:Int),x.start) else none)=none
  have e:decide (x.start∈srt x.prods)=decide (d.start∈srt d.prods):=by rw[h.st];exact decide_eq_decide.2 (srt_perm h.pr _)
  rw[e,lexd_perm h.pr,h.st]
  exact h1
 | 2,_=>
  have h2:=ho.l 2 (by omega)
  show (if x.layout≠no∧lexd x.prods x.layout=false then some ((41:Int),x.layout) else none)=none
  rw[lexd_perm h.pr,h.la]
  exact h2
 | 3,_=>
  have h3:=tell_none.1 (ho.l 3 (by omega))
  refine tell_none.2 ?_
  rw[List.find?_eq_none] at h3 ⊢
  intro s hs
  have e:decide (s∉srt x.prods)=decide (s∉srt d.prods):=decide_eq_decide.2 (not_congr (srt_perm h.pr s))
  rw[e]
  refine h3 s ?_
  unfold namesAll at hs ⊢
  simp only[List.mem_append,List.mem_flatMap,List.mem_map] at hs ⊢
  rcases hs with (⟨q,hq,hs⟩|⟨q,hq,hs⟩)|⟨q,hq,hs⟩
  ·exact .inl (.inl ⟨q,h.pr.mem_iff.1 hq,hs⟩)
  ·exact .inl (.inr ⟨q,h.fo.mem_iff.1 hq,hs⟩)
  ·exact .inr ⟨q,h.re.mem_iff.1 hq,hs⟩
 | 4,_=>exact tell_none.2 (map_none.2 (find_perm h.pr (kind_perm h) (map_none.1 (tell_none.1 (ho.l 4 (by omega))))))
 | 5,_=>exact tell_none.2 ((cons_none _).2 h5x)
 | 6,_=>exact tell_none.2 (map_none.2 (find_perm h.pr (fun _=>rfl) (map_none.1 (tell_none.1 (ho.l 6 (by omega))))))
 | 7,_=>
  refine tell_none.2 (map_none.2 (find_perm h.pr (fun p=>?_) (map_none.1 (tell_none.1 (ho.l 7 (by omega))))))
  unfold longBad sizeP
  rw[h.la]
 | 8,_=>exact tell_none.2 (map_none.2 (find_perm h.pr (fun _=>rfl) (map_none.1 (tell_none.1 (ho.l 8 (by omega))))))
 | 9,_=>
  have h9:=tell_none.1 (ho.l 9 (by omega))
  refine tell_none.2 ?_
  rw[List.find?_eq_none] at h9 ⊢
  intro s hs
  have e:cycB x s=cycB d s:=farB_perm h.pr bareL s s
  rw[e]
  exact h9 s ((srt_perm h.pr s).1 hs)
 | 10,_=>
  have h10:=(rej_none d _).1 (map_none.1 (tell_none.1 (ho.l 10 (by omega))))
  refine tell_none.2 (map_none.2 ((rej_none x _).2 ⟨fun r hr=>?_,(h.re.pairwise_iff (fun {a b} hab=>fun e=>hab e.symm)).2 h10.2⟩))
  rw[pr_perm h]
  exact h10.1 r (h.re.mem_iff.1 hr)
 | 11,_=>
  have h11:=tell_none.1 (ho.l 11 (by omega))
  refine tell_none.2 ?_
  have e:chainBad x=chainBad d:=by
   funext c
   unfold chainBad
   congr 1
   funext b s
   rw[isCons_perm h]
  unfold prioBad at h11 ⊢
  rw[h.ch,e]
  exact h11
 | 12,_=>exact tell_none.2 (map_none.2 (find_perm h.fo (fun _=>rfl) (map_none.1 (tell_none.1 (ho.l 12 (by omega))))))
 | 13,_=>
  have h13:=(box_none h5 _).1 (map_none.1 (tell_none.1 (ho.l 13 (by omega))))
  refine tell_none.2 (map_none.2 ((box_none h5x _).2 ⟨fun r hr=>?_,(h.bo.pairwise_iff (fun {a b} hab=>fun e=>hab e.symm)).2 h13.2⟩))
  rw[pb_perm h]
  exact h13.1 r (h.bo.mem_iff.1 hr)
 | k+14,hk=>exact (Nat.not_lt.2 (Nat.le_add_left 14 k) hk).elim
def rot (n s:Nat):List Nat:=(List.range n).map fun i=>(i+s)%n
theorem rot_mod {n s i:Nat} (hs:s<n) (hi:i<n):(i+s)%n=if i+s<n then i+s else i+s-n:=by
 split
 ·rename_i h
  exact Nat.mod_eq_of_lt h
 ·rename_i h
  rw[Nat.mod_eq_sub_mod (by omega),Nat.mod_eq_of_lt (by omega)]
theorem rot_perm {n s:Nat} (hs:s<n):(rot n s).Perm (List.range n):=by
 have hnd:(rot n s).Nodup:=by
  unfold rot
  rw[List.nodup_iff_pairwise_ne,List.pairwise_map,List.pairwise_iff_getElem]
  intro i j hi hj hij
  simp only[List.length_range] at hi hj
  simp only[List.getElem_range]
  rw[rot_mod hs hi,rot_mod hs hj]
  split<;>split<;>omega
 refine (List.perm_ext_iff_of_nodup hnd List.nodup_range).2 (fun a=>?_)
 unfold rot
 rw[List.mem_map,List.mem_range]
 constructor
 ·rintro ⟨i,_,rfl⟩
  exact Nat.mod_lt _ (by omega)
 ·intro ha
  by_cases h:s≤a
  ·exact ⟨a-s,List.mem_range.2 (by omega),by rw[rot_mod hs (by omega),if_pos (by omega)];omega⟩
  ·exact ⟨a+n-s,List.mem_range.2 (by omega),by rw[rot_mod hs (by omega),if_neg (by omega)];omega⟩
theorem range_map {α:Type} [Inhabited α] (l:List α):(List.range l.length).map (fun i=>l[i]!)=l:=by
 apply List.ext_getElem
 ·simp
 ·intro i h1 h2
  simp[h2]
def pick {α:Type} [Inhabited α] (l:List α) (q:List Nat):List α:=q.map fun i=>l[i]!
theorem pick_perm {α:Type} [Inhabited α] (l:List α) {s:Nat} (hs:s<l.length):(pick l (rot l.length s)).Perm l:=by
 have h:=(rot_perm hs).map (fun i=>l[i]!)
 rw[range_map] at h
 exact h
end Go.Proofs.YtilpgpcgcpedjaaGreat
