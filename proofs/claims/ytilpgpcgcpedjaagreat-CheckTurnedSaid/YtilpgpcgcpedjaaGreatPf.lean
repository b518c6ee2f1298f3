/- A right definition in which a production stands twice, or with a template for what is no constructor: plainly. -/
import Derived.Test.YtilpgpcgcpedjaaGreatPb
namespace Go.Proofs.YtilpgpcgcpedjaaGreat
open Go.RowKit
set_option linter.unusedVariables false
set_option linter.unusedSimpArgs false
set_option maxRecDepth 100000
set_option maxHeartbeats 16000000
def dupD (d:Df) (p:Pr):Df:=⟨d.start,d.layout,d.prods++[p],d.chains,d.follows,d.rejects,d.boxes⟩
theorem any_dup {α:Type} {l:List α} {p:α} (hp:p∈l) (f:α→Bool):(l++[p]).any f=l.any f:=by
 rw[List.any_append]
 cases h:f p with
 | true=>
  have:l.any f=true:=List.any_eq_true.2 ⟨p,hp,h⟩
  rw[this]
  rfl
 | false=>simp[h]
theorem srt_dup {l:List Pr} {p:Pr} (hp:p∈l):srt (l++[p])=srt l:=by
 rw[srt_snoc]
 unfold addN
 rw[if_pos (mem_srt.2 ⟨p,hp,rfl⟩)]
theorem lexd_dup {l:List Pr} {p:Pr} (hp:p∈l) (s:Nm):lexd (l++[p]) s=lexd l s:=any_dup hp _
theorem plnd_dup {l:List Pr} {p:Pr} (hp:p∈l) (s:Nm):plnd (l++[p]) s=plnd l s:=any_dup hp _
theorem mem_dup {α:Type} {l:List α} {p:α} (hp:p∈l) {x:α}:x∈l++[p]↔x∈l:=by
 constructor
 ·intro h
  rcases List.mem_append.1 h with h|h
  ·exact h
  ·simp at h
   rw[h]
   exact hp
 ·exact fun h=>List.mem_append.2 (.inl h)
theorem step_dup {l:List Pr} {p:Pr} (hp:p∈l) (L:Pr→List Nm) (a b:Nm):Step (l++[p]) L a b↔Step l L a b:=by
 unfold Step
 constructor
 ·rintro ⟨q,hq,h⟩
  exact ⟨q,(mem_dup hp).1 hq,h⟩
 ·rintro ⟨q,hq,h⟩
  exact ⟨q,(mem_dup hp).2 hq,h⟩
theorem far_imp {l l':List Pr} {L:Pr→List Nm} (h:∀a b,Step l L a b→Step l' L a b) {a b:Nm} (hf:Far l L a b):Far l' L a b:=by
 induction hf with
 | one h1=>exact .one (h _ _ h1)
 | more _ h1 ih=>exact .more ih (h _ _ h1)
theorem farB_eq {l l':List Pr} {L:Pr→List Nm} (h:∀a b,Step l L a b↔Step l' L a b) (a b:Nm):farB l L a b=farB l' L a b:=by
 rw[Bool.eq_iff_iff,farB_iff,farB_iff]
 exact ⟨far_imp (fun a b=>(h a b).1),far_imp (fun a b=>(h a b).2)⟩
theorem farB_dup {l:List Pr} {p:Pr} (hp:p∈l) (L:Pr→List Nm) (a b:Nm):farB (l++[p]) L a b=farB l L a b:=farB_eq (step_dup hp L) a b
theorem first_dup {l:List Pr} {p:Pr} (hp:p∈l) (s:Nm):firstCons (l++[p]) s=firstCons l s:=by
 unfold firstCons
 rw[List.findIdx?_append]
 cases h:l.findIdx? (fun p=>decide (consOf p=s∧s≠no)) with
 | some i=>simp
 | none=>
  have h1:=List.findIdx?_eq_none_iff.1 h p hp
  simp[List.findIdx?_cons,h1]
  intro e
  exact Classical.byContradiction fun hn=>of_decide_eq_false h1 ⟨e,hn⟩
theorem fw_end {α:Type} (f:List α→α→Bool) (p:α):∀(l b:List α),firstWith f b (l++[p])=(match firstWith f b l with
 | some x=>some x
 | none=>if f (b++l) p then some p else none)
 | [],b=>by simp[firstWith]
 | x::l,b=>by
  rw[List.cons_append,firstWith,firstWith]
  split
  ·rfl
  ·rw[fw_end f p l (b++[x])]
   simp
theorem dup_right {d:Df} (h:RightD d) {p:Pr} (hp:p∈d.prods) (hn:d.prods.length<200):RightD (dupD d p):=⟨h.s,h.l,by show (d.prods++[p]).length≤200;simp;omega,fun x hx=>h.p x ((mem_dup hp).1 hx),h.c,h.f,h.r,h.b⟩
theorem kind_dup {d:Df} {p:Pr} (hp:p∈d.prods) (x:Pr):kindBad (dupD d p) x=kindBad d x:=by
 unfold kindBad
 show (if x.lex then x.syms.any (fun s=>decide (s.name≠no∧lexd (d.prods++[p]) s.name=false∨s.sep≠no)) else _)=_
 simp only[lexd_dup hp]
 rfl
theorem meets_dup {d:Df} {p:Pr} (hp:p∈d.prods) (s:Nm):meets (dupD d p) s=meets d s:=by
 have hu:usesB (dupD d p)=usesB d:=by
  funext a b
  exact farB_dup hp leadsN a b
 unfold meets
 rw[hu]
 rfl
theorem rej_dup {d:Df} {p:Pr} (hp:p∈d.prods):rejBad (dupD d p)=rejBad d:=by
 funext b r
 unfold rejBad
 rw[meets_dup hp]
 show (!lexd (d.prods++[p]) r.sort||!lexd (d.prods++[p]) r.by'||decide (r.sort=r.by')||b.any (fun q=>decide (q.sort=r.sort))||meets d r.by')=_
 rw[lexd_dup hp,lexd_dup hp]
theorem isCons_dup {d:Df} {p:Pr} (hp:p∈d.prods) (s:Nm):isCons (dupD d p) s=isCons d s:=by
 unfold isCons
 show (firstCons (d.prods++[p]) s).isSome=_
 rw[first_dup hp]
theorem prio_dup {d:Df} {p:Pr} (hp:p∈d.prods):prioBad (dupD d p)=prioBad d:=by
 unfold prioBad
 show d.chains.findSome? (chainBad (dupD d p))=_
 congr 1
 funext c
 unfold chainBad
 congr 1
 funext b s
 rw[isCons_dup hp]
theorem box_dup {d:Df} {p:Pr} (hp:p∈d.prods):boxBad (dupD d p)=boxBad d:=by
 funext b x
 unfold boxBad
 congr 1
 show (match firstCons (d.prods++[p]) x.cons with
 | none=>true
 | some i=>match (d.prods++[p])[i]? with
  | some p=>!fitsB x p
  | none=>true)=_
 rw[first_dup hp]
 cases h:firstCons d.prods x.cons with
 | none=>rfl
 | some i=>
  obtain⟨hi,_⟩:=List.findIdx?_eq_some_iff_getElem.1 h
  show (match (d.prods++[p])[i]? with
  | some p=>!fitsB x p
  | none=>true)=_
  rw[List.getElem?_append_left hi]
  rfl
theorem find_dup {α β:Type} {l:List α} {p:α} (hp:p∈l) {f:α→Bool} {g:α→β} (h:(l.find? f).map g=none):((l++[p]).find? f).map g=none:=by
 rw[Option.map_eq_none_iff,List.find?_eq_none] at h ⊢
 exact fun x hx=>h x ((mem_dup hp).1 hx)
theorem dup_line {d:Df} (h:OkD d) {p:Pr} (hp:p∈d.prods):∀k,k<14→k≠5→line (dupD d p) k=none
 | 0,_,_=>by
  have h0:=h.l 0 (by omega)
  show tell 42 ((srt (d.prods++[p])).find? fun s=>lexd (d.prods++[p]) s&&plnd (d.prods++[p]) s)=none
  simp only[srt_dup hp,lexd_dup hp,plnd_dup hp]
  exact h0
 | 1,_,_=>by
  have h0:=h.l 1 (by omega)
  show (if decide (d.start∈srt (d.prods++[p]))=false∨lexd (d.prods++[p]) d.start=true then some ((40:Int),d.start) else none)=none
  simp only[srt_dup hp,lexd_dup hp]
  exact h0
 | 2,_,_=>by
  have h0:=h.l 2 (by omega)
  show (if d.layout≠no∧lexd (d.prods++[p]) d.layout=false then some ((41:Int),d.layout) else none)=none
  simp only[lexd_dup hp]
  exact h0
 | 3,_,_=>by
  have h3:=tell_none.1 (h.l 3 (by omega))
  rw[List.find?_eq_none] at h3
  refine tell_none.2 ?_
  rw[List.find?_eq_none]
  intro x hx
  show ¬decide (x∉srt (d.prods++[p]))=true
  rw[srt_dup hp]
  refine h3 x ?_
  unfold namesAll at hx ⊢
  have hx:x∈(d.prods++[p]).flatMap leadsN++d.follows.map (·.sort)++d.rejects.flatMap fun r=>[r.sort,r.by']:=hx
  simp only[List.mem_append] at hx ⊢
  rcases hx with (hx|hx)|hx
  ·obtain⟨q,hq,hx⟩:=List.mem_flatMap.1 hx
   exact .inl (.inl (List.mem_flatMap.2 ⟨q,(mem_dup hp).1 hq,hx⟩))
  ·exact .inl (.inr hx)
  ·exact .inr hx
 | 4,_,_=>by
  refine tell_none.2 ?_
  show ((d.prods++[p]).find? (kindBad (dupD d p))).map (·.sort)=none
  rw[show kindBad (dupD d p)=kindBad d from funext (kind_dup hp)]
  exact find_dup hp (tell_none.1 (h.l 4 (by omega)))
 | 5,_,h5=>absurd rfl h5
 | 6,_,_=>tell_none.2 (find_dup hp (tell_none.1 (h.l 6 (by omega))))
 | 7,_,_=>tell_none.2 (find_dup hp (tell_none.1 (h.l 7 (by omega))))
 | 8,_,_=>tell_none.2 (find_dup hp (tell_none.1 (h.l 8 (by omega))))
 | 9,_,_=>by
  have h0:=h.l 9 (by omega)
  show tell 48 ((srt (d.prods++[p])).find? (cycB (dupD d p)))=none
  rw[srt_dup hp,show cycB (dupD d p)=cycB d from funext fun a=>farB_dup hp bareL a a]
  exact h0
 | 10,_,_=>by
  have h0:=h.l 10 (by omega)
  show tell 49 ((firstWith (rejBad (dupD d p)) [] d.rejects).map (·.sort))=none
  rw[rej_dup hp]
  exact h0
 | 11,_,_=>by
  have h0:=h.l 11 (by omega)
  show tell 50 (prioBad (dupD d p))=none
  rw[prio_dup hp]
  exact h0
 | 12,_,_=>h.l 12 (by omega)
 | 13,_,_=>by
  have h0:=h.l 13 (by omega)
  show tell 52 ((firstWith (boxBad (dupD d p)) [] d.boxes).map (·.cons))=none
  rw[box_dup hp]
  exact h0
 | k+14,hk,_=>(Nat.not_lt.2 (Nat.le_add_left 14 k) hk).elim
theorem dup_cons {d:Df} (h:OkD d) {p:Pr} (hp:p∈d.prods):line (dupD d p) 5=if consOf p=no then none else some (45,p.cons):=by
 have h0:=tell_none.1 (h.l 5 (by omega))
 show tell 45 (consBad (d.prods++[p]))=_
 unfold consBad at h0 ⊢
 rw[Option.map_eq_none_iff] at h0
 rw[fw_end,h0]
 have ha:d.prods.any (fun q=>decide (consOf q=consOf p))=true:=List.any_eq_true.2 ⟨p,hp,by simp⟩
 by_cases hc:consOf p=no
 ·rw[if_pos hc]
  simp[hc,tell]
 ·rw[if_neg hc]
  simp only[List.nil_append,ha]
  simp[hc,tell]
theorem dup_ok {d:Df} (h:OkD d) {p:Pr} (hp:p∈d.prods) (hn:d.prods.length<200) (hc:p.lex=true∨p.bracket=true):OkD (dupD d p):=by
 have hr:=(right_iff d).1 h.r
 have hcn:consOf p=no:=by
  unfold consOf
  cases hl:p.lex with
  | true=>rfl
  | false=>
   have hb:p.bracket=true:=by
    rcases hc with h|h
    ·rw[hl] at h;cases h
    ·exact h
   have h1:=hr.p p hp
   unfold prodB at h1
   rw[hl,hb] at h1
   simp only[Bool.and_eq_true] at h1
   have h2:=h1.1.1.2
   have he:em p.cons=true:=by
    cases he:em p.cons with
    | true=>rfl
    | false=>rw[he] at h2;simp at h2
   unfold em at he
   exact str_empty _ (of_decide_eq_true he)
 refine ⟨(right_iff _).2 (dup_right hr hp hn),fun k hk=>?_⟩
 by_cases h5:k=5
 ·subst h5
  rw[dup_cons h hp,if_pos hcn]
 ·exact dup_line h hp k hk h5
theorem dup_bad {d:Df} (h:OkD d) {p:Pr} (hp:p∈d.prods) (hn:d.prods.length<200) (h1:p.lex=false) (h2:p.bracket=false):chk (dupD d p) (rightB (dupD d p))=(45,p.cons):=by
 have hr:=(right_iff d).1 h.r
 have hcn:consOf p≠no:=by
  unfold consOf
  rw[h1]
  intro he
  have he:p.cons=no:=he
  have h3:=hr.p p hp
  unfold prodB at h3
  rw[h1,h2,he] at h3
  simp only[Bool.and_eq_true] at h3
  have h4:=h3.1.1.2
  exact absurd h4 (by decide)
 have h5:=dup_cons h hp
 rw[if_neg hcn] at h5
 have hl:lines (dupD d p) 5=none:=by
  unfold lines
  rw[List.findSome?_eq_none_iff]
  intro k hk
  have hk:k<5:=by simpa using hk
  exact dup_line h hp k (by omega) (by omega)
 unfold chk
 rw[(right_iff _).2 (dup_right hr hp hn),if_pos rfl,lines_hit _ 5 _ (by omega) hl h5]
 rfl
def boxD (d:Df) (n:Nm):Df:=⟨d.start,d.layout,d.prods,d.chains,d.follows,d.rejects,d.boxes++[⟨n,[]⟩]⟩
theorem box_bad {d:Df} (h:OkD d) {n:Nm} (hn:nm n=true):(chk (boxD d n) (rightB (boxD d n))).1=52∨0≤consI d.prods n:=by
 have hr:=(right_iff d).1 h.r
 have hr':RightD (boxD d n):=⟨hr.s,hr.l,hr.n,hr.p,hr.c,hr.f,hr.r,fun x hx=>by
  rcases List.mem_append.1 hx with h|h
  ·exact hr.b x h
  ·simp at h
   subst h
   unfold boxB
   rw[itsR,hn]
   rfl⟩
 cases hc:firstCons d.prods n with
 | some i=>
  right
  unfold consI
  rw[hc]
  exact Int.natCast_nonneg i
 | none=>
  left
  have hl:lines (boxD d n) 13=none:=by
   unfold lines
   rw[List.findSome?_eq_none_iff]
   intro k hk
   have hk:k<13:=by simpa using hk
   match k,hk with
   | 0,_=>exact h.l 0 (by omega)
   | 1,_=>exact h.l 1 (by omega)
   | 2,_=>exact h.l 2 (by omega)
   | 3,_=>exact h.l 3 (by omega)
   | 4,_=>exact h.l 4 (by omega)
   | 5,_=>exact h.l 5 (by omega)
   | 6,_=>exact h.l 6 (by omega)
   | 7,_=>exact h.l 7 (by omega)
   | 8,_=>exact h.l 8 (by omega)
   | 9,_=>exact h.l 9 (by omega)
   | 10,_=>exact h.l 10 (by omega)
   | 11,_=>exact h.l 11 (by omega)
   | 12,_=>exact h.l 12 (by omega)
   | k+13,hk=>exact (Nat.not_lt.2 (Nat.le_add_left 13 k) hk).elim
  have h13:=tell_none.1 (h.l 13 (by omega))
  rw[Option.map_eq_none_iff] at h13
  have hb:boxBad d d.boxes ⟨n,[]⟩=true:=by
   unfold boxBad
   show (_||match firstCons d.prods n with
    | none=>true
    | some i=>_)=true
   rw[hc]
   simp
  have hh:line (boxD d n) 13=some (52,n):=by
   show tell 52 ((firstWith (boxBad d) [] (d.boxes++[⟨n,[]⟩])).map (·.cons))=_
   rw[fw_end,h13]
   simp only[List.nil_append,hb]
   rfl
  unfold chk
  rw[(right_iff _).2 hr',if_pos rfl,lines_hit _ 13 _ (by omega) hl hh]
  rfl
end Go.Proofs.YtilpgpcgcpedjaaGreat
