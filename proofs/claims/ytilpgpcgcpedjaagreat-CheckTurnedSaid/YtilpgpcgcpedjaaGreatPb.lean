/- A definition that is right, plainly; without its templates, its chains, its rejects it stays so. -/
import Derived.Test.YtilpgpcgcpedjaaGreatNf
namespace Go.Proofs.YtilpgpcgcpedjaaGreat
open Go.RowKit
set_option linter.unusedVariables false
set_option linter.unusedSimpArgs false
set_option maxRecDepth 100000
set_option maxHeartbeats 16000000
structure OkD (d:Df):Prop where
 r:rightB d=true
 l:∀k,k<14→line d k=none
theorem chk_ok (d:Df):(chk d (rightB d)).1=0↔OkD d:=by
 unfold chk
 constructor
 ·intro h
  cases hr:rightB d with
  | false=>rw[hr] at h;simp at h
  | true=>
   rw[hr,if_pos rfl] at h
   cases hl:lines d 14 with
   | none=>
    refine ⟨hr,fun k hk=>?_⟩
    unfold lines at hl
    rw[List.findSome?_eq_none_iff] at hl
    exact hl k (by simpa using hk)
   | some s=>
    exfalso
    rw[hl] at h
    unfold lines at hl
    obtain⟨k,_,hk⟩:=List.exists_of_findSome?_eq_some hl
    exact line_code d k s.1 s.2 hk h
 ·intro h
  have hl:lines d 14=none:=by
   unfold lines
   rw[List.findSome?_eq_none_iff]
   intro k hk
   exact h.l k (by simpa using hk)
  rw[h.r,if_pos rfl,hl]
  rfl
theorem tell_none {c:Int} {o:Option Nm}:tell c o=none↔o=none:=by cases o<;>simp[tell]
def lessD (d:Df) (cb rb bb:Bool):Df:=⟨d.start,d.layout,d.prods,cond cb [] d.chains,d.follows,cond rb [] d.rejects,cond bb [] d.boxes⟩
theorem mem_cond {α:Type} {b:Bool} {l:List α} {x:α} (h:x∈cond b [] l):x∈l:=by
 cases b with
 | true=>cases h
 | false=>exact h
theorem less_right {d:Df} (h:RightD d) (cb rb bb:Bool):RightD (lessD d cb rb bb):=⟨h.s,h.l,h.n,h.p,fun x hx=>h.c x (mem_cond hx),h.f,fun x hx=>h.r x (mem_cond hx),fun x hx=>h.b x (mem_cond hx)⟩
theorem less_ok {d:Df} (h:OkD d) (cb rb bb:Bool):OkD (lessD d cb rb bb):=by
 refine ⟨(right_iff _).2 (less_right ((right_iff _).1 h.r) cb rb bb),fun k hk=>?_⟩
 match k,hk with
 | 0,_=>exact h.l 0 (by omega)
 | 1,_=>exact h.l 1 (by omega)
 | 2,_=>exact h.l 2 (by omega)
 | 3,_=>
  have h3:=tell_none.1 (h.l 3 (by omega))
  rw[List.find?_eq_none] at h3
  refine tell_none.2 ?_
  rw[List.find?_eq_none]
  intro x hx
  refine h3 x ?_
  unfold namesAll at hx ⊢
  simp only[List.mem_append] at hx ⊢
  rcases hx with hx|hx
  ·exact .inl hx
  ·refine .inr ?_
   obtain⟨r,hr,hx⟩:=List.mem_flatMap.1 hx
   exact List.mem_flatMap.2 ⟨r,mem_cond hr,hx⟩
 | 4,_=>exact h.l 4 (by omega)
 | 5,_=>exact h.l 5 (by omega)
 | 6,_=>exact h.l 6 (by omega)
 | 7,_=>exact h.l 7 (by omega)
 | 8,_=>exact h.l 8 (by omega)
 | 9,_=>exact h.l 9 (by omega)
 | 10,_=>
  cases rb with
  | true=>rfl
  | false=>exact h.l 10 (by omega)
 | 11,_=>
  cases cb with
  | true=>rfl
  | false=>exact h.l 11 (by omega)
 | 12,_=>exact h.l 12 (by omega)
 | 13,_=>
  cases bb with
  | true=>rfl
  | false=>exact h.l 13 (by omega)
 | k+14,hk=>exact (Nat.not_lt.2 (Nat.le_add_left 14 k) hk).elim
def nilIf (b:Bool) (v:Value):Value:=cond b (.slice none 0 0) v
theorem sl_cond {α:Type} {W:World} {B n:Nat} {V:α→List Value→Prop} {l:List α} {v:Value} (b:Bool) (h:Sl W B n V l v):Sl W B n V (cond b [] l) (nilIf b v):=by
 cases b with
 | true=>exact sl_nil _ _ _ _
 | false=>exact h
theorem less_do {W:World} {d:Df} {v2 v3 v4 v5 v6:Value} (h:DO W d [.string d.start,.string d.layout,v2,v3,v4,v5,v6]) (cb rb bb:Bool):DO W (lessD d cb rb bb) [.string d.start,.string d.layout,v2,nilIf cb v3,v4,nilIf rb v5,nilIf bb v6]:=by
 obtain⟨f,u2,u3,u4,u5,u6,e,h2,h3,h4,h5,h6⟩:=h.da.at'
 simp only[List.cons.injEq,true_and,and_true] at e
 obtain⟨rfl,rfl,rfl,rfl,rfl⟩:=e
 obtain⟨g,hz⟩:=h.sz
 have hl:∀{α:Type} {b:Bool} {l:List α} {m:Nat},l.length*m≤140737488355328→(cond b [] l).length*m≤140737488355328:=fun {α b l m} h=>by
  cases b with
  | true=>simp
  | false=>exact h
 exact ⟨⟨f,_,_,_,_,_,rfl,h2,sl_cond cb h3,h4,sl_cond rb h5,sl_cond bb h6⟩,⟨g,hz.p,hl hz.c,hz.fo,hl hz.r,hl hz.b,hz.ps,fun c hc=>hz.cs c (mem_cond hc),fun b hb=>hz.bs b (mem_cond hb)⟩,⟨h.nm.start,h.nm.layout,h.nm.prods,fun c hc=>h.nm.chains c (mem_cond hc),h.nm.follows,fun r hr=>h.nm.rejects r (mem_cond hr),fun b hb=>h.nm.boxes b (mem_cond hb)⟩⟩
theorem less_lists {d:Df} (h:lists d≤400∧symsN d.prods≤400) (cb rb bb:Bool):lists (lessD d cb rb bb)≤400∧symsN (lessD d cb rb bb).prods≤400:=by
 refine ⟨?_,h.2⟩
 have h1:=h.1
 have hl:∀{α:Type} {b:Bool} {l:List α},(cond b [] l).length≤l.length:=fun {α b l}=>by cases b<;>simp
 have a1:=hl (b:=cb) (l:=d.chains)
 have a2:=hl (b:=rb) (l:=d.rejects)
 have a3:=hl (b:=bb) (l:=d.boxes)
 unfold lists at h1 ⊢
 show d.prods.length+(cond cb [] d.chains).length+d.follows.length+(cond rb [] d.rejects).length+(cond bb [] d.boxes).length≤400
 omega
end Go.Proofs.YtilpgpcgcpedjaaGreat
