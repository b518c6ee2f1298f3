/- Of each sort the names to which its productions lead: the map of lists that the program makes. -/
import Derived.Test.YtilpgpcgcpedjaaGreatKi
import Derived.Test.YtilpgpcgcpedjaaGreatH1
import Derived.Deep.RegionHeld3
namespace Go.Proofs.YtilpgpcgcpedjaaGreat
open Go.RowKit
set_option linter.unusedVariables false
set_option linter.unusedSimpArgs false
set_option maxRecDepth 100000
set_option maxHeartbeats 16000000
abbrev nilV:Value:=.slice none 0 0
theorem zero36 (w:World):(zeroValue 36).run Tryz.prog w=.ok (.slice none 0 0) w:=by kernel_rfl
def leadsAll (F:Pr→List ByteArray) (l:List Pr) (s:ByteArray):List ByteArray:=(l.filter fun p=>decide (p.sort=s)).flatMap F
theorem leadsAll_snoc (F:Pr→List ByteArray) (l:List Pr) (p:Pr) (s:ByteArray):leadsAll F (l++[p]) s=if s=p.sort then leadsAll F l s++F p else leadsAll F l s:=by
 unfold leadsAll
 by_cases h:s=p.sort
 ·subst h
  rw[if_pos rfl,List.filter_append,List.flatMap_append]
  simp
 ·rw[if_neg h,List.filter_append]
  have:¬p.sort=s:=fun e=>h e.symm
  simp[this]
theorem leadsAll_len (F:Pr→List ByteArray) (C:Nat) (hF:∀p,(F p).length≤p.syms.length):∀(l:List Pr) (s:ByteArray),(leadsAll F l s).length≤(l.map fun p=>p.syms.length).sum:=by
 intro l s
 induction l with
 | nil=>simp[leadsAll]
 | cons p l ih=>
  unfold leadsAll at ih ⊢
  rw[List.filter_cons]
  have:=hF p
  split
  ·rw[List.flatMap_cons,List.length_append,List.map_cons,List.sum_cons]
   omega
  ·rw[List.map_cons,List.sum_cons]
   omega
def symsN (l:List Pr):Nat:=(l.map fun p=>p.syms.length).sum
theorem symsN_take (l:List Pr) (k:Nat):symsN (l.take k)≤symsN l:=by
 have e:l=l.take k++l.drop k:=(List.take_append_drop k l).symm
 have:symsN l=symsN (l.take k)+symsN (l.drop k):=by
  unfold symsN
  rw[←List.sum_append,←List.map_append,List.take_append_drop]
 omega
theorem symsN_at {l:List Pr} {k:Nat} {x:Pr} (h:l[k]?=some x):symsN (l.take k)+x.syms.length≤symsN l:=by
 have h1:=symsN_take l (k+1)
 have e:l.take (k+1)=l.take k++[x]:=take_snoc' h
 rw[e] at h1
 have:symsN (l.take k++[x])=symsN (l.take k)+x.syms.length:=by simp[symsN]
 omega
structure SP (W:World) (lo B n:Nat) (R:ByteArray→List ByteArray) (f:ByteArray→Option Value):Prop where
 map:Mp W B n f
 rows:∀s,NamesAt W lo (R s) ((f s).getD nilV)
 apart:∀s t,s≠t→∀b,((f s).getD nilV).ownBlock=some b→((f t).getD nilV).ownBlock≠some b
theorem SP.nx {W W':World} {lo B n:Nat} {R:ByteArray→List ByteArray} {f:ByteArray→Option Value} (h:SP W lo B n R f) (hb:Below W.heap.size W W'):SP W' lo B n R f:=⟨(Mp.below h.map hb:),fun s=>(h.rows s).after hb,h.apart⟩
theorem nilV_own:nilV.ownBlock=none:=rfl
structure ST (w W:World) (lo P B n:Nat) (us:Array Value) (f:ByteArray→Option Value) (R:ByteArray→List ByteArray):Prop where
 bel:Below w.heap.size w W
 box:Blk W P 44 us
 sp:SP W lo B n R f
 lw:lo≤W.heap.size
structure ST2 (w W:World) (lo P B n:Nat) (us:Array Value) (f:ByteArray→Option Value) (R:ByteArray→List ByteArray) (v:Value) (l:List ByteArray) (lo2:Nat):Prop where
 st:ST w W lo P B n us f R
 res:NamesAt W lo2 l v
structure ST3 (w W:World) (lo P B n:Nat) (us:Array Value) (f:ByteArray→Option Value) (R:ByteArray→List ByteArray) (key:ByteArray) (v:Value) (l:List ByteArray):Prop where
 bel:Below w.heap.size w W
 box:Blk W P 44 us
 map:Mp W B n f
 rows:∀s,s≠key→NamesAt W lo (R s) ((f s).getD nilV)
 apart:∀s t,s≠t→∀b,((f s).getD nilV).ownBlock=some b→((f t).getD nilV).ownBlock≠some b
 cur:NamesAt W lo l v
 lwc:lo≤W.heap.size
 curd:∀s,s≠key→∀b,v.ownBlock=some b→((f s).getD nilV).ownBlock≠some b
section
variable {w W W':World} {lo P B n lo2:Nat} {us:Array Value} {f:ByteArray→Option Value} {R:ByteArray→List ByteArray} {v:Value} {l:List ByteArray} {key:ByteArray}
theorem ST.nx (h:ST w W lo P B n us f R) (hb:Below W.heap.size W W'):ST w W' lo P B n us f R:=⟨below_tr h.bel hb,h.box.after hb,h.sp.nx hb,Nat.le_trans h.lw hb.size⟩
theorem ST.drew (h:ST w W lo P B n us f R):ST w W.drew lo P B n us f R:=h.nx (below_dr _)
theorem ST2.drew (h:ST2 w W lo P B n us f R v l lo2):ST2 w W.drew lo P B n us f R v l lo2:=⟨h.st.drew,h.res.after (below_dr _)⟩
theorem ST3.drew (h:ST3 w W lo P B n us f R key v l):ST3 w W.drew lo P B n us f R key v l:=⟨below_tr h.bel (below_dr _),h.box,Mp.below h.map (below_dr _),fun s hs=>(h.rows s hs).after (below_dr _),h.apart,h.cur.after (below_dr _),h.lwc,h.curd⟩
end
theorem wp_lookup_mp {w:World} {o:Oper} {a:Act} {K:Act→World→Prop} {Q:Exit→Act→World→Prop} (m x:Operand) (t:TypeId) (hop:o.op=Op.lookup t m x false) (e:TypeId) (ht:Tryz.prog.underlying t=some (.map 9 e)) {z:Value} (hz:(zeroValue e).run Tryz.prog w=.ok z w) {b n:Nat} {f:ByteArray→Option Value} (hM:Mp w b n f) (hm:a.eval m=.map (some b)) (s:ByteArray) (hx:a.eval x=.string s) (hs:s.size≤maxLen) (h:K (a.put o.dst ((f s).getD z)) w):o.wp Tryz.prog a w K Q:=by
 have hrun:=hM.look ht hz hs
 unfold Oper.wp
 simp [execOp, hop, hm, hx, hrun, Result.andThen]
 exact h
theorem step_lookup_mp {w:World} {ops:Array Oper} {o:Oper} {a:Act} {K:Act→World→Prop} {Q:Exit→Act→World→Prop} {E:Prop} (hgd:o.guard=none) (m x:Operand) (t:TypeId) (hop:o.op=Op.lookup t m x false) (e:TypeId) (ht:Tryz.prog.underlying t=some (.map 9 e)) {z:Value} (hz:(zeroValue e).run Tryz.prog w=.ok z w) {b n:Nat} {f:ByteArray→Option Value} (hM:Mp w b n f) (hm:a.eval m=.map (some b)) (s:ByteArray) (hx:a.eval x=.string s) (hs:s.size≤maxLen) (h:K (a.put o.dst ((f s).getD z)) w):
  if Region.wanted o (yielded ops a.tmps)=true then Oper.wp Tryz.prog o a w K Q else E:=by
 have hw:Region.wanted o (yielded ops a.tmps)=true:=by simp[Region.wanted,hgd]
 rw[if_pos hw]
 exact wp_lookup_mp m x t hop e ht hz hM hm s hx hs h
theorem wp_update_mp {w:World} {o:Oper} {a:Act} {K:Act→World→Prop} {Q:Exit→Act→World→Prop} (m x v:Operand) (t:TypeId) (hop:o.op=Op.mapUpdate t m x v) (e:TypeId) (ht:Tryz.prog.underlying t=some (.map 9 e)) {b n:Nat} {f:ByteArray→Option Value} (hM:Mp w b n f) (hn:n<maxLen) (hm:a.eval m=.map (some b)) (s:ByteArray) (val:Value) (hx:a.eval x=.string s) (hv:a.eval v=val) (hs:s.size≤maxLen) (h:∀w',Mp w' b (n+1) (upd f s val)→w.grownBy w' (some b)→K (a.put o.dst undef) w'):o.wp Tryz.prog a w K Q:=by
 obtain⟨w',hrun,r1,r2⟩:=hM.store hn ht hs val
 unfold Oper.wp
 simp [execOp, hop, hm, hx, hv, hrun, Result.andThen]
 exact h w' r1 r2
theorem step_update_mp {w:World} {ops:Array Oper} {o:Oper} {a:Act} {K:Act→World→Prop} {Q:Exit→Act→World→Prop} {E:Prop} (hgd:o.guard=none) (m x v:Operand) (t:TypeId) (hop:o.op=Op.mapUpdate t m x v) (e:TypeId) (ht:Tryz.prog.underlying t=some (.map 9 e)) {b n:Nat} {f:ByteArray→Option Value} (hM:Mp w b n f) (hn:n<maxLen) (hm:a.eval m=.map (some b)) (s:ByteArray) (val:Value) (hx:a.eval x=.string s) (hv:a.eval v=val) (hs:s.size≤maxLen) (h:∀w',Mp w' b (n+1) (upd f s val)→w.grownBy w' (some b)→K (a.put o.dst undef) w'):
  if Region.wanted o (yielded ops a.tmps)=true then Oper.wp Tryz.prog o a w K Q else E:=by
 have hw:Region.wanted o (yielded ops a.tmps)=true:=by simp[Region.wanted,hgd]
 rw[if_pos hw]
 exact wp_update_mp m x v t hop e ht hM hn hm s val hx hv hs h
theorem ownB_grown {W W':World} {lo e size k:Nat} {v u:Value} {xs:List Value} (h:W.ownsRow lo e size v k xs) (hg:W.grownBy W' u.ownBlock) (hne:∀b,u.ownBlock=some b→v.ownBlock≠some b):W'.ownsRow lo e size v k xs:=h.kept hg (by
 rcases hu:u.ownBlock with _|b
 ·rcases hv:v.ownBlock with _|c
  ·exact .inl rfl
  ·exact .inr (by simp)
 ·exact .inr (hne b hu))
theorem own_at_new {W W':World} {lo e size k:Nat} {v:Value} {xs:List Value} {k2:Nat} {v2:Value} {xs2:List Value} (h:W.ownsRow lo e size v k xs) (hg:W.grownBy W' v.ownBlock) (h2:W'.ownsRow lo e size v2 k2 xs2) (hat:∀b,v2.ownBlock=some b→v.ownBlock=some b∨W.heap.size≤b) (B:Nat) (hB:B<W.heap.size) (hne:v.ownBlock≠some B):v2.ownBlock≠some B:=fun e=>by
 rcases hat B e with h|h
 ·exact hne h
 ·omega
theorem run_app_names {w:World} {lo lo2:Nat} {v u:Value} {xs ys:List ByteArray} (ty:TypeId) (hown:NamesAt w lo xs v) (hres:NamesAt w lo2 ys u) (h16:(xs.length+ys.length)*16≤140737488355328) (hbase:lo≤w.heap.size):
  ∃v' w',(Builtin.append_ #[36,36] ty #[v,u]).run Tryz.prog w=.ok v' w'∧NamesAt w' lo (xs++ys) v'∧w.grownBy w' v.ownBlock∧(v'.ownBlock=v.ownBlock∨v'.ownBlock=some w.heap.size):=by
 obtain⟨i0,hinf,hz0,hz1,hz2⟩:=info_parts info9
 obtain⟨hl,⟨rfl,h0⟩|⟨g,cap,cur,rfl,hg,hh,hn,hcap,hsz,htk⟩⟩:=hres.row
 ·obtain rfl:ys=[]:=List.length_eq_zero_iff.1 h0
  exact ⟨v,w,run_none0 lo 36 ty 9 i0 1 Tryz.underlying36 hinf v xs.length 0 (ncells xs) hown.row,by rw[List.append_nil];exact hown,World.grownBy.refl _ _,.inl rfl⟩
 ·obtain⟨v',w',hrun,h2,h3,_,h4⟩:=run_append_own_at (P:=Tryz.prog) w lo 36 ty 9 i0 (.string ⟨#[]⟩) 1 16 Tryz.underlying36 hinf hz0 hz1 hz2 rfl (by decide) v xs.length (ncells xs) hown.row ⟨g,0,none⟩ ys.length cap (ncells ys) (by simp[ncells]) (hres.row.cells rfl) (fun u hu=>by
   simp[ncells] at hu
   obtain⟨s,_,rfl⟩:=hu
   rfl) (by unfold maxLen;omega) h16 hbase
  exact ⟨v',w',hrun,⟨by rw[List.length_append];simpa [ncells] using h2⟩,h3,h4⟩
theorem step_app_names {w:World} {ops:Array Oper} {o:Oper} {a:Act} {K:Act→World→Prop} {Q:Exit→Act→World→Prop} {E:Prop} {lo lo2:Nat} {v u:Value} {xs ys:List ByteArray} (hgd:o.guard=none) (s x:Operand) (ho:o.op=.call { callee:=.builtin .append,args:=#[s,x],argTypes:=#[36,36] }) (hs:a.eval s=v) (hx:a.eval x=u) (hown:NamesAt w lo xs v) (hres:NamesAt w lo2 ys u) (h16:(xs.length+ys.length)*16≤140737488355328) (hbase:lo≤w.heap.size)
  (h:∀v' w',NamesAt w' lo (xs++ys) v'→w.grownBy w' v.ownBlock→(v'.ownBlock=v.ownBlock∨v'.ownBlock=some w.heap.size)→K (a.put o.dst v') w'):
  if Region.wanted o (yielded ops a.tmps)=true then Oper.wp Tryz.prog o a w K Q else E:=by
 have hw:Region.wanted o (yielded ops a.tmps)=true:=by simp[Region.wanted,hgd]
 rw[if_pos hw]
 obtain⟨v',w',hrun,h2,h3,h4⟩:=run_app_names (w:=w) o.type hown hres h16 hbase
 unfold Oper.wp execOp
 simp only[ho,resolve,invoke,builtin,Sem.run_bind,Sem.run_pure,Result.andThen_ok,List.map_toArray,List.map_cons,List.map_nil,hs,hx,hrun]
 exact h v' w' h2 h3 h4
theorem ST2.app {w W W':World} {lo P B n lo2:Nat} {us:Array Value} {f:ByteArray→Option Value} {R:ByteArray→List ByteArray} {u v':Value} {l:List ByteArray} {key:ByteArray} (h:ST2 w W lo P B n us f R u l lo2) (hlo:B<lo) (hwlo:w.heap.size≤lo) (h2:NamesAt W' lo (R key++l) v') (h3:W.grownBy W' ((f key).getD nilV).ownBlock) (h4:v'.ownBlock=((f key).getD nilV).ownBlock∨v'.ownBlock=some W.heap.size):ST3 w W' lo P B n us f R key v' (R key++l):=by
 have hk:=h.st.sp.rows key
 have hloW:=h.st.lw
 refine ⟨?_,?_,?_,?_,h.st.sp.apart,h2,Nat.le_trans hloW h3.size,?_⟩
 ·exact h.st.bel.trans (belO h3 (fun b hb=>by have:=hk.row.lt b hb;omega) h.st.bel.size)
 ·exact h.st.box.kept h3 (h.st.box.not_row (by decide) hk.row)
 ·exact h.st.sp.map.keep h3 (fun e=>by have:=hk.row.lt B e.symm;omega)
 ·intro s hs
  exact ⟨ownB_grown (h.st.sp.rows s).row h3 (fun b hb=>h.st.sp.apart key s (fun e=>hs e.symm) b hb)⟩
 ·intro s hs b hb
  rcases h4 with h4|h4
  ·rw[h4] at hb
   exact h.st.sp.apart key s (fun e=>hs e.symm) b hb
  ·rw[h4] at hb
   cases hb
   intro e
   have:=(h.st.sp.rows s).row.lt _ e
   omega
theorem ST3.upd {w W W':World} {lo P B n:Nat} {us:Array Value} {f:ByteArray→Option Value} {R:ByteArray→List ByteArray} {v:Value} {l:List ByteArray} {key:ByteArray} (h:ST3 w W lo P B n us f R key v l) (hlo:B<lo) (hw:w.heap.size≤B) (hP:P≠B) (h1:Mp W' B (n+1) (upd f key v)) (h2:W.grownBy W' (some B)):Blk W' P 44 us∧Below w.heap.size w W'∧SP W' lo B (n+1) (fun s=>if s=key then l else R s) (upd f key v):=by
 refine ⟨h.box.kept h2 (by simpa using hP),h.bel.trans (belG h2 hw h.bel.size),h1,?_,?_⟩
 ·intro s
  unfold Go.Proofs.YtilpgpcgcpedjaaGreat.upd
  by_cases hs:s=key
  ·rw[if_pos hs,if_pos hs]
   exact h.cur.kept h2 hlo
  ·rw[if_neg hs,if_neg hs]
   exact (h.rows s hs).kept h2 hlo
 ·intro s t hst b hb
  unfold Go.Proofs.YtilpgpcgcpedjaaGreat.upd at hb ⊢
  by_cases hs:s=key
  ·rw[if_pos hs] at hb
   rw[if_neg (fun e=>hst (hs.trans e.symm))]
   exact h.curd t (fun e=>hst (hs.trans e.symm)) b hb
  ·rw[if_neg hs] at hb
   by_cases ht:t=key
   ·rw[if_pos ht]
    intro e
    exact h.curd s hs b e hb
   ·rw[if_neg ht]
    exact h.apart s t hst b hb
end Go.Proofs.YtilpgpcgcpedjaaGreat
