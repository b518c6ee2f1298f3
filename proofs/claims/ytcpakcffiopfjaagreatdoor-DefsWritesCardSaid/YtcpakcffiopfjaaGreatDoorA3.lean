/- The runs of a set's bytes, as Runs collects them going through the set. The text of a set, as Print writes it, at every set and in every memory. What is printed of a set is read as it: reading at the signs, items and runs of a set's text. -/
import Derived.Test.YtcpakcffiopfjaaGreatDoorA1
import Derived.Test.YtcpakcffiopfjaaGreatDoorA0
import Derived.Test.YtcpakcffiopfjaaGreatDoorA2
namespace Go.Proofs.YtcpakcffiopfjaaGreatDoor
open Go.RowKit
set_option linter.unusedVariables false
set_option linter.unusedSimpArgs false
set_option maxRecDepth 100000
set_option maxHeartbeats 16000000
set_option linter.unusedVariables false
set_option linter.unusedSimpArgs false
set_option maxRecDepth 100000
set_option maxHeartbeats 16000000
section
open Go.RowKit Go.Shelf
attribute [local go_sem] Oper.semAt_some
theorem info46:(Tryz.prog.info? 121).map (fun i=>(i.zero,i.size,i.bytes))=some (some (.agg #[.int .i64 0,.int .i64 0]),2,16):=by kernel_rfl
theorem two_new (w:World) (x y:Value) (t:TypeId):∀j u,[x,y][j]?=some u→(w.alloc (.cells #[x,y] t)).cell? ((⟨w.heap.size,0,none⟩:Addr).add j)=some u:=by
 intro j u hj
 match j,hj with
 | 0,hj=>simp at hj;subst hj;simp[Addr.add]
 | 1,hj=>simp at hj;subst hj;simp[Addr.add]
 | j+2,hj=>simp at hj
def runStep (rs:List (Nat×Nat)) (b:Nat):List (Nat×Nat):=
 match rs.getLast? with
 | none=>[(b,b)]
 | some r=>if r.2+1=b then rs.dropLast++[(r.1,b)] else rs++[(b,b)]
def runsOf (l:List (Fin 256)):List (Nat×Nat):=l.foldl (fun rs b=>runStep rs b.val) []
theorem runsOf_snoc (l:List (Fin 256)) (b:Fin 256):runsOf (l++[b])=runStep (runsOf l) b.val:=by simp[runsOf]
def rcells (rs:List (Nat×Nat)):List Value:=rs.flatMap fun r=>[.int .i64 r.1,.int .i64 r.2]
theorem rcells_snoc (rs:List (Nat×Nat)) (r:Nat×Nat):rcells (rs++[r])=rcells rs++[.int .i64 r.1,.int .i64 r.2]:=by simp[rcells]
theorem rcells_len (rs:List (Nat×Nat)):(rcells rs).length=rs.length*2:=by
 induction rs with
 | nil=>rfl
 | cons r rs ih=>simp[rcells] at *;omega
theorem runStep_len (rs:List (Nat×Nat)) (b:Nat):(runStep rs b).length≤rs.length+1:=by
 unfold runStep;split
 ·simp
 ·split<;>simp
theorem runsOf_len (l:List (Fin 256)):(runsOf l).length≤l.length:=by
 suffices ∀(l:List (Fin 256)) (rs:List (Nat×Nat)),(l.foldl (fun rs b=>runStep rs b.val) rs).length≤rs.length+l.length by
  have:=this l [];simpa [runsOf] using this
 intro l
 induction l with
 | nil=>intro rs;simp
 | cons b l ih=>intro rs;have h1:=ih (runStep rs b.val);have h2:=runStep_len rs b.val;simp only[List.foldl_cons,List.length_cons];omega
theorem SBox.appended {W w1:World} {s:St} {B' n₀ B:Nat} {t e:TypeId} {size:Nat} {v:Value} {k:Nat} {xs:List Value} {tmp:Obj} (v':Value)
  (h:SBox s B' W) (hv:Boxed W B t v) (hte:(49:TypeId)≠e) (hrow:W.ownsRow n₀ e size v k xs) (hgrow:(W.alloc tmp).grownBy w1 v.ownBlock):SBox s B' (w1.setCell ⟨B,0,none⟩ v'):=
 ((h.alloc tmp).kept hgrow (h.not_row hte hrow)).kept (grownBy_setCell' w1 B v') (fun e=>(h.not_box hv) (Option.some.inj e))
theorem runStep_nil (b:Nat):runStep [] b=[(b,b)]:=rfl
theorem runStep_on (rs:List (Nat×Nat)) (lo hi b:Nat) (h:hi+1=b):runStep (rs++[(lo,hi)]) b=rs++[(lo,b)]:=by simp[runStep,h]
theorem runStep_off (rs:List (Nat×Nat)) (lo hi b:Nat) (h:¬hi+1=b):runStep (rs++[(lo,hi)]) b=rs++[(lo,hi)]++[(b,b)]:=by simp[runStep,h]
theorem rcells_set (rs:List (Nat×Nat)) (lo hi b:Nat):(rcells (rs++[(lo,hi)])).set (rs.length*2+1) (.int .i64 b)=rcells (rs++[(lo,b)]):=by
 rw[rcells_snoc,rcells_snoc,List.set_append_right _ _ (by rw[rcells_len];omega),rcells_len]
 simp
theorem runs_any (s:St) (hs:s.ok) (w:World) :
  Calls Tryz.prog 64 #[.agg #[.int .u64 s.a,.int .u64 s.b,.int .u64 s.c,.int .u64 s.d]] w fun e W'=>∃v,e=.returned v∧W'.ownsRow w.heap.size 121 2 v (runsOf (upTo s 256)).length (rcells (runsOf (upTo s 256)))∧(v=.slice none 0 0↔runsOf (upTo s 256)=[])∧Below w.heap.size w W':=by
 refine (callsIn_wide (n:=3)).1 ?_
 obtain⟨i0,hi,hz0,hz1,hz2⟩:=info_parts info46
 refine callsIn_of_wp_marks Tryz.func64 rfl trivial ?_ rfl
 simp only[Tryz.ntmps64,List.size_toArray,List.length_cons,List.length_nil,Nat.reduceAdd,Nat.reduceSub,Array.replicate_succ,Array.replicate_zero,List.push_toArray,List.append_toArray,List.nil_append,List.cons_append]
 gi_wp2_with (refine⟨trivial,?_⟩;gi_at_call 118;refine (callsIn_wide.2 (all_any s _)).mono ?_;rintro e w' ⟨rfl,rfl⟩)
 have bO:=Boxed.new (w.alloc (.cells #[.int .u64 s.a,.int .u64 s.b,.int .u64 s.c,.int .u64 s.d] 49)) 118 (.slice none 0 0)
 have bN:=SBox.new s ((w.alloc (.cells #[.int .u64 s.a,.int .u64 s.b,.int .u64 s.c,.int .u64 s.d] 49)).alloc (.cells #[.slice none 0 0] 118))
 rw[World.size_alloc] at bO
 rw[World.size_alloc,World.size_alloc] at bN
 have hB0:Below w.heap.size w (((w.alloc (.cells #[.int .u64 s.a,.int .u64 s.b,.int .u64 s.c,.int .u64 s.d] 49)).alloc (.cells #[.slice none 0 0] 118)).alloc (.cells #[.int .u64 s.a,.int .u64 s.b,.int .u64 s.c,.int .u64 s.d] 49)):=(((Below.refl _ w).alloc (Nat.le_refl _) _).alloc (by simp<;>omega) _).alloc (by simp<;>omega) _
 refine wpIn_rangeFunc_ownG (F:=Fence.wide) rfl (by omega) (gf:=168) (lb:=#[.pointer (some ⟨w.heap.size+1+1,0,none⟩)]) rfl trivial (enters_of Tryz.func168 (by kernel_rfl) rfl)
  (all_stops (3-1) (by omega) (w.heap.size+1+1) w.heap.size s hs _ (by simp;omega) bN) keepB_t (keepB_b (by simp;omega)) (Below.refl _ _) (fun _=>rfl)
  (fun pre W=>(∃v,Boxed W (w.heap.size+1) 118 v∧W.ownsRow w.heap.size 121 2 v (runsOf pre).length (rcells (runsOf pre))∧(v=.slice none 0 0↔runsOf pre=[]))∧(SBox s (w.heap.size+1+1) W∧Below w.heap.size w W))
  (fun _ _ _=>False)
  (OwnFrom.and (Own.from (holdsRow_own w.heap.size (w.heap.size+1) 118 121 2 (fun pre=>(runsOf pre).length) (fun pre=>rcells (runsOf pre)) (fun pre v=>v=.slice none 0 0↔runsOf pre=[])) _) (OwnFrom.and (Own.from (SBox.own s _) _) (ownFrom_below (Nat.le_refl _) (by simp;omega))))
  (fun _ _ _ _ _ hs _ _=>hs)
  ⟨⟨_,bO.alloc _,World.ownsRow_nil _ _ _ _,by simp[runsOf]⟩,bN,hB0⟩
  (fun x=>{ tmps:=#[.agg #[.int .u64 s.a,.int .u64 s.b,.int .u64 s.c,.int .u64 s.d],.pointer (some ⟨w.heap.size,0,none⟩),.slice none 0 0,.pointer (some ⟨w.heap.size+1,0,none⟩),.int .u8 x.val,undef,undef,.agg #[.int .u64 s.a,.int .u64 s.b,.int .u64 s.c,.int .u64 s.d],.func (.func 168) #[] #[.pointer (some ⟨w.heap.size+1+1,0,none⟩)],.int .u8 x.val,undef,undef,undef,undef,undef,undef,undef,undef,undef,undef,undef,undef,undef,undef,undef,undef,undef,undef,undef,undef,undef,undef,undef,undef,undef,undef,undef,undef,undef,undef],defers:=[] }) ?assign ?body ?done ?stop
 case assign=>
  intro l x W K hK
  gi_wp2
  exact hK
 case body=>
  rintro l pre x W ⟨⟨v,hv,hrow,hnil⟩,hbx,hB⟩ hlt
  have hc:=hv.cell
  have hpl:(runsOf pre).length≤pre.length:=runsOf_len pre
  have HS:Hid _:=runsOf_snoc pre x
  have hx:=x.isLt
  generalize x.val=b at *
  generalize runsOf pre=rs at *
  rcases List.eq_nil_or_concat rs with rfl | ⟨rs',⟨lo,hi'⟩,rfl⟩
  ·obtain rfl:=hnil.2 rfl
   gi_wp2_with (gi_at_builtin;refine wpListIn_append_own _ rfl _ _ 118 rfl w.heap.size 121 i0 (.agg #[.int .i64 0,.int .i64 0]) 2 16 Tryz.underlying118 hi hz0 hz1 hz2 rfl (by decide) _ _ _ rfl (hrow.alloc _) ⟨W.heap.size,0,none⟩ 1 1 [.int .i64 b,.int .i64 b] rfl rfl (two_new _ _ _ _) (by simp[Value.oneCell']) (by decide) (by decide) (by have:=hB.size;simp;omega) ?_;intro v' w1 hown' hgrow _;obtain⟨g',cap',rfl⟩:=ownsRow_succ hown';obtain⟨hv1,hv2,hr2,hk2,hb2⟩:=hv.appended (by decide) hrow hB.size (by omega) hown' hgrow;have hc1:=hv1.cell;have hf1:=hv1.frozen)
   have hsb:=hbx.appended (.slice (some ⟨g',0,none⟩) 1 cap') hv (by decide) hrow hgrow
   exact⟨hk2.from _,⟨hb2,fun _=>hsb⟩,⟨_,hv2,by rw[HS.out];simpa [runStep_nil,rcells] using hr2,by rw[HS.out];simp[runStep_nil]⟩,hsb,hB.trans hb2⟩
  ·rw[List.concat_eq_append] at *
   have hlen:(rs'++[(lo,hi')]).length=rs'.length+1:=by simp
   rw[hlen] at hrow hpl
   obtain⟨g,cap,rfl⟩:=ownsRow_succ hrow
   have hcell:=hrow.cellAt (rs'.length*2+1) (by omega)
   have hfz:=hrow.frozenAt (rs'.length*2+1)
   have hcv:(rcells (rs'++[(lo,hi')]))[rs'.length*2+1]?=some (.int .i64 hi'):=by
    rw[rcells_snoc,List.getElem?_append_right (by rw[rcells_len];omega),rcells_len]
    simp
   rw[hcv] at hcell
   clear hcv
   by_cases hh:hi'+1=b
   ·have hq:((hi':Int)==(b:Int)-1)=true:=by simp;omega
    have hst:=hrow.stored (rs'.length*2+1) (.int .i64 b)
    have hbg:w.heap.size≤g:=(hrow.lt g rfl).1
    have HST:=hHi hst
    clear hst
    gi_wp2
    have hst:=HST.out
    have hnb:some (w.heap.size+1)≠some g:=hv.not_row (by decide) hrow
    have hns:some (w.heap.size+1+1)≠some g:=hbx.not_row (by decide) hrow
    have hsb:=hbx.kept hst.2 hns
    have hbl:=(Below.refl w.heap.size W).setCell (p:=⟨g,rs'.length*2+1,none⟩) hbg (.int .i64 b)
    refine⟨(KeepsOthers.setCell _ _ _).from _,⟨hbl,fun _=>hsb⟩,⟨_,hv.kept hst.2 hnb,?_,?_⟩,hsb,hB.trans hbl⟩
    ·rw[HS.out,runStep_on rs' lo hi' b hh,←rcells_set rs' lo hi' b];simpa using hst.1
    ·rw[HS.out,runStep_on rs' lo hi' b hh];simp
   ·have hq:((hi':Int)==(b:Int)-1)=false:=by simp;omega
    gi_wp2_with (gi_at_builtin;refine wpListIn_append_own _ rfl _ _ 118 rfl w.heap.size 121 i0 (.agg #[.int .i64 0,.int .i64 0]) 2 16 Tryz.underlying118 hi hz0 hz1 hz2 rfl (by decide) _ _ _ rfl (hrow.alloc _) ⟨W.heap.size,0,none⟩ 1 1 [.int .i64 b,.int .i64 b] rfl rfl (two_new _ _ _ _) (by simp[Value.oneCell']) (by unfold maxLen;omega) (by omega) (by have:=hB.size;simp;omega) ?_;intro v' w1 hown' hgrow _;obtain⟨g',cap',rfl⟩:=ownsRow_succ hown';obtain⟨hv1,hv2,hr2,hk2,hb2⟩:=hv.appended (by decide) hrow hB.size (by omega) hown' hgrow;have hc1:=hv1.cell;have hf1:=hv1.frozen)
    have hsb:=hbx.appended (.slice (some ⟨g',0,none⟩) (rs'.length+1+1) cap') hv (by decide) hrow hgrow
    refine⟨hk2.from _,⟨hb2,fun _=>hsb⟩,⟨_,hv2,?_,?_⟩,hsb,hB.trans hb2⟩
    ·rw[HS.out,runStep_off rs' lo hi' b hh,rcells_snoc (rs'++[(lo,hi')])];simpa using hr2
    ·rw[HS.out,runStep_off rs' lo hi' b hh];simp
 case done=>
  rintro D ys W hD rfl ⟨⟨v,hv,hrow,hnil⟩,hbx,hB⟩ hK
  have hc:=hv.cell
  gi_wp2
  refine⟨by simp,.inl ⟨_,_,rfl,run_takeDeferred hK,?_⟩⟩
  exact⟨_,results_tmp rfl _ _ _,v,rfl,ownsRow_putObj hrow _ hK rfl,hnil,hB.trans (belowK_b (w:=w) (Nat.le_refl _) W D _ _ (by simp at hD;omega) hK rfl rfl)⟩
 case stop=>
  rintro D c pre W _ _ h _
  exact h.elim
end
def itemL (r:Nat×Nat):List UInt8:=signL r.1++((if r.1+1<r.2 then [45] else [])++(if r.1<r.2 then signL r.2 else []))
def textL (rs:List (Nat×Nat)):List UInt8:=91::rs.flatMap itemL
def printL (s:St):List UInt8:=textL (runsOf (upTo s 256))++[93]
theorem textL_snoc (rs:List (Nat×Nat)) (r:Nat×Nat):textL (rs++[r])=textL rs++itemL r:=by simp[textL]
theorem sign_len:∀n:Fin 256,0<(signL n.val).length∧(signL n.val).length≤4:=by decide +kernel
theorem sign_pos (n:Nat) (h:n<256):0<(signL n).length:=(sign_len ⟨n,h⟩).1
theorem sign_le (n:Nat) (h:n<256):(signL n).length≤4:=(sign_len ⟨n,h⟩).2
theorem item_le (r:Nat×Nat) (h1:r.1<256) (h2:r.2<256):(itemL r).length≤9:=by
 have a:=sign_le r.1 h1;have b:=sign_le r.2 h2
 unfold itemL;simp only[List.length_append]
 split<;>split<;>simp<;>omega
theorem runStep_small (rs:List (Nat×Nat)) (b:Nat) (hb:b<256) (h:∀r∈rs,r.1<256∧r.2<256∧r.1≤r.2) (h':∀r∈rs,r.2<b):∀r∈runStep rs b,r.1<256∧r.2<256∧r.1≤r.2:=by
 rcases List.eq_nil_or_concat rs with rfl | ⟨rs',⟨lo,hi⟩,rfl⟩
 ·intro r hr;rw[runStep_nil] at hr;simp at hr;subst hr;exact⟨hb,hb,Nat.le_refl _⟩
 ·rw[List.concat_eq_append] at *
  by_cases hh:hi+1=b
  ·rw[runStep_on _ _ _ _ hh]
   intro r hr
   rcases List.mem_append.1 hr with hr | hr
   ·exact h r (by simp[hr])
   ·simp at hr;subst hr
    have:=h (lo,hi) (by simp)
    simp only at this ⊢
    omega
  ·rw[runStep_off _ _ _ _ hh]
   intro r hr
   rcases List.mem_append.1 hr with hr | hr
   ·exact h r hr
   ·simp at hr;subst hr;exact⟨hb,hb,Nat.le_refl _⟩
theorem runStep_lt (rs:List (Nat×Nat)) (b:Nat) (h':∀r∈rs,r.2<b):∀r∈runStep rs b,r.2<b+1:=by
 rcases List.eq_nil_or_concat rs with rfl | ⟨rs',⟨lo,hi⟩,rfl⟩
 ·intro r hr;rw[runStep_nil] at hr;simp at hr;subst hr;simp
 ·rw[List.concat_eq_append] at *
  by_cases hh:hi+1=b
  ·rw[runStep_on _ _ _ _ hh]
   intro r hr
   rcases List.mem_append.1 hr with hr | hr
   ·have:=h' r (by simp[hr]);omega
   ·simp at hr;subst hr;simp
  ·rw[runStep_off _ _ _ _ hh]
   intro r hr
   rcases List.mem_append.1 hr with hr | hr
   ·have:=h' r hr;omega
   ·simp at hr;subst hr;simp
theorem runs_small (s:St):∀k,k≤256→(∀r∈runsOf (upTo s k),r.1<256∧r.2<256∧r.1≤r.2)∧(∀r∈runsOf (upTo s k),r.2<k)
 | 0,_=>by constructor<;>(intro r hr;simp[upTo,runsOf] at hr)
 | k+1,hk=>by
  obtain⟨h1,h2⟩:=runs_small s k (by omega)
  cases hh:s.has k with
  | true=>
   rw[upTo_yes hh,runsOf_snoc]
   have hv:(Fin.ofNat 256 k).val=k:=by simp[Fin.ofNat];omega
   rw[hv]
   exact⟨runStep_small _ k (by omega) h1 h2,runStep_lt _ k h2⟩
  | false=>
   rw[upTo_no hh]
   exact⟨h1,fun r hr=>by have:=h2 r hr;omega⟩
theorem runs_count (s:St):(runsOf (upTo s 256)).length≤256:=Nat.le_trans (runsOf_len _) (upTo_len s 256)
theorem text_le:∀(rs:List (Nat×Nat)),(∀r∈rs,r.1<256∧r.2<256)→(textL rs).length≤1+9*rs.length
 | [],_=>by simp[textL]
 | r::rs,h=>by
  have a:=item_le r (h r (by simp)).1 (h r (by simp)).2
  have b:=text_le rs (fun q hq=>h q (by simp[hq]))
  simp[textL] at b ⊢;omega
theorem BL.below {B b:Nat} {l:List UInt8} {w w':World} (h:BL B b l w) (hb:Below w.heap.size w w'):BL B b l w':=by
 have key:∀p,Lib.BuilderAt 110 5 B b p (Lib.byteCells l) w→Lib.BuilderAt 110 5 B b p (Lib.byteCells l) w':=by
  rintro p ⟨hB,v,hbk,hown,hne⟩
  refine⟨hB,v,(hb.block b (heap_lt hbk)).trans hbk,⟨hown.1,?_⟩,hne⟩
  rcases hown.2 with h0 | ⟨g,cap,cur,hv,hbg,hg,rest⟩
  ·exact .inl h0
  ·exact .inr ⟨g,cap,cur,hv,hbg,(hb.block g (heap_lt hg)).trans hg,rest⟩
 exact h.elim (fun x=>.inl (key _ x)) (fun x=>.inr (key _ x))
def PI (w:World) (b g:Nat) (cur:Array Value) (l:List UInt8) (W:World):Prop:=
 BL b b l W∧W.heap[g]?=some (.cells cur 121 (0,0))∧Below b w W
theorem PI.drewN {w W:World} {b g:Nat} {cur:Array Value} {l:List UInt8} (h:PI w b g cur l W) (n:Nat):PI w b g cur l (W.drewN n):=⟨h.1,h.2.1,below_drewN h.2.2 n⟩
theorem PI.alloc {w W:World} {b g:Nat} {cur:Array Value} {l:List UInt8} (h:PI w b g cur l W) (hb:b≤W.heap.size) (o:Obj):PI w b g cur l (W.alloc o):=
 ⟨h.1.below ((Below.refl _ _).alloc (Nat.le_refl _) _),(Below.heap_alloc W o g (heap_lt h.2.1)).trans h.2.1,h.2.2.alloc hb _⟩
theorem PI.wrote {w W W':World} {b g:Nat} {cur:Array Value} {l l':List UInt8} (h:PI w b g cur l W) (hg:g≠b) (h1:BL b b l' W') (h2:Below b W W') (h3:Lib.OthersKept 5 (some b) W W'):PI w b g cur l' W':=
 ⟨h1,h3 g _ h.2.1 (by simpa using hg) (by intro c fz e;cases e),h.2.2.trans h2⟩
theorem kept46 {W W':World} {b H:Nat} {c:Array Value} (h:W.heap[H]?=some (.cells c 121 (0,0))) (hn:H≠b) (h3:Lib.OthersKept 5 (some b) W W'):W'.heap[H]?=some (.cells c 121 (0,0)):=
 h3 H _ h (by simpa using hn) (by intro c fz e;cases e)
theorem cells46 {W:World} {H:Nat} {x y:Value} (h:W.heap[H]?=some (.cells #[x,y] 121 (0,0))):W.cell? ⟨H,0,none⟩=some x∧W.cell? ⟨H,1,none⟩=some y:=by
 constructor<;>simp[World.cell?,h]
theorem runs_nil (s:St) (hs:s.ok) (w:World) (h:runsOf (upTo s 256)=[]) :
  Calls Tryz.prog 64 #[.agg #[.int .u64 s.a,.int .u64 s.b,.int .u64 s.c,.int .u64 s.d]] w fun e W'=>e=.returned (.slice none 0 0)∧Below w.heap.size w W':=
 (runs_any s hs w).mono fun e W' ⟨v,he,_,hn,hb⟩=>⟨by rw[he,hn.2 h],hb⟩
theorem runs_some (s:St) (hs:s.ok) (w:World) (h:runsOf (upTo s 256)≠[]) :
  Calls Tryz.prog 64 #[.agg #[.int .u64 s.a,.int .u64 s.b,.int .u64 s.c,.int .u64 s.d]] w fun e W'=>∃g cap cur,e=.returned (.slice (some ⟨g,0,none⟩) (runsOf (upTo s 256)).length cap)∧W'.heap[g]?=some (.cells cur 121 (0,0))∧cur.toList.take ((runsOf (upTo s 256)).length*2)=rcells (runsOf (upTo s 256))∧w.heap.size≤g∧Below w.heap.size w W':=
 (runs_any s hs w).mono fun e W' ⟨v,he,hr,hn,hb⟩=>by
  rcases hr.2 with ⟨hv,_⟩ | ⟨g,cap,cur,hv,hbg,hg,_,_,_,ht⟩
  ·exact absurd (hn.1 hv) h
  ·exact⟨g,cap,cur,by rw[he,hv],hg,ht,hbg,hb⟩
theorem row_get {cur:Array Value} {rs:List (Nat×Nat)} (h:cur.toList.take (rs.length*2)=rcells rs) (k:Nat) (hk:k<rs.length) :
  cur[k*2]?=some (.int .i64 (rs.getD k (0,0)).1)∧cur[k*2+1]?=some (.int .i64 (rs.getD k (0,0)).2):=by
 have key:∀(rs:List (Nat×Nat)) (k:Nat),k<rs.length→(rcells rs)[k*2]?=some (.int .i64 (rs.getD k (0,0)).1)∧(rcells rs)[k*2+1]?=some (.int .i64 (rs.getD k (0,0)).2):=by
  intro rs
  induction rs with
  | nil=>intro k hk;simp at hk
  | cons r rs ih=>
   intro k hk
   cases k with
   | zero=>simp[rcells]
   | succ k=>
    have:=ih k (by simpa using hk)
    have e:rcells (r::rs)=[.int .i64 r.1,.int .i64 r.2]++rcells rs:=by simp[rcells]
    rw[e,show (k+1)*2=k*2+2 from by omega]
    simpa using this
 have hget:∀j,j<rs.length*2→cur[j]?=(rcells rs)[j]?:=by
  intro j hj
  rw[←h,List.getElem?_take,if_pos hj];simp
 rw[hget _ (by omega),hget _ (by omega)]
 exact key rs k hk
theorem cellAt46 {W:World} {g:Nat} {cur:Array Value} (h:W.heap[g]?=some (.cells cur 121 (0,0))) {j:Nat} {v:Value} (hv:cur[j]?=some v):W.cell? ⟨g,j,none⟩=some v:=by
 simp[World.cell?,h,hv]
theorem print_any (s:St) (hs:s.ok) (w:World) :
  Calls Tryz.prog 23 #[.agg #[.int .u64 s.a,.int .u64 s.b,.int .u64 s.c,.int .u64 s.d]] w fun e w'=>e=.returned (.string ⟨(printL s).toArray⟩)∧Below w.heap.size w w':=by
 have hsm:=(runs_small s 256 (Nat.le_refl _)).1
 have hcnt:=runs_count s
 have hfb:BL (w.heap.size+1) (w.heap.size+1) [] ((w.alloc (.cells #[.int .u64 s.a,.int .u64 s.b,.int .u64 s.c,.int .u64 s.d] 49)).alloc (.cells #[.pointer none,.slice none 0 0] 110)):=by
  have:=Lib.fresh_isBuilder 110 5 (w.alloc (.cells #[.int .u64 s.a,.int .u64 s.b,.int .u64 s.c,.int .u64 s.d] 49))
  rw[World.size_alloc] at this;exact this
 have HW:=hU (wbyte_any (w.heap.size+1) (w.heap.size+1) [] 91 _ (by decide) hfb (by simp) (by simp))
 clear hfb
 have hB0:Below w.heap.size w ((w.alloc (.cells #[.int .u64 s.a,.int .u64 s.b,.int .u64 s.c,.int .u64 s.d] 49)).alloc (.cells #[.pointer none,.slice none 0 0] 110)):=((Below.refl _ w).alloc (Nat.le_refl _) _).alloc (by simp<;>omega) _
 by_cases hrs:runsOf (upTo s 256)=[]
 ·have HR:Hid _:=fun w=>runs_nil s hs w hrs
  have HP:Hid (printL s=[91]++[93]):=by show _=_;unfold printL;rw[hrs];rfl
  clear hrs hsm hcnt
  go_enter Tryz.func23,Tryz.ntmps23
  go_wp2_with (go_at_call 59;refine hMo HW ?_)
  rintro e w1 ⟨rfl,hb1,hl1,hk1⟩
  have c0:w1.cell? ⟨w.heap.size,0,none⟩=some (.int .u64 s.a):=(hl1.cell (p:=⟨w.heap.size,0,none⟩) (Nat.lt_succ_self _)).trans (by simp)
  have c1:w1.cell? ⟨w.heap.size,1,none⟩=some (.int .u64 s.b):=(hl1.cell (p:=⟨w.heap.size,1,none⟩) (Nat.lt_succ_self _)).trans (by simp)
  have c2:w1.cell? ⟨w.heap.size,2,none⟩=some (.int .u64 s.c):=(hl1.cell (p:=⟨w.heap.size,2,none⟩) (Nat.lt_succ_self _)).trans (by simp)
  have c3:w1.cell? ⟨w.heap.size,3,none⟩=some (.int .u64 s.d):=(hl1.cell (p:=⟨w.heap.size,3,none⟩) (Nat.lt_succ_self _)).trans (by simp)
  clear HW
  go_wp2_with (go_at_call 64;refine (HR.out _).mono ?_;rintro e w2 ⟨rfl,hb2⟩)
  have hbl2:=hb1.below hb2
  have hz1:=hl1.size
  have hz2:=hb2.size
  simp only[World.size_alloc] at hz1
  have H3:=hU (wbyte_any (w.heap.size+1) (w.heap.size+1) _ 93 w2 (by decide) hbl2 (by simp) (by omega))
  refine wp_loop_rounds 1 ?_
  rw[rounds_succ]
  go_wp2_with (go_at_call 59;refine hMo H3 ?_;rintro e w3 ⟨rfl,hb3,hl3,hk3⟩)
  go_wp2_with (go_at_call 61;refine (string_any _ _ _ _ hb3 (by simp)).mono ?_;rintro e w4 ⟨rfl,hl4⟩)
  go_ret
  refine⟨ret_str (by rw[HP.out];rfl),?_⟩
  exact (((hB0.trans (hl1.mono (by omega))).trans (hb2.mono (by omega))).trans (hl3.mono (by omega))).trans (hl4.mono (by omega))
 ·have HR:Hid _:=fun w=>runs_some s hs w hrs
  have HP:Hid (printL s=textL (runsOf (upTo s 256))++[93]):=rfl
  have hpos:0<(runsOf (upTo s 256)).length:=List.length_pos_iff.2 hrs
  clear hrs
  generalize runsOf (upTo s 256)=rs at *
  go_enter Tryz.func23,Tryz.ntmps23
  go_wp2_with (go_at_call 59;refine hMo HW ?_)
  rintro e w1 ⟨rfl,hb1,hl1,hk1⟩
  have c0:w1.cell? ⟨w.heap.size,0,none⟩=some (.int .u64 s.a):=(hl1.cell (p:=⟨w.heap.size,0,none⟩) (Nat.lt_succ_self _)).trans (by simp)
  have c1:w1.cell? ⟨w.heap.size,1,none⟩=some (.int .u64 s.b):=(hl1.cell (p:=⟨w.heap.size,1,none⟩) (Nat.lt_succ_self _)).trans (by simp)
  have c2:w1.cell? ⟨w.heap.size,2,none⟩=some (.int .u64 s.c):=(hl1.cell (p:=⟨w.heap.size,2,none⟩) (Nat.lt_succ_self _)).trans (by simp)
  have c3:w1.cell? ⟨w.heap.size,3,none⟩=some (.int .u64 s.d):=(hl1.cell (p:=⟨w.heap.size,3,none⟩) (Nat.lt_succ_self _)).trans (by simp)
  clear HW
  go_wp2_with (go_at_call 64;refine (HR.out _).mono ?_;rintro e w2 ⟨g,cap,cur,rfl,hg2,htk,hgb,hb2⟩)
  have hz1:=hl1.size
  have hz2:=hb2.size
  simp only[World.size_alloc] at hz1
  have hgn:g≠w.heap.size+1:=by omega
  have hPI:PI w2 (w.heap.size+1) g cur [91] w2:=⟨hb1.below hb2,hg2,Below.refl _ _⟩
  have HROW:Hid _:=fun k hk=>row_get htk k hk
  clear htk HR hb1 hk1 c0 c1 c2 c3
  go_loopw[10] (fun i wr=>∃k:Nat,k≤rs.length∧i=.int .i64 k∧PI w2 (w.heap.size+1) g cur (textL (rs.take k)) wr) (fun i _=>rs.length-(intOf i).toNat)
  case atStart=>exact⟨0,by omega,rfl,hPI⟩
  case round=>
   obtain⟨k,hk,rfl,hp⟩:=hrel
   have hzr:w2.heap.size≤wr.heap.size:=hp.2.2.size
   by_cases hlt:k<rs.length
   ·obtain⟨r1,r2⟩:=HROW.out k hlt
    have q1:=cellAt46 hp.2.1 r1
    have q2:=cellAt46 hp.2.1 r2
    have hmem:rs.getD k (0,0)∈rs:=by
     rw[List.getD_eq_getElem?_getD,List.getElem?_eq_getElem hlt];exact List.getElem_mem _
    obtain⟨s1,s2,s3⟩:=hsm _ hmem
    have HT:Hid (textL (rs.take (k+1))=textL (rs.take k)++itemL (rs.getD k (0,0))):=by
     show _=_
     rw[List.take_succ_eq_append_getElem hlt,textL_snoc]
     simp[List.getD_eq_getElem?_getD,List.getElem?_eq_getElem hlt]
    have hlen:(textL (rs.take k)).length≤1+9*k:=by
     have:=text_le (rs.take k) (fun r hr=>⟨(hsm r (List.mem_of_mem_take hr)).1,(hsm r (List.mem_of_mem_take hr)).2.1⟩)
     rw[List.length_take] at this;omega
    clear hmem r1 r2
    generalize rs.getD k (0,0)=r at *
    obtain⟨lo,hi⟩:=r
    simp only at *
    generalize textL (rs.take k)=l at *
    have hH:=hp.alloc (by omega) (.cells #[.int .i64 lo,.int .i64 hi] 121)
    have hN:(wr.alloc (.cells #[.int .i64 lo,.int .i64 hi] 121)).heap[wr.heap.size]?=some (.cells #[.int .i64 lo,.int .i64 hi] 121 (0,0)):=World.alloc_heap_new wr _
    have hHn:wr.heap.size≠w.heap.size+1:=by omega
    have SL:Hid _:=fun w=>sign_any lo w s1
    have p1:=sign_pos lo s1
    have p2:=sign_le lo s1
    by_cases h1:lo<hi
    ·have SH:Hid _:=fun w=>sign_any hi w s2
     have p3:=sign_pos hi s2
     have p4:=sign_le hi s2
     have g2:decide ((lo:Int)<(hi:Int))=true:=by simp;omega
     by_cases h2:lo+1<hi
     ·have g1:decide ((lo:Int)+1<(hi:Int))=true:=by simp;omega
      have HI:Hid (itemL (lo,hi)=signL lo++[UInt8.ofNat 45]++signL hi):=by
       show _=_;unfold itemL;simp only;rw[if_pos h2,if_pos h1];simp
      go_wp2_with (first | (go_at_call_of 65 lo;refine (SL.out _).mono ?_;rintro e w3 ⟨rfl,nq,rfl⟩) | (go_at_call_of 60 (signL lo);refine (wstr_any (w.heap.size+1) (w.heap.size+1) l (signL lo) _ p1 (hH.drewN nq).1 (by omega) (by simp;omega)).mono ?_;rintro e w4 ⟨rfl,hb4,hl4,hk4⟩;have hn4:=kept46 (W:=(wr.alloc (.cells #[.int .i64 lo,.int .i64 hi] 121)).drewN nq) hN hHn hk4;obtain⟨c4,d4⟩:=cells46 hn4;have hp4:=(hH.drewN nq).wrote hgn hb4 hl4 hk4;have hz4:=hl4.size;simp at hz4) | (go_at_call 59;refine (wbyte_any (w.heap.size+1) (w.heap.size+1) _ 45 _ (by decide) hp4.1 (by simp;omega) (by omega)).mono ?_;rintro e w5 ⟨rfl,hb5,hl5,hk5⟩;have hn5:=kept46 hn4 hHn hk5;obtain⟨c5,d5⟩:=cells46 hn5;have hp5:=hp4.wrote hgn hb5 hl5 hk5;have hz5:=hl5.size) | (go_at_call_of 65 hi;refine (SH.out _).mono ?_;rintro e w6 ⟨rfl,nq',rfl⟩) | (go_at_call_of 60 (signL hi);refine (wstr_any (w.heap.size+1) (w.heap.size+1) _ (signL hi) _ p3 (hp5.drewN nq').1 (by simp;omega) (by simp;omega)).mono ?_;rintro e w7 ⟨rfl,hb7,hl7,hk7⟩;have hp7:=(hp5.drewN nq').wrote hgn hb7 hl7 hk7))
      refine⟨⟨k+1,by omega,by go_num,?_⟩,by simp[intOf];omega⟩
      rw[HT.out,HI.out,←List.append_assoc,←List.append_assoc];exact hp7
     ·have g1:decide ((lo:Int)+1<(hi:Int))=false:=by simp;omega
      have HI:Hid (itemL (lo,hi)=signL lo++signL hi):=by
       show _=_;unfold itemL;simp only;rw[if_neg h2,if_pos h1];simp
      go_wp2_with (first | (go_at_call_of 65 lo;refine (SL.out _).mono ?_;rintro e w3 ⟨rfl,nq,rfl⟩) | (go_at_call_of 60 (signL lo);refine (wstr_any (w.heap.size+1) (w.heap.size+1) l (signL lo) _ p1 (hH.drewN nq).1 (by omega) (by simp;omega)).mono ?_;rintro e w4 ⟨rfl,hb4,hl4,hk4⟩;have hn4:=kept46 (W:=(wr.alloc (.cells #[.int .i64 lo,.int .i64 hi] 121)).drewN nq) hN hHn hk4;obtain⟨c4,d4⟩:=cells46 hn4;have hp4:=(hH.drewN nq).wrote hgn hb4 hl4 hk4;have hz4:=hl4.size;simp at hz4) | (go_at_call_of 65 hi;refine (SH.out _).mono ?_;rintro e w6 ⟨rfl,nq',rfl⟩) | (go_at_call_of 60 (signL hi);refine (wstr_any (w.heap.size+1) (w.heap.size+1) _ (signL hi) _ p3 (hp4.drewN nq').1 (by simp;omega) (by simp;omega)).mono ?_;rintro e w7 ⟨rfl,hb7,hl7,hk7⟩;have hp7:=(hp4.drewN nq').wrote hgn hb7 hl7 hk7))
      refine⟨⟨k+1,by omega,by go_num,?_⟩,by simp[intOf];omega⟩
      rw[HT.out,HI.out,←List.append_assoc];exact hp7
    ·have g1:decide ((lo:Int)+1<(hi:Int))=false:=by simp;omega
     have g2:decide ((lo:Int)<(hi:Int))=false:=by simp;omega
     have HI:Hid (itemL (lo,hi)=signL lo):=by
      show _=_;unfold itemL;simp only;rw[if_neg (by omega),if_neg h1];simp
     go_wp2_with (first | (go_at_call_of 65 lo;refine (SL.out _).mono ?_;rintro e w3 ⟨rfl,nq,rfl⟩) | (go_at_call_of 60 (signL lo);refine (wstr_any (w.heap.size+1) (w.heap.size+1) l (signL lo) _ p1 (hH.drewN nq).1 (by omega) (by simp;omega)).mono ?_;rintro e w4 ⟨rfl,hb4,hl4,hk4⟩;have hn4:=kept46 (W:=(wr.alloc (.cells #[.int .i64 lo,.int .i64 hi] 121)).drewN nq) hN hHn hk4;obtain⟨c4,d4⟩:=cells46 hn4;have hp4:=(hH.drewN nq).wrote hgn hb4 hl4 hk4;have hz4:=hl4.size;simp at hz4))
     refine⟨⟨k+1,by omega,by go_num,?_⟩,by simp[intOf];omega⟩
     rw[HT.out,HI.out];exact hp4
   ·have e:rs.take k=rs:=List.take_of_length_le (by omega)
    rw[e] at hp
    have hlen:(textL rs).length≤1+9*rs.length:=text_le rs (fun r hr=>⟨(hsm r hr).1,(hsm r hr).2.1⟩)
    have hcl:(textL rs).length+1≤140737488355328:=by omega
    have H3:=hU (wbyte_any (w.heap.size+1) (w.heap.size+1) _ 93 wr (by decide) hp.1 hcl (by omega))
    generalize textL rs=l at *
    clear hsm hPI HROW e
    go_wp2_with (go_at_call 59;refine hMo H3 ?_;rintro e w3 ⟨rfl,hb3,hl3,hk3⟩)
    go_wp2_with (go_at_call 61;refine (string_any _ _ _ _ hb3 (by simp)).mono ?_;rintro e w4 ⟨rfl,hl4⟩)
    go_ret
    refine⟨ret_str (by rw[HP.out]),?_⟩
    exact ((((hB0.trans (hl1.mono (by omega))).trans (hb2.mono (by omega))).trans (hp.2.2.mono (by omega))).trans (hl3.mono (by omega))).trans (hl4.mono (by omega))
def good (l:List UInt8):Prop:=∃c l',l=c::l'∧c≠45∧c≠94
end Go.Proofs.YtcpakcffiopfjaaGreatDoor
