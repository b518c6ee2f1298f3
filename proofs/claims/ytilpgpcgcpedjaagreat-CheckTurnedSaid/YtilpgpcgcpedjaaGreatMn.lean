/- Check: the first thing that is wrong with a definition, told. -/
import Derived.Test.YtilpgpcgcpedjaaGreatMk
import Derived.Test.YtilpgpcgcpedjaaGreatG1
namespace Go.Proofs.YtilpgpcgcpedjaaGreat
open Go.RowKit
set_option linter.unusedVariables false
set_option linter.unusedSimpArgs false
set_option maxRecDepth 100000
set_option maxHeartbeats 16000000
theorem set9 {W:World} {P:Nat} {t:TypeId} {z0 z1 z2 z3 z4 z5 z6 z7 z8:Value} (h:Blk W P t #[z0,z1,z2,z3,z4,z5,z6,z7,z8]) (v0 v1 v2 v3 v4 v5 v6 v7 v8:Value):Blk (((((((((W.setCell ⟨P,0,none⟩ v0).setCell ⟨P,1,none⟩ v1).setCell ⟨P,2,none⟩ v2).setCell ⟨P,3,none⟩ v3).setCell ⟨P,4,none⟩ v4).setCell ⟨P,5,none⟩ v5).setCell ⟨P,6,none⟩ v6).setCell ⟨P,7,none⟩ v7).setCell ⟨P,8,none⟩ v8) P t #[v0,v1,v2,v3,v4,v5,v6,v7,v8]∧W.grownBy (((((((((W.setCell ⟨P,0,none⟩ v0).setCell ⟨P,1,none⟩ v1).setCell ⟨P,2,none⟩ v2).setCell ⟨P,3,none⟩ v3).setCell ⟨P,4,none⟩ v4).setCell ⟨P,5,none⟩ v5).setCell ⟨P,6,none⟩ v6).setCell ⟨P,7,none⟩ v7).setCell ⟨P,8,none⟩ v8) (some P):=by
 have h0:Blk (W.setCell ⟨P,0,none⟩ v0) P t #[v0,z1,z2,z3,z4,z5,z6,z7,z8]:=Blk.set h 0 v0
 have g0:W.grownBy (W.setCell ⟨P,0,none⟩ v0) (some P):=grownBy_setCell _ _ _ _
 generalize W.setCell ⟨P,0,none⟩ v0=W0 at h0 g0 ⊢
 have h1:Blk (W0.setCell ⟨P,1,none⟩ v1) P t #[v0,v1,z2,z3,z4,z5,z6,z7,z8]:=Blk.set h0 1 v1
 have g1:W0.grownBy (W0.setCell ⟨P,1,none⟩ v1) (some P):=grownBy_setCell _ _ _ _
 generalize W0.setCell ⟨P,1,none⟩ v1=W1 at h1 g1 ⊢
 have h2:Blk (W1.setCell ⟨P,2,none⟩ v2) P t #[v0,v1,v2,z3,z4,z5,z6,z7,z8]:=Blk.set h1 2 v2
 have g2:W1.grownBy (W1.setCell ⟨P,2,none⟩ v2) (some P):=grownBy_setCell _ _ _ _
 generalize W1.setCell ⟨P,2,none⟩ v2=W2 at h2 g2 ⊢
 have h3:Blk (W2.setCell ⟨P,3,none⟩ v3) P t #[v0,v1,v2,v3,z4,z5,z6,z7,z8]:=Blk.set h2 3 v3
 have g3:W2.grownBy (W2.setCell ⟨P,3,none⟩ v3) (some P):=grownBy_setCell _ _ _ _
 generalize W2.setCell ⟨P,3,none⟩ v3=W3 at h3 g3 ⊢
 have h4:Blk (W3.setCell ⟨P,4,none⟩ v4) P t #[v0,v1,v2,v3,v4,z5,z6,z7,z8]:=Blk.set h3 4 v4
 have g4:W3.grownBy (W3.setCell ⟨P,4,none⟩ v4) (some P):=grownBy_setCell _ _ _ _
 generalize W3.setCell ⟨P,4,none⟩ v4=W4 at h4 g4 ⊢
 have h5:Blk (W4.setCell ⟨P,5,none⟩ v5) P t #[v0,v1,v2,v3,v4,v5,z6,z7,z8]:=Blk.set h4 5 v5
 have g5:W4.grownBy (W4.setCell ⟨P,5,none⟩ v5) (some P):=grownBy_setCell _ _ _ _
 generalize W4.setCell ⟨P,5,none⟩ v5=W5 at h5 g5 ⊢
 have h6:Blk (W5.setCell ⟨P,6,none⟩ v6) P t #[v0,v1,v2,v3,v4,v5,v6,z7,z8]:=Blk.set h5 6 v6
 have g6:W5.grownBy (W5.setCell ⟨P,6,none⟩ v6) (some P):=grownBy_setCell _ _ _ _
 generalize W5.setCell ⟨P,6,none⟩ v6=W6 at h6 g6 ⊢
 have h7:Blk (W6.setCell ⟨P,7,none⟩ v7) P t #[v0,v1,v2,v3,v4,v5,v6,v7,z8]:=Blk.set h6 7 v7
 have g7:W6.grownBy (W6.setCell ⟨P,7,none⟩ v7) (some P):=grownBy_setCell _ _ _ _
 generalize W6.setCell ⟨P,7,none⟩ v7=W7 at h7 g7 ⊢
 have h8:Blk (W7.setCell ⟨P,8,none⟩ v8) P t #[v0,v1,v2,v3,v4,v5,v6,v7,v8]:=Blk.set h7 8 v8
 have g8:W7.grownBy (W7.setCell ⟨P,8,none⟩ v8) (some P):=grownBy_setCell _ _ _ _
 generalize W7.setCell ⟨P,8,none⟩ v8=W8 at h8 g8 ⊢
 exact ⟨h8,(((((((g0.trans g1).trans g2).trans g3).trans g4).trans g5).trans g6).trans g7).trans g8⟩
structure FewD (d:Df):Prop where
 few:symsN d.prods≤1000000
 fl:d.follows.length≤1000000
 rl:d.rejects.length≤1000000
 bl:d.boxes.length≤1000000
 cl:d.chains.length≤1000000
structure CK (w W:World) (d:Df) (P4 M1 M2:Nat) (us:Array Value):Prop where
 bel:Below w.heap.size w W
 box:Blk W P4 75 us
 m1:∃n,Mp W M1 n (kindF d.prods)
 m2:∃n,Mp W M2 n (placeF d.prods)
theorem lines_any (d:Df) (a2:Option Addr) (p2:Nat) (a3:Option Addr) (p3:Nat) (a4:Option Addr) (p4:Nat) (a5:Option Addr) (p5:Nat) (a6:Option Addr) (p6 B1 B2:Nat) (w:World) (h:LK w d [.string d.start,.string d.layout,.slice a2 d.prods.length p2,.slice a3 d.chains.length p3,.slice a4 d.follows.length p4,.slice a5 d.rejects.length p5,.slice a6 d.boxes.length p6] B1 B2) (hlv:∀b∈d.boxes,(lvIts b.items).length≤1000000):∀k,k<14→Calls Tryz.prog (37+k) #[.agg #[.string d.start,.string d.layout,.slice a2 d.prods.length p2,.slice a3 d.chains.length p3,.slice a4 d.follows.length p4,.slice a5 d.rejects.length p5,.slice a6 d.boxes.length p6,.map (some B1),.map (some B2)]] w fun e w'=>Tl e (line d k)∧Below w.heap.size w w'
 | 0,_=>mixed_any d a2 p2 a3 p3 a4 p4 a5 p5 a6 p6 B1 B2 w h
 | 1,_=>start_any d a2 p2 a3 p3 a4 p4 a5 p5 a6 p6 B1 B2 w h
 | 2,_=>layout_any d a2 p2 a3 p3 a4 p4 a5 p5 a6 p6 B1 B2 w h
 | 3,_=>undef_line d a2 p2 a3 p3 a4 p4 a5 p5 a6 p6 B1 B2 w h
 | 4,_=>kind_any d a2 p2 a3 p3 a4 p4 a5 p5 a6 p6 B1 B2 w h
 | 5,_=>cons_line d a2 p2 a3 p3 a4 p4 a5 p5 a6 p6 B1 B2 w h
 | 6,_=>bracket_any d a2 p2 a3 p3 a4 p4 a5 p5 a6 p6 B1 B2 w h
 | 7,_=>long_any d a2 p2 a3 p3 a4 p4 a5 p5 a6 p6 B1 B2 w h
 | 8,_=>null_any d a2 p2 a3 p3 a4 p4 a5 p5 a6 p6 B1 B2 w h
 | 9,_=>cycle_any d a2 p2 a3 p3 a4 p4 a5 p5 a6 p6 B1 B2 w h
 | 10,_=>reject_line d a2 p2 a3 p3 a4 p4 a5 p5 a6 p6 B1 B2 w h
 | 11,_=>prio_line d a2 p2 a3 p3 a4 p4 a5 p5 a6 p6 B1 B2 w h
 | 12,_=>follow_line d a2 p2 a3 p3 a4 p4 a5 p5 a6 p6 B1 B2 w h
 | 13,_=>box_line d a2 p2 a3 p3 a4 p4 a5 p5 a6 p6 B1 B2 w h hlv
 | k+14,hh=>(Nat.not_lt.2 (Nat.le_add_left 14 k) hh).elim
theorem fn_at (v:Value):∀k,k<14→(#[.func (.func 37) #[v] #[],.func (.func 38) #[v] #[],.func (.func 39) #[v] #[],.func (.func 40) #[v] #[],.func (.func 41) #[v] #[],.func (.func 42) #[v] #[],.func (.func 43) #[v] #[],.func (.func 44) #[v] #[],.func (.func 45) #[v] #[],.func (.func 46) #[v] #[],.func (.func 47) #[v] #[],.func (.func 48) #[v] #[],.func (.func 49) #[v] #[],.func (.func 50) #[v] #[]]:Array Value)[k]?=some (.func (.func (37+k)) #[v] #[])
 | 0,_=>rfl
 | 1,_=>rfl
 | 2,_=>rfl
 | 3,_=>rfl
 | 4,_=>rfl
 | 5,_=>rfl
 | 6,_=>rfl
 | 7,_=>rfl
 | 8,_=>rfl
 | 9,_=>rfl
 | 10,_=>rfl
 | 11,_=>rfl
 | 12,_=>rfl
 | 13,_=>rfl
 | k+14,hh=>(Nat.not_lt.2 (Nat.le_add_left 14 k) hh).elim
theorem line_code (d:Df):∀(k:Nat) (c:Int) (s:Nm),line d k=some (c,s)→c≠0
 | 0,c,s,h=>by simp[line,tell] at h;omega
 | 1,c,s,h=>by
  have h':(if decide (d.start∈srt d.prods)=false∨lexd d.prods d.start=true then some ((40:Int),d.start) else none)=some (c,s):=h
  split at h'
  ·simp at h';omega
  ·cases h'
 | 2,c,s,h=>by
  have h':(if d.layout≠no∧lexd d.prods d.layout=false then some ((41:Int),d.layout) else none)=some (c,s):=h
  split at h'
  ·simp at h';omega
  ·cases h'
 | 3,c,s,h=>by simp[line,tell] at h;omega
 | 4,c,s,h=>by simp[line,tell] at h;omega
 | 5,c,s,h=>by simp[line,tell] at h;omega
 | 6,c,s,h=>by simp[line,tell] at h;omega
 | 7,c,s,h=>by simp[line,tell] at h;omega
 | 8,c,s,h=>by simp[line,tell] at h;omega
 | 9,c,s,h=>by simp[line,tell] at h;omega
 | 10,c,s,h=>by simp[line,tell] at h;omega
 | 11,c,s,h=>by simp[line,tell] at h;omega
 | 12,c,s,h=>by simp[line,tell] at h;omega
 | 13,c,s,h=>by simp[line,tell] at h;omega
 | k+14,c,s,h=>by cases h
theorem lines_next (d:Df) (k:Nat) (h:lines d k=none) (hl:line d k=none):lines d (k+1)=none:=by
 unfold lines at h ⊢
 rw[List.range_succ]
 exact fs_snoc h hl
theorem lines_hit (d:Df) (k:Nat) (x:Int×Nm) (hk:k<14) (h:lines d k=none) (hl:line d k=some x):lines d 14=some x:=by
 unfold lines at h ⊢
 refine fs_take (k:=k) (x:=k) (by simp[List.getElem?_range hk]) ?_ hl
 rw[List.take_range,Nat.min_eq_left (by omega)]
 exact h
theorem lines_enter:∀k,k<14→∀(args:Array Value) (W:World),(callFunc (37+k) args).run Tryz.prog W=.ok (.enter (37+k) args) W
 | 0,_=>fun args W=>by kernel_rfl
 | 1,_=>fun args W=>by kernel_rfl
 | 2,_=>fun args W=>by kernel_rfl
 | 3,_=>fun args W=>by kernel_rfl
 | 4,_=>fun args W=>by kernel_rfl
 | 5,_=>fun args W=>by kernel_rfl
 | 6,_=>fun args W=>by kernel_rfl
 | 7,_=>fun args W=>by kernel_rfl
 | 8,_=>fun args W=>by kernel_rfl
 | 9,_=>fun args W=>by kernel_rfl
 | 10,_=>fun args W=>by kernel_rfl
 | 11,_=>fun args W=>by kernel_rfl
 | 12,_=>fun args W=>by kernel_rfl
 | 13,_=>fun args W=>by kernel_rfl
 | k+14,hh=>(Nat.not_lt.2 (Nat.le_add_left 14 k) hh).elim
theorem check_any (d:Df) (vs:List Value) (w:World) (h:DO w d vs) (hfew:FewD d) (hRG:rightB d=true→(∀p∈d.prods,∀s∈p.syms,s.text.size≤1000000)∧∀b∈d.boxes,(lvIts b.items).length≤1000000):
  Calls Tryz.prog 14 #[.agg ⟨vs⟩] w fun e w'=>e=.returned (.tuple #[.int .i64 (chk d (rightB d)).1,.string (chk d (rightB d)).2])∧Below w.heap.size w w':=by
 have HDO:=hHi h
 obtain⟨a2,p2,a3,p3,a4,p4,a5,p5,a6,p6,rfl,r2,_⟩:=h.form
 obtain⟨f,hf⟩:=h.sz
 have hz:d.prods.length≤140737488355328:=by have:=hf.p;omega
 obtain⟨w1,hw1⟩:∃qW,w.alloc (.cells #[.string d.start,.string d.layout,.slice a2 d.prods.length p2,.slice a3 d.chains.length p3,.slice a4 d.follows.length p4,.slice a5 d.rejects.length p5,.slice a6 d.boxes.length p6] 28)=qW:=⟨_,rfl⟩
 have HX1:=kN hw1
 have HB1:=kB hw1
 have HR:Hid (∀W,Below w.heap.size w W→Row W W.heap.size 5 (PrV W W.heap.size) a2 d.prods):=fun W hb=>r2.keep hb hb.size (fun _ _ _ h=>h.keep hb hb.size)
 have HC35:Hid (∀W,Below w.heap.size w W→Calls Tryz.prog 35 #[.agg #[.string d.start,.string d.layout,.slice a2 d.prods.length p2,.slice a3 d.chains.length p3,.slice a4 d.follows.length p4,.slice a5 d.rejects.length p5,.slice a6 d.boxes.length p6]] W fun e w'=>(∃B n,e=.returned (.map (some B))∧Mp w' B n (kindF d.prods)∧W.heap.size≤B)∧Below W.heap.size W w'):=fun W hb=>sortKinds_any d a2 p2 _ _ _ _ W (HR.out W hb) hz h.nm.prods
 have HC36:Hid (∀W,Below w.heap.size w W→Calls Tryz.prog 36 #[.agg #[.string d.start,.string d.layout,.slice a2 d.prods.length p2,.slice a3 d.chains.length p3,.slice a4 d.follows.length p4,.slice a5 d.rejects.length p5,.slice a6 d.boxes.length p6]] W fun e w'=>(∃B n,e=.returned (.map (some B))∧Mp w' B n (placeF d.prods)∧W.heap.size≤B)∧Below W.heap.size W w'):=fun W hb=>consPlaces_any d a2 p2 _ _ _ _ W (HR.out W hb) hz h.nm.prods
 have HC34:=hU (right_da (w:=w1) (d:=d) (vs:=[.string d.start,.string d.layout,.slice a2 d.prods.length p2,.slice a3 d.chains.length p3,.slice a4 d.follows.length p4,.slice a5 d.rejects.length p5,.slice a6 d.boxes.length p6]) (h.da.nx HB1.out))
 have HFW:=hHi hfew
 have HRG:=hHi hRG
 obtain⟨rt,hrt⟩:∃q,rightB d=q:=⟨_,rfl⟩
 rw[hrt] at HC34 ⊢
 have HRT:=hHi hrt
 obtain⟨ce,hce⟩:∃q,(chk d rt).1=q:=⟨_,rfl⟩
 obtain⟨cn,hcn⟩:∃q,(chk d rt).2=q:=⟨_,rfl⟩
 rw[hce,hcn]
 have HCE:Hid (chk d rt=(ce,cn)):=by show _=_;rw[←hce,←hcn]
 clear r2 hf h hfew hrt hce hcn
 go_enter Tryz.func14,Tryz.ntmps14
 obtain⟨d0,d1,d2,d3,d4,d5,d6⟩:=HX1.out.c7
 go_wp2_with fail
 refine hMo HC34 ?_
 rintro e w2 ⟨rfl,hb⟩
 have HB2:=hHi (below_tr HB1.out hb)
 have HX2:=kA HX1 (hHi hb)
 clear hb HC34 d0 d1 d2 d3 d4 d5 d6
 obtain⟨d0,d1,d2,d3,d4,d5,d6⟩:=HX2.out.c7
 cases rt with
 | false=>
  have HQ:Hid (ce=3∧cn=no):=by have h:=HCE.out;simp only[chk,Bool.false_eq_true,if_false,Prod.mk.injEq] at h;exact ⟨h.1.symm,h.2.symm⟩
  go_wp2
  go_ret2
  exact ⟨by rw[HQ.out.1,HQ.out.2];rfl,HB2.out⟩
 | true=>
  have T:BX w w2 w.heap.size 28 #[.string d.start,.string d.layout,.slice a2 d.prods.length p2,.slice a3 d.chains.length p3,.slice a4 d.follows.length p4,.slice a5 d.rejects.length p5,.slice a6 d.boxes.length p6]:=⟨HB2.out,HX2.out⟩
  clear d0 d1 d2 d3 d4 d5 d6
  go_wp2
  go_cut [4] from 12 to 61 (fun s4 wc=>∃P4 M1 M2,s4=.pointer (some ⟨P4,0,none⟩)∧CK w wc d P4 M1 M2 #[.string d.start,.string d.layout,.slice a2 d.prods.length p2,.slice a3 d.chains.length p3,.slice a4 d.follows.length p4,.slice a5 d.rejects.length p5,.slice a6 d.boxes.length p6,.map (some M1),.map (some M2)])
  refine wp_region_held_drew (S:=fun W=>W.cell? ⟨w.heap.size,0,none⟩=some (.string d.start)∧W.cell? ⟨w.heap.size,1,none⟩=some (.string d.layout)∧W.cell? ⟨w.heap.size,2,none⟩=some (.slice a2 d.prods.length p2)∧W.cell? ⟨w.heap.size,3,none⟩=some (.slice a3 d.chains.length p3)∧W.cell? ⟨w.heap.size,4,none⟩=some (.slice a4 d.follows.length p4)∧W.cell? ⟨w.heap.size,5,none⟩=some (.slice a5 d.rejects.length p5)∧W.cell? ⟨w.heap.size,6,none⟩=some (.slice a6 d.boxes.length p6)) (by kernel_rfl) T.drew.box.c7 (fun hHeld=>?_)
  refine tk 0 rfl (by assumption) ?_
  try simp only[Act.put,List.getElem_toArray,List.getElem_cons_zero,List.getElem_cons_succ,List.setIfInBounds_toArray,List.set_cons_zero,List.set_cons_succ]
  refine tk 1 rfl (by assumption) ?_
  try simp only[Act.put,List.getElem_toArray,List.getElem_cons_zero,List.getElem_cons_succ,List.setIfInBounds_toArray,List.set_cons_zero,List.set_cons_succ]
  refine tk 3 rfl (by assumption) ?_
  try simp only[Act.put,List.getElem_toArray,List.getElem_cons_zero,List.getElem_cons_succ,List.setIfInBounds_toArray,List.set_cons_zero,List.set_cons_succ]
  refine wpAnyH_ready (rs:=[2,6]) (by kernel_rfl) (by simp) ?_
  refine (AllReadyH.cons rfl (fun K hK=>?_) (AllReadyH.cons rfl (fun K hK=>?_) AllReadyH.nil))
  ·skip
   go_simp
   refine (HC35.out _ T.drew.bel).mono ?_
   rintro e w5 ⟨⟨M1,n1,rfl,hm1,_⟩,hb5⟩
   replace T:=T.drew.nx hb5
   have HM1:=hHi hm1
   refine hK.out _ _ T.box.c7 (fun hHeld=>?_)
   clear hK K hb5 hm1
   refine wpAnyH_ready (rs:=[4,6]) (by kernel_rfl) (by simp) ?_
   refine (AllReadyH.cons rfl (fun K hK=>?_) (AllReadyH.cons rfl (fun K hK=>?_) AllReadyH.nil))
   ·skip
    go_simp
    refine (HC36.out _ T.bel).mono ?_
    rintro e w6 ⟨⟨M2,n2,rfl,hm2,_⟩,hb6⟩
    replace T:=T.nx hb6
    have HM2:=hHi hm2
    replace HM1:=Mp.below HM1 (hHi hb6)
    refine hK.out _ _ T.box.c7 (fun hHeld=>?_)
    clear hK K hb6 hm2
    refine tk 5 rfl (by assumption) ?_
    try simp only[Act.put,List.getElem_toArray,List.getElem_cons_zero,List.getElem_cons_succ,List.setIfInBounds_toArray,List.set_cons_zero,List.set_cons_succ]
    refine rd1 6 rfl (fun K hK=>?_)
    go_simp
    obtain⟨w7,hw7⟩:∃q,w6.alloc (.cells #[.string ⟨#[]⟩,.string ⟨#[]⟩,.slice none 0 0,.slice none 0 0,.slice none 0 0,.slice none 0 0,.slice none 0 0,.map none,.map none] 75)=q:=⟨_,rfl⟩
    have HXP:=kN hw7
    have HBP:=kB hw7
    have HPN:Hid (w.heap.size≠w6.heap.size):=by show _≠_;have:=T.box.lt;omega
    have HPW:Hid (w.heap.size≤w6.heap.size):=T.bel.size
    have HN1:Hid (M1≠w6.heap.size):=by show _≠_;have:=HM1.out.lt;omega
    have HN2:Hid (M2≠w6.heap.size):=by show _≠_;have:=HM2.out.lt;omega
    go_simp
    replace T:=T.nx HBP.out
    replace HM1:=Mp.below HM1 HBP
    replace HM2:=Mp.below HM2 HBP
    refine hK.out _ _ T.box.c7 (fun hHeld=>?_)
    clear hK K
    have hs9:=set9 HXP.out (.string d.start) (.string d.layout) (.slice a2 d.prods.length p2) (.slice a3 d.chains.length p3) (.slice a4 d.follows.length p4) (.slice a5 d.rejects.length p5) (.slice a6 d.boxes.length p6) (.map (some M1)) (.map (some M2))
    obtain⟨w8,hw8⟩:∃q,(((((((((w7.setCell ⟨w6.heap.size,0,none⟩ (.string d.start)).setCell ⟨w6.heap.size,1,none⟩ (.string d.layout)).setCell ⟨w6.heap.size,2,none⟩ (.slice a2 d.prods.length p2)).setCell ⟨w6.heap.size,3,none⟩ (.slice a3 d.chains.length p3)).setCell ⟨w6.heap.size,4,none⟩ (.slice a4 d.follows.length p4)).setCell ⟨w6.heap.size,5,none⟩ (.slice a5 d.rejects.length p5)).setCell ⟨w6.heap.size,6,none⟩ (.slice a6 d.boxes.length p6)).setCell ⟨w6.heap.size,7,none⟩ (.map (some M1))).setCell ⟨w6.heap.size,8,none⟩ (.map (some M2)))=q:=⟨_,rfl⟩
    rw[hw8] at hs9
    have HX8:=hHi hs9.1
    have HG8:=hHi hs9.2
    have zf:=HXP.out.frozen
    have lf:=HXP.out.lt
    obtain⟨q0,q1,q2,q3,q4,q5,q6,q7,q8⟩:=HXP.out.c9
    have HB8:Hid (Below w.heap.size w w8):=T.bel.trans (belG HG8.out (by have:=HPW.out;omega) T.bel.size)
    have HT8:Hid (Blk w8 w.heap.size 28 #[.string d.start,.string d.layout,.slice a2 d.prods.length p2,.slice a3 d.chains.length p3,.slice a4 d.follows.length p4,.slice a5 d.rejects.length p5,.slice a6 d.boxes.length p6]):=T.box.kept HG8.out (by simpa using HPN.out)
    have HM18:=Mp.put HM1 HG8 HN1.out
    have HM28:=Mp.put HM2 HG8 HN2.out
    clear hs9
    refine rd1 7 rfl (fun K hK=>?_)
    go_simp
    refine hK.out _ _ HT8.out.c7 (fun hHeld=>?_)
    clear hK K
    refine wpAnyH_done (by kernel_rfl) ?_ _
    clear q0 q1 q2 q3 q4 q5 q6 q7 q8 zf lf
    go_wp2_with fail
    go_meet
    exact ⟨_,M1,M2,rfl,HB8.out,HX8.out,⟨_,HM18.out⟩,⟨_,HM28.out⟩⟩
   ·skip
    obtain⟨w7,hw7⟩:∃q,w5.alloc (.cells #[.string ⟨#[]⟩,.string ⟨#[]⟩,.slice none 0 0,.slice none 0 0,.slice none 0 0,.slice none 0 0,.slice none 0 0,.map none,.map none] 75)=q:=⟨_,rfl⟩
    have HXP:=kN hw7
    have HBP:=kB hw7
    have HPN:Hid (w.heap.size≠w5.heap.size):=by show _≠_;have:=T.box.lt;omega
    have HPW:Hid (w.heap.size≤w5.heap.size):=T.bel.size
    have HN1:Hid (M1≠w5.heap.size):=by show _≠_;have:=HM1.out.lt;omega
    have hP7:w7.heap.size=w5.heap.size+1:=by rw[←hw7];simp
    have HP7:=hHi hP7
    clear hP7
    go_simp
    replace T:=T.nx HBP.out
    replace HM1:=Mp.below HM1 HBP
    refine hK.out _ _ T.box.c7 (fun hHeld=>?_)
    clear hK K
    refine rd1 4 rfl (fun K hK=>?_)
    go_simp
    refine (HC36.out _ T.bel).mono ?_
    rintro e w6 ⟨⟨M2,n2,rfl,hm2,hM2⟩,hb6⟩
    replace T:=T.nx hb6
    have HM2:=hHi hm2
    have HN2:Hid (M2≠w5.heap.size):=by show _≠_;have:=HP7.out;omega
    replace HM1:=Mp.below HM1 (hHi hb6)
    replace HXP:=kA HXP (hHi hb6)
    refine hK.out _ _ T.box.c7 (fun hHeld=>?_)
    clear hK K hb6 hm2 hM2
    refine tk 5 rfl (by assumption) ?_
    try simp only[Act.put,List.getElem_toArray,List.getElem_cons_zero,List.getElem_cons_succ,List.setIfInBounds_toArray,List.set_cons_zero,List.set_cons_succ]
    have hs9:=set9 HXP.out (.string d.start) (.string d.layout) (.slice a2 d.prods.length p2) (.slice a3 d.chains.length p3) (.slice a4 d.follows.length p4) (.slice a5 d.rejects.length p5) (.slice a6 d.boxes.length p6) (.map (some M1)) (.map (some M2))
    obtain⟨w8,hw8⟩:∃q,(((((((((w6.setCell ⟨w5.heap.size,0,none⟩ (.string d.start)).setCell ⟨w5.heap.size,1,none⟩ (.string d.layout)).setCell ⟨w5.heap.size,2,none⟩ (.slice a2 d.prods.length p2)).setCell ⟨w5.heap.size,3,none⟩ (.slice a3 d.chains.length p3)).setCell ⟨w5.heap.size,4,none⟩ (.slice a4 d.follows.length p4)).setCell ⟨w5.heap.size,5,none⟩ (.slice a5 d.rejects.length p5)).setCell ⟨w5.heap.size,6,none⟩ (.slice a6 d.boxes.length p6)).setCell ⟨w5.heap.size,7,none⟩ (.map (some M1))).setCell ⟨w5.heap.size,8,none⟩ (.map (some M2)))=q:=⟨_,rfl⟩
    rw[hw8] at hs9
    have HX8:=hHi hs9.1
    have HG8:=hHi hs9.2
    have zf:=HXP.out.frozen
    have lf:=HXP.out.lt
    obtain⟨q0,q1,q2,q3,q4,q5,q6,q7,q8⟩:=HXP.out.c9
    have HB8:Hid (Below w.heap.size w w8):=T.bel.trans (belG HG8.out (by have:=HPW.out;omega) T.bel.size)
    have HT8:Hid (Blk w8 w.heap.size 28 #[.string d.start,.string d.layout,.slice a2 d.prods.length p2,.slice a3 d.chains.length p3,.slice a4 d.follows.length p4,.slice a5 d.rejects.length p5,.slice a6 d.boxes.length p6]):=T.box.kept HG8.out (by simpa using HPN.out)
    have HM18:=Mp.put HM1 HG8 HN1.out
    have HM28:=Mp.put HM2 HG8 HN2.out
    clear hs9
    refine rd1 7 rfl (fun K hK=>?_)
    go_simp
    refine hK.out _ _ HT8.out.c7 (fun hHeld=>?_)
    clear hK K
    refine wpAnyH_done (by kernel_rfl) ?_ _
    clear q0 q1 q2 q3 q4 q5 q6 q7 q8 zf lf
    go_wp2_with fail
    go_meet
    exact ⟨_,M1,M2,rfl,HB8.out,HX8.out,⟨_,HM18.out⟩,⟨_,HM28.out⟩⟩
  ·skip
   obtain⟨w7,hw7⟩:∃q,w2.drew.alloc (.cells #[.string ⟨#[]⟩,.string ⟨#[]⟩,.slice none 0 0,.slice none 0 0,.slice none 0 0,.slice none 0 0,.slice none 0 0,.map none,.map none] 75)=q:=⟨_,rfl⟩
   have HXP:Hid (Blk w7 w2.heap.size 75 #[.string ⟨#[]⟩,.string ⟨#[]⟩,.slice none 0 0,.slice none 0 0,.slice none 0 0,.slice none 0 0,.slice none 0 0,.map none,.map none]):=by have q:=kN hw7;exact q
   have HBP:=kB hw7
   have HPN:Hid (w.heap.size≠w2.heap.size):=by show _≠_;have:=T.box.lt;omega
   have HPW:Hid (w.heap.size≤w2.heap.size):=T.drew.bel.size
   have hP7:w7.heap.size=w2.heap.size+1:=by rw[←hw7];simp
   have HP7:=hHi hP7
   clear hP7
   go_simp
   replace T:=T.drew.nx HBP.out
   refine hK.out _ _ T.box.c7 (fun hHeld=>?_)
   clear hK K
   refine rd1 2 rfl (fun K hK=>?_)
   go_simp
   refine (HC35.out _ T.bel).mono ?_
   rintro e w5 ⟨⟨M1,n1,rfl,hm1,hM1⟩,hb5⟩
   replace T:=T.nx hb5
   have HM1:=hHi hm1
   have HN1:Hid (M1≠w2.heap.size):=by show _≠_;have:=HP7.out;omega
   have HS5:=hHi hb5.size
   replace HXP:=kA HXP (hHi hb5)
   refine hK.out _ _ T.box.c7 (fun hHeld=>?_)
   clear hK K hb5 hm1 hM1
   refine rd1 4 rfl (fun K hK=>?_)
   go_simp
   refine (HC36.out _ T.bel).mono ?_
   rintro e w6 ⟨⟨M2,n2,rfl,hm2,hM2⟩,hb6⟩
   replace T:=T.nx hb6
   have HM2:=hHi hm2
   have HN2:Hid (M2≠w2.heap.size):=by show _≠_;have:=HP7.out;have:=HS5.out;omega
   replace HM1:=Mp.below HM1 (hHi hb6)
   replace HXP:=kA HXP (hHi hb6)
   refine hK.out _ _ T.box.c7 (fun hHeld=>?_)
   clear hK K hb6 hm2 hM2
   refine tk 5 rfl (by assumption) ?_
   try simp only[Act.put,List.getElem_toArray,List.getElem_cons_zero,List.getElem_cons_succ,List.setIfInBounds_toArray,List.set_cons_zero,List.set_cons_succ]
   have hs9:=set9 HXP.out (.string d.start) (.string d.layout) (.slice a2 d.prods.length p2) (.slice a3 d.chains.length p3) (.slice a4 d.follows.length p4) (.slice a5 d.rejects.length p5) (.slice a6 d.boxes.length p6) (.map (some M1)) (.map (some M2))
   obtain⟨w8,hw8⟩:∃q,(((((((((w6.setCell ⟨w2.heap.size,0,none⟩ (.string d.start)).setCell ⟨w2.heap.size,1,none⟩ (.string d.layout)).setCell ⟨w2.heap.size,2,none⟩ (.slice a2 d.prods.length p2)).setCell ⟨w2.heap.size,3,none⟩ (.slice a3 d.chains.length p3)).setCell ⟨w2.heap.size,4,none⟩ (.slice a4 d.follows.length p4)).setCell ⟨w2.heap.size,5,none⟩ (.slice a5 d.rejects.length p5)).setCell ⟨w2.heap.size,6,none⟩ (.slice a6 d.boxes.length p6)).setCell ⟨w2.heap.size,7,none⟩ (.map (some M1))).setCell ⟨w2.heap.size,8,none⟩ (.map (some M2)))=q:=⟨_,rfl⟩
   rw[hw8] at hs9
   have HX8:=hHi hs9.1
   have HG8:=hHi hs9.2
   have zf:=HXP.out.frozen
   have lf:=HXP.out.lt
   obtain⟨q0,q1,q2,q3,q4,q5,q6,q7,q8⟩:=HXP.out.c9
   have HB8:Hid (Below w.heap.size w w8):=T.bel.trans (belG HG8.out (by have:=HPW.out;omega) T.bel.size)
   have HT8:Hid (Blk w8 w.heap.size 28 #[.string d.start,.string d.layout,.slice a2 d.prods.length p2,.slice a3 d.chains.length p3,.slice a4 d.follows.length p4,.slice a5 d.rejects.length p5,.slice a6 d.boxes.length p6]):=T.box.kept HG8.out (by simpa using HPN.out)
   have HM18:=Mp.put HM1 HG8 HN1.out
   have HM28:=Mp.put HM2 HG8 HN2.out
   clear hs9
   refine rd1 7 rfl (fun K hK=>?_)
   go_simp
   refine hK.out _ _ HT8.out.c7 (fun hHeld=>?_)
   clear hK K
   refine wpAnyH_done (by kernel_rfl) ?_ _
   clear q0 q1 q2 q3 q4 q5 q6 q7 q8 zf lf
   go_wp2_with fail
   go_meet
   exact ⟨_,M1,M2,rfl,HB8.out,HX8.out,⟨_,HM18.out⟩,⟨_,HM28.out⟩⟩
  case rest=>
  obtain⟨P4,M1,M2,rfl,hck⟩:=hcut
  have HCK:=hHi hck
  have HBC:=hHi hck.bel
  have HXC:=hHi hck.box
  have HLK:Hid (rightB d=true→LK wc d [.string d.start,.string d.layout,.slice a2 d.prods.length p2,.slice a3 d.chains.length p3,.slice a4 d.follows.length p4,.slice a5 d.rejects.length p5,.slice a6 d.boxes.length p6] M1 M2∧∀b∈d.boxes,(lvIts b.items).length≤1000000):=fun hr=>⟨⟨HDO.out.nx HCK.out.bel,HCK.out.m1,HCK.out.m2,HFW.out.few,(HRG.out hr).1,HFW.out.fl,HFW.out.rl,HFW.out.bl,HFW.out.cl⟩,(HRG.out hr).2⟩
  have HLK2:Hid (LK wc d [.string d.start,.string d.layout,.slice a2 d.prods.length p2,.slice a3 d.chains.length p3,.slice a4 d.follows.length p4,.slice a5 d.rejects.length p5,.slice a6 d.boxes.length p6] M1 M2∧∀b∈d.boxes,(lvIts b.items).length≤1000000):=HLK.out HRT.out
  have HLN:Hid (∀k,k<14→∀W,Below wc.heap.size wc W→Calls Tryz.prog (37+k) #[.agg #[.string d.start,.string d.layout,.slice a2 d.prods.length p2,.slice a3 d.chains.length p3,.slice a4 d.follows.length p4,.slice a5 d.rejects.length p5,.slice a6 d.boxes.length p6,.map (some M1),.map (some M2)]] W fun e w'=>Tl e (line d k)∧Below W.heap.size W w'):=fun k hk W hb=>lines_any d a2 p2 a3 p3 a4 p4 a5 p5 a6 p6 M1 M2 W (HLK2.out.1.nx hb) HLK2.out.2 k hk
  have HLL:Hid (lines d 14=none∧ce=0∧cn=no∨∃s,lines d 14=some s∧s=(ce,cn)):=by
   have h:=HCE.out
   simp only[chk,if_true] at h
   cases hl:lines d 14 with
   | none=>rw[hl] at h;simp at h;exact .inl ⟨rfl,h.1.symm,h.2.symm⟩
   | some s=>rw[hl] at h;exact .inr ⟨s,rfl,h⟩
  clear hck HLK
  obtain⟨c0,c1,c2,c3,c4,c5,c6,c7,c8⟩:=HXC.out.c9
  obtain⟨wf,hwf⟩:∃q,wc.alloc (.cells #[.func (.func 37) #[.agg #[.string d.start,.string d.layout,.slice a2 d.prods.length p2,.slice a3 d.chains.length p3,.slice a4 d.follows.length p4,.slice a5 d.rejects.length p5,.slice a6 d.boxes.length p6,.map (some M1),.map (some M2)]] #[],.func (.func 38) #[.agg #[.string d.start,.string d.layout,.slice a2 d.prods.length p2,.slice a3 d.chains.length p3,.slice a4 d.follows.length p4,.slice a5 d.rejects.length p5,.slice a6 d.boxes.length p6,.map (some M1),.map (some M2)]] #[],.func (.func 39) #[.agg #[.string d.start,.string d.layout,.slice a2 d.prods.length p2,.slice a3 d.chains.length p3,.slice a4 d.follows.length p4,.slice a5 d.rejects.length p5,.slice a6 d.boxes.length p6,.map (some M1),.map (some M2)]] #[],.func (.func 40) #[.agg #[.string d.start,.string d.layout,.slice a2 d.prods.length p2,.slice a3 d.chains.length p3,.slice a4 d.follows.length p4,.slice a5 d.rejects.length p5,.slice a6 d.boxes.length p6,.map (some M1),.map (some M2)]] #[],.func (.func 41) #[.agg #[.string d.start,.string d.layout,.slice a2 d.prods.length p2,.slice a3 d.chains.length p3,.slice a4 d.follows.length p4,.slice a5 d.rejects.length p5,.slice a6 d.boxes.length p6,.map (some M1),.map (some M2)]] #[],.func (.func 42) #[.agg #[.string d.start,.string d.layout,.slice a2 d.prods.length p2,.slice a3 d.chains.length p3,.slice a4 d.follows.length p4,.slice a5 d.rejects.length p5,.slice a6 d.boxes.length p6,.map (some M1),.map (some M2)]] #[],.func (.func 43) #[.agg #[.string d.start,.string d.layout,.slice a2 d.prods.length p2,.slice a3 d.chains.length p3,.slice a4 d.follows.length p4,.slice a5 d.rejects.length p5,.slice a6 d.boxes.length p6,.map (some M1),.map (some M2)]] #[],.func (.func 44) #[.agg #[.string d.start,.string d.layout,.slice a2 d.prods.length p2,.slice a3 d.chains.length p3,.slice a4 d.follows.length p4,.slice a5 d.rejects.length p5,.slice a6 d.boxes.length p6,.map (some M1),.map (some M2)]] #[],.func (.func 45) #[.agg #[.string d.start,.string d.layout,.slice a2 d.prods.length p2,.slice a3 d.chains.length p3,.slice a4 d.follows.length p4,.slice a5 d.rejects.length p5,.slice a6 d.boxes.length p6,.map (some M1),.map (some M2)]] #[],.func (.func 46) #[.agg #[.string d.start,.string d.layout,.slice a2 d.prods.length p2,.slice a3 d.chains.length p3,.slice a4 d.follows.length p4,.slice a5 d.rejects.length p5,.slice a6 d.boxes.length p6,.map (some M1),.map (some M2)]] #[],.func (.func 47) #[.agg #[.string d.start,.string d.layout,.slice a2 d.prods.length p2,.slice a3 d.chains.length p3,.slice a4 d.follows.length p4,.slice a5 d.rejects.length p5,.slice a6 d.boxes.length p6,.map (some M1),.map (some M2)]] #[],.func (.func 48) #[.agg #[.string d.start,.string d.layout,.slice a2 d.prods.length p2,.slice a3 d.chains.length p3,.slice a4 d.follows.length p4,.slice a5 d.rejects.length p5,.slice a6 d.boxes.length p6,.map (some M1),.map (some M2)]] #[],.func (.func 49) #[.agg #[.string d.start,.string d.layout,.slice a2 d.prods.length p2,.slice a3 d.chains.length p3,.slice a4 d.follows.length p4,.slice a5 d.rejects.length p5,.slice a6 d.boxes.length p6,.map (some M1),.map (some M2)]] #[],.func (.func 50) #[.agg #[.string d.start,.string d.layout,.slice a2 d.prods.length p2,.slice a3 d.chains.length p3,.slice a4 d.follows.length p4,.slice a5 d.rejects.length p5,.slice a6 d.boxes.length p6,.map (some M1),.map (some M2)]] #[]] 76)=q:=⟨_,rfl⟩
  have HXF:=kN hwf
  have HBF:=kB hwf
  have HBCF:=hHi (below_tr HBC.out HBF.out)
  go_wp2
  go_loopw[48] (fun iv W=>∃(k:Nat),k≤14∧iv=.int .i64 k∧lines d k=none∧Below wf.heap.size wf W) (fun iv _=>14-(intOf iv).toNat)
  case atStart=>exact ⟨0,Nat.zero_le _,rfl,rfl,Below.refl _ _⟩
  case round=>
   obtain⟨k,hk,rfl,hn,hB'⟩:=hrel
   have HNO:=hHi hn
   have HB':=hHi hB'
   have HBB:=hHi (below_tr HBCF.out hB')
   clear hn hB' c0 c1 c2 c3 c4 c5 c6 c7 c8
   by_cases hlt:k<14
   case pos=>
    have hen:=lines_enter k hlt
    have hcell:wr.cell? ⟨wc.heap.size,k,none⟩=some (.func (.func (37+k)) #[.agg #[.string d.start,.string d.layout,.slice a2 d.prods.length p2,.slice a3 d.chains.length p3,.slice a4 d.follows.length p4,.slice a5 d.rejects.length p5,.slice a6 d.boxes.length p6,.map (some M1),.map (some M2)]] #[]):=(HXF.out.after HB'.out).cell k (fn_at _ k hlt)
    have HC:=hU (HLN.out k hlt wr (HBF.out.trans (HB'.out.mono HBF.out.size)))
    have hltI:(k:Int)<14:=by omega
    obtain⟨fnn,hfn⟩:∃n,37+k=n:=⟨_,rfl⟩
    rw[hfn] at hen hcell HC
    clear hfn
    go_wp2_with fail
    refine hMo HC ?_
    rintro e w5 ⟨⟨cd,s,rfl,hcs⟩,hb⟩
    have HB5:=hHi (below_tr HB'.out hb)
    have HBB5:=hHi (below_tr HBB.out hb)
    have HCS:=hHi hcs
    clear hb hcs HC hcell
    have HCD:Hid (cd=0∧lines d (k+1)=none∨cd≠0∧lines d 14=some (cd,s)):=by
     cases hl:line d k with
     | none=>
      have h:=HCS.out
      rw[hl] at h
      simp at h
      exact .inl ⟨h.1,lines_next d k HNO.out hl⟩
     | some x=>
      have h:=HCS.out
      rw[hl] at h
      simp at h
      refine .inr ⟨?_,?_⟩
      ·have:=line_code d k x.1 x.2 hl
       rw[←h] at this
       exact this
      ·rw[h]
       exact lines_hit d k x hlt HNO.out hl
    rcases HCD.out with ⟨h0,hnx⟩|⟨h0,hhit⟩
    ·have HNX:=hHi hnx
     clear hnx
     subst h0
     go_wp2
     go_roundw
     case rel=>exact ⟨k+1,by omega,by go_num,HNX.out,HB5.out⟩
     case measure=>simp[intOf];omega
    ·have HEQ:Hid (cd=ce∧s=cn):=by
      rcases HLL.out with ⟨h,_⟩|⟨x,h,hx⟩
      ·rw[hhit] at h
       cases h
      ·rw[hhit] at h
       have h2:=(Option.some.inj h).trans hx
       simp at h2
       exact h2
     have hcb:(cd != 0)=true:=by simp[h0]
     clear hhit h0
     go_wp2
     go_ret2
     exact ⟨by rw[←HEQ.out.1,←HEQ.out.2];rfl,HBB5.out⟩
   obtain rfl:k=14:=by omega
   have HEQ:Hid (ce=0∧cn=no):=by
    rcases HLL.out with ⟨_,h1,h2⟩|⟨x,h,_⟩
    ·exact ⟨h1,h2⟩
    ·rw[HNO.out] at h
     cases h
   go_wp2
   go_ret2
   exact ⟨by rw[HEQ.out.1,HEQ.out.2];rfl,HBB.out⟩
end Go.Proofs.YtilpgpcgcpedjaaGreat
