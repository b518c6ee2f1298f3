/- The document's own lines of a definition. -/
import Derived.Test.YtcpakcffiopfjaaGreatDoorJ8
import Derived.Test.YtcpakcffiopfjaaGreatDoorH3
namespace Go.Proofs.YtcpakcffiopfjaaGreatDoor
open Go.RowKit
set_option linter.unusedVariables false
set_option linter.unusedSimpArgs false
set_option maxRecDepth 100000
set_option maxHeartbeats 16000000
set_option linter.unusedVariables false
set_option linter.unusedSimpArgs false
set_option maxRecDepth 100000
set_option maxHeartbeats 40000000
noncomputable def rfolT (f:Fo):List UInt8:=(([102,111,108,108,111,119,32]++f.sort.data.toList)++[32])++printL f.set
def rrejT (r:Re):List UInt8:=(([114,101,106,101,99,116,32]++r.sort.data.toList)++[32])++r.by'.data.toList
noncomputable def rboxT (b:Bo):List UInt8:=(([98,111,120,32]++b.cons.data.toList)++[32,61])++ritsT b.items
def rstaT (k:List UInt8) (s:ByteArray):List (List UInt8):=if em s then [] else [k++s.data.toList]
noncomputable def rlinesT (d:Df):List (List UInt8):=(((((rstaT [115,116,97,114,116,32] d.start++rstaT [108,97,121,111,117,116,32] d.layout)++d.prods.map rprodT)++d.chains.map rchainT)++d.follows.map rfolT)++d.rejects.map rrejT)++d.boxes.map rboxT
def lcells (l:List (List UInt8)):List Value:=l.map fun s=>.string (strB s)
theorem lcells_snoc (l:List (List UInt8)) (x:List UInt8):lcells (l++[x])=lcells l++[.string (strB x)]:=by simp[lcells]
/- The box of the definition, and the list of texts told so far. -/
structure LnS (w W:World) (us:Array Value) (l:List (List UInt8)) (v:Value):Prop where
 bel:Below w.heap.size w W
 sz:w.heap.size+1≤W.heap.size
 a:Blk W w.heap.size 28 us
 row:W.ownsRow (w.heap.size+1) 9 1 v l.length (lcells l)
theorem LnS.nx {w W W':World} {us:Array Value} {l:List (List UInt8)} {v:Value} (hb:Below W.heap.size W W') (h:LnS w W us l v):LnS w W' us l v:=⟨below_tr h.bel hb,Nat.le_trans h.sz hb.size,h.a.after hb,own_after h.row hb⟩
theorem LnS.grow {w W W':World} {us:Array Value} {l:List (List UInt8)} {v u:Value} {z:List UInt8} {o:Obj} (h:LnS w W us l v) (hg:(W.alloc o).grownBy W' v.ownBlock) (hr:W'.ownsRow (w.heap.size+1) 9 1 u (l.length+1) (lcells l++[.string (strB z)])):LnS w W' us (l++[z]) u:=
 ⟨h.bel.trans ((below_al _ h.bel.size).trans (below_grO hg (fun b hb=>by have:=(h.row.lt b hb).1;omega) (by have:=h.bel.size;simp;omega))),Nat.le_trans h.sz (Nat.le_trans (by simp) hg.size),(h.a.alloc _).kept hg (fun e=>by have:=(h.row.lt _ e.symm).1;omega),by rw[lcells_snoc,List.length_append];exact hr⟩
theorem map_step {α:Type} {P L:List (List UInt8)} {xs:List α} {f:α→List UInt8} {k:Nat} {x:α} (h:L=P++(xs.take k).map f) (hx:xs[k]?=some x):L++[f x]=P++(xs.take (k+1)).map f:=by
 have e:=List.getElem?_eq_some_iff.1 hx
 rw[h,List.take_succ_eq_append_getElem e.1,e.2,List.map_append,List.append_assoc]
 rfl
theorem rlines_any (d:Df) (vs:List Value) (w:World) (hda:DA w d vs) (hd:RightD d) (hf:Few d):Calls Tryz.prog 27 #[.agg ⟨vs⟩] w fun e w'=>∃va vc,e=.returned (.slice va (rlinesT d).length vc)∧w'.ownsRow (w.heap.size+1) 9 1 (.slice va (rlinesT d).length vc) (rlinesT d).length (lcells (rlinesT d))∧Below w.heap.size w w':=by
 obtain⟨f2,v2,v3,v4,v5,v6,rfl,h2,h3,h4,h5,h6⟩:=hda.at'
 obtain⟨a2,p2,rfl,_,hl2,hr2⟩:=h2
 obtain⟨a3,p3,rfl,_,hl3,hr3⟩:=h3
 obtain⟨a4,p4,rfl,_,hl4,hr4⟩:=h4
 obtain⟨a5,p5,rfl,_,hl5,hr5⟩:=h5
 obtain⟨a6,p6,rfl,_,hl6,hr6⟩:=h6
 obtain⟨N2,hN2⟩:∃N,d.prods.length=N:=⟨_,rfl⟩
 obtain⟨N3,hN3⟩:∃N,d.chains.length=N:=⟨_,rfl⟩
 obtain⟨N4,hN4⟩:∃N,d.follows.length=N:=⟨_,rfl⟩
 obtain⟨N5,hN5⟩:∃N,d.rejects.length=N:=⟨_,rfl⟩
 obtain⟨N6,hN6⟩:∃N,d.boxes.length=N:=⟨_,rfl⟩
 have HR2:=hHi hr2
 have HR3:=hHi hr3
 have HR4:=hHi hr4
 have HR5:=hHi hr5
 have HR6:=hHi hr6
 have HN2:=hHi hN2
 have HN3:=hHi hN3
 have HN4:=hHi hN4
 have HN5:=hHi hN5
 have HN6:=hHi hN6
 have HD:=hHi hd
 have HBN:Hid (N2≤200∧N3≤100000∧N4≤100000∧N5≤100000∧N6≤100000):=⟨by rw[←hN2];exact hd.n,by rw[←hN3];exact hf.c,by rw[←hN4];exact hf.f,by rw[←hN5];exact hf.r,by rw[←hN6];exact hf.b⟩
 have HLT:Hid (rlinesT d=(((((rstaT [115,116,97,114,116,32] d.start++rstaT [108,97,121,111,117,116,32] d.layout)++d.prods.map rprodT)++d.chains.map rchainT)++d.follows.map rfolT)++d.rejects.map rrejT)++d.boxes.map rboxT):=rfl
 have ns:=nmN_size hd.s
 have nl:=nmN_size hd.l
 rw[hN2] at hl2 ⊢
 rw[hN3] at hl3 ⊢
 rw[hN4] at hl4 ⊢
 rw[hN5] at hl5 ⊢
 rw[hN6] at hl6 ⊢
 clear hr2 hr3 hr4 hr5 hr6 hN2 hN3 hN4 hN5 hN6 hd hda hf
 generalize rlinesT d=RT at *
 obtain⟨i0,hi,hz0,hz1,hz2⟩:=info_parts info9
 obtain⟨ss,hss⟩:∃q,d.start=q:=⟨_,rfl⟩
 obtain⟨sl,hsl⟩:∃q,d.layout=q:=⟨_,rfl⟩
 rw[hss] at ns HLT ⊢
 rw[hsl] at nl HLT ⊢
 clear hss hsl
 obtain⟨us,hus⟩:∃q,(#[.string ss,.string sl,.slice a2 N2 p2,.slice a3 N3 p3,.slice a4 N4 p4,.slice a5 N5 p5,.slice a6 N6 p6]:Array Value)=q:=⟨_,rfl⟩
 have HUS:=hHi hus
 obtain⟨w1,hw1⟩:∃qW,w.alloc (.cells us 28)=qW:=⟨_,rfl⟩
 have H1:Hid (LnS w w1 us [] (.slice none 0 0)):=⟨by rw[←hw1];exact below_al _ (Nat.le_refl _),by rw[←hw1];simp,by rw[←hw1];exact Blk.new _ _ _,World.ownsRow_nil _ _ _ _⟩
 show Calls Tryz.prog 27 #[.agg #[.string ss,.string sl,.slice a2 N2 p2,.slice a3 N3 p3,.slice a4 N4 p4,.slice a5 N5 p5,.slice a6 N6 p6]] w _
 subst hus
 obtain⟨c0,c1,c2,c3,c4,c5,c6⟩:=H1.out.a.c7
 have zs:ss.data.toList.length≤32:=by rw[list_len];omega
 have zl:sl.data.toList.length≤32:=by rw[list_len];omega
 clear ns nl
 have hzs:=em_two' ss
 have hzl:=em_two' sl
 rcases hzs with ⟨e0,e0'⟩ | ⟨e0,e0'⟩ <;> rcases hzl with ⟨f0,f0'⟩ | ⟨f0,f0'⟩
 focus
  have HS1:Hid (rstaT [115,116,97,114,116,32] ss=[]):=by show _=_;unfold rstaT;rw[if_pos e0]
  clear zs e0
  have HS2:Hid (rstaT [108,97,121,111,117,116,32] sl=[]):=by show _=_;unfold rstaT;rw[if_pos f0]
  clear zl f0
  go_enter Tryz.func27,Tryz.ntmps27
  go_wp2
  obtain⟨wa,hwa⟩:∃q,q=w1:=⟨_,rfl⟩
  subst hwa
  obtain⟨P0,hP0⟩:∃q,rstaT [115,116,97,114,116,32] ss++rstaT [108,97,121,111,117,116,32] sl=q:=⟨_,rfl⟩
  have HP0:Hid (P0=[]):=by show _=_;rw[←hP0,HS1.out,HS2.out];rfl
  rw[hP0] at HLT
  have HLa:Hid (∃va vc,(Value.slice none 0 0)=.slice va P0.length vc∧P0.length≤2∧LnS w wa _ P0 (.slice va P0.length vc)):=⟨none,0,by rw[HP0.out];rfl,by rw[HP0.out];simp,by rw[HP0.out];exact H1.out⟩
  clear HP0 hP0 HS1 HS2 c0 c1 c2 c3 c4 c5 c6 H1 HUS hw1
  obtain⟨us,hus⟩:∃q,(#[.string ss,.string sl,.slice a2 N2 p2,.slice a3 N3 p3,.slice a4 N4 p4,.slice a5 N5 p5,.slice a6 N6 p6]:Array Value)=q:=⟨_,rfl⟩
  have HCU:Hid (∀{l v W},LnS w W us l v→W.cell? ⟨w.heap.size,2,none⟩=some (.slice a2 N2 p2)∧W.cell? ⟨w.heap.size,3,none⟩=some (.slice a3 N3 p3)∧W.cell? ⟨w.heap.size,4,none⟩=some (.slice a4 N4 p4)∧W.cell? ⟨w.heap.size,5,none⟩=some (.slice a5 N5 p5)∧W.cell? ⟨w.heap.size,6,none⟩=some (.slice a6 N6 p6)):=fun {l v W} h=>by
   have h:=h.a
   rw[←hus] at h
   exact⟨h.cell 2 rfl,h.cell 3 rfl,h.cell 4 rfl,h.cell 5 rfl,h.cell 6 rfl⟩
  rw[hus] at HLa
  clear hus
 rotate_left
 focus
  have HS1:Hid (rstaT [115,116,97,114,116,32] ss=[]):=by show _=_;unfold rstaT;rw[if_pos e0]
  clear zs e0
  obtain⟨lo,hlo⟩:∃q,sl.data.toList=q:=⟨_,rfl⟩
  have zz:sl=strB lo:=by rw[←hlo,strB_self]
  obtain⟨A2,hA2⟩:∃q,[108,97,121,111,117,116,32]++lo=q:=⟨_,rfl⟩
  have ct2:∀W,(Op.stringOp .add ⟨#[108,97,121,111,117,116,32]⟩ (strB lo)).run Tryz.prog W=.ok (.string (strB A2)) W:=fun W=>str_add (a:=[108,97,121,111,117,116,32]) (by rw[←hlo];simp at *;omega) hA2 W
  have HS2:Hid (rstaT [108,97,121,111,117,116,32] sl=[A2]):=by show _=_;unfold rstaT;rw[if_neg (by rw[f0];decide),hlo,hA2]
  clear zl hA2 hlo f0
  subst zz
  go_enter Tryz.func27,Tryz.ntmps27
  go_wp2_with (at_builtin;refine wpList_append_lies _ rfl _ _ 59 rfl (w.heap.size+1) 9 i0 _ 1 16 Tryz.underlying59 hi hz0 hz1 hz2 rfl (by decide) (.slice none 0 0) 0 (lcells []) rfl ((H1.out.row).alloc _) ⟨w1.heap.size,0,none⟩ 1 1 [.string (strB A2)] rfl rfl (new_cells w1 9 [.string (strB A2)]) (by intro u hu;simp at hu;rw[hu];rfl) (by decide) (by unfold maxLen;omega) (by omega) (by have:=H1.out.sz;simp;omega) (w1.heap.size+1) (by simp) ?_)
  intro g2 cap2 w2 hown hgrow hat hlt2
  have H2:=hHi (H1.out.grow (z:=A2) hgrow hown)
  clear hown hgrow hat hlt2
  clear c0 c1 c2 c3 c4 c5 c6
  obtain⟨c0,c1,c2,c3,c4,c5,c6⟩:=H2.out.a.c7
  go_wp2
  obtain⟨wa,hwa⟩:∃q,q=w2:=⟨_,rfl⟩
  subst hwa
  obtain⟨P0,hP0⟩:∃q,rstaT [115,116,97,114,116,32] ss++rstaT [108,97,121,111,117,116,32] (strB lo)=q:=⟨_,rfl⟩
  have HP0:Hid (P0=[A2]):=by show _=_;rw[←hP0,HS1.out,HS2.out];rfl
  rw[hP0] at HLT
  have HLa:Hid (∃va vc,(Value.slice (some ⟨g2,0,none⟩) 1 cap2)=.slice va P0.length vc∧P0.length≤2∧LnS w wa _ P0 (.slice va P0.length vc)):=⟨(some ⟨g2,0,none⟩),cap2,by rw[HP0.out];rfl,by rw[HP0.out];simp,by rw[HP0.out];exact H2.out⟩
  clear HP0 hP0 HS1 HS2 c0 c1 c2 c3 c4 c5 c6 H1 H2 HUS hw1
  obtain⟨us,hus⟩:∃q,(#[.string ss,.string (strB lo),.slice a2 N2 p2,.slice a3 N3 p3,.slice a4 N4 p4,.slice a5 N5 p5,.slice a6 N6 p6]:Array Value)=q:=⟨_,rfl⟩
  have HCU:Hid (∀{l v W},LnS w W us l v→W.cell? ⟨w.heap.size,2,none⟩=some (.slice a2 N2 p2)∧W.cell? ⟨w.heap.size,3,none⟩=some (.slice a3 N3 p3)∧W.cell? ⟨w.heap.size,4,none⟩=some (.slice a4 N4 p4)∧W.cell? ⟨w.heap.size,5,none⟩=some (.slice a5 N5 p5)∧W.cell? ⟨w.heap.size,6,none⟩=some (.slice a6 N6 p6)):=fun {l v W} h=>by
   have h:=h.a
   rw[←hus] at h
   exact⟨h.cell 2 rfl,h.cell 3 rfl,h.cell 4 rfl,h.cell 5 rfl,h.cell 6 rfl⟩
  rw[hus] at HLa
  clear hus
 rotate_left
 focus
  obtain⟨so,hso⟩:∃q,ss.data.toList=q:=⟨_,rfl⟩
  have zz:ss=strB so:=by rw[←hso,strB_self]
  obtain⟨A1,hA1⟩:∃q,[115,116,97,114,116,32]++so=q:=⟨_,rfl⟩
  have ct1:∀W,(Op.stringOp .add ⟨#[115,116,97,114,116,32]⟩ (strB so)).run Tryz.prog W=.ok (.string (strB A1)) W:=fun W=>str_add (a:=[115,116,97,114,116,32]) (by rw[←hso];simp at *;omega) hA1 W
  have HS1:Hid (rstaT [115,116,97,114,116,32] ss=[A1]):=by show _=_;unfold rstaT;rw[if_neg (by rw[e0];decide),hso,hA1]
  clear zs hA1 hso e0
  subst zz
  have HS2:Hid (rstaT [108,97,121,111,117,116,32] sl=[]):=by show _=_;unfold rstaT;rw[if_pos f0]
  clear zl f0
  go_enter Tryz.func27,Tryz.ntmps27
  go_wp2_with (at_builtin;refine wpList_append_lies _ rfl _ _ 59 rfl (w.heap.size+1) 9 i0 _ 1 16 Tryz.underlying59 hi hz0 hz1 hz2 rfl (by decide) (.slice none 0 0) 0 (lcells []) rfl ((H1.out.row).alloc _) ⟨w1.heap.size,0,none⟩ 1 1 [.string (strB A1)] rfl rfl (new_cells w1 9 [.string (strB A1)]) (by intro u hu;simp at hu;rw[hu];rfl) (by decide) (by unfold maxLen;omega) (by omega) (by have:=H1.out.sz;simp;omega) (w1.heap.size+1) (by simp) ?_)
  intro g2 cap2 w2 hown hgrow hat hlt2
  have H2:=hHi (H1.out.grow (z:=A1) hgrow hown)
  clear hown hgrow hat hlt2
  clear c0 c1 c2 c3 c4 c5 c6
  obtain⟨c0,c1,c2,c3,c4,c5,c6⟩:=H2.out.a.c7
  go_wp2
  obtain⟨wa,hwa⟩:∃q,q=w2:=⟨_,rfl⟩
  subst hwa
  obtain⟨P0,hP0⟩:∃q,rstaT [115,116,97,114,116,32] (strB so)++rstaT [108,97,121,111,117,116,32] sl=q:=⟨_,rfl⟩
  have HP0:Hid (P0=[A1]):=by show _=_;rw[←hP0,HS1.out,HS2.out];rfl
  rw[hP0] at HLT
  have HLa:Hid (∃va vc,(Value.slice (some ⟨g2,0,none⟩) 1 cap2)=.slice va P0.length vc∧P0.length≤2∧LnS w wa _ P0 (.slice va P0.length vc)):=⟨(some ⟨g2,0,none⟩),cap2,by rw[HP0.out];rfl,by rw[HP0.out];simp,by rw[HP0.out];exact H2.out⟩
  clear HP0 hP0 HS1 HS2 c0 c1 c2 c3 c4 c5 c6 H1 H2 HUS hw1
  obtain⟨us,hus⟩:∃q,(#[.string (strB so),.string sl,.slice a2 N2 p2,.slice a3 N3 p3,.slice a4 N4 p4,.slice a5 N5 p5,.slice a6 N6 p6]:Array Value)=q:=⟨_,rfl⟩
  have HCU:Hid (∀{l v W},LnS w W us l v→W.cell? ⟨w.heap.size,2,none⟩=some (.slice a2 N2 p2)∧W.cell? ⟨w.heap.size,3,none⟩=some (.slice a3 N3 p3)∧W.cell? ⟨w.heap.size,4,none⟩=some (.slice a4 N4 p4)∧W.cell? ⟨w.heap.size,5,none⟩=some (.slice a5 N5 p5)∧W.cell? ⟨w.heap.size,6,none⟩=some (.slice a6 N6 p6)):=fun {l v W} h=>by
   have h:=h.a
   rw[←hus] at h
   exact⟨h.cell 2 rfl,h.cell 3 rfl,h.cell 4 rfl,h.cell 5 rfl,h.cell 6 rfl⟩
  rw[hus] at HLa
  clear hus
 rotate_left
 focus
  obtain⟨so,hso⟩:∃q,ss.data.toList=q:=⟨_,rfl⟩
  have zz:ss=strB so:=by rw[←hso,strB_self]
  obtain⟨A1,hA1⟩:∃q,[115,116,97,114,116,32]++so=q:=⟨_,rfl⟩
  have ct1:∀W,(Op.stringOp .add ⟨#[115,116,97,114,116,32]⟩ (strB so)).run Tryz.prog W=.ok (.string (strB A1)) W:=fun W=>str_add (a:=[115,116,97,114,116,32]) (by rw[←hso];simp at *;omega) hA1 W
  have HS1:Hid (rstaT [115,116,97,114,116,32] ss=[A1]):=by show _=_;unfold rstaT;rw[if_neg (by rw[e0];decide),hso,hA1]
  clear zs hA1 hso e0
  subst zz
  obtain⟨lo,hlo⟩:∃q,sl.data.toList=q:=⟨_,rfl⟩
  have zz:sl=strB lo:=by rw[←hlo,strB_self]
  obtain⟨A2,hA2⟩:∃q,[108,97,121,111,117,116,32]++lo=q:=⟨_,rfl⟩
  have ct2:∀W,(Op.stringOp .add ⟨#[108,97,121,111,117,116,32]⟩ (strB lo)).run Tryz.prog W=.ok (.string (strB A2)) W:=fun W=>str_add (a:=[108,97,121,111,117,116,32]) (by rw[←hlo];simp at *;omega) hA2 W
  have HS2:Hid (rstaT [108,97,121,111,117,116,32] sl=[A2]):=by show _=_;unfold rstaT;rw[if_neg (by rw[f0];decide),hlo,hA2]
  clear zl hA2 hlo f0
  subst zz
  go_enter Tryz.func27,Tryz.ntmps27
  go_wp2_with (at_builtin;refine wpList_append_lies _ rfl _ _ 59 rfl (w.heap.size+1) 9 i0 _ 1 16 Tryz.underlying59 hi hz0 hz1 hz2 rfl (by decide) (.slice none 0 0) 0 (lcells []) rfl ((H1.out.row).alloc _) ⟨w1.heap.size,0,none⟩ 1 1 [.string (strB A1)] rfl rfl (new_cells w1 9 [.string (strB A1)]) (by intro u hu;simp at hu;rw[hu];rfl) (by decide) (by unfold maxLen;omega) (by omega) (by have:=H1.out.sz;simp;omega) (w1.heap.size+1) (by simp) ?_)
  intro g2 cap2 w2 hown hgrow hat hlt2
  have H2:=hHi (H1.out.grow (z:=A1) hgrow hown)
  clear hown hgrow hat hlt2
  clear c0 c1 c2 c3 c4 c5 c6
  obtain⟨c0,c1,c2,c3,c4,c5,c6⟩:=H2.out.a.c7
  go_wp2_with (at_builtin;refine wpList_append_lies _ rfl _ _ 59 rfl (w.heap.size+1) 9 i0 _ 1 16 Tryz.underlying59 hi hz0 hz1 hz2 rfl (by decide) (.slice (some ⟨g2,0,none⟩) 1 cap2) 1 (lcells ([]++[A1])) rfl ((H2.out.row).alloc _) ⟨w2.heap.size,0,none⟩ 1 1 [.string (strB A2)] rfl rfl (new_cells w2 9 [.string (strB A2)]) (by intro u hu;simp at hu;rw[hu];rfl) (by decide) (by unfold maxLen;omega) (by omega) (by have:=H2.out.sz;simp;omega) (w2.heap.size+1) (by simp) ?_)
  intro g3 cap3 w3 hown hgrow hat hlt3
  have H3:=hHi (H2.out.grow (z:=A2) hgrow hown)
  clear hown hgrow hat hlt3
  clear c0 c1 c2 c3 c4 c5 c6
  obtain⟨c0,c1,c2,c3,c4,c5,c6⟩:=H3.out.a.c7
  go_wp2
  obtain⟨wa,hwa⟩:∃q,q=w3:=⟨_,rfl⟩
  subst hwa
  obtain⟨P0,hP0⟩:∃q,rstaT [115,116,97,114,116,32] (strB so)++rstaT [108,97,121,111,117,116,32] (strB lo)=q:=⟨_,rfl⟩
  have HP0:Hid (P0=[A1,A2]):=by show _=_;rw[←hP0,HS1.out,HS2.out];rfl
  rw[hP0] at HLT
  have HLa:Hid (∃va vc,(Value.slice (some ⟨g3,0,none⟩) 2 cap3)=.slice va P0.length vc∧P0.length≤2∧LnS w wa _ P0 (.slice va P0.length vc)):=⟨(some ⟨g3,0,none⟩),cap3,by rw[HP0.out];rfl,by rw[HP0.out];simp,by rw[HP0.out];exact H3.out⟩
  clear HP0 hP0 HS1 HS2 c0 c1 c2 c3 c4 c5 c6 H1 H2 H3 HUS hw1
  obtain⟨us,hus⟩:∃q,(#[.string (strB so),.string (strB lo),.slice a2 N2 p2,.slice a3 N3 p3,.slice a4 N4 p4,.slice a5 N5 p5,.slice a6 N6 p6]:Array Value)=q:=⟨_,rfl⟩
  have HCU:Hid (∀{l v W},LnS w W us l v→W.cell? ⟨w.heap.size,2,none⟩=some (.slice a2 N2 p2)∧W.cell? ⟨w.heap.size,3,none⟩=some (.slice a3 N3 p3)∧W.cell? ⟨w.heap.size,4,none⟩=some (.slice a4 N4 p4)∧W.cell? ⟨w.heap.size,5,none⟩=some (.slice a5 N5 p5)∧W.cell? ⟨w.heap.size,6,none⟩=some (.slice a6 N6 p6)):=fun {l v W} h=>by
   have h:=h.a
   rw[←hus] at h
   exact⟨h.cell 2 rfl,h.cell 3 rfl,h.cell 4 rfl,h.cell 5 rfl,h.cell 6 rfl⟩
  rw[hus] at HLa
  clear hus
 rotate_left
 all_goals
  obtain⟨va0,vc0,hv0,hn0,hx0⟩:=HLa.out
  obtain⟨s2,s3,s4,s5,s6⟩:=HCU.out hx0
  clear HLa
  go_loopw[3,4] (fun lv iv W=>∃(k:Nat) (va:Option Addr) (vc:Nat) (L:List (List UInt8)),k≤N2∧iv=.int .i64 k∧lv=.slice va L.length vc∧L=P0++(d.prods.take k).map rprodT∧L.length≤2+k∧LnS w W us L (.slice va L.length vc)) (fun _ iv _=>N2-(intOf iv).toNat)
  case atStart=>exact⟨0,va0,vc0,P0,Nat.zero_le _,rfl,hv0,by simp,hn0,hx0⟩
  case round=>
   clear hv0 hn0 hx0
   obtain⟨k,va,vc,L,hk,rfl,rfl,hL,hn,hx⟩:=hrel
   have HL:=hHi hL
   have HX:=hHi hx
   have HNL:Hid ((L.length+1)*16≤140737488355328):=by have:=HBN.out;show _≤_;omega
   have HNK:=hHi hn
   obtain⟨s2,s3,s4,s5,s6⟩:=HCU.out hx
   clear hL hx hn
   by_cases hlt:k<N2
   case pos=>
    obtain⟨x,hxx⟩:∃x,d.prods[k]?=some x:=⟨d.prods[k]'(by rw[HN2.out];exact hlt),by simp⟩
    obtain⟨b,o,us4,hb2,hlb,hu4,hcl⟩:=HR2.out k x hxx
    obtain⟨u,rfl,ua,uc,rfl,hpc,hlu,hru⟩:=hu4
    subst hb2
    have HTX:Hid (∀W,Below w.heap.size w W→Calls Tryz.prog 73 #[.agg #[.bool x.lex,.string x.sort,.string x.cons,.bool x.bracket,.slice ua x.syms.length uc]] W fun e w'=>e=.returned (.string (strB (rprodT x)))∧Below W.heap.size W w'):=fun W hb=>rprod_text x _ (HD.out.p x (List.mem_of_getElem? hxx)) W (Sl.keep ⟨ua,uc,rfl,hpc,hlu,hru⟩ hb hb.size (fun _ _ _ h=>h))
    have hq_:=hcb HX.out.bel hlb hcl
    have q0:=hq_ 0 _ rfl
    have q1:=hq_ 1 _ rfl
    have q2:=hq_ 2 _ rfl
    have q3:=hq_ 3 _ rfl
    have q4:=hq_ 4 _ rfl
    rw[Nat.add_zero] at q0
    have hltI:(k:Int)<N2:=by omega
    have HMS:=hHi (map_step (f:=rprodT) HL.out hxx)
    clear hxx hcl hq_ hpc hlu hru 
    obtain⟨z,hz⟩:∃q,rprodT x=q:=⟨_,rfl⟩
    rw[hz] at HTX HMS
    clear hz
    go_wp2_with fail
    refine (HTX.out wr HX.out.bel).mono ?_
    rintro e w3 ⟨rfl,hb⟩
    have HX3:=hHi (HX.out.nx hb)
    have hnl:=HNL.out
    clear hb
    go_wp2_with (at_builtin;refine wpList_append_lies _ rfl _ _ 59 rfl (w.heap.size+1) 9 i0 _ 1 16 Tryz.underlying59 hi hz0 hz1 hz2 rfl (by decide) (.slice va L.length vc) L.length (lcells L) rfl ((HX3.out.row).alloc _) ⟨w3.heap.size,0,none⟩ 1 1 [.string (strB z)] rfl rfl (new_cells w3 9 [.string (strB z)]) (by intro u hu;simp at hu;rw[hu];rfl) (by decide) (by unfold maxLen;omega) (by omega) (by have:=HX3.out.sz;simp;omega) (w3.heap.size+1) (by simp) ?_)
    intro g7 cap7 w7 hown hgrow hat hlt7
    have H7:=hHi (HX3.out.grow (z:=z) hgrow hown)
    clear hown hgrow hat hlt7
    go_wp2
    go_roundw
    case rel=>exact⟨k+1,some ⟨g7,0,none⟩,cap7,L++[z],by omega,by go_num,by rw[List.length_append];rfl,HMS.out,by have:=HNK.out;rw[List.length_append];simp;omega,by rw[List.length_append];exact H7.out⟩
    case measure=>simp[intOf];omega
   obtain rfl:N2=k:=by omega
   obtain⟨P1,hP⟩:∃q,P0++d.prods.map rprodT=q:=⟨_,rfl⟩
   have HLE:Hid (L=P1):=by show _=_;rw[←hP,HL.out,List.take_of_length_le (by rw[HN2.out];exact Nat.le_refl _)]
   rw[hP] at HLT
   have hle:=HLE.out
   subst hle
   obtain⟨P1,hPP⟩:∃q,q=L:=⟨_,rfl⟩
   subst hPP
   obtain⟨va1,hPP⟩:∃q,q=va:=⟨_,rfl⟩
   subst hPP
   obtain⟨vc1,hPP⟩:∃q,q=vc:=⟨_,rfl⟩
   subst hPP
   have hn1:P1.length≤202:=by have h1:=HNK.out;have h2:=HBN.out;omega
   have hx1:=HX.out
   have e1:=HBN.out
   clear hP HLE HL HX HNL HNK
   go_wp2
   go_loopw[3,5] (fun lv iv W=>∃(k:Nat) (va:Option Addr) (vc:Nat) (L:List (List UInt8)),k≤N3∧iv=.int .i64 k∧lv=.slice va L.length vc∧L=P1++(d.chains.take k).map rchainT∧L.length≤202+k∧LnS w W us L (.slice va L.length vc)) (fun _ iv _=>N3-(intOf iv).toNat)
   case atStart=>exact⟨0,va1,vc1,P1,Nat.zero_le _,rfl,rfl,by simp,hn1,hx1⟩
   case round=>
    clear hn1 hx1
    obtain⟨k,va,vc,L,hk,rfl,rfl,hL,hn,hx⟩:=hrel
    have HL:=hHi hL
    have HX:=hHi hx
    have HNL:Hid ((L.length+1)*16≤140737488355328):=by have:=HBN.out;show _≤_;omega
    have HNK:=hHi hn
    obtain⟨s2,s3,s4,s5,s6⟩:=HCU.out hx
    clear hL hx hn
    by_cases hlt:k<N3
    case pos=>
     obtain⟨x,hxx⟩:∃x,d.chains[k]?=some x:=⟨d.chains[k]'(by rw[HN3.out];exact hlt),by simp⟩
     obtain⟨b,o,us4,hb2,hlb,hu4,hcl⟩:=HR3.out k x hxx
     obtain⟨u,rfl,ua,uc,rfl,hpc,hlu,hru⟩:=hu4
     subst hb2
     have HTX:Hid (∀W,Below w.heap.size w W→Calls Tryz.prog 74 #[.slice ua x.length uc] W fun e w'=>e=.returned (.string (strB (rchainT x)))∧w'=W):=fun W hb=>rchain_text x _ W (HD.out.c x (List.mem_of_getElem? hxx)) (Sl.keep ⟨ua,uc,rfl,hpc,hlu,hru⟩ hb hb.size (fun _ _ _ h=>h.keep hb hb.size))
     have hq_:=hcb HX.out.bel hlb hcl
     have q0:=hq_ 0 _ rfl
     rw[Nat.mul_one,Nat.add_zero] at q0
     have hltI:(k:Int)<N3:=by omega
     have HMS:=hHi (map_step (f:=rchainT) HL.out hxx)
     clear hxx hcl hq_ hpc hlu hru 
     obtain⟨z,hz⟩:∃q,rchainT x=q:=⟨_,rfl⟩
     rw[hz] at HTX HMS
     clear hz
     go_wp2_with fail
     refine (HTX.out wr HX.out.bel).mono ?_
     rintro e w3 ⟨rfl,rfl⟩
     have HX3:=HX
     have hnl:=HNL.out
     go_wp2_with (at_builtin;refine wpList_append_lies _ rfl _ _ 59 rfl (w.heap.size+1) 9 i0 _ 1 16 Tryz.underlying59 hi hz0 hz1 hz2 rfl (by decide) (.slice va L.length vc) L.length (lcells L) rfl ((HX3.out.row).alloc _) ⟨w3.heap.size,0,none⟩ 1 1 [.string (strB z)] rfl rfl (new_cells w3 9 [.string (strB z)]) (by intro u hu;simp at hu;rw[hu];rfl) (by decide) (by unfold maxLen;omega) (by omega) (by have:=HX3.out.sz;simp;omega) (w3.heap.size+1) (by simp) ?_)
     intro g7 cap7 w7 hown hgrow hat hlt7
     have H7:=hHi (HX3.out.grow (z:=z) hgrow hown)
     clear hown hgrow hat hlt7
     go_wp2
     go_roundw
     case rel=>exact⟨k+1,some ⟨g7,0,none⟩,cap7,L++[z],by omega,by go_num,by rw[List.length_append];rfl,HMS.out,by have:=HNK.out;rw[List.length_append];simp;omega,by rw[List.length_append];exact H7.out⟩
     case measure=>simp[intOf];omega
    obtain rfl:N3=k:=by omega
    obtain⟨P2,hP⟩:∃q,P1++d.chains.map rchainT=q:=⟨_,rfl⟩
    have HLE:Hid (L=P2):=by show _=_;rw[←hP,HL.out,List.take_of_length_le (by rw[HN3.out];exact Nat.le_refl _)]
    rw[hP] at HLT
    have hle:=HLE.out
    subst hle
    obtain⟨P2,hPP⟩:∃q,q=L:=⟨_,rfl⟩
    subst hPP
    obtain⟨va2,hPP⟩:∃q,q=va:=⟨_,rfl⟩
    subst hPP
    obtain⟨vc2,hPP⟩:∃q,q=vc:=⟨_,rfl⟩
    subst hPP
    have hn2:P2.length≤100202:=by have h1:=HNK.out;have h2:=HBN.out;omega
    have hx2:=HX.out
    have e2:=HBN.out
    clear hP HLE HL HX HNL HNK
    go_wp2
    go_loopw[3,6] (fun lv iv W=>∃(k:Nat) (va:Option Addr) (vc:Nat) (L:List (List UInt8)),k≤N4∧iv=.int .i64 k∧lv=.slice va L.length vc∧L=P2++(d.follows.take k).map rfolT∧L.length≤100202+k∧LnS w W us L (.slice va L.length vc)) (fun _ iv _=>N4-(intOf iv).toNat)
    case atStart=>exact⟨0,va2,vc2,P2,Nat.zero_le _,rfl,rfl,by simp,hn2,hx2⟩
    case round=>
     clear hn2 hx2
     obtain⟨k,va,vc,L,hk,rfl,rfl,hL,hn,hx⟩:=hrel
     have HL:=hHi hL
     have HX:=hHi hx
     have HNL:Hid ((L.length+1)*16≤140737488355328):=by have:=HBN.out;show _≤_;omega
     have HNK:=hHi hn
     obtain⟨s2,s3,s4,s5,s6⟩:=HCU.out hx
     clear hL hx hn
     by_cases hlt:k<N4
     case pos=>
      obtain⟨x,hxx⟩:∃x,d.follows[k]?=some x:=⟨d.follows[k]'(by rw[HN4.out];exact hlt),by simp⟩
      obtain⟨b,o,us4,hb2,hlb,hu4,hcl⟩:=HR4.out k x hxx
      obtain⟨hok,rfl⟩:=hu4
      subst hb2
      have hq_:=hcb HX.out.bel hlb hcl
      have HSW:Hid (∀{l v W},LnS w W us l v→W.cell? ⟨w.heap.size,4,none⟩=some (.slice (some ⟨b,o,none⟩) N4 p4)∧W.cell? ⟨b,o+k*5,none⟩=some (.string x.sort)∧W.cell? ⟨b,o+k*5+1,none⟩=some (.int .u64 (x.set.a:Int))∧W.cell? ⟨b,o+k*5+2,none⟩=some (.int .u64 (x.set.b:Int))∧W.cell? ⟨b,o+k*5+3,none⟩=some (.int .u64 (x.set.c:Int))∧W.cell? ⟨b,o+k*5+4,none⟩=some (.int .u64 (x.set.d:Int))):=fun {l v W} h=>⟨(HCU.out h).2.2.1,(h.bel.cell (p:=⟨b,o+k*5+0,none⟩) hlb).trans (hcl 0 _ rfl),(h.bel.cell (p:=⟨b,o+k*5+1,none⟩) hlb).trans (hcl 1 _ rfl),(h.bel.cell (p:=⟨b,o+k*5+2,none⟩) hlb).trans (hcl 2 _ rfl),(h.bel.cell (p:=⟨b,o+k*5+3,none⟩) hlb).trans (hcl 3 _ rfl),(h.bel.cell (p:=⟨b,o+k*5+4,none⟩) hlb).trans (hcl 4 _ rfl)⟩
      have zn:x.sort.data.toList.length≤32:=by have:=nm_size (HD.out.f x (List.mem_of_getElem? hxx));rw[list_len];omega
      have HTX:Hid (∀W,Calls Tryz.prog 75 #[.agg #[.int .u64 x.set.a,.int .u64 x.set.b,.int .u64 x.set.c,.int .u64 x.set.d]] W fun e w'=>e=.returned (.string (strB (printL x.set)))∧Below W.heap.size W w'):=fun W=>rprint_any x.set hok W
      have zp:=print_le x.set
      have hltI:(k:Int)<N4:=by omega
      have HMS:=hHi (map_step (f:=rfolT) HL.out hxx)
      clear hxx hcl hq_  
      obtain⟨nm0,hnm⟩:∃q,x.sort.data.toList=q:=⟨_,rfl⟩
      obtain⟨tx,htx⟩:∃q,printL x.set=q:=⟨_,rfl⟩
      have zz:x.sort=strB nm0:=by rw[←hnm,strB_self]
      skip
      have hdef:rfolT x=(([102,111,108,108,111,119,32]++x.sort.data.toList)++[32])++printL x.set:=rfl
      rw[hnm,htx] at hdef
      rw[hnm] at zn
      rw[htx] at zp HTX
      rw[zz] at HSW
      obtain⟨z1,hz1'⟩:∃q,[102,111,108,108,111,119,32]++nm0=q:=⟨_,rfl⟩
      obtain⟨z2,hz2'⟩:∃q,z1++[32]=q:=⟨_,rfl⟩
      obtain⟨z,hz3'⟩:∃q,z2++tx=q:=⟨_,rfl⟩
      rw[hdef,hz1',hz2',hz3'] at HMS
      have lz1:=ap_le hz1' (Nat.le_refl _) zn
      simp only[List.length_cons,List.length_nil] at lz1
      have lz2:=ap_le hz2' lz1 (Nat.le_refl _)
      simp only[List.length_cons,List.length_nil] at lz2
      have ct1:∀W,(Op.stringOp .add ⟨#[102,111,108,108,111,119,32]⟩ (strB nm0)).run Tryz.prog W=.ok (.string (strB z1)) W:=fun W=>str_add (a:=[102,111,108,108,111,119,32]) (by simp;omega) hz1' W
      have ct2:∀W,(Op.stringOp .add (strB z1) ⟨#[32]⟩).run Tryz.prog W=.ok (.string (strB z2)) W:=fun W=>str_add (b:=[32]) (by simp;omega) hz2' W
      have ct3:∀W,(Op.stringOp .add (strB z2) (strB tx)).run Tryz.prog W=.ok (.string (strB z)) W:=fun W=>str_add (by omega) hz3' W
      clear hnm htx zz  hdef zn zp hz1' hz2' hz3' lz1 lz2
      have HXD:=hHi (HX.out.nx (below_dr wr))
      have hnl:=HNL.out
      go_wp2
      refine wp_region_held_drew (S:=fun W=>W.cell? ⟨w.heap.size,4,none⟩=some (.slice (some ⟨b,o,none⟩) N4 p4)∧W.cell? ⟨b,o+k*5,none⟩=some (.string (strB nm0))∧W.cell? ⟨b,o+k*5+1,none⟩=some (.int .u64 (x.set.a:Int))∧W.cell? ⟨b,o+k*5+2,none⟩=some (.int .u64 (x.set.b:Int))∧W.cell? ⟨b,o+k*5+3,none⟩=some (.int .u64 (x.set.c:Int))∧W.cell? ⟨b,o+k*5+4,none⟩=some (.int .u64 (x.set.d:Int))) (by kernel_rfl) (HSW.out HXD.out) (fun hHeld=>?_)
      refine tk 0 rfl (by assumption) ?_
      refine tk 1 rfl (by assumption) ?_
      refine tk 2 rfl (by assumption) ?_
      refine tk 3 rfl (by assumption) ?_
      refine tk 4 rfl (by assumption) ?_
      refine tk 5 rfl (by assumption) ?_
      refine tk 6 rfl (by assumption) ?_
      refine tk 7 rfl (by assumption) ?_
      refine tk 8 rfl (by assumption) ?_
      refine tk 9 rfl (by assumption) ?_
      refine tk 10 rfl (by assumption) ?_
      refine tk 11 rfl (by assumption) ?_
      refine tk 12 rfl (by assumption) ?_
      refine tk 13 rfl (by assumption) ?_
      refine tk 14 rfl (by assumption) ?_
      refine rd1 15 rfl (fun K hK=>?_)
      go_simp
      refine hMo (hU (HTX.out wr.drew)) ?_
      rintro e w3 ⟨rfl,hb3⟩
      have HX3:=hHi (HXD.out.nx hb3)
      clear hb3
      go_wp2_with fail
      refine hK.out _ _ (HSW.out HX3.out) (fun hHeld=>?_)
      clear hK K
      refine tk 16 rfl (by assumption) ?_
      refine rd1 17 rfl (fun K hK=>?_)
      go_simp
      have HXA:Hid (LnS w (w3.alloc (.cells #[.string (strB z)] 9)) us L (.slice va L.length vc)):=HX3.out.nx (below_al _ (Nat.le_refl _))
      refine hK.out _ _ (HSW.out HXA.out) (fun hHeld=>?_)
      clear hK K
      refine rd1 18 rfl (fun K hK=>?_)
      refine step_append_lies _ rfl _ _ 59 rfl (w.heap.size+1) 9 i0 _ 1 16 Tryz.underlying59 hi hz0 hz1 hz2 rfl (by decide) (.slice va L.length vc) L.length (lcells L) rfl ((HX3.out.row).alloc _) ⟨w3.heap.size,0,none⟩ 1 1 [.string (strB z)] rfl rfl (new_cells w3 9 [.string (strB z)]) (by intro u hu;simp at hu;rw[hu];rfl) (by decide) (by unfold maxLen;omega) (by omega) (by have:=HX3.out.sz;simp at *;omega) (w3.heap.size+1) (by simp) ?_
      intro g7 cap7 w7 hown hgrow hat hlt7
      have H7:=hHi (HX3.out.grow (z:=z) hgrow hown)
      clear hown hgrow hat hlt7
      refine hK.out _ _ (HSW.out H7.out) (fun hHeld=>?_)
      clear hK K
      refine tk 19 rfl (by assumption) ?_
      refine wpAnyH_done (by kernel_rfl) ?_ _
      clear hHeld HSW HXA
      go_wp2
      go_roundw
      case rel=>exact⟨k+1,some ⟨g7,0,none⟩,cap7,L++[z],by omega,by go_num,by rw[List.length_append];rfl,HMS.out,by have:=HNK.out;rw[List.length_append];simp;omega,by rw[List.length_append];exact H7.out⟩
      case measure=>simp[intOf];omega
     obtain rfl:N4=k:=by omega
     obtain⟨P3,hP⟩:∃q,P2++d.follows.map rfolT=q:=⟨_,rfl⟩
     have HLE:Hid (L=P3):=by show _=_;rw[←hP,HL.out,List.take_of_length_le (by rw[HN4.out];exact Nat.le_refl _)]
     rw[hP] at HLT
     have hle:=HLE.out
     subst hle
     obtain⟨P3,hPP⟩:∃q,q=L:=⟨_,rfl⟩
     subst hPP
     obtain⟨va3,hPP⟩:∃q,q=va:=⟨_,rfl⟩
     subst hPP
     obtain⟨vc3,hPP⟩:∃q,q=vc:=⟨_,rfl⟩
     subst hPP
     have hn3:P3.length≤200202:=by have h1:=HNK.out;have h2:=HBN.out;omega
     have hx3:=HX.out
     have e3:=HBN.out
     clear hP HLE HL HX HNL HNK
     go_wp2
     go_loopw[3,7] (fun lv iv W=>∃(k:Nat) (va:Option Addr) (vc:Nat) (L:List (List UInt8)),k≤N5∧iv=.int .i64 k∧lv=.slice va L.length vc∧L=P3++(d.rejects.take k).map rrejT∧L.length≤200202+k∧LnS w W us L (.slice va L.length vc)) (fun _ iv _=>N5-(intOf iv).toNat)
     case atStart=>exact⟨0,va3,vc3,P3,Nat.zero_le _,rfl,rfl,by simp,hn3,hx3⟩
     case round=>
      clear hn3 hx3
      obtain⟨k,va,vc,L,hk,rfl,rfl,hL,hn,hx⟩:=hrel
      have HL:=hHi hL
      have HX:=hHi hx
      have HNL:Hid ((L.length+1)*16≤140737488355328):=by have:=HBN.out;show _≤_;omega
      have HNK:=hHi hn
      obtain⟨s2,s3,s4,s5,s6⟩:=HCU.out hx
      clear hL hx hn
      by_cases hlt:k<N5
      case pos=>
       obtain⟨x,hxx⟩:∃x,d.rejects[k]?=some x:=⟨d.rejects[k]'(by rw[HN5.out];exact hlt),by simp⟩
       obtain⟨b,o,us4,hb2,hlb,hu4,hcl⟩:=HR5.out k x hxx
       obtain rfl:us4=_:=hu4
       subst hb2
       have hq_:=hcb HX.out.bel hlb hcl
       have HSW:Hid (∀{l v W},LnS w W us l v→W.cell? ⟨w.heap.size,5,none⟩=some (.slice (some ⟨b,o,none⟩) N5 p5)∧W.cell? ⟨b,o+k*2,none⟩=some (.string x.sort)∧W.cell? ⟨b,o+k*2+1,none⟩=some (.string x.by')):=fun {l v W} h=>⟨(HCU.out h).2.2.2.1,(h.bel.cell (p:=⟨b,o+k*2+0,none⟩) hlb).trans (hcl 0 _ rfl),(h.bel.cell (p:=⟨b,o+k*2+1,none⟩) hlb).trans (hcl 1 _ rfl)⟩
       have zn:x.sort.data.toList.length≤32:=by have:=nm_size ((HD.out.r x (List.mem_of_getElem? hxx)).1);rw[list_len];omega
       have zp:x.by'.data.toList.length≤32:=by have:=nm_size ((HD.out.r x (List.mem_of_getElem? hxx)).2);rw[list_len];omega
       have hltI:(k:Int)<N5:=by omega
       have HMS:=hHi (map_step (f:=rrejT) HL.out hxx)
       clear hxx hcl hq_  
       obtain⟨nm0,hnm⟩:∃q,x.sort.data.toList=q:=⟨_,rfl⟩
       obtain⟨tx,htx⟩:∃q,x.by'.data.toList=q:=⟨_,rfl⟩
       have zz:x.sort=strB nm0:=by rw[←hnm,strB_self]
       have zy:x.by'=strB tx:=by rw[←htx,strB_self]
       have hdef:rrejT x=(([114,101,106,101,99,116,32]++x.sort.data.toList)++[32])++x.by'.data.toList:=rfl
       rw[hnm,htx] at hdef
       rw[hnm] at zn
       rw[htx] at zp 
       rw[zz,zy] at HSW
       obtain⟨z1,hz1'⟩:∃q,[114,101,106,101,99,116,32]++nm0=q:=⟨_,rfl⟩
       obtain⟨z2,hz2'⟩:∃q,z1++[32]=q:=⟨_,rfl⟩
       obtain⟨z,hz3'⟩:∃q,z2++tx=q:=⟨_,rfl⟩
       rw[hdef,hz1',hz2',hz3'] at HMS
       have lz1:=ap_le hz1' (Nat.le_refl _) zn
       simp only[List.length_cons,List.length_nil] at lz1
       have lz2:=ap_le hz2' lz1 (Nat.le_refl _)
       simp only[List.length_cons,List.length_nil] at lz2
       have ct1:∀W,(Op.stringOp .add ⟨#[114,101,106,101,99,116,32]⟩ (strB nm0)).run Tryz.prog W=.ok (.string (strB z1)) W:=fun W=>str_add (a:=[114,101,106,101,99,116,32]) (by simp;omega) hz1' W
       have ct2:∀W,(Op.stringOp .add (strB z1) ⟨#[32]⟩).run Tryz.prog W=.ok (.string (strB z2)) W:=fun W=>str_add (b:=[32]) (by simp;omega) hz2' W
       have ct3:∀W,(Op.stringOp .add (strB z2) (strB tx)).run Tryz.prog W=.ok (.string (strB z)) W:=fun W=>str_add (by omega) hz3' W
       clear hnm htx zz zy hdef zn zp hz1' hz2' hz3' lz1 lz2
       have HXD:=hHi (HX.out.nx (below_dr wr))
       have hnl:=HNL.out
       go_wp2
       refine wp_region_held_drew (S:=fun W=>W.cell? ⟨w.heap.size,5,none⟩=some (.slice (some ⟨b,o,none⟩) N5 p5)∧W.cell? ⟨b,o+k*2,none⟩=some (.string (strB nm0))∧W.cell? ⟨b,o+k*2+1,none⟩=some (.string (strB tx))) (by kernel_rfl) (HSW.out HXD.out) (fun hHeld=>?_)
       refine tk 0 rfl (by assumption) ?_
       refine tk 1 rfl (by assumption) ?_
       refine tk 2 rfl (by assumption) ?_
       refine tk 3 rfl (by assumption) ?_
       refine tk 4 rfl (by assumption) ?_
       refine tk 5 rfl (by assumption) ?_
       refine tk 6 rfl (by assumption) ?_
       refine tk 7 rfl (by assumption) ?_
       refine tk 8 rfl (by assumption) ?_
       refine tk 9 rfl (by assumption) ?_
       refine tk 10 rfl (by assumption) ?_
       refine tk 11 rfl (by assumption) ?_
       refine tk 12 rfl (by assumption) ?_
       refine tk 13 rfl (by assumption) ?_
       refine tk 14 rfl (by assumption) ?_
       refine tk 15 rfl (by assumption) ?_
       refine rd1 16 rfl (fun K hK=>?_)
       go_simp
       have HXA:Hid (LnS w (wr.drew.alloc (.cells #[.string (strB z)] 9)) us L (.slice va L.length vc)):=HXD.out.nx (below_al _ (Nat.le_refl _))
       refine hK.out _ _ (HSW.out HXA.out) (fun hHeld=>?_)
       clear hK K
       refine rd1 17 rfl (fun K hK=>?_)
       refine step_append_lies _ rfl _ _ 59 rfl (w.heap.size+1) 9 i0 _ 1 16 Tryz.underlying59 hi hz0 hz1 hz2 rfl (by decide) (.slice va L.length vc) L.length (lcells L) rfl ((HXD.out.row).alloc _) ⟨wr.drew.heap.size,0,none⟩ 1 1 [.string (strB z)] rfl rfl (new_cells wr.drew 9 [.string (strB z)]) (by intro u hu;simp at hu;rw[hu];rfl) (by decide) (by unfold maxLen;omega) (by omega) (by have:=HXD.out.sz;simp at *;omega) (wr.drew.heap.size+1) (by simp) ?_
       intro g7 cap7 w7 hown hgrow hat hlt7
       have H7:=hHi (HXD.out.grow (z:=z) hgrow hown)
       clear hown hgrow hat hlt7
       refine hK.out _ _ (HSW.out H7.out) (fun hHeld=>?_)
       clear hK K
       refine tk 18 rfl (by assumption) ?_
       refine wpAnyH_done (by kernel_rfl) ?_ _
       clear hHeld HSW HXA
       go_wp2
       go_roundw
       case rel=>exact⟨k+1,some ⟨g7,0,none⟩,cap7,L++[z],by omega,by go_num,by rw[List.length_append];rfl,HMS.out,by have:=HNK.out;rw[List.length_append];simp;omega,by rw[List.length_append];exact H7.out⟩
       case measure=>simp[intOf];omega
      obtain rfl:N5=k:=by omega
      obtain⟨P4,hP⟩:∃q,P3++d.rejects.map rrejT=q:=⟨_,rfl⟩
      have HLE:Hid (L=P4):=by show _=_;rw[←hP,HL.out,List.take_of_length_le (by rw[HN5.out];exact Nat.le_refl _)]
      rw[hP] at HLT
      have hle:=HLE.out
      subst hle
      obtain⟨P4,hPP⟩:∃q,q=L:=⟨_,rfl⟩
      subst hPP
      obtain⟨va4,hPP⟩:∃q,q=va:=⟨_,rfl⟩
      subst hPP
      obtain⟨vc4,hPP⟩:∃q,q=vc:=⟨_,rfl⟩
      subst hPP
      have hn4:P4.length≤300202:=by have h1:=HNK.out;have h2:=HBN.out;omega
      have hx4:=HX.out
      have e4:=HBN.out
      clear hP HLE HL HX HNL HNK
      go_wp2
      go_loopw[3,8] (fun lv iv W=>∃(k:Nat) (va:Option Addr) (vc:Nat) (L:List (List UInt8)),k≤N6∧iv=.int .i64 k∧lv=.slice va L.length vc∧L=P4++(d.boxes.take k).map rboxT∧L.length≤300202+k∧LnS w W us L (.slice va L.length vc)) (fun _ iv _=>N6-(intOf iv).toNat)
      case atStart=>exact⟨0,va4,vc4,P4,Nat.zero_le _,rfl,rfl,by simp,hn4,hx4⟩
      case round=>
       clear hn4 hx4
       obtain⟨k,va,vc,L,hk,rfl,rfl,hL,hn,hx⟩:=hrel
       have HL:=hHi hL
       have HX:=hHi hx
       have HNL:Hid ((L.length+1)*16≤140737488355328):=by have:=HBN.out;show _≤_;omega
       have HNK:=hHi hn
       obtain⟨s2,s3,s4,s5,s6⟩:=HCU.out hx
       clear hL hx hn
       by_cases hlt:k<N6
       case pos=>
        obtain⟨x,hxx⟩:∃x,d.boxes[k]?=some x:=⟨d.boxes[k]'(by rw[HN6.out];exact hlt),by simp⟩
        obtain⟨b,o,us4,hb2,hlb,hu4,hcl⟩:=HR6.out k x hxx
        obtain⟨u,rfl,ua,uc,rfl,hpc,hlu,hru⟩:=hu4
        subst hb2
        have hq_:=hcb HX.out.bel hlb hcl
        have HSW:Hid (∀{l v W},LnS w W us l v→W.cell? ⟨w.heap.size,6,none⟩=some (.slice (some ⟨b,o,none⟩) N6 p6)∧W.cell? ⟨b,o+k*2,none⟩=some (.string x.cons)∧W.cell? ⟨b,o+k*2+1,none⟩=some (.slice ua x.items.length uc)):=fun {l v W} h=>⟨(HCU.out h).2.2.2.2,(h.bel.cell (p:=⟨b,o+k*2+0,none⟩) hlb).trans (hcl 0 _ rfl),(h.bel.cell (p:=⟨b,o+k*2+1,none⟩) hlb).trans (hcl 1 _ rfl)⟩
        have zn:x.cons.data.toList.length≤32:=by have:=nm_size ((by have h:=HD.out.b x (List.mem_of_getElem? hxx);unfold boxB at h;simp only[Bool.and_eq_true] at h;exact h.1));rw[list_len];omega
        have hbx:(itsR 0 x.items).2=true:=by have h:=HD.out.b x (List.mem_of_getElem? hxx);unfold boxB at h;simp only[Bool.and_eq_true] at h;exact h.2
        have HTX:Hid (∀W,Below w.heap.size w W→Calls Tryz.prog 76 #[.slice ua x.items.length uc] W fun e w'=>e=.returned (.string (strB (ritsT x.items)))∧Below W.heap.size W w'):=fun W hb=>rits_text f2 x.items _ 0 W (by omega) hbx (Sl.keep ⟨ua,uc,rfl,hpc,hlu,hru⟩ hb hb.size (fun _ _ _ h=>h.keep hb hb.size))
        have zp:=rits_bd (Nat.zero_le 64) hbx
        have hltI:(k:Int)<N6:=by omega
        have HMS:=hHi (map_step (f:=rboxT) HL.out hxx)
        clear hxx hcl hq_ hpc hlu hru hbx
        obtain⟨nm0,hnm⟩:∃q,x.cons.data.toList=q:=⟨_,rfl⟩
        obtain⟨tx,htx⟩:∃q,ritsT x.items=q:=⟨_,rfl⟩
        have zz:x.cons=strB nm0:=by rw[←hnm,strB_self]
        skip
        have hdef:rboxT x=(([98,111,120,32]++x.cons.data.toList)++[32,61])++ritsT x.items:=rfl
        rw[hnm,htx] at hdef
        rw[hnm] at zn
        rw[htx] at zp HTX
        rw[zz] at HSW
        obtain⟨z1,hz1'⟩:∃q,[98,111,120,32]++nm0=q:=⟨_,rfl⟩
        obtain⟨z2,hz2'⟩:∃q,z1++[32,61]=q:=⟨_,rfl⟩
        obtain⟨z,hz3'⟩:∃q,z2++tx=q:=⟨_,rfl⟩
        rw[hdef,hz1',hz2',hz3'] at HMS
        have lz1:=ap_le hz1' (Nat.le_refl _) zn
        simp only[List.length_cons,List.length_nil] at lz1
        have lz2:=ap_le hz2' lz1 (Nat.le_refl _)
        simp only[List.length_cons,List.length_nil] at lz2
        have ct1:∀W,(Op.stringOp .add ⟨#[98,111,120,32]⟩ (strB nm0)).run Tryz.prog W=.ok (.string (strB z1)) W:=fun W=>str_add (a:=[98,111,120,32]) (by simp;omega) hz1' W
        have ct2:∀W,(Op.stringOp .add (strB z1) ⟨#[32,61]⟩).run Tryz.prog W=.ok (.string (strB z2)) W:=fun W=>str_add (b:=[32,61]) (by simp;omega) hz2' W
        have ct3:∀W,(Op.stringOp .add (strB z2) (strB tx)).run Tryz.prog W=.ok (.string (strB z)) W:=fun W=>str_add (by omega) hz3' W
        clear hnm htx zz  hdef zn zp hz1' hz2' hz3' lz1 lz2
        have HXD:=hHi (HX.out.nx (below_dr wr))
        have hnl:=HNL.out
        go_wp2
        refine wp_region_held_drew (S:=fun W=>W.cell? ⟨w.heap.size,6,none⟩=some (.slice (some ⟨b,o,none⟩) N6 p6)∧W.cell? ⟨b,o+k*2,none⟩=some (.string (strB nm0))∧W.cell? ⟨b,o+k*2+1,none⟩=some (.slice ua x.items.length uc)) (by kernel_rfl) (HSW.out HXD.out) (fun hHeld=>?_)
        refine tk 0 rfl (by assumption) ?_
        refine tk 1 rfl (by assumption) ?_
        refine tk 2 rfl (by assumption) ?_
        refine tk 3 rfl (by assumption) ?_
        refine tk 4 rfl (by assumption) ?_
        refine tk 5 rfl (by assumption) ?_
        refine tk 6 rfl (by assumption) ?_
        refine tk 7 rfl (by assumption) ?_
        refine tk 8 rfl (by assumption) ?_
        refine tk 9 rfl (by assumption) ?_
        refine tk 10 rfl (by assumption) ?_
        refine tk 11 rfl (by assumption) ?_
        refine tk 12 rfl (by assumption) ?_
        refine tk 13 rfl (by assumption) ?_
        refine tk 14 rfl (by assumption) ?_
        refine rd1 15 rfl (fun K hK=>?_)
        go_simp
        refine hMo (hU (HTX.out wr.drew HXD.out.bel)) ?_
        rintro e w3 ⟨rfl,hb3⟩
        have HX3:=hHi (HXD.out.nx hb3)
        clear hb3
        go_wp2_with fail
        refine hK.out _ _ (HSW.out HX3.out) (fun hHeld=>?_)
        clear hK K
        refine tk 16 rfl (by assumption) ?_
        refine rd1 17 rfl (fun K hK=>?_)
        go_simp
        have HXA:Hid (LnS w (w3.alloc (.cells #[.string (strB z)] 9)) us L (.slice va L.length vc)):=HX3.out.nx (below_al _ (Nat.le_refl _))
        refine hK.out _ _ (HSW.out HXA.out) (fun hHeld=>?_)
        clear hK K
        refine rd1 18 rfl (fun K hK=>?_)
        refine step_append_lies _ rfl _ _ 59 rfl (w.heap.size+1) 9 i0 _ 1 16 Tryz.underlying59 hi hz0 hz1 hz2 rfl (by decide) (.slice va L.length vc) L.length (lcells L) rfl ((HX3.out.row).alloc _) ⟨w3.heap.size,0,none⟩ 1 1 [.string (strB z)] rfl rfl (new_cells w3 9 [.string (strB z)]) (by intro u hu;simp at hu;rw[hu];rfl) (by decide) (by unfold maxLen;omega) (by omega) (by have:=HX3.out.sz;simp at *;omega) (w3.heap.size+1) (by simp) ?_
        intro g7 cap7 w7 hown hgrow hat hlt7
        have H7:=hHi (HX3.out.grow (z:=z) hgrow hown)
        clear hown hgrow hat hlt7
        refine hK.out _ _ (HSW.out H7.out) (fun hHeld=>?_)
        clear hK K
        refine tk 19 rfl (by assumption) ?_
        refine wpAnyH_done (by kernel_rfl) ?_ _
        clear hHeld HSW HXA
        go_wp2
        go_roundw
        case rel=>exact⟨k+1,some ⟨g7,0,none⟩,cap7,L++[z],by omega,by go_num,by rw[List.length_append];rfl,HMS.out,by have:=HNK.out;rw[List.length_append];simp;omega,by rw[List.length_append];exact H7.out⟩
        case measure=>simp[intOf];omega
       obtain rfl:N6=k:=by omega
       obtain⟨P5,hP⟩:∃q,P4++d.boxes.map rboxT=q:=⟨_,rfl⟩
       have HLE:Hid (L=P5):=by show _=_;rw[←hP,HL.out,List.take_of_length_le (by rw[HN6.out];exact Nat.le_refl _)]
       rw[hP] at HLT
       have hle:=HLE.out
       subst hle
       obtain⟨P5,hPP⟩:∃q,q=L:=⟨_,rfl⟩
       subst hPP
       obtain⟨va5,hPP⟩:∃q,q=va:=⟨_,rfl⟩
       subst hPP
       obtain⟨vc5,hPP⟩:∃q,q=vc:=⟨_,rfl⟩
       subst hPP
       have hn5:P5.length≤400202:=by have h1:=HNK.out;have h2:=HBN.out;omega
       have hx5:=HX.out
       have e5:=HBN.out
       clear hP HLE HL HX HNL HNK
       go_wp2
       go_ret
       have hrt:Hid (RT=P5):=by show _=_;rw[HLT.out]
       rw[hrt.out]
       exact⟨va5,vc5,rfl,hx5.row,hx5.bel⟩
end Go.Proofs.YtcpakcffiopfjaaGreatDoor
