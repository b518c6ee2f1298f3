/- Whether a template fits a production: the program's answer. -/
import Derived.Test.YtilpgpcgcpedjaaGreatMi
import Derived.Deep.RegionHeld3
namespace Go.Proofs.YtilpgpcgcpedjaaGreat
open Go.RowKit
set_option linter.unusedVariables false
set_option linter.unusedSimpArgs false
set_option maxRecDepth 100000
set_option maxHeartbeats 16000000
theorem equalLf_any (xs ys:List Lf) (u v:Value) (lo1 lo2:Nat) (w:World) (hu:LvAt w lo1 xs u) (hv:LvAt w lo2 ys v) (hl:xs.length≤1000000):
  Calls Tryz.prog 134 #[u,v] w fun e w'=>e=.returned (.bool (decide (xs=ys)))∧Below w.heap.size w w':=by
 obtain⟨ua,uc,rfl⟩:=own_slice hu.row
 obtain⟨va,vc,rfl⟩:=own_slice hv.row
 obtain⟨r,hr⟩:∃r,decide (xs=ys)=r:=⟨_,rfl⟩
 rw[hr]
 have HR:=hHi hr
 have HU:=hHi hu
 have HV:=hHi hv
 obtain⟨N,hN⟩:∃N,xs.length=N:=⟨_,rfl⟩
 obtain⟨M,hM⟩:∃N,ys.length=N:=⟨_,rfl⟩
 rw[hN] at hl ⊢
 rw[hM]
 have HN:=hHi hN
 have HM:=hHi hM
 clear hr hu hv hN hM
 by_cases hNM:N=M
 ·subst hNM
  go_enter Tryz.func134,Tryz.ntmps134
  go_wp2
  go_loopw[13] (fun iv W=>∃(k:Nat),k≤N∧iv=.int .i64 k∧xs.take k=ys.take k∧Below w.heap.size w W) (fun iv _=>N-(intOf iv).toNat)
  case atStart=>exact ⟨0,Nat.zero_le _,rfl,rfl,Below.refl _ _⟩
  case round=>
   obtain⟨k,hk,rfl,he,hB⟩:=hrel
   have HE:=hHi he
   have HB:=hHi hB
   clear he hB
   by_cases hlt:k<N
   case pos=>
    obtain⟨x,hx⟩:∃x,xs[k]?=some x:=⟨xs[k]'(by rw[HN.out];exact hlt),by simp⟩
    obtain⟨y,hy⟩:∃x,ys[k]?=some x:=⟨ys[k]'(by rw[HM.out];exact hlt),by simp⟩
    obtain⟨g1,cap1,he1,_,hg1,hc1⟩:=own_rows (n:=3) (cf:=lfc) lfc_len HU.out.row hx
    obtain⟨g2,cap2,he2,_,hg2,hc2⟩:=own_rows (n:=3) (cf:=lfc) lfc_len HV.out.row hy
    simp only[Value.slice.injEq] at he1 he2
    obtain⟨rfl,hn1,rfl⟩:=he1
    obtain⟨rfl,hn2,rfl⟩:=he2
    clear hn1 hn2
    have cc1:∀i u,(lfc x)[i]?=some u→wr.cell? ⟨g1,k*3+i,none⟩=some u:=fun i u h=>by have:=hc1 i u h;rw[Nat.zero_add] at this;exact (HB.out.cell (p:=⟨g1,k*3+i,none⟩) hg1).trans this
    have cc2:∀i u,(lfc y)[i]?=some u→wr.cell? ⟨g2,k*3+i,none⟩=some u:=fun i u h=>by have:=hc2 i u h;rw[Nat.zero_add] at this;exact (HB.out.cell (p:=⟨g2,k*3+i,none⟩) hg2).trans this
    have s0:=cc1 0 _ rfl
    have s1:=cc1 1 _ rfl
    have s2:=cc1 2 _ rfl
    have t0:=cc2 0 _ rfl
    have t1:=cc2 1 _ rfl
    have t2:=cc2 2 _ rfl
    rw[Nat.add_zero] at s0 t0
    have hltI:(k:Int)<N:=by omega
    have HX:=hHi hx
    have HY:=hHi hy
    have heq:∀W,(Op.equalIn 10000 128 (.agg #[.int .i64 x.1,.string x.2.1,.int .i64 x.2.2]) (.agg #[.int .i64 y.1,.string y.2.1,.int .i64 y.2.2])).run Tryz.prog W=.ok (decide (x=y)) W:=fun W=>eq128 x y W
    clear hc1 hc2 cc1 cc2 hx hy
    by_cases hxy:x=y
    ·have HXY:=hHi hxy
     rw[decide_eq_true hxy] at heq
     have HEN:Hid (xs.take (k+1)=ys.take (k+1)):=by show _=_;rw[take_snoc' HX.out,take_snoc' HY.out,HE.out,HXY.out]
     clear hxy
     go_wp2
     go_quiet (fail)
     go_wp2
     go_roundw
     case rel=>exact ⟨k+1,by omega,by go_num,HEN.out,bel_dn _ HB.out⟩
     case measure=>simp[intOf];omega
    ·have HRR:Hid (r=false):=by
      show _=_
      rw[←HR.out]
      refine decide_eq_false (fun h=>hxy ?_)
      have h1:=HX.out
      rw[h,HY.out] at h1
      exact (Option.some.inj h1).symm
     rw[decide_eq_false hxy] at heq
     clear hxy
     go_wp2
     go_quiet (fail)
     go_wp2
     go_ret
     exact ⟨by rw[HRR.out];rfl,bel_dn _ HB.out⟩
   obtain rfl:k=N:=by omega
   have HRR:Hid (r=true):=by
    show _=_
    rw[←HR.out]
    have h:=HE.out
    rw[List.take_of_length_le (by rw[HN.out];exact Nat.le_refl _),List.take_of_length_le (by rw[HM.out];exact Nat.le_refl _)] at h
    exact decide_eq_true h
   go_wp2
   go_ret
   exact ⟨by rw[HRR.out];rfl,HB.out⟩
 ·have HRR:Hid (r=false):=by
   show _=_
   rw[←HR.out]
   exact decide_eq_false (fun h=>hNM (by rw[←HN.out,←HM.out,h]))
  have hi:¬((N:Int)=(M:Int)):=by omega
  go_enter Tryz.func134,Tryz.ntmps134
  go_wp2
  go_ret
  exact ⟨by rw[HRR.out];rfl,Below.refl _ _⟩
structure BX2 (w W:World) (P1 P2:Nat) (t1 t2:TypeId) (u1 u2:Array Value):Prop where
 bel:Below w.heap.size w W
 b1:Blk W P1 t1 u1
 b2:Blk W P2 t2 u2
theorem BX2.nx {w W W':World} {P1 P2:Nat} {t1 t2:TypeId} {u1 u2:Array Value} (h:BX2 w W P1 P2 t1 t2 u1 u2) (hb:Below W.heap.size W W'):BX2 w W' P1 P2 t1 t2 u1 u2:=⟨below_tr h.bel hb,h.b1.after hb,h.b2.after hb⟩
theorem BX2.drew {w W:World} {P1 P2:Nat} {t1 t2:TypeId} {u1 u2:Array Value} (h:BX2 w W P1 P2 t1 t2 u1 u2):BX2 w W.drew P1 P2 t1 t2 u1 u2:=h.nx (below_dr _)
theorem BX2.cs {w W:World} {P1 P2:Nat} {t1 t2:TypeId} {x0 x1 y0 y1 y2 y3 y4:Value} (h:BX2 w W P1 P2 t1 t2 #[x0,x1] #[y0,y1,y2,y3,y4]):(W.cell? ⟨P1,0,none⟩=some x0∧W.cell? ⟨P1,1,none⟩=some x1)∧(W.cell? ⟨P2,0,none⟩=some y0∧W.cell? ⟨P2,1,none⟩=some y1∧W.cell? ⟨P2,2,none⟩=some y2∧W.cell? ⟨P2,3,none⟩=some y3∧W.cell? ⟨P2,4,none⟩=some y4):=⟨h.b1.c2,h.b2.c5⟩
theorem fits_any (f:Nat) (x:Bo) (p:Pr) (iv sv:Value) (w:World) (hi:Sl w w.heap.size 4 (ItV w w.heap.size f) x.items iv) (hv:Sl w w.heap.size 8 SyV p.syms sv) (hz:p.syms.length≤1000000) (hlv:(lvIts x.items).length≤1000000):
  Calls Tryz.prog 102 #[.agg #[.string x.cons,iv],.agg #[.bool p.lex,.string p.sort,.string p.cons,.bool p.bracket,sv]] w fun e w'=>e=.returned (.bool (fitsB x p))∧Below w.heap.size w w':=by
 obtain⟨ua,uc,rfl,_⟩:=id hi
 obtain⟨a1,p1,rfl,_⟩:=id hv
 have HC133:Hid (∀W,Below w.heap.size w W→Calls Tryz.prog 133 #[.slice ua x.items.length uc] W fun e w'=>e=.returned (.bool (farIts x.items))∧Below W.heap.size W w'):=fun W hb=>tooFar_any f x.items _ W (hi.keep hb hb.size (fun _ _ _ h=>h.keep hb hb.size))
 have HC135:Hid (∀W,Below w.heap.size w W→Calls Tryz.prog 135 #[.slice ua x.items.length uc] W fun e w'=>(∃va vc,e=.returned (.slice va (lvIts x.items).length vc)∧LvAt w' W.heap.size (lvIts x.items) (.slice va (lvIts x.items).length vc))∧Below W.heap.size W w'):=fun W hb=>leavesOf_any f x.items _ W (hi.keep hb hb.size (fun _ _ _ h=>h.keep hb hb.size)) hlv
 have HC136:Hid (∀W,Below w.heap.size w W→Calls Tryz.prog 136 #[.agg #[.bool p.lex,.string p.sort,.string p.cons,.bool p.bracket,.slice a1 p.syms.length p1]] W fun e w'=>(∃va vc,e=.returned (.slice va (symLv 0 p.syms).length vc)∧LvAt w' W.heap.size (symLv 0 p.syms) (.slice va (symLv 0 p.syms).length vc))∧Below W.heap.size W w'):=fun W hb=>symLeaves_any p _ W (hv.keep hb hb.size (fun _ _ _ h=>h)) hz
 have HEQ:Hid (∀u v lo1 lo2 W,LvAt W lo1 (lvIts x.items) u→LvAt W lo2 (symLv 0 p.syms) v→Calls Tryz.prog 134 #[u,v] W fun e w'=>e=.returned (.bool (decide (lvIts x.items=symLv 0 p.syms)))∧Below W.heap.size W w'):=fun u v lo1 lo2 W h1 h2=>equalLf_any _ _ u v lo1 lo2 W h1 h2 hlv
 obtain⟨r,hr⟩:∃r,fitsB x p=r:=⟨_,rfl⟩
 rw[hr]
 have HR:Hid (r=(!farIts x.items&&decide (lvIts x.items=symLv 0 p.syms))):=by show _=_;rw[←hr];rfl
 clear hr hi hv
 generalize decide (lvIts x.items=symLv 0 p.syms)=qe at HEQ HR
 generalize farIts x.items=qf at HC133 HR
 generalize lvIts x.items=XL at HC135 HEQ
 generalize symLv 0 p.syms=YL at HC136 HEQ
 generalize XL.length=xl at HC135
 generalize YL.length=yl at HC136
 obtain⟨NI,hNI⟩:∃n,x.items.length=n:=⟨_,rfl⟩
 obtain⟨NS,hNS⟩:∃n,p.syms.length=n:=⟨_,rfl⟩
 rw[hNI] at HC133 HC135 ⊢
 rw[hNS] at HC136 ⊢
 clear hNI hNS hz hlv
 obtain⟨w0,hw0⟩:∃qW,w.alloc (.cells #[.string x.cons,.slice ua NI uc] 59)=qW:=⟨_,rfl⟩
 have HX0:=kN hw0
 have HB0:=kB hw0
 obtain⟨w1,hw1⟩:∃qW,w0.alloc (.cells #[.bool p.lex,.string p.sort,.string p.cons,.bool p.bracket,.slice a1 NS p1] 44)=qW:=⟨_,rfl⟩
 have HX1:=kN hw1
 have HB1:=kB hw1
 have T:BX2 w w1 w.heap.size w0.heap.size 59 44 #[.string x.cons,.slice ua NI uc] #[.bool p.lex,.string p.sort,.string p.cons,.bool p.bracket,.slice a1 NS p1]:=⟨below_tr HB0.out HB1.out,(kA HX0 HB1).out,HX1.out⟩
 clear HX0 HX1 HB0 HB1
 go_enter Tryz.func102,Tryz.ntmps102
 go_wp2
 refine wp_region_held_drew (S:=(fun W=>(W.cell? ⟨w.heap.size,0,none⟩=some (.string x.cons)∧W.cell? ⟨w.heap.size,1,none⟩=some (.slice ua NI uc))∧(W.cell? ⟨w0.heap.size,0,none⟩=some (.bool p.lex)∧W.cell? ⟨w0.heap.size,1,none⟩=some (.string p.sort)∧W.cell? ⟨w0.heap.size,2,none⟩=some (.string p.cons)∧W.cell? ⟨w0.heap.size,3,none⟩=some (.bool p.bracket)∧W.cell? ⟨w0.heap.size,4,none⟩=some (.slice a1 NS p1)))) (by kernel_rfl) T.drew.cs (fun hHeld=>?_)
 refine tk 0 rfl (by assumption) ?_
 try simp only[Act.put,List.getElem_toArray,List.getElem_cons_zero,List.getElem_cons_succ,List.setIfInBounds_toArray,List.set_cons_zero,List.set_cons_succ]
 refine tk 1 rfl (by assumption) ?_
 try simp only[Act.put,List.getElem_toArray,List.getElem_cons_zero,List.getElem_cons_succ,List.setIfInBounds_toArray,List.set_cons_zero,List.set_cons_succ]
 refine rd1 2 rfl (fun K hK=>?_)
 go_simp
 refine (HC133.out _ T.drew.bel).mono ?_
 rintro e w4 ⟨rfl,hb4⟩
 replace T:=T.drew.nx hb4
 refine hK.out _ _ T.cs (fun hHeld=>?_)
 clear hK K hb4
 refine tk 3 rfl (by assumption) ?_
 try simp only[Act.put,List.getElem_toArray,List.getElem_cons_zero,List.getElem_cons_succ,List.setIfInBounds_toArray,List.set_cons_zero,List.set_cons_succ]
 refine tk 4 rfl (by assumption) ?_
 try simp only[Act.put,List.getElem_toArray,List.getElem_cons_zero,List.getElem_cons_succ,List.setIfInBounds_toArray,List.set_cons_zero,List.set_cons_succ]
 cases qf with
 | true=>
  have HRR:Hid (r=false):=HR.out
  refine tkn 5 rfl (by assumption) ?_
  try simp only[Act.put,List.getElem_toArray,List.getElem_cons_zero,List.getElem_cons_succ,List.setIfInBounds_toArray,List.set_cons_zero,List.set_cons_succ]
  refine tkn 6 rfl (by assumption) ?_
  try simp only[Act.put,List.getElem_toArray,List.getElem_cons_zero,List.getElem_cons_succ,List.setIfInBounds_toArray,List.set_cons_zero,List.set_cons_succ]
  refine tkn 7 rfl (by assumption) ?_
  try simp only[Act.put,List.getElem_toArray,List.getElem_cons_zero,List.getElem_cons_succ,List.setIfInBounds_toArray,List.set_cons_zero,List.set_cons_succ]
  refine tkn 8 rfl (by assumption) ?_
  try simp only[Act.put,List.getElem_toArray,List.getElem_cons_zero,List.getElem_cons_succ,List.setIfInBounds_toArray,List.set_cons_zero,List.set_cons_succ]
  refine tkn 9 rfl (by assumption) ?_
  try simp only[Act.put,List.getElem_toArray,List.getElem_cons_zero,List.getElem_cons_succ,List.setIfInBounds_toArray,List.set_cons_zero,List.set_cons_succ]
  refine tkn 10 rfl (by assumption) ?_
  try simp only[Act.put,List.getElem_toArray,List.getElem_cons_zero,List.getElem_cons_succ,List.setIfInBounds_toArray,List.set_cons_zero,List.set_cons_succ]
  refine tk 11 rfl (by assumption) ?_
  try simp only[Act.put,List.getElem_toArray,List.getElem_cons_zero,List.getElem_cons_succ,List.setIfInBounds_toArray,List.set_cons_zero,List.set_cons_succ]
  refine tk 12 rfl (by assumption) ?_
  try simp only[Act.put,List.getElem_toArray,List.getElem_cons_zero,List.getElem_cons_succ,List.setIfInBounds_toArray,List.set_cons_zero,List.set_cons_succ]
  refine wpAnyH_done (by kernel_rfl) ?_ _
  go_wp2
  go_ret
  exact ⟨by rw[HRR.out];rfl,T.bel⟩
 | false=>
  have HRR:Hid (r=qe):=by show _=_;rw[HR.out];rfl
  refine tk 5 rfl (by assumption) ?_
  try simp only[Act.put,List.getElem_toArray,List.getElem_cons_zero,List.getElem_cons_succ,List.setIfInBounds_toArray,List.set_cons_zero,List.set_cons_succ]
  refine tk 6 rfl (by assumption) ?_
  try simp only[Act.put,List.getElem_toArray,List.getElem_cons_zero,List.getElem_cons_succ,List.setIfInBounds_toArray,List.set_cons_zero,List.set_cons_succ]
  refine tk 8 rfl (by assumption) ?_
  try simp only[Act.put,List.getElem_toArray,List.getElem_cons_zero,List.getElem_cons_succ,List.setIfInBounds_toArray,List.set_cons_zero,List.set_cons_succ]
  refine rd1 7 rfl (fun K hK=>?_)
  go_simp
  refine (HC135.out _ T.bel).mono ?_
  rintro e w5 ⟨⟨xa,xc,rfl,hx5⟩,hb5⟩
  replace T:=T.nx hb5
  have HXX:=hHi hx5
  refine hK.out _ _ T.cs (fun hHeld=>?_)
  clear hK K hb5 hx5
  refine rd1 9 rfl (fun K hK=>?_)
  go_simp
  refine (HC136.out _ T.bel).mono ?_
  rintro e w6 ⟨⟨ya,yc,rfl,hy6⟩,hb6⟩
  replace T:=T.nx hb6
  have HXY:=hHi (HXX.out.after hb6)
  have HYY:=hHi hy6
  refine hK.out _ _ T.cs (fun hHeld=>?_)
  clear hK K hb6 hy6
  refine rd1 10 rfl (fun K hK=>?_)
  go_simp
  refine (HEQ.out _ _ _ _ _ HXY.out HYY.out).mono ?_
  rintro e w7 ⟨rfl,hb7⟩
  replace T:=T.nx hb7
  refine hK.out _ _ T.cs (fun hHeld=>?_)
  clear hK K hb7
  refine tk 11 rfl (by assumption) ?_
  try simp only[Act.put,List.getElem_toArray,List.getElem_cons_zero,List.getElem_cons_succ,List.setIfInBounds_toArray,List.set_cons_zero,List.set_cons_succ]
  refine tk 12 rfl (by assumption) ?_
  try simp only[Act.put,List.getElem_toArray,List.getElem_cons_zero,List.getElem_cons_succ,List.setIfInBounds_toArray,List.set_cons_zero,List.set_cons_succ]
  refine wpAnyH_done (by kernel_rfl) ?_ _
  go_wp2
  go_ret
  exact ⟨by rw[HRR.out];rfl,T.bel⟩
end Go.Proofs.YtilpgpcgcpedjaaGreat
