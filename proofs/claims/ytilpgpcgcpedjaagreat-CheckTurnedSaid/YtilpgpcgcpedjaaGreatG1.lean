/- What is read is right; plain. How great a definition is. How great a definition is: what is not too great has few lists. Definitions that have texts are the same just if these are: the law's walk. A fault that is told has a code; how many lists a text has; plain. A definition's text is read as the definition; what is read has a text that is read so: the law's walk. -/
import Derived.Test.YtilpgpcgcpedjaaGreatC1
import Derived.Test.YtilpgpcgcpedjaaGreatA0
import Derived.Test.YtilpgpcgcpedjaaGreatB1
import Derived.Test.YtilpgpcgcpedjaaGreatB2
import Derived.Test.YtilpgpcgcpedjaaGreatProg
import Derived.Test.YtilpgpcgcpedjaaGreatD1
namespace Go.Proofs.YtilpgpcgcpedjaaGreat
open Go.RowKit
set_option linter.unusedVariables false
set_option linter.unusedSimpArgs false
set_option maxRecDepth 100000
set_option maxHeartbeats 16000000
section
set_option linter.unusedVariables false
set_option linter.unusedSimpArgs false
set_option maxRecDepth 100000
set_option maxHeartbeats 16000000
structure RightD (d:Df):Prop where
 s:nmN d.start=true
 l:nmN d.layout=true
 n:d.prods.length≤200
 p:∀x∈d.prods,prodB x=true
 c:∀x∈d.chains,chainB x=true
 f:∀x∈d.follows,nm x.sort=true
 r:∀x∈d.rejects,nm x.sort=true∧nm x.by'=true
 b:∀x∈d.boxes,boxB x=true
theorem right_iff (d:Df):rightB d=true↔RightD d:=by
 unfold rightB
 simp only[Bool.and_eq_true,List.all_eq_true,decide_eq_true_eq]
 constructor
 ·rintro⟨⟨⟨⟨⟨⟨⟨a,b⟩,c⟩,d⟩,e⟩,f⟩,g⟩,h⟩;exact⟨a,b,c,d,e,f,g,h⟩
 ·rintro⟨a,b,c,d,e,f,g,h⟩;exact⟨⟨⟨⟨⟨⟨⟨a,b⟩,c⟩,d⟩,e⟩,f⟩,g⟩,h⟩
end
section
set_option linter.unusedVariables false
set_option linter.unusedSimpArgs false
set_option maxRecDepth 100000
set_option maxHeartbeats 16000000
mutual
def ipL:Int→List It→Int
 | n,[]=>n
 | n,i::l=>if n≤3000 then ipL (wrap64 (n+ipT i)) l else n
def ipT:It→Int
 | .mk _ _ _ l=>ipL l.length l
end
theorem ipT_eq (i:It):ipT i=ipL i.items.length i.items:=by cases i;rw[ipT];rfl
theorem ipL_stop {n:Int} (h:3000<n) (l:List It):ipL n l=n:=by
 cases l with
 | nil=>rw[ipL]
 | cons i l=>rw[ipL,if_neg (by omega)]
theorem ipL_at {n:Int} {l:List It} {k:Nat} {x:It} (hx:l[k]?=some x) (h:n≤3000):ipL n (l.drop k)=ipL (wrap64 (n+ipT x)) (l.drop (k+1)):=by
 obtain⟨hlt,e⟩:=List.getElem?_eq_some_iff.1 hx
 rw[List.drop_eq_getElem_cons hlt,e,ipL,if_pos h]
theorem itemParts_one (V:It→List Value→Prop) (l:List It) (v:Value) (w:World) (h:Sl w w.heap.size 4 V l v)
  (HV:Hid (∀x vs,V x vs→∃u,vs=[.int .i64 x.kind,.string x.text,.int .i64 x.n,u]∧∀n,Calls Tryz.prog 68 #[u,.int .i64 3000] (w.drewN n) fun e w'=>e=.returned (.int .i64 (ipT x))∧∃m,w'=(w.drewN n).drewN m)) :
  Calls Tryz.prog 68 #[v,.int .i64 3000] w fun e w'=>e=.returned (.int .i64 (ipL l.length l))∧∃m,w'=w.drewN m:=by
 obtain⟨a1,p1,rfl,_,hl1,hr1⟩:=h
 obtain⟨N,hN⟩:∃N,l.length=N:=⟨_,rfl⟩
 have HR1:=hHi hr1
 have HN:=hHi hN
 rw[hN] at hl1 ⊢
 clear hr1 hN
 go_enter Tryz.func68,Tryz.ntmps68
 go_wp2
 go_loopw[5,6] (fun nv iv W=>∃(k m:Nat) (z:Int),k≤N∧nv=.int .i64 z∧iv=.int .i64 k∧ipL N l=ipL z (l.drop k)∧W=w.drewN m) (fun _ iv _=>N-(intOf iv).toNat)
 case atStart=>exact⟨0,0,N,Nat.zero_le _,rfl,rfl,rfl,rfl⟩
 case round=>
  obtain⟨k,m,z,hk,rfl,rfl,hh,hW⟩:=hrel
  have HH:=hHi hh
  have HW:=hHi hW
  have hq:∀p,wr.cell? p=w.cell? p:=fun p=>by rw[hW];rfl
  have HQ:=hHi hq
  clear hh hW hq
  by_cases hlt:k<N
  ·by_cases hz:z≤3000
   ·obtain⟨x,hx⟩:∃x,l[k]?=some x:=⟨l[k]'(by rw[HN.out];exact hlt),by simp⟩
    obtain⟨b,o,us,hb,hlb,hus,hc⟩:=HR1.out k x hx
    obtain⟨u,rfl,hC⟩:=HV.out x us hus
    have HC:Hid (Calls Tryz.prog 68 #[u,.int .i64 3000] wr fun e w'=>e=.returned (.int .i64 (ipT x))∧∃n,w'=wr.drewN n):=by
     show Calls _ _ _ _ _
     rw[HW.out];exact hC m
    subst hb
    have s3:=(HQ.out ⟨b,o+k*4+3,none⟩).trans (hc 3 _ rfl)
    have HT:Hid _:=HH.out.trans (ipL_at hx hz)
    have hltI:(k:Int)<N:=by omega
    clear hc hx hC hus
    generalize ipT x=y at HC HT
    go_wp2_with fail
    refine HC.out.mono ?_
    rintro e w2 ⟨rfl,nq,rfl⟩
    go_wp2
    go_roundw
    case rel=>exact⟨k+1,_,wrap64 (z+y),by omega,by first | rfl | go_num,by go_num,HT.out,drew_add HW.out _⟩
    case measure=>simp[intOf];omega
   ·have HE:Hid _:=HH.out.trans (ipL_stop (Int.not_le.1 hz) _)
    have hltI:(k:Int)<N:=by omega
    go_wp2
    go_ret
    exact⟨by rw[HE.out];rfl,_,HW.out⟩
  ·obtain rfl:k=N:=by omega
   have HE:Hid (ipL k l=z):=by
    show _=_
    rw[HH.out,List.drop_of_length_le (by rw[HN.out];exact Nat.le_refl _),ipL]
   go_wp2
   go_ret
   exact⟨by rw[HE.out];rfl,_,HW.out⟩
theorem itemParts_any:∀(f:Nat) (l:List It) (v:Value) (w:World),Sl w w.heap.size 4 (ItV w w.heap.size f) l v→Calls Tryz.prog 68 #[v,.int .i64 3000] w fun e w'=>e=.returned (.int .i64 (ipL l.length l))∧∃m,w'=w.drewN m
 | 0,l,v,w,h=>itemParts_one _ l v w h (fun _ _ hv=>hv.elim)
 | f+1,l,v,w,h=>itemParts_one _ l v w h (fun x vs hv=>by
  obtain⟨u,e,hs⟩:=hv
  refine⟨u,e,fun n=>?_⟩
  have hbw:Below w.heap.size w (w.drewN n):=below_dn ⟨n,rfl⟩
  rw[ipT_eq]
  exact itemParts_any f x.items u (w.drewN n) (hs.keep hbw hbw.size (fun _ _ _ h=>h.keep hbw hbw.size)))
def lists (d:Df):Nat:=d.prods.length+d.chains.length+d.follows.length+d.rejects.length+d.boxes.length
theorem parts_any (d:Df) (vs:List Value) (w:World) (hd:DA w d vs) :
  Calls Tryz.prog 31 #[.agg ⟨vs⟩,.int .i64 3000] w fun e w'=>∃z:Int,e=.returned (.int .i64 z)∧(z≤3000→lists d≤3000)∧Below w.heap.size w w':=by
 obtain⟨f,v2,v3,v4,v5,v6,rfl,h2,h3,h4,h5,h6⟩:=hd.at'
 obtain⟨a2,p2,rfl,_,hl2,hr2⟩:=h2
 obtain⟨a3,p3,rfl,_,hl3,hr3⟩:=h3
 obtain⟨a4,p4,rfl,_,hl4,_⟩:=h4
 obtain⟨a5,p5,rfl,_,hl5,_⟩:=h5
 obtain⟨a6,p6,rfl,_,hl6,hr6⟩:=h6
 obtain⟨N2,hN2⟩:∃N,d.prods.length=N:=⟨_,rfl⟩
 obtain⟨N3,hN3⟩:∃N,d.chains.length=N:=⟨_,rfl⟩
 obtain⟨N4,hN4⟩:∃N,d.follows.length=N:=⟨_,rfl⟩
 obtain⟨N5,hN5⟩:∃N,d.rejects.length=N:=⟨_,rfl⟩
 obtain⟨N6,hN6⟩:∃N,d.boxes.length=N:=⟨_,rfl⟩
 have HR2:=hHi hr2
 have HR3:=hHi hr3
 have HR6:=hHi hr6
 have HN2:=hHi hN2
 have HN3:=hHi hN3
 have HN6:=hHi hN6
 have HL:Hid (lists d=N2+N3+N4+N5+N6):=by show _=_;rw[lists,hN2,hN3,hN4,hN5,hN6]
 rw[hN2] at hl2 ⊢
 rw[hN3] at hl3 ⊢
 rw[hN4] at hl4 ⊢
 rw[hN5] at hl5 ⊢
 rw[hN6] at hl6 ⊢
 obtain⟨W0,hW0⟩:∃W0,w.alloc (.cells #[.string d.start,.string d.layout,.slice a2 N2 p2,.slice a3 N3 p3,.slice a4 N4 p4,.slice a5 N5 p5,.slice a6 N6 p6] 28)=W0:=⟨_,rfl⟩
 have HB0:=kB hW0
 have HC0:Hid (W0.cell? ⟨w.heap.size,2,none⟩=some (.slice a2 N2 p2)∧W0.cell? ⟨w.heap.size,3,none⟩=some (.slice a3 N3 p3)∧W0.cell? ⟨w.heap.size,6,none⟩=some (.slice a6 N6 p6)):=by
  show _∧_∧_
  rw[←hW0]
  exact⟨cell_new 2 rfl,cell_new 3 rfl,cell_new 6 rfl⟩
 have HS:Hid ((N2:Int)+N3+N4+N5+N6=(N2+N3+N4+N5+N6:Nat)):=by show _=_;omega
 clear hr2 hr3 hr6 hN2 hN3 hN4 hN5 hN6 hd
 generalize lists d=S at HL
 generalize d.start=st0 at hW0
 generalize d.layout=lo0 at hW0
 have c0:W0.cell? ⟨w.heap.size,0,none⟩=some (.string st0):=by rw[←hW0];exact cell_new 0 rfl
 have c1:W0.cell? ⟨w.heap.size,1,none⟩=some (.string lo0):=by rw[←hW0];exact cell_new 1 rfl
 have c2:W0.cell? ⟨w.heap.size,2,none⟩=some (.slice a2 N2 p2):=by rw[←hW0];exact cell_new 2 rfl
 have c3:W0.cell? ⟨w.heap.size,3,none⟩=some (.slice a3 N3 p3):=by rw[←hW0];exact cell_new 3 rfl
 have c4:W0.cell? ⟨w.heap.size,4,none⟩=some (.slice a4 N4 p4):=by rw[←hW0];exact cell_new 4 rfl
 have c5:W0.cell? ⟨w.heap.size,5,none⟩=some (.slice a5 N5 p5):=by rw[←hW0];exact cell_new 5 rfl
 have c6:W0.cell? ⟨w.heap.size,6,none⟩=some (.slice a6 N6 p6):=by rw[←hW0];exact cell_new 6 rfl
 show Calls Tryz.prog 31 #[.agg #[.string st0,.string lo0,.slice a2 N2 p2,.slice a3 N3 p3,.slice a4 N4 p4,.slice a5 N5 p5,.slice a6 N6 p6],.int .i64 3000] w _
 go_enter Tryz.func31,Tryz.ntmps31
 go_wp2
 go_loopw[5,6] (fun nv iv W=>∃(k m:Nat) (z:Int),k≤N2∧nv=.int .i64 z∧iv=.int .i64 k∧(S≤3000∨z=(S:Int))∧W=W0.drewN m) (fun _ iv _=>N2-(intOf iv).toNat)
 case atStart=>exact⟨0,0,_,Nat.zero_le _,rfl,rfl,.inr (by rw[HL.out];exact HS.out),rfl⟩
 case round=>
  obtain⟨k,m,z,hk,rfl,rfl,hh,hW⟩:=hrel
  have HH:=hHi hh
  have HW:=hHi hW
  have hq:∀p,wr.cell? p=W0.cell? p:=fun p=>by rw[hW];rfl
  have HQ:=hHi hq
  have e2:=(hq ⟨w.heap.size,2,none⟩).trans HC0.out.1
  have e3:=(hq ⟨w.heap.size,3,none⟩).trans HC0.out.2.1
  have e6:=(hq ⟨w.heap.size,6,none⟩).trans HC0.out.2.2
  clear hh hW hq
  by_cases hgo:k<N2∧z≤3000
  ·obtain⟨hlt,hz⟩:=hgo
   have HS3:Hid (S≤3000):=by rcases HH.out with h | h<;>first | exact h | (show _≤_;omega)
   have hltI:(k:Int)<N2:=by omega
   obtain⟨x,hx⟩:∃x,d.prods[k]?=some x:=⟨d.prods[k]'(by rw[HN2.out];exact hlt),by simp⟩
   obtain⟨b,o,us,hb,hlb,hus,hc⟩:=HR2.out k x hx
   obtain⟨u,rfl,ag,pg,rfl,_,hlg,_⟩:=hus
   subst hb
   generalize x.syms.length=K at hc hlg
   have s4:=(HQ.out ⟨b,o+k*5+4,none⟩).trans ((HB0.out.cell (p:=⟨b,o+k*5+4,none⟩) hlb).trans (hc 4 _ rfl))
   clear hc hx
   go_wp2
   go_roundw
   case rel=>exact⟨k+1,m,_,by omega,rfl,by go_num,.inl HS3.out,HW.out⟩
   case measure=>simp[intOf];omega
  ·have hor:(N2=k)∨((k:Int)<N2∧¬z≤3000):=by omega
   clear hgo
   rcases hor with rfl | ⟨hltI,hz⟩
   all_goals
    go_wp2
    go_loopw[5,7] (fun nv iv W=>∃(k m:Nat) (z:Int),k≤N3∧nv=.int .i64 z∧iv=.int .i64 k∧(S≤3000∨z=(S:Int))∧W=W0.drewN m) (fun _ iv _=>N3-(intOf iv).toNat)
    case atStart=>exact⟨0,m,_,Nat.zero_le _,rfl,rfl,HH.out,HW.out⟩
    case round=>
     obtain⟨k,m,z,hk,rfl,rfl,hh,hW⟩:=hrel
     have HH:=hHi hh
     have HW:=hHi hW
     have hq:∀p,wr.cell? p=W0.cell? p:=fun p=>by rw[hW];rfl
     have HQ:=hHi hq
     have e2:=(hq ⟨w.heap.size,2,none⟩).trans HC0.out.1
     have e3:=(hq ⟨w.heap.size,3,none⟩).trans HC0.out.2.1
     have e6:=(hq ⟨w.heap.size,6,none⟩).trans HC0.out.2.2
     clear hh hW hq
     by_cases hgo:k<N3∧z≤3000
     ·obtain⟨hlt,hz⟩:=hgo
      have HS3:Hid (S≤3000):=by rcases HH.out with h | h<;>first | exact h | (show _≤_;omega)
      have hltI:(k:Int)<N3:=by omega
      obtain⟨x,hx⟩:∃x,d.chains[k]?=some x:=⟨d.chains[k]'(by rw[HN3.out];exact hlt),by simp⟩
      obtain⟨b,o,us,hb,hlb,hus,hc⟩:=HR3.out k x hx
      obtain⟨u,rfl,ag,pg,rfl,_,hlg,hgr⟩:=hus
      subst hb
      obtain⟨K,hK⟩:∃K,x.length=K:=⟨_,rfl⟩
      have HK:=hHi hK
      have HG:=hHi hgr
      have s0:=(HB0.out.cell (p:=⟨b,o+k*1+0,none⟩) hlb).trans (hc 0 _ rfl)
      rw[hK] at hlg s0
      rw[Nat.mul_one,Nat.add_zero] at s0
      have HS0:=hHi s0
      replace s0:=(HQ.out ⟨b,o+k,none⟩).trans s0
      clear hc hx hK hgr
      go_wp2
      go_loopw[5,8] (fun nv iv W=>∃(j m:Nat) (z:Int),j≤K∧nv=.int .i64 z∧iv=.int .i64 j∧W=W0.drewN m) (fun _ iv _=>K-(intOf iv).toNat)
      case atStart=>exact⟨0,m,_,Nat.zero_le _,rfl,rfl,HW.out⟩
      case round=>
       obtain⟨j,m2,z2,hj,rfl,rfl,hW⟩:=hrel
       have HW2:=hHi hW
       have hq:∀p,wr.cell? p=W0.cell? p:=fun p=>by rw[hW];rfl
       have HQ2:=hHi hq
       have e3:=(hq ⟨w.heap.size,3,none⟩).trans HC0.out.2.1
       have s0:=(hq ⟨b,o+k,none⟩).trans HS0.out
       clear hW hq
       by_cases hgo:j<K∧z2≤3000
       ·obtain⟨hjl,hz2⟩:=hgo
        have hjI:(j:Int)<K:=by omega
        obtain⟨y,hy⟩:∃y,x[j]?=some y:=⟨x[j]'(by rw[HK.out];exact hjl),by simp⟩
        obtain⟨b4,o4,us4,hb4,hlb4,⟨u4,rfl,a7,p7,rfl,_,hl7,_⟩,hc4⟩:=HG.out j y hy
        subst hb4
        generalize y.cons.length=L at hc4 hl7
        have q1:=(HQ2.out ⟨b4,o4+j*2+1,none⟩).trans ((HB0.out.cell (p:=⟨b4,o4+j*2+1,none⟩) hlb4).trans (hc4 1 _ rfl))
        clear hc4 hy
        go_wp2
        go_roundw
        case rel=>exact⟨j+1,m2,_,by omega,rfl,by go_num,HW2.out⟩
        case measure=>simp[intOf];omega
       ·have hor:(K=j)∨((j:Int)<K∧¬z2≤3000):=by omega
        clear hgo
        rcases hor with rfl | ⟨hjI,hz2⟩
        all_goals
         go_wp2
         go_roundw
         case rel=>exact⟨k+1,m2,_,by omega,rfl,by go_num,.inl HS3.out,HW2.out⟩
         case measure=>simp[intOf];omega
     ·have hor:(N3=k)∨((k:Int)<N3∧¬z≤3000):=by omega
      clear hgo
      rcases hor with rfl | ⟨hltI,hz⟩
      all_goals
       go_wp2
       go_loopw[5,9] (fun nv iv W=>∃(k m:Nat) (z:Int),k≤N6∧nv=.int .i64 z∧iv=.int .i64 k∧(S≤3000∨z=(S:Int))∧W=W0.drewN m) (fun _ iv _=>N6-(intOf iv).toNat)
       case atStart=>exact⟨0,m,_,Nat.zero_le _,rfl,rfl,HH.out,HW.out⟩
       case round=>
        obtain⟨k,m,z,hk,rfl,rfl,hh,hW⟩:=hrel
        have HH:=hHi hh
        have HW:=hHi hW
        have hq:∀p,wr.cell? p=W0.cell? p:=fun p=>by rw[hW];rfl
        have HQ:=hHi hq
        have e2:=(hq ⟨w.heap.size,2,none⟩).trans HC0.out.1
        have e3:=(hq ⟨w.heap.size,3,none⟩).trans HC0.out.2.1
        have e6:=(hq ⟨w.heap.size,6,none⟩).trans HC0.out.2.2
        clear hh hW hq
        by_cases hgo:k<N6∧z≤3000
        ·obtain⟨hlt,hz⟩:=hgo
         have HS3:Hid (S≤3000):=by rcases HH.out with h | h<;>first | exact h | (show _≤_;omega)
         have hltI:(k:Int)<N6:=by omega
         obtain⟨x,hx⟩:∃x,d.boxes[k]?=some x:=⟨d.boxes[k]'(by rw[HN6.out];exact hlt),by simp⟩
         obtain⟨b,o,us,hb,hlb,hus,hc⟩:=HR6.out k x hx
         obtain⟨u,rfl,hs⟩:=hus
         subst hb
         have s1:=(HQ.out ⟨b,o+k*2+1,none⟩).trans ((HB0.out.cell (p:=⟨b,o+k*2+1,none⟩) hlb).trans (hc 1 _ rfl))
         have HC:Hid (Calls Tryz.prog 68 #[u,.int .i64 3000] wr fun e w'=>e=.returned (.int .i64 (ipL x.items.length x.items))∧∃n,w'=wr.drewN n):=by
          have hbw:Below w.heap.size w wr:=below_tr HB0.out (below_dn ⟨m,HW.out⟩)
          exact itemParts_any f x.items u wr (hs.keep hbw hbw.size (fun _ _ _ h=>h.keep hbw hbw.size))
         clear hc hx hs
         generalize ipL x.items.length x.items=y at HC
         go_wp2_with fail
         refine HC.out.mono ?_
         rintro e w2 ⟨rfl,nq,rfl⟩
         go_wp2
         go_roundw
         case rel=>exact⟨k+1,_,_,by omega,rfl,by go_num,.inl HS3.out,drew_add HW.out _⟩
         case measure=>simp[intOf];omega
        ·have hor:(N6=k)∨((k:Int)<N6∧¬z≤3000):=by omega
         clear hgo
         rcases hor with rfl | ⟨hltI,hz⟩
         all_goals
          go_wp2
          go_ret
          refine⟨z,rfl,fun h=>?_,below_tr HB0.out (below_dn ⟨m,HW.out⟩)⟩
          rcases HH.out with h1 | h1
          ·rw[HL.out] at h1 ⊢;exact h1
          ·rw[HL.out] at h1 ⊢;omega
theorem DfV.ups {w:World} {B f g:Nat} {d:Df} {vs:List Value} (h:DfV w B f d vs) (hg:f≤g):DfV w B g d vs:=by
 obtain⟨v2,v3,v4,v5,v6,e,h2,h3,h4,h5,a,c,e6,q1,q2,hr⟩:=h
 refine⟨v2,v3,v4,v5,v6,e,h2,h3,h4,h5,a,c,e6,q1,q2,fun j x hj=>?_⟩
 obtain⟨b,o,us,e1,hlt,hv,hc⟩:=hr j x hj
 exact⟨b,o,us,e1,hlt,BoV.ups hv hg,hc⟩
theorem da_form {w:World} {d:Df} {vs:List Value} (h:DA w d vs):∃v2 v3 v4 v5 v6,vs=[.string d.start,.string d.layout,v2,v3,v4,v5,v6]:=by
 obtain⟨f,v2,v3,v4,v5,v6,rfl,_⟩:=h.at'
 exact⟨v2,v3,v4,v5,v6,rfl⟩
end
section
set_option linter.unusedVariables false
set_option linter.unusedSimpArgs false
set_option maxRecDepth 100000
set_option maxHeartbeats 16000000
section
variable {α β:Type}
end
theorem rsame_two {w:World} {a b:Df} {us vs:List Value} (ha:DA w a us) (hb:DA w b vs):Calls Tryz.prog 16 #[.agg ⟨us⟩,.agg ⟨vs⟩] w fun e w'=>e=.returned (.bool (eqD a b))∧Below w.heap.size w w':=by
 obtain⟨f,hf⟩:=ha.at'
 obtain⟨g,hg⟩:=hb.at'
 obtain⟨a2,a3,a4,a5,a6,rfl,x2,x3,x4,x5,x6⟩:=hf.ups (Nat.le_add_right f g)
 obtain⟨b2,b3,b4,b5,b6,rfl,y2,y3,y4,y5,y6⟩:=hg.ups (Nat.le_add_left g f)
 exact rsameDf_any a b (f+g) a2 a3 a4 a5 a6 b2 b3 b4 b5 b6 w x2 x3 x4 x5 x6 y2 y3 y4 y5 y6
theorem right_da {w:World} {d:Df} {vs:List Value} (h:DA w d vs):Calls Tryz.prog 34 #[.agg ⟨vs⟩] w fun e w'=>e=.returned (.bool (rightB d))∧Below w.heap.size w w':=by
 obtain⟨f,a2,a3,a4,a5,a6,rfl,x2,x3,x4,x5,x6⟩:=h.at'
 exact right_any d f a2 a3 a4 a5 a6 w x2 x3 x4 x5 x6
end
end Go.Proofs.YtilpgpcgcpedjaaGreat
