/- The document's own text of a set. -/
import Derived.Test.YtcpakcffiopfjaaGreatDoorA3
import Derived.Test.YtcpakcffiopfjaaGreatDoorA4
import Derived.Laws.BytesArg
import Derived.BigQuiet
import Derived.Deep.RegionHeld3
namespace Go.Proofs.YtcpakcffiopfjaaGreatDoor
open Go.RowKit
set_option linter.unusedVariables false
set_option linter.unusedSimpArgs false
set_option maxRecDepth 100000
set_option maxHeartbeats 16000000
set_option linter.unusedVariables false
set_option linter.unusedSimpArgs false
set_option maxRecDepth 100000
set_option maxHeartbeats 16000000
theorem div_pow_succ (x k:Nat):x/2 ^ k/2=x/2 ^ (k+1):=by rw[Nat.pow_succ,Nat.div_div_eq_div_mul]
theorem rem_bit (x k:Nat):((((x/2 ^ k:Nat):Int)%2)==1)=x.testBit k:=by
 rw[Nat.testBit_eq_decide_div_mod_eq]
 generalize x/2 ^ k=y
 rw[Bool.eq_iff_iff];simp;omega
theorem rhas_any (s:St) (n:Nat) (w:World) (hs:s.ok) (hn:n<256) :
  Calls Tryz.prog 173 #[.agg #[.int .u64 s.a,.int .u64 s.b,.int .u64 s.c,.int .u64 s.d],.int .i64 n] w fun e w'=>e=.returned (.bool (s.has n))∧Below w.heap.size w w':=by
 have HB:Hid (((((s.w (n/64)/2 ^ (n%64):Nat):Int)%2)==1)=s.has n):=rem_bit _ _
 have hl:=s.w_lt hs (n/64)
 have g1:decide ((n:Int)<0)=false:=by simp
 have g2:decide ((255:Int)<(n:Int))=false:=by simp;omega
 generalize s.has n=ans at *
 have hq:n/64=0∨n/64=1∨n/64=2∨n/64=3:=by omega
 rcases hq with hq | hq | hq | hq
 ·have hw:s.w (n/64)=s.a:=by rw[hq];rfl
  rw[hw] at HB hl
  generalize hx:s.a=x at *
  have e0:(((n:Int)/64)==0)=true:=by rw[beq_iff_eq];omega
  have e1:(((n:Int)/64)==1)=false:=by rw[beq_eq_false_iff_ne];omega
  have e2:(((n:Int)/64)==2)=false:=by rw[beq_eq_false_iff_ne];omega
  have e3:(((n:Int)/64)==3)=false:=by rw[beq_eq_false_iff_ne];omega
  go_enter Tryz.func173,Tryz.ntmps173
  go_wp2
  go_loop [5,6] (fun v i=>∃k:Nat,k≤n%64∧i=.int .i64 k∧v=.int .u64 (x/2 ^ k:Nat)) (fun _ i=>n%64-(intOf i).toNat)
  case atStart=>exact⟨0,Nat.zero_le _,rfl,by simp⟩
  case round=>
   obtain⟨k,hk,rfl,rfl⟩:=hrel
   have hd:x/2 ^ k<18446744073709551616:=Nat.lt_of_le_of_lt (Nat.div_le_self _ _) hl
   by_cases hlt:k<n%64
   ·have HS:Hid _:=div_pow_succ x k
    generalize x/2 ^ k=y at *
    go_wp2
    go_round
    case rel=>exact⟨k+1,by omega,by go_num,by rw[←HS.out];go_num⟩
    case measure=>simp[intOf];omega
   ·obtain rfl:k=n%64:=by omega
    generalize x/2 ^ (n%64)=y at *
    go_wp2
    go_ret
    exact⟨ret_bool (by rw[←HB.out]),(Below.refl _ _).alloc (Nat.le_refl _) _⟩
 ·have hw:s.w (n/64)=s.b:=by rw[hq];rfl
  rw[hw] at HB hl
  generalize hx:s.b=x at *
  have e0:(((n:Int)/64)==0)=false:=by rw[beq_eq_false_iff_ne];omega
  have e1:(((n:Int)/64)==1)=true:=by rw[beq_iff_eq];omega
  have e2:(((n:Int)/64)==2)=false:=by rw[beq_eq_false_iff_ne];omega
  have e3:(((n:Int)/64)==3)=false:=by rw[beq_eq_false_iff_ne];omega
  go_enter Tryz.func173,Tryz.ntmps173
  go_wp2
  go_loop [5,6] (fun v i=>∃k:Nat,k≤n%64∧i=.int .i64 k∧v=.int .u64 (x/2 ^ k:Nat)) (fun _ i=>n%64-(intOf i).toNat)
  case atStart=>exact⟨0,Nat.zero_le _,rfl,by simp⟩
  case round=>
   obtain⟨k,hk,rfl,rfl⟩:=hrel
   have hd:x/2 ^ k<18446744073709551616:=Nat.lt_of_le_of_lt (Nat.div_le_self _ _) hl
   by_cases hlt:k<n%64
   ·have HS:Hid _:=div_pow_succ x k
    generalize x/2 ^ k=y at *
    go_wp2
    go_round
    case rel=>exact⟨k+1,by omega,by go_num,by rw[←HS.out];go_num⟩
    case measure=>simp[intOf];omega
   ·obtain rfl:k=n%64:=by omega
    generalize x/2 ^ (n%64)=y at *
    go_wp2
    go_ret
    exact⟨ret_bool (by rw[←HB.out]),(Below.refl _ _).alloc (Nat.le_refl _) _⟩
 ·have hw:s.w (n/64)=s.c:=by rw[hq];rfl
  rw[hw] at HB hl
  generalize hx:s.c=x at *
  have e0:(((n:Int)/64)==0)=false:=by rw[beq_eq_false_iff_ne];omega
  have e1:(((n:Int)/64)==1)=false:=by rw[beq_eq_false_iff_ne];omega
  have e2:(((n:Int)/64)==2)=true:=by rw[beq_iff_eq];omega
  have e3:(((n:Int)/64)==3)=false:=by rw[beq_eq_false_iff_ne];omega
  go_enter Tryz.func173,Tryz.ntmps173
  go_wp2
  go_loop [5,6] (fun v i=>∃k:Nat,k≤n%64∧i=.int .i64 k∧v=.int .u64 (x/2 ^ k:Nat)) (fun _ i=>n%64-(intOf i).toNat)
  case atStart=>exact⟨0,Nat.zero_le _,rfl,by simp⟩
  case round=>
   obtain⟨k,hk,rfl,rfl⟩:=hrel
   have hd:x/2 ^ k<18446744073709551616:=Nat.lt_of_le_of_lt (Nat.div_le_self _ _) hl
   by_cases hlt:k<n%64
   ·have HS:Hid _:=div_pow_succ x k
    generalize x/2 ^ k=y at *
    go_wp2
    go_round
    case rel=>exact⟨k+1,by omega,by go_num,by rw[←HS.out];go_num⟩
    case measure=>simp[intOf];omega
   ·obtain rfl:k=n%64:=by omega
    generalize x/2 ^ (n%64)=y at *
    go_wp2
    go_ret
    exact⟨ret_bool (by rw[←HB.out]),(Below.refl _ _).alloc (Nat.le_refl _) _⟩
 ·have hw:s.w (n/64)=s.d:=by rw[hq];rfl
  rw[hw] at HB hl
  generalize hx:s.d=x at *
  have e0:(((n:Int)/64)==0)=false:=by rw[beq_eq_false_iff_ne];omega
  have e1:(((n:Int)/64)==1)=false:=by rw[beq_eq_false_iff_ne];omega
  have e2:(((n:Int)/64)==2)=false:=by rw[beq_eq_false_iff_ne];omega
  have e3:(((n:Int)/64)==3)=true:=by rw[beq_iff_eq];omega
  go_enter Tryz.func173,Tryz.ntmps173
  go_wp2
  go_loop [5,6] (fun v i=>∃k:Nat,k≤n%64∧i=.int .i64 k∧v=.int .u64 (x/2 ^ k:Nat)) (fun _ i=>n%64-(intOf i).toNat)
  case atStart=>exact⟨0,Nat.zero_le _,rfl,by simp⟩
  case round=>
   obtain⟨k,hk,rfl,rfl⟩:=hrel
   have hd:x/2 ^ k<18446744073709551616:=Nat.lt_of_le_of_lt (Nat.div_le_self _ _) hl
   by_cases hlt:k<n%64
   ·have HS:Hid _:=div_pow_succ x k
    generalize x/2 ^ k=y at *
    go_wp2
    go_round
    case rel=>exact⟨k+1,by omega,by go_num,by rw[←HS.out];go_num⟩
    case measure=>simp[intOf];omega
   ·obtain rfl:k=n%64:=by omega
    generalize x/2 ^ (n%64)=y at *
    go_wp2
    go_ret
    exact⟨ret_bool (by rw[←HB.out]),(Below.refl _ _).alloc (Nat.le_refl _) _⟩
theorem rhas_out (s:St) (n:Int) (w:World) (h:n<0∨255<n) :
  Calls Tryz.prog 173 #[.agg #[.int .u64 s.a,.int .u64 s.b,.int .u64 s.c,.int .u64 s.d],.int .i64 n] w fun e w'=>e=.returned (.bool false)∧Below w.heap.size w w':=by
 by_cases h1:n<0
 ·go_enter Tryz.func173,Tryz.ntmps173
  go_wp2
  go_ret
  exact⟨rfl,(Below.refl _ _).alloc (Nat.le_refl _) _⟩
 ·have h2:255<n:=by omega
  have g1:decide (n<0)=false:=by simp;omega
  go_enter Tryz.func173,Tryz.ntmps173
  go_wp2
  go_ret
  exact⟨rfl,(Below.refl _ _).alloc (Nat.le_refl _) _⟩
def ext (s:St):Nat→Nat→Nat
 | 0,k=>k
 | f+1,k=>if s.has (k+1) then ext s f (k+1) else k
def prevB (s:St) (k:Nat):Bool:=decide (0<k)&&s.has (k-1)
def refTo (s:St):Nat→List (Nat×Nat)
 | 0=>[]
 | k+1=>if s.has k&&!prevB s k then refTo s k++[(k,ext s (255-k) k)] else refTo s k
theorem refTo_len (s:St):∀k,(refTo s k).length≤k
 | 0=>Nat.le_refl _
 | k+1=>by have:=refTo_len s k;unfold refTo;split<;>simp<;>omega
theorem ext_step (s:St) (h:Nat) (h1:h<255) (hh:s.has (h+1)=true):ext s (255-h) h=ext s (255-(h+1)) (h+1):=by
 rw[show 255-h=(255-(h+1))+1 from by omega];simp[ext,hh]
theorem ext_stop (s:St) (h:Nat) (h1:h<255) (hh:s.has (h+1)=false):ext s (255-h) h=h:=by
 rw[show 255-h=(255-(h+1))+1 from by omega];simp[ext,hh]
theorem ext_end (s:St):ext s (255-255) 255=255:=rfl
theorem rruns_any (s:St) (hs:s.ok) (w:World) :
  Calls Tryz.prog 127 #[.agg #[.int .u64 s.a,.int .u64 s.b,.int .u64 s.c,.int .u64 s.d]] w fun e w'=>∃v,e=.returned v∧w'.ownsRow w.heap.size 121 2 v (refTo s 256).length (rcells (refTo s 256))∧Below w.heap.size w w':=by
 obtain⟨i0,hi0,hz0,hz1,hz2⟩:=info_parts info46
 have b0:=SBox.new s w
 have hB0:Below w.heap.size w (w.alloc (.cells #[.int .u64 s.a,.int .u64 s.b,.int .u64 s.c,.int .u64 s.d] 49)):=(Below.refl _ _).alloc (Nat.le_refl _) _
 go_enter Tryz.func127,Tryz.ntmps127
 go_wp2
 go_loopw[3,4] (fun v i wr=>∃k:Nat,k≤256∧i=.int .i64 k∧wr.ownsRow w.heap.size 121 2 v (refTo s k).length (rcells (refTo s k))∧SBox s w.heap.size wr∧Below w.heap.size w wr) (fun _ i _=>256-(intOf i).toNat)
 case atStart=>exact⟨0,by omega,rfl,World.ownsRow_nil _ _ _ _,b0,hB0⟩
 case round=>
  obtain⟨k,hk,rfl,hrow,hbx,hB⟩:=hrel
  clear b0 hB0
  obtain⟨e0,e1,e2,e3⟩:=hbx.cells
  by_cases hlt:k<256
  ·have HH:Hid _:=fun w=>rhas_any s k w hs hlt
   have hlen:=refTo_len s k
   have HP:Hid (∀w,Calls Tryz.prog 173 #[.agg #[.int .u64 s.a,.int .u64 s.b,.int .u64 s.c,.int .u64 s.d],.int .i64 ((k:Int)-1)] w fun e w'=>e=.returned (.bool (prevB s k))∧Below w.heap.size w w'):=by
    intro w
    cases k with
    | zero=>exact rhas_out s _ w (.inl (by decide))
    | succ m=>
     have e:(((m+1:Nat):Int)-1)=(m:Int):=by omega
     have e':prevB s (m+1)=s.has m:=by simp[prevB]
     rw[e,e']
     exact rhas_any s m w hs (by omega)
   cases hh:s.has k with
   | false=>
    rw[hh] at HH
    have EY:Hid (refTo s (k+1)=refTo s k):=by show _=_;simp[refTo,hh]
    clear hh HP
    go_wp2_with (go_at_call 173;refine (HH.out _).mono ?_)
    rintro e w1 ⟨rfl,hb1⟩
    have hrow1:=row_below hrow hb1
    have hbx1:=hbx.below hb1
    have hB1:=below_of hB hb1
    go_wp2
    exact⟨⟨k+1,by omega,by go_num,by rw[EY.out];exact hrow1,hbx1,hB1⟩,by simp[intOf];omega⟩
   | true=>
    rw[hh] at HH
    cases hp:prevB s k with
    | true=>
     rw[hp] at HP
     have EY:Hid (refTo s (k+1)=refTo s k):=by show _=_;simp[refTo,hp]
     clear hh hp
     go_wp2_with (go_at_call 173;refine (HH.out _).mono ?_)
     rintro e w1 ⟨rfl,hb1⟩
     have hrow1:=row_below hrow hb1
     have hbx1:=hbx.below hb1
     have hB1:=below_of hB hb1
     obtain⟨e0,e1,e2,e3⟩:=hbx1.cells
     go_wp2_with (go_at_call 173;refine (HP.out _).mono ?_)
     rintro e w2 ⟨rfl,hb2⟩
     have hrow2:=row_below hrow1 hb2
     have hbx2:=hbx1.below hb2
     have hB2:=below_of hB1 hb2
     go_wp2
     exact⟨⟨k+1,by omega,by go_num,by rw[EY.out];exact hrow2,hbx2,hB2⟩,by simp[intOf];omega⟩
    | false=>
     rw[hp] at HP
     have EY:Hid (refTo s (k+1)=refTo s k++[(k,ext s (255-k) k)]):=by show _=_;simp[refTo,hh,hp]
     clear hh hp
     go_wp2_with (go_at_call 173;refine (HH.out _).mono ?_)
     rintro e w1 ⟨rfl,hb1⟩
     have hrow1:=row_below hrow hb1
     have hbx1:=hbx.below hb1
     have hB1:=below_of hB hb1
     obtain⟨e0,e1,e2,e3⟩:=hbx1.cells
     go_wp2_with (go_at_call 173;refine (HP.out _).mono ?_)
     rintro e w2 ⟨rfl,hb2⟩
     have hrow2:=row_below hrow1 hb2
     have hbx2:=hbx1.below hb2
     have hB2:=below_of hB1 hb2
     clear hrow hbx hB hb1 hrow1 hbx1 hB1 hb2 e0 e1 e2 e3 HH HP
     obtain⟨E,hE⟩:∃E,ext s (255-k) k=E:=⟨_,rfl⟩
     rw[hE] at EY
     have HE:=hHi hE
     clear hE
     go_wp2
     go_loopw[5] (fun h wi=>∃j:Nat,j≤255∧h=.int .i64 j∧ext s (255-j) j=E∧wi.ownsRow w.heap.size 121 2 u3 (refTo s k).length (rcells (refTo s k))∧SBox s w.heap.size wi∧Below w.heap.size w wi) (fun h _=>256-(intOf h).toNat)
     case atStart=>exact⟨k,by omega,rfl,HE.out,hrow2,hbx2,hB2⟩
     case round=>
      clear hrow2 hbx2 hB2 HE
      obtain⟨j,hj,rfl,hE,hrow,hbx,hB⟩:=hrel
      obtain⟨e0,e1,e2,e3⟩:=hbx.cells
      obtain⟨nx,HN,hT,hF⟩:∃nx:Bool,(∀w,Calls Tryz.prog 173 #[.agg #[.int .u64 s.a,.int .u64 s.b,.int .u64 s.c,.int .u64 s.d],.int .i64 ((j:Int)+1)] w fun e w'=>e=.returned (.bool nx)∧Below w.heap.size w w')∧(nx=true→j<255∧ext s (255-(j+1)) (j+1)=E)∧(nx=false→E=j):=by
       by_cases hj5:j=255
       ·subst hj5
        exact⟨false,fun w=>rhas_out s _ w (.inr (by decide)),fun h=>(by cases h),fun _=>hE.symm.trans (ext_end s)⟩
       ·refine⟨s.has (j+1),fun w=>?_,fun h=>⟨by omega,by rw[←ext_step s j (by omega) h];exact hE⟩,fun h=>by rw[←hE];exact ext_stop s j (by omega) h⟩
        have:=rhas_any s (j+1) w hs (by omega)
        rw[show (((j+1:Nat)):Int)=(j:Int)+1 from by omega] at this
        exact this
      have HN':Hid _:=HN
      clear HN hE
      cases nx with
      | true=>
       obtain⟨h5,hE'⟩:=hT rfl
       have HE':Hid _:=hE'
       clear hT hF hE'
       go_wp2_with (go_at_call 173;refine (HN'.out _).mono ?_)
       rintro e w3 ⟨rfl,hb3⟩
       have hrow3:=row_below hrow hb3
       have hbx3:=hbx.below hb3
       have hB3:=below_of hB hb3
       go_wp2
       exact⟨⟨j+1,by omega,by go_num,HE'.out,hrow3,hbx3,hB3⟩,by simp[intOf];omega⟩
      | false=>
       have hEj:Hid _:=hF rfl
       clear hT hF
       go_wp2_with (go_at_call 173;refine (HN'.out _).mono ?_)
       rintro e w3 ⟨rfl,hb3⟩
       have hrow3:=row_below hrow hb3
       have hbx3:=hbx.below hb3
       have hB3:=below_of hB hb3
       go_wp2_with (at_builtin;refine wpList_append_own _ rfl _ _ 118 rfl w.heap.size 121 i0 (.agg #[.int .i64 0,.int .i64 0]) 2 16 Tryz.underlying118 hi0 hz0 hz1 hz2 rfl (by decide) _ _ _ rfl (hrow3.alloc _) ⟨w3.heap.size,0,none⟩ 1 1 [.int .i64 k,.int .i64 j] rfl rfl ?c1 ?c2 ?c3 ?c4 ?c5 ?_)
       case c1=>exact two_new _ _ _ _
       case c2=>intro u hu;simp at hu;rcases hu with rfl | rfl<;>rfl
       case c3=>unfold maxLen;omega
       case c4=>omega
       case c5=>have:=hB3.size;simp;omega
       intro v' w4 hown' hgrow _
       have hbx4:=(hbx3.alloc (.cells #[.int .i64 (k:Int),.int .i64 (j:Int)] 121)).kept hgrow (hbx3.not_row (by decide) hrow3)
       have hB4:=(hB3.alloc hB3.size (.cells #[.int .i64 (k:Int),.int .i64 (j:Int)] 121)).grown hgrow (by have:=hB3.size;simp;omega) (fun j hj=>(hrow3.lt j hj).1)
       obtain⟨g',cap',rfl⟩:=ownsRow_succ hown'
       go_wp2
       exact⟨⟨k+1,by omega,by go_num,by rw[EY.out,rcells_snoc,List.length_append,hEj.out];exact hown',hbx4,hB4⟩,by simp[intOf];omega⟩
  ·obtain rfl:k=256:=by omega
   go_wp2
   go_ret
   exact⟨_,rfl,hrow,hB⟩
def specL:List (Nat×Nat):=[(10,110),(9,116),(13,114),(32,115),(91,91),(93,93),(92,92),(45,45),(94,94)]
def spec (n:Nat):Nat:=((specL.find? fun p=>p.1==n).map (·.2)).getD 0
theorem spec_10 (w:World):Calls Tryz.prog 174 #[.int .i64 10] w fun e w'=>e=.returned (.int .u8 110)∧w'=w:=by
 go_enter Tryz.func174,Tryz.ntmps174
 go_wp2
 go_ret
 exact⟨rfl,rfl⟩
theorem spec_9 (w:World):Calls Tryz.prog 174 #[.int .i64 9] w fun e w'=>e=.returned (.int .u8 116)∧w'=w:=by
 go_enter Tryz.func174,Tryz.ntmps174
 go_wp2
 go_ret
 exact⟨rfl,rfl⟩
theorem spec_13 (w:World):Calls Tryz.prog 174 #[.int .i64 13] w fun e w'=>e=.returned (.int .u8 114)∧w'=w:=by
 go_enter Tryz.func174,Tryz.ntmps174
 go_wp2
 go_ret
 exact⟨rfl,rfl⟩
theorem spec_32 (w:World):Calls Tryz.prog 174 #[.int .i64 32] w fun e w'=>e=.returned (.int .u8 115)∧w'=w:=by
 go_enter Tryz.func174,Tryz.ntmps174
 go_wp2
 go_ret
 exact⟨rfl,rfl⟩
theorem spec_91 (w:World):Calls Tryz.prog 174 #[.int .i64 91] w fun e w'=>e=.returned (.int .u8 91)∧w'=w:=by
 go_enter Tryz.func174,Tryz.ntmps174
 go_wp2
 go_ret
 exact⟨rfl,rfl⟩
theorem spec_93 (w:World):Calls Tryz.prog 174 #[.int .i64 93] w fun e w'=>e=.returned (.int .u8 93)∧w'=w:=by
 go_enter Tryz.func174,Tryz.ntmps174
 go_wp2
 go_ret
 exact⟨rfl,rfl⟩
theorem spec_92 (w:World):Calls Tryz.prog 174 #[.int .i64 92] w fun e w'=>e=.returned (.int .u8 92)∧w'=w:=by
 go_enter Tryz.func174,Tryz.ntmps174
 go_wp2
 go_ret
 exact⟨rfl,rfl⟩
theorem spec_45 (w:World):Calls Tryz.prog 174 #[.int .i64 45] w fun e w'=>e=.returned (.int .u8 45)∧w'=w:=by
 go_enter Tryz.func174,Tryz.ntmps174
 go_wp2
 go_ret
 exact⟨rfl,rfl⟩
theorem spec_94 (w:World):Calls Tryz.prog 174 #[.int .i64 94] w fun e w'=>e=.returned (.int .u8 94)∧w'=w:=by
 go_enter Tryz.func174,Tryz.ntmps174
 go_wp2
 go_ret
 exact⟨rfl,rfl⟩
theorem spec_none (n:Nat) (w:World) (h:n≠10∧n≠9∧n≠13∧n≠32∧n≠91∧n≠93∧n≠92∧n≠45∧n≠94):Calls Tryz.prog 174 #[.int .i64 n] w fun e w'=>e=.returned (.int .u8 0)∧w'=w:=by
 have e10:((n:Int)==10)=false:=by rw[beq_eq_false_iff_ne];omega
 have e9:((n:Int)==9)=false:=by rw[beq_eq_false_iff_ne];omega
 have e13:((n:Int)==13)=false:=by rw[beq_eq_false_iff_ne];omega
 have e32:((n:Int)==32)=false:=by rw[beq_eq_false_iff_ne];omega
 have e91:((n:Int)==91)=false:=by rw[beq_eq_false_iff_ne];omega
 have e93:((n:Int)==93)=false:=by rw[beq_eq_false_iff_ne];omega
 have e92:((n:Int)==92)=false:=by rw[beq_eq_false_iff_ne];omega
 have e45:((n:Int)==45)=false:=by rw[beq_eq_false_iff_ne];omega
 have e94:((n:Int)==94)=false:=by rw[beq_eq_false_iff_ne];omega
 clear h
 go_enter Tryz.func174,Tryz.ntmps174
 go_wp2
 go_ret
 exact⟨rfl,rfl⟩
theorem spec_zero:∀n:Fin 256,(n.val≠10∧n.val≠9∧n.val≠13∧n.val≠32∧n.val≠91∧n.val≠93∧n.val≠92∧n.val≠45∧n.val≠94)→spec n.val=0:=by decide +kernel
theorem spec_any (n:Nat) (w:World) (hn:n<256):Calls Tryz.prog 174 #[.int .i64 n] w fun e w'=>e=.returned (.int .u8 (spec n:Nat))∧w'=w:=by
 by_cases h10:n=10
 ·subst h10;exact spec_10 w
 by_cases h9:n=9
 ·subst h9;exact spec_9 w
 by_cases h13:n=13
 ·subst h13;exact spec_13 w
 by_cases h32:n=32
 ·subst h32;exact spec_32 w
 by_cases h91:n=91
 ·subst h91;exact spec_91 w
 by_cases h93:n=93
 ·subst h93;exact spec_93 w
 by_cases h92:n=92
 ·subst h92;exact spec_92 w
 by_cases h45:n=45
 ·subst h45;exact spec_45 w
 by_cases h94:n=94
 ·subst h94;exact spec_94 w
 have h:n≠10∧n≠9∧n≠13∧n≠32∧n≠91∧n≠93∧n≠92∧n≠45∧n≠94:=⟨h10,h9,h13,h32,h91,h93,h92,h45,h94⟩
 have:=spec_zero ⟨n,hn⟩ h
 simp only at this
 rw[this]
 exact spec_none n w h
theorem sign_cases:∀n:Fin 256,(spec n.val≠0→spec n.val<256∧signL n.val=[92,UInt8.ofNat (spec n.val)])∧(spec n.val=0→32<n.val→n.val<127→signL n.val=[UInt8.ofNat n.val])∧(spec n.val=0→¬(32<n.val∧n.val<127)→signL n.val=[92,120,hexd (n.val/16),hexd (n.val%16)]):=by decide +kernel
theorem conv2 (x y:Nat) (W:World):(convert 67 9 (.slice (some ⟨W.heap.size,0,none⟩) 2 2)).run Tryz.prog (W.alloc (.cells #[.int .u8 x,.int .u8 y] 5))=.ok (.string ⟨#[UInt8.ofNat x,UInt8.ofNat y]⟩) (W.alloc (.cells #[.int .u8 x,.int .u8 y] 5)):=by
 rw[run_convert_bytes_arg _ 67 5 Tryz.underlying67 Tryz.underlying5 W.heap.size 0 2 2 [(x:Int),(y:Int)] rfl (fun i hi=>by
  match i,hi with
  | 0,_=>simp
  | 1,_=>simp) 9 Tryz.underlying9]
 simp[strOfNums]
theorem conv1 (x:Nat) (W:World):(convert 67 9 (.slice (some ⟨W.heap.size,0,none⟩) 1 1)).run Tryz.prog (W.alloc (.cells #[.int .u8 x] 5))=.ok (.string ⟨#[UInt8.ofNat x]⟩) (W.alloc (.cells #[.int .u8 x] 5)):=by
 rw[run_convert_bytes_arg _ 67 5 Tryz.underlying67 Tryz.underlying5 W.heap.size 0 1 1 [(x:Int)] rfl (fun i hi=>by
  match i,hi with
  | 0,_=>simp) 9 Tryz.underlying9]
 simp[strOfNums]
theorem conv4d (x y:Nat) (W:World):(convert 67 9 (.slice (some ⟨W.heap.size,0,none⟩) 4 4)).run Tryz.prog (W.alloc (.cells #[.int .u8 92,.int .u8 120,.int .u8 (x:Int),.int .u8 (y:Int)] 5)).drew=.ok (.string ⟨#[92,120,UInt8.ofNat x,UInt8.ofNat y]⟩) (W.alloc (.cells #[.int .u8 92,.int .u8 120,.int .u8 (x:Int),.int .u8 (y:Int)] 5)).drew:=by
 rw[run_convert_bytes_arg _ 67 5 Tryz.underlying67 Tryz.underlying5 W.heap.size 0 4 4 [(92:Int),120,(x:Int),(y:Int)] rfl (fun i hi=>by
  match i,hi with
  | 0,_=>simp
  | 1,_=>simp
  | 2,_=>simp
  | 3,_=>simp) 9 Tryz.underlying9]
 simp[strOfNums]
theorem dig16:∀k:Fin 16,UInt8.ofNat ((⟨#[48,49,50,51,52,53,54,55,56,57,97,98,99,100,101,102]⟩:ByteArray)[k.val]'(k.isLt)).toNat=hexd k.val:=by decide +kernel
theorem dig16n (k:Nat) (h:k<16):UInt8.ofNat ((⟨#[48,49,50,51,52,53,54,55,56,57,97,98,99,100,101,102]⟩:ByteArray)[k]'h).toNat=hexd k:=dig16 ⟨k,h⟩
theorem rsign_any (n:Nat) (w:World) (hn:n<256):Calls Tryz.prog 128 #[.int .i64 n] w fun e w'=>e=.returned (.string ⟨(signL n).toArray⟩)∧Below w.heap.size w w':=by
 obtain⟨k1,k2,k3⟩:=sign_cases ⟨n,hn⟩
 simp only at k1 k2 k3
 have HS:Hid _:=fun w=>spec_any n w hn
 by_cases h0:spec n=0
 ·rw[h0] at HS
  by_cases h1:32<n∧n<127
  ·have HT:Hid _:=k2 h0 h1.1 h1.2
   clear k1 k2 k3 h0
   obtain⟨g1,g2⟩:=h1
   have cv:=fun W=>conv1 n W
   go_enter Tryz.func128,Tryz.ntmps128
   go_wp2_with (go_at_call 174;refine (HS.out _).mono ?_;rintro e w1 ⟨rfl,rfl⟩)
   go_ret
   exact⟨ret_str (by rw[HT.out]),(Below.refl _ _).alloc (Nat.le_refl _) _⟩
  ·have HT:Hid _:=k3 h0 h1
   clear k1 k2 k3 h0
   have q1:(0:Int)≤(n:Int)/16:=by omega
   have q2:(n:Int)/16<16:=by omega
   have q3:(0:Int)≤(n:Int)%16:=by omega
   have q4:(n:Int)%16<16:=by omega
   have q5:n/16<16:=by omega
   have q6:n%16<16:=by omega
   have H1:Hid _:=dig16n (n/16) q5
   have H2:Hid _:=dig16n (n%16) q6
   have cv:∀(W:World) (x y:Nat),(convert 67 9 (.slice (some ⟨W.heap.size,0,none⟩) 4 4)).run Tryz.prog (W.alloc (.cells #[.int .u8 92,.int .u8 120,.int .u8 (x:Int),.int .u8 (y:Int)] 5)).drew=.ok (.string ⟨#[92,120,UInt8.ofNat x,UInt8.ofNat y]⟩) (W.alloc (.cells #[.int .u8 92,.int .u8 120,.int .u8 (x:Int),.int .u8 (y:Int)] 5)).drew:=fun W x y=>conv4d x y W
   go_enter Tryz.func128,Tryz.ntmps128
   go_wp2_with (go_at_call 174;refine (HS.out _).mono ?_;rintro e w1 ⟨rfl,rfl⟩)
   all_goals go_region
   all_goals go_wp2
   all_goals go_ret
   all_goals refine⟨ret_str (by rw[HT.out,←H1.out,←H2.out];simp),((Below.refl _ _).alloc (Nat.le_refl _) _).drew⟩
 ·obtain⟨hs1,hs2⟩:=k1 h0
  have HT:=hHi hs2
  have hne:(((spec n:Nat):Int) != 0)=true:=by rw[bne_iff_ne];omega
  clear k1 k2 k3 h0 hs2
  generalize spec n=k at *
  have cv:∀W:World,(convert 67 9 (.slice (some ⟨W.heap.size,0,none⟩) 2 2)).run Tryz.prog (W.alloc (.cells #[.int .u8 92,.int .u8 (k:Int)] 5))=.ok (.string ⟨#[92,UInt8.ofNat k]⟩) (W.alloc (.cells #[.int .u8 92,.int .u8 (k:Int)] 5)):=fun W=>conv2 92 k W
  go_enter Tryz.func128,Tryz.ntmps128
  go_wp2_with (go_at_call 174;refine (HS.out _).mono ?_;rintro e w1 ⟨rfl,rfl⟩)
  go_ret
  exact⟨ret_str (by rw[HT.out]),(Below.refl _ _).alloc (Nat.le_refl _) _⟩
theorem ext_ge (s:St):∀f k,k≤ext s f k
 | 0,_=>Nat.le_refl _
 | f+1,k=>by
  unfold ext;split
  ·have:=ext_ge s f (k+1);omega
  ·exact Nat.le_refl _
theorem ext_le (s:St):∀f k,ext s f k≤k+f
 | 0,_=>Nat.le_refl _
 | f+1,k=>by
  unfold ext;split
  ·have:=ext_le s f (k+1);omega
  ·omega
theorem ext_has (s:St):∀f k m,k<m→m≤ext s f k→s.has m=true
 | 0,k,m,h1,h2=>by unfold ext at h2;omega
 | f+1,k,m,h1,h2=>by
  unfold ext at h2
  split at h2
  ·next hh=>
   by_cases e:m=k+1
   ·subst e;exact hh
   ·exact ext_has s f (k+1) m (by omega) h2
  ·omega
theorem ext_max (s:St):∀f k,ext s f k<k+f→s.has (ext s f k+1)=false
 | 0,k,h=>by unfold ext at h;omega
 | f+1,k,h=>by
  unfold ext at h ⊢
  split at h
  ·next hh=>rw[if_pos hh];exact ext_max s f (k+1) (by omega)
  ·next hh=>rw[if_neg hh];simpa using hh
theorem ref_mem (s:St):∀k,∀p∈refTo s k,p.1<k∧p.2=ext s (255-p.1) p.1
 | 0,p,hp=>by simp[refTo] at hp
 | k+1,p,hp=>by
  unfold refTo at hp
  split at hp
  ·rcases List.mem_append.1 hp with h | h
   ·have:=ref_mem s k p h;exact⟨by omega,this.2⟩
   ·simp at h;subst h;exact⟨by simp,rfl⟩
  ·have:=ref_mem s k p hp;exact⟨by omega,this.2⟩
def QQ (s:St) (k:Nat):Prop:=
 (prevB s k=true∧∃init lo E,refTo s k=init++[(lo,E)]∧k≤E+1∧∀p∈init,p.2+1<k)∨(prevB s k=false∧∀p∈refTo s k,p.2+1<k)
theorem prev_succ (s:St) (k:Nat):prevB s (k+1)=s.has k:=by simp[prevB]
theorem ref_no (s:St) (k:Nat) (h:s.has k=false):refTo s (k+1)=refTo s k:=by simp[refTo,h]
theorem ref_on (s:St) (k:Nat) (h:prevB s k=true):refTo s (k+1)=refTo s k:=by simp[refTo,h]
theorem ref_new (s:St) (k:Nat) (h:s.has k=true) (h':prevB s k=false):refTo s (k+1)=refTo s k++[(k,ext s (255-k) k)]:=by simp[refTo,h,h']
theorem qq (s:St):∀k,k≤256→QQ s k
 | 0,_=>.inr ⟨by simp[prevB],fun p hp=>by simp[refTo] at hp⟩
 | k+1,hk=>by
  have ih:=qq s k (by omega)
  cases hh:s.has k with
  | false=>
   refine .inr ⟨by rw[prev_succ,hh],fun p hp=>?_⟩
   rw[ref_no s k hh] at hp
   obtain⟨m1,m2⟩:=ref_mem s k p hp
   rcases Nat.lt_or_ge p.2 k with h | h
   ·omega
   ·have:=ext_has s (255-p.1) p.1 k m1 (by rw[←m2];exact h)
    rw[hh] at this;cases this
  | true=>
   refine .inl ⟨by rw[prev_succ,hh],?_⟩
   rcases ih with ⟨hp,init,lo,E,he,hE,hi⟩ | ⟨hp,hi⟩
   ·rw[ref_on s k hp]
    refine⟨init,lo,E,he,?_,fun p h=>by have:=hi p h;omega⟩
    obtain⟨m1,m2⟩:=ref_mem s k (lo,E) (by rw[he];simp)
    simp only at m1 m2
    rcases Nat.lt_or_ge E k with h | h
    ·exfalso
     have e:E+1=k:=by omega
     have:=ext_max s (255-lo) lo (by rw[←m2];omega)
     rw[←m2,e,hh] at this;cases this
    ·omega
   ·rw[ref_new s k hh hp]
    exact⟨refTo s k,k,ext s (255-k) k,rfl,by have:=ext_ge s (255-k) k;omega,fun p h=>by have:=hi p h;omega⟩
theorem map_min {l:List (Nat×Nat)} {a b:Nat} (h:∀p∈l,p.2≤a∧p.2≤b):l.map (fun p=>(p.1,min p.2 a))=l.map (fun p=>(p.1,min p.2 b)):=by
 apply List.map_congr_left
 intro p hp
 have:=h p hp
 rw[Nat.min_eq_left this.1,Nat.min_eq_left this.2]
theorem runs_ref (s:St):∀k,k≤256→runsOf (upTo s k)=(refTo s k).map (fun p=>(p.1,min p.2 (k-1)))
 | 0,_=>by simp[upTo,runsOf,refTo]
 | k+1,hk=>by
  have ih:=runs_ref s k (by omega)
  have hv:(Fin.ofNat 256 k).val=k:=by simp[Fin.ofNat];omega
  have q0:=qq s k (by omega)
  rw[Nat.add_sub_cancel]
  cases hh:s.has k with
  | false=>
   rw[upTo_no hh,ref_no s k hh,ih]
   apply map_min
   intro p hp
   have q1:=qq s (k+1) hk
   rcases q1 with ⟨h,_⟩ | ⟨_,h⟩
   ·rw[prev_succ,hh] at h;cases h
   ·rw[ref_no s k hh] at h
    have:=h p hp;omega
  | true=>
   rw[upTo_yes hh,runsOf_snoc,hv,ih]
   rcases q0 with ⟨hp,init,lo,E,he,hE,hi⟩ | ⟨hp,hi⟩
   ·rw[ref_on s k hp,he,List.map_append,List.map_append,List.map_singleton,List.map_singleton]
    have hk0:0<k:=by
     rcases Nat.eq_zero_or_pos k with h | h
     ·subst h;simp[prevB] at hp
     ·exact h
    have hEk:k≤E:=by
     rcases qq s (k+1) hk with ⟨_,init',lo',E',he',hE',_⟩ | ⟨h,_⟩
     ·rw[ref_on s k hp,he] at he'
      have:=List.append_inj_right' he' rfl
      simp at this
      omega
     ·rw[prev_succ,hh] at h;cases h
    rw[Nat.min_eq_right (by omega:k-1≤E),Nat.min_eq_right hEk,runStep_on _ _ _ _ (by omega)]
    congr 1
    apply map_min
    intro p h
    have:=hi p h;omega
   ·rw[ref_new s k hh hp,List.map_append,List.map_singleton,Nat.min_eq_right (ext_ge s _ k)]
    have hm:(refTo s k).map (fun p=>(p.1,min p.2 (k-1)))=(refTo s k).map (fun p=>(p.1,min p.2 k)):=map_min (fun p h=>by have:=hi p h;omega)
    rw[←hm]
    rcases List.eq_nil_or_concat (refTo s k) with h | ⟨l,⟨a,b⟩,h⟩
    ·rw[h];rfl
    ·rw[List.concat_eq_append] at h
     rw[h,List.map_append,List.map_singleton]
     have:=hi (a,b) (by rw[h];simp)
     simp only at this
     rw[runStep_off _ _ _ _ (by rw[Nat.min_eq_left (by omega)];omega)]
theorem runs_eq (s:St):refTo s 256=runsOf (upTo s 256):=by
 rw[runs_ref s 256 (Nat.le_refl _)]
 symm
 have:∀p∈refTo s 256,(p.1,min p.2 (256-1))=p:=by
  intro p hp
  obtain⟨m1,m2⟩:=ref_mem s 256 p hp
  have:=ext_le s (255-p.1) p.1
  rw[Nat.min_eq_left (by omega)]
 rw[List.map_congr_left this];simp
theorem cat_eq (l m:List UInt8):(⟨l.toArray⟩:ByteArray)++⟨m.toArray⟩=⟨(l++m).toArray⟩:=by
 apply ByteArray.ext;simp[ByteArray.data_append]
theorem cat_run (l m:List UInt8) (h:l.length+m.length≤100000) (W:World):(Op.stringOp .add ⟨l.toArray⟩ ⟨m.toArray⟩).run Tryz.prog W=.ok (.string ⟨(l++m).toArray⟩) W:=by
 rw[run_string_add_sum W _ _ (by simp[ByteArray.size];omega),cat_eq]
theorem rprint_any (s:St) (hs:s.ok) (w:World) :
  Calls Tryz.prog 75 #[.agg #[.int .u64 s.a,.int .u64 s.b,.int .u64 s.c,.int .u64 s.d]] w fun e w'=>e=.returned (.string ⟨(printL s).toArray⟩)∧Below w.heap.size w w':=by
 have hsm:=(runs_small s 256 (Nat.le_refl _)).1
 have hcnt:=runs_count s
 have HR:Hid _:=fun w=>rruns_any s hs w
 have HP:Hid (printL s=textL (runsOf (upTo s 256))++[93]):=rfl
 rw[runs_eq] at HR
 generalize runsOf (upTo s 256)=rs at *
 have b0:=SBox.new s w
 have hB0:Below w.heap.size w (w.alloc (.cells #[.int .u64 s.a,.int .u64 s.b,.int .u64 s.c,.int .u64 s.d] 49)):=(Below.refl _ _).alloc (Nat.le_refl _) _
 go_enter Tryz.func75,Tryz.ntmps75
 go_wp2_with (go_at_call 127;refine (HR.out _).mono ?_)
 rintro e w2 ⟨v,rfl,hrow,hb2⟩
 have hB2:=below_of hB0 hb2
 rcases hrow.2 with ⟨rfl,hn⟩ | ⟨g,cap,cur,rfl,hgb,hg2,_,_,_,htk⟩
 ·obtain rfl:rs=[]:=List.length_eq_zero_iff.1 hn
  clear HR b0 hB0 hrow hb2 hsm hcnt
  go_wp2
  refine wp_loop_rounds 1 ?_
  rw[rounds_succ]
  go_wp2
  go_ret
  refine⟨ret_str (by rw[HP.out];rfl),hB2⟩
 ·have HROW:Hid _:=fun k hk=>row_get htk k hk
  clear htk HR b0 hB0 hrow hb2
  go_wp2
  go_loopw[3,5] (fun t i wr=>∃k:Nat,k≤rs.length∧i=.int .i64 k∧t=.string ⟨(textL (rs.take k)).toArray⟩∧wr.heap[g]?=some (.cells cur 121 (0,0))∧Below w.heap.size w wr) (fun _ i _=>rs.length-(intOf i).toNat)
  case atStart=>exact⟨0,by omega,rfl,rfl,hg2,hB2⟩
  case round=>
   obtain⟨k,hk,rfl,rfl,hg,hB⟩:=hrel
   clear hg2 hB2
   by_cases hlt:k<rs.length
   ·obtain⟨r1,r2⟩:=HROW.out k hlt
    have q1:=cellAt46 hg r1
    have q2:=cellAt46 hg r2
    have hmem:rs.getD k (0,0)∈rs:=by
     rw[List.getD_eq_getElem?_getD,List.getElem?_eq_getElem hlt];exact List.getElem_mem _
    obtain⟨s1,s2,s3⟩:=hsm _ hmem
    have HT:Hid (textL (rs.take (k+1))=textL (rs.take k)++itemL (rs.getD k (0,0))):=by
     show _=_
     rw[List.take_succ_eq_append_getElem hlt,textL_snoc]
     simp[List.getD_eq_getElem?_getD,List.getElem?_eq_getElem hlt]
    have hlen:(textL (rs.take k)).length≤1+9*k:=by
     have:=text_le (rs.take k) (fun r hr=>⟨(hsm r (List.mem_of_mem_take hr)).1,(hsm r (List.mem_of_mem_take hr)).2.1⟩)
     rw[List.length_take] at this;omega
    clear hmem
    generalize rs.getD k (0,0)=r at *
    obtain⟨lo,hi⟩:=r
    simp only at *
    generalize textL (rs.take k)=l at *
    have SL:Hid _:=fun w=>rsign_any lo w s1
    go_wp2_with (go_at_call 128;refine (SL.out _).mono ?_)
    rintro e w3 ⟨rfl,hb3⟩
    have hg3:=(hb3.block g (heap_lt hg)).trans hg
    have hB3:=below_of hB hb3
    have q1:=cellAt46 hg3 r1
    have q2:=cellAt46 hg3 r2
    clear hb3 SL
    have p2:=sign_le lo s1
    have cat1:=cat_run l (signL lo) (by omega)
    obtain⟨l1,hl1⟩:∃l1,l++signL lo=l1:=⟨_,rfl⟩
    have len1:l1.length≤1+9*k+4:=by rw[←hl1];simp;omega
    have HL1:=hHi hl1
    rw[hl1] at cat1
    clear hl1
    by_cases h1:lo<hi
    ·have SH:Hid _:=fun w=>rsign_any hi w s2
     have g2:((hi:Int) != (lo:Int))=true:=by rw[bne_iff_ne];omega
     by_cases h2:lo+1<hi
     ·have g1:decide ((2:Int)≤(hi:Int)-(lo:Int))=true:=by simp;omega
      have HI:Hid (itemL (lo,hi)=signL lo++[UInt8.ofNat 45]++signL hi):=by
       show _=_;unfold itemL;simp only;rw[if_pos h2,if_pos h1];simp
      have p4:=sign_le hi s2
      have cat2:∀W,(Op.stringOp .add ⟨l1.toArray⟩ ⟨#[45]⟩).run Tryz.prog W=.ok (.string ⟨(l1++[45]).toArray⟩) W:=cat_run l1 [45] (by simp;omega)
      obtain⟨l2,hl2⟩:∃l2,l1++[45]=l2:=⟨_,rfl⟩
      have len2:l2.length≤1+9*k+5:=by rw[←hl2];simp;omega
      have HL2:=hHi hl2
      rw[hl2] at cat2
      clear hl2
      have cat3:=cat_run l2 (signL hi) (by omega)
      obtain⟨l3,hl3⟩:∃l3,l2++signL hi=l3:=⟨_,rfl⟩
      have HL3:=hHi hl3
      rw[hl3] at cat3
      clear hl3
      go_wp2
      go_quiet (fail)
      go_wp2
      go_quiet (fail)
      go_wp2_with (go_at_call 128;refine (SH.out _).mono ?_)
      rintro e w4 ⟨rfl,hb4⟩
      have hg4:=(hb4.block g (heap_lt (by simpa using hg3))).trans (by simpa using hg3)
      have hB4:=below_of (below_drewN hB3 _) hb4
      go_wp2
      refine⟨⟨k+1,by omega,by go_num,?_,hg4,hB4⟩,by simp[intOf];omega⟩
      rw[HT.out,HI.out,←HL3.out,←HL2.out,←HL1.out]
      simp
     ·have g1:decide ((2:Int)≤(hi:Int)-(lo:Int))=false:=by simp;omega
      have HI:Hid (itemL (lo,hi)=signL lo++signL hi):=by
       show _=_;unfold itemL;simp only;rw[if_neg h2,if_pos h1];simp
      have p4:=sign_le hi s2
      have cat3:=cat_run l1 (signL hi) (by omega)
      obtain⟨l3,hl3⟩:∃l3,l1++signL hi=l3:=⟨_,rfl⟩
      have HL3:=hHi hl3
      rw[hl3] at cat3
      clear hl3
      go_wp2
      go_quiet (fail)
      go_wp2
      go_quiet (fail)
      go_wp2_with (go_at_call 128;refine (SH.out _).mono ?_)
      rintro e w4 ⟨rfl,hb4⟩
      have hg4:=(hb4.block g (heap_lt (by simpa using hg3))).trans (by simpa using hg3)
      have hB4:=below_of (below_drewN hB3 _) hb4
      go_wp2
      refine⟨⟨k+1,by omega,by go_num,?_,hg4,hB4⟩,by simp[intOf];omega⟩
      rw[HT.out,HI.out,←HL3.out,←HL1.out]
      simp
    ·have g1:decide ((2:Int)≤(hi:Int)-(lo:Int))=false:=by simp;omega
     obtain rfl:hi=lo:=by omega
     have HI:Hid (itemL (hi,hi)=signL hi):=by
      show _=_;unfold itemL;simp only;rw[if_neg (by omega),if_neg h1];simp
     go_wp2
     go_quiet (fail)
     go_wp2
     go_quiet (fail)
     go_wp2
     refine⟨⟨k+1,by omega,by go_num,?_,by simpa using hg3,below_drewN hB3 _⟩,by simp[intOf];omega⟩
     rw[HT.out,HI.out,←HL1.out]
   ·have e:rs.take k=rs:=List.take_of_length_le (by omega)
    rw[e]
    have hlen:(textL rs).length≤1+9*rs.length:=text_le rs (fun r hr=>⟨(hsm r hr).1,(hsm r hr).2.1⟩)
    have cat1:∀W,(Op.stringOp .add ⟨(textL rs).toArray⟩ ⟨#[93]⟩).run Tryz.prog W=.ok (.string ⟨(textL rs++[93]).toArray⟩) W:=cat_run (textL rs) [93] (by simp;omega)
    generalize textL rs=l at *
    obtain⟨l3,hl3⟩:∃l3,l++[93]=l3:=⟨_,rfl⟩
    rw[hl3] at HP cat1
    go_wp2
    go_ret
    exact⟨ret_str (by rw[HP.out]),hB⟩
end Go.Proofs.YtcpakcffiopfjaaGreatDoor
