/- Facts kept out of sight of a walk. Plain facts on sets of bytes as four words, with no program in them: what each operation does bit by bit. Plain facts: the steps of counting a word's bits by masks and sums come to the number of its bits. What the functions that put sets together answer, at every set and in every memory: each call returns, and turns nothing that was there. What Size, Of and the comparison of sets answer, at every input and in every memory: each call returns, and turns nothing that was there. Definitions, plain and in memory. Symbols, follows and rejects held against one another. -/
import Derived.Test.YtcpakcffiopfjaaGreatDoorProg
import Derived.Below
import Derived.WalkKit
import Derived.Laws.BitsAllLaws
import Derived.WalkSpells
import Derived.WalkLawsBesides
import Derived.ProofKit
namespace Go.Proofs.YtcpakcffiopfjaaGreatDoor
open Go.RowKit
set_option linter.unusedVariables false
set_option linter.unusedSimpArgs false
set_option maxRecDepth 100000
set_option maxHeartbeats 16000000
set_option linter.unusedVariables false
set_option linter.unusedSimpArgs false
set_option maxRecDepth 100000
set_option maxHeartbeats 16000000
theorem hHi {p:Prop} (h:p):Hid p:=h
theorem hU {p:Prop} (h:p):Hid (Unit→p):=fun _=>h
theorem hMo {P:Program} {f:Nat} {a:Array Value} {w:World} {Q Q':Ending→World→Prop} (h:Hid (Unit→Calls P f a w Q)) (k:∀e w',Q e w'→Q' e w'):Calls P f a w Q':=(h.out ()).mono k
theorem hcb {w W:World} {B b m:Nat} {l:Nat→Option Value} (hB:Below B w W) (hlt:b<B) (hc:∀i u,l i=some u→w.cell? ⟨b,m+i,none⟩=some u) (i:Nat) (u:Value) (h:l i=some u):W.cell? ⟨b,m+i,none⟩=some u:=(hB.cell (p:=⟨b,m+i,none⟩) hlt).trans (hc i u h)
structure St where
 a:Nat
 b:Nat
 c:Nat
 d:Nat
def St.w (s:St) (i:Nat):Nat:=if i=0 then s.a else if i=1 then s.b else if i=2 then s.c else s.d
def St.ok (s:St):Prop:=s.a<18446744073709551616∧s.b<18446744073709551616∧s.c<18446744073709551616∧s.d<18446744073709551616
theorem St.w_lt (s:St) (h:s.ok) (i:Nat):s.w i<18446744073709551616:=by
 unfold St.w;obtain⟨h1,h2,h3,h4⟩:=h
 split
 ·exact h1
 ·split
  ·exact h2
  ·split
   ·exact h3
   ·exact h4
theorem St.get (s:St) (i:Nat) (h:i<4):[Value.int .u64 s.a,.int .u64 s.b,.int .u64 s.c,.int .u64 s.d][i]?=some (.int .u64 (s.w i:Int)):=by
 match i,h with
 | 0,_=>rfl
 | 1,_=>rfl
 | 2,_=>rfl
 | 3,_=>rfl
def St.has (s:St) (n:Nat):Bool:=(s.w (n/64)).testBit (n%64)
def St.zero:St:=⟨0,0,0,0⟩
def St.or (s t:St):St:=⟨s.a ||| t.a,s.b ||| t.b,s.c ||| t.c,s.d ||| t.d⟩
def St.and (s t:St):St:=⟨s.a &&& t.a,s.b &&& t.b,s.c &&& t.c,s.d &&& t.d⟩
def St.not (s:St):St:=⟨18446744073709551615-s.a,18446744073709551615-s.b,18446744073709551615-s.c,18446744073709551615-s.d⟩
def St.add (s:St) (n:Nat):St:=
 if n/64=0 then { s with a:=s.a ||| 2 ^ (n%64) } else if n/64=1 then { s with b:=s.b ||| 2 ^ (n%64) }
 else if n/64=2 then { s with c:=s.c ||| 2 ^ (n%64) } else { s with d:=s.d ||| 2 ^ (n%64) }
theorem pow_lt64 (k:Nat) (h:k<64):2 ^ k<18446744073709551616:=by
 have:2 ^ k<2 ^ 64:=Nat.pow_lt_pow_right (by omega) h
 simpa using this
theorem or_lt64 {x y:Nat} (hx:x<18446744073709551616) (hy:y<18446744073709551616):x ||| y<18446744073709551616:=
 Nat.or_lt_two_pow (n:=64) hx hy
theorem St.zero_ok:St.zero.ok:=by unfold St.ok St.zero;decide
theorem St.or_ok {s t:St} (hs:s.ok) (ht:t.ok):(s.or t).ok:=
 ⟨or_lt64 hs.1 ht.1,or_lt64 hs.2.1 ht.2.1,or_lt64 hs.2.2.1 ht.2.2.1,or_lt64 hs.2.2.2 ht.2.2.2⟩
theorem St.not_ok (s:St):s.not.ok:=by
 refine⟨?_,?_,?_,?_⟩<;>(simp only[St.not];omega)
theorem St.add_ok {s:St} (hs:s.ok) (n:Nat):(s.add n).ok:=by
 have hp:=pow_lt64 (n%64) (Nat.mod_lt _ (by omega))
 obtain⟨h1,h2,h3,h4⟩:=hs
 unfold St.add
 split
 ·exact⟨or_lt64 h1 hp,h2,h3,h4⟩
 ·split
  ·exact⟨h1,or_lt64 h2 hp,h3,h4⟩
  ·split
   ·exact⟨h1,h2,or_lt64 h3 hp,h4⟩
   ·exact⟨h1,h2,h3,or_lt64 h4 hp⟩
theorem testBit_not64 (x k:Nat) (hx:x<18446744073709551616) (hk:k<64):(18446744073709551615-x).testBit k=!x.testBit k:=by
 have e:18446744073709551615-x=2 ^ 64-(x+1):=by omega
 rw[e,Nat.testBit_two_pow_sub_succ (by simpa using hx)]
 simp[hk]
theorem nat_ext64 {x y:Nat} (hx:x<18446744073709551616) (hy:y<18446744073709551616) (h:∀k,k<64→x.testBit k=y.testBit k):x=y:=by
 apply Nat.eq_of_testBit_eq
 intro i
 by_cases hi:i<64
 ·exact h i hi
 ·have hp:(2:Nat) ^ 64≤2 ^ i:=Nat.pow_le_pow_right (by omega) (by omega)
  have h1:(2:Nat) ^ 64=18446744073709551616:=by decide
  rw[Nat.testBit_lt_two_pow (by omega),Nat.testBit_lt_two_pow (by omega)]
theorem has_bit (x k:Nat) (hx:x<18446744073709551616):(bits .and .u64 ((x:Int)/2 ^ k) 1==1)=x.testBit k:=by
 have e:((x:Int)/2 ^ k)=((x/2 ^ k:Nat):Int):=by
  simp
 have hx':x/2 ^ k<18446744073709551616:=Nat.lt_of_le_of_lt (Nat.div_le_self _ _) hx
 rw[e]
 have:=u64_and_nat (x/2 ^ k) 1 hx' (by decide)
 rw[show ((1:Nat):Int)=1 from rfl] at this
 rw[this,nat_mask1,Nat.testBit_eq_decide_div_mod_eq]
 rw[Bool.eq_iff_iff];simp;omega
theorem xor_max (x:Nat) (hx:x<18446744073709551616):bits .xor .u64 IntKind.u64.max (x:Int)=((18446744073709551615-x:Nat):Int):=by
 have h:=u64_xor_nat 18446744073709551615 x (by omega) hx
 have e:IntKind.u64.max=((18446744073709551615:Nat):Int):=by decide
 rw[e,h]
 congr 1
 refine nat_ext64 (Nat.xor_lt_two_pow (n:=64) (by omega) hx) (by omega) ?_
 intro k hk
 rw[testBit_not64 x k hx hk,Nat.testBit_xor]
 have:(18446744073709551615:Nat).testBit k=true:=by
  have:=Nat.testBit_two_pow_sub_one 64 k
  rw[show (2:Nat) ^ 64-1=18446744073709551615 from by decide] at this
  rw[this];simpa using hk
 rw[this,Bool.true_xor]
def pc:Nat→Nat→Nat
 | 0,_=>0
 | k+1,x=>x%2+pc k (x/2)
def mk (m:Nat):Nat→Nat
 | 0=>0
 | k+1=>m+256*mk m k
def f1 (k x:Nat):Nat:=(x/2 &&& mk 85 k)+(x &&& mk 85 k)
def f2 (k x:Nat):Nat:=(x/4 &&& mk 51 k)+(x &&& mk 51 k)
def f3 (k x:Nat):Nat:=(x/16+x) &&& mk 15 k
def g1 (b:Nat):Nat:=(b/2 &&& 85)+(b &&& 85)
def g2 (b:Nat):Nat:=(b/4 &&& 51)+(b &&& 51)
theorem ret_bool {a b:Bool} (h:a=b):Ending.returned (.bool a)=.returned (.bool b):=by rw[h]
theorem ret_int {k:IntKind} {a b:Int} (h:a=b):Ending.returned (.int k a)=.returned (.int k b):=by rw[h]
theorem or_any (s t:St) (w:World) (hs:s.ok) (ht:t.ok) :
  Calls Tryz.prog 207 #[.agg #[.int .u64 s.a,.int .u64 s.b,.int .u64 s.c,.int .u64 s.d],.agg #[.int .u64 t.a,.int .u64 t.b,.int .u64 t.c,.int .u64 t.d]] w fun e w'=>e=.returned (.agg #[.int .u64 (s.or t).a,.int .u64 (s.or t).b,.int .u64 (s.or t).c,.int .u64 (s.or t).d])∧Below w.heap.size w w':=by
 have i0:∀w,(Instr.index 49 (.agg #[.int .u64 t.a,.int .u64 t.b,.int .u64 t.c,.int .u64 t.d]) (.int .i64 0)).run Tryz.prog w=.ok (.int .u64 t.a) w:=fun _=>by kernel_rfl
 have i1:∀w,(Instr.index 49 (.agg #[.int .u64 t.a,.int .u64 t.b,.int .u64 t.c,.int .u64 t.d]) (.int .i64 1)).run Tryz.prog w=.ok (.int .u64 t.b) w:=fun _=>by kernel_rfl
 have i2:∀w,(Instr.index 49 (.agg #[.int .u64 t.a,.int .u64 t.b,.int .u64 t.c,.int .u64 t.d]) (.int .i64 2)).run Tryz.prog w=.ok (.int .u64 t.c) w:=fun _=>by kernel_rfl
 have i3:∀w,(Instr.index 49 (.agg #[.int .u64 t.a,.int .u64 t.b,.int .u64 t.c,.int .u64 t.d]) (.int .i64 3)).run Tryz.prog w=.ok (.int .u64 t.d) w:=fun _=>by kernel_rfl
 have b0:bits .or .u64 s.a (t.a:Int)=((s.or t).a:Int):=u64_or_nat _ _ hs.1 ht.1
 have b1:bits .or .u64 s.b (t.b:Int)=((s.or t).b:Int):=u64_or_nat _ _ hs.2.1 ht.2.1
 have b2:bits .or .u64 s.c (t.c:Int)=((s.or t).c:Int):=u64_or_nat _ _ hs.2.2.1 ht.2.2.1
 have b3:bits .or .u64 s.d (t.d:Int)=((s.or t).d:Int):=u64_or_nat _ _ hs.2.2.2 ht.2.2.2
 generalize s.or t=r at *
 go_enter Tryz.func207,Tryz.ntmps207
 go_wp2
 refine wp_loop_rounds 5 ?_
 rw[rounds_succ]
 go_wp2
 rw[rounds_succ]
 go_wp2
 rw[rounds_succ]
 go_wp2
 rw[rounds_succ]
 go_wp2
 rw[rounds_succ]
 go_wp2
 refine bodyPost_ret (v:=.agg #[.int .u64 r.a,.int .u64 r.b,.int .u64 r.c,.int .u64 r.d]) (by simp[results,Tryz.results207,go_sem]) rfl ⟨rfl,?_⟩
 exact (((Below.refl _ _).alloc (Nat.le_refl _) _).alloc (by simp<;>omega) _).alloc (by simp<;>omega) _
theorem not_any (s:St) (w:World) (hs:s.ok) :
  Calls Tryz.prog 191 #[.agg #[.int .u64 s.a,.int .u64 s.b,.int .u64 s.c,.int .u64 s.d]] w fun e w'=>e=.returned (.agg #[.int .u64 s.not.a,.int .u64 s.not.b,.int .u64 s.not.c,.int .u64 s.not.d])∧Below w.heap.size w w':=by
 have i0:∀w,(Instr.index 49 (.agg #[.int .u64 s.a,.int .u64 s.b,.int .u64 s.c,.int .u64 s.d]) (.int .i64 0)).run Tryz.prog w=.ok (.int .u64 s.a) w:=fun _=>by kernel_rfl
 have i1:∀w,(Instr.index 49 (.agg #[.int .u64 s.a,.int .u64 s.b,.int .u64 s.c,.int .u64 s.d]) (.int .i64 1)).run Tryz.prog w=.ok (.int .u64 s.b) w:=fun _=>by kernel_rfl
 have i2:∀w,(Instr.index 49 (.agg #[.int .u64 s.a,.int .u64 s.b,.int .u64 s.c,.int .u64 s.d]) (.int .i64 2)).run Tryz.prog w=.ok (.int .u64 s.c) w:=fun _=>by kernel_rfl
 have i3:∀w,(Instr.index 49 (.agg #[.int .u64 s.a,.int .u64 s.b,.int .u64 s.c,.int .u64 s.d]) (.int .i64 3)).run Tryz.prog w=.ok (.int .u64 s.d) w:=fun _=>by kernel_rfl
 have b0:bits .xor .u64 IntKind.u64.max (s.a:Int)=(s.not.a:Int):=xor_max _ hs.1
 have b1:bits .xor .u64 IntKind.u64.max (s.b:Int)=(s.not.b:Int):=xor_max _ hs.2.1
 have b2:bits .xor .u64 IntKind.u64.max (s.c:Int)=(s.not.c:Int):=xor_max _ hs.2.2.1
 have b3:bits .xor .u64 IntKind.u64.max (s.d:Int)=(s.not.d:Int):=xor_max _ hs.2.2.2
 generalize s.not=r at *
 go_enter Tryz.func191,Tryz.ntmps191
 go_wp2
 refine wp_loop_rounds 5 ?_
 rw[rounds_succ]
 go_wp2
 rw[rounds_succ]
 go_wp2
 rw[rounds_succ]
 go_wp2
 rw[rounds_succ]
 go_wp2
 rw[rounds_succ]
 go_wp2
 refine bodyPost_ret (v:=.agg #[.int .u64 r.a,.int .u64 r.b,.int .u64 r.c,.int .u64 r.d]) (by simp[results,Tryz.results191,go_sem]) rfl ⟨rfl,?_⟩
 exact ((Below.refl _ _).alloc (Nat.le_refl _) _).alloc (by simp<;>omega) _
def St.same (s t:St):Bool:=s.a==t.a&&s.b==t.b&&s.c==t.c&&s.d==t.d
theorem St.same_eq (s t:St):(s.same t=true)↔s=t:=by
 cases s;cases t;simp[St.same,and_assoc]
theorem wrap_u64_nat (n:Nat) (h:n<18446744073709551616):IntKind.u64.wrap (n:Int)=n:=by
 rw[IntKind.wrap_u64];omega
theorem or_pow (x k:Nat) (hx:x<18446744073709551616) (hk:k<64):bits .or .u64 (x:Int) (IntKind.u64.wrap (2 ^ k))=((x ||| 2 ^ k:Nat):Int):=by
 have h:=wrap_u64_nat (2 ^ k) (pow_lt64 k hk)
 have e:((2 ^ k:Nat):Int)=2 ^ k:=by simp
 rw[e] at h
 rw[h,←e]
 exact u64_or_nat x (2 ^ k) hx (pow_lt64 k hk)
def ofL (l:List Nat):St:=l.foldl St.add St.zero
theorem St.add0 (t:St) (v:Nat) (h:v/64=0):t.add v=⟨t.a ||| 2 ^ (v%64),t.b,t.c,t.d⟩:=by simp[St.add,h]
theorem St.add1 (t:St) (v:Nat) (h:v/64=1):t.add v=⟨t.a,t.b ||| 2 ^ (v%64),t.c,t.d⟩:=by simp[St.add,h]
theorem St.add2 (t:St) (v:Nat) (h:v/64=2):t.add v=⟨t.a,t.b,t.c ||| 2 ^ (v%64),t.d⟩:=by simp[St.add,h]
theorem St.add3 (t:St) (v:Nat) (h:v/64=3):t.add v=⟨t.a,t.b,t.c,t.d ||| 2 ^ (v%64)⟩:=by simp[St.add,h]
theorem of_any (bk o n c:Nat) (l:List Nat) (w:World) (hn:n=l.length) (hl:∀x∈l,x<256) (hm:n≤maxLen) (hbk:bk<w.heap.size)
  (hc:∀i,i<n→w.cell? ⟨bk,o+i,none⟩=some (.int .u8 (l.getD i 0:Nat))) :
  Calls Tryz.prog 219 #[.slice (some ⟨bk,o,none⟩) n c] w fun e w'=>e=.returned (.agg #[.int .u64 (ofL l).a,.int .u64 (ofL l).b,.int .u64 (ofL l).c,.int .u64 (ofL l).d])∧Below w.heap.size w w':=by
 unfold maxLen at hm
 have hlk:∀k,l.getD k 0<256:=by
  intro k;rw[List.getD_eq_getElem?_getD]
  cases h:l[k]? with
  | none=>simp
  | some v=>simpa using hl v (List.mem_of_getElem? h)
 go_enter Tryz.func219,Tryz.ntmps219
 go_wp2
 go_loopw[8] (fun i wr=>∃(k:Nat) (t:St),k≤n∧i=.int .i64 k∧t=ofL (l.take k)∧t.ok∧wr=(w.alloc (.cells #[.int .u64 0,.int .u64 0,.int .u64 0,.int .u64 0] 49)).alloc (.cells #[.int .u64 t.a,.int .u64 t.b,.int .u64 t.c,.int .u64 t.d] 49)) (fun i _=>n-(intOf i).toNat)
 case atStart=>exact⟨0,St.zero,by omega,rfl,rfl,St.zero_ok,rfl⟩
 case round=>
  obtain⟨k,t,hk,rfl,ht,hok,rfl⟩:=hrel
  by_cases hlt:k<n
  ·have hck:=hc k hlt
   have hv:=hlk k
   have HT:Hid (t.add (l.getD k 0)=ofL (l.take (k+1))):=by
    show _=_
    unfold ofL at *
    rw[List.take_succ_eq_append_getElem (by omega),List.foldl_append,←ht]
    simp[List.getD_eq_getElem?_getD,List.getElem?_eq_getElem (show k<l.length by omega)]
   clear ht
   generalize l.getD k 0=v at *
   have hold:∀o1 o2,((w.alloc o1).alloc o2).cell? ⟨bk,o+k,none⟩=some (.int .u8 (v:Int)):=by
    intro o1 o2
    have hB:Below w.heap.size w ((w.alloc o1).alloc o2):=((Below.refl _ _).alloc (Nat.le_refl _) _).alloc (by simp<;>omega) _
    rw[hB.cell (p:=⟨bk,o+k,none⟩) hbk];exact hck
   have HA:Hid ((t.add v).ok):=St.add_ok hok v
   have hq:v/64=0∨v/64=1∨v/64=2∨v/64=3:=by omega
   have b0:=or_pow t.a (v%64) hok.1 (Nat.mod_lt _ (by omega))
   have b1:=or_pow t.b (v%64) hok.2.1 (Nat.mod_lt _ (by omega))
   have b2:=or_pow t.c (v%64) hok.2.2.1 (Nat.mod_lt _ (by omega))
   have b3:=or_pow t.d (v%64) hok.2.2.2 (Nat.mod_lt _ (by omega))
   rcases hq with hq | hq | hq | hq
   ·have E:Hid _:=St.add0 t v hq
    go_wp2
    refine⟨⟨k+1,t.add v,by omega,by go_num,HT.out,HA.out,by rw[E.out]⟩,by simp[intOf];omega⟩
   ·have E:Hid _:=St.add1 t v hq
    go_wp2
    refine⟨⟨k+1,t.add v,by omega,by go_num,HT.out,HA.out,by rw[E.out]⟩,by simp[intOf];omega⟩
   ·have E:Hid _:=St.add2 t v hq
    go_wp2
    refine⟨⟨k+1,t.add v,by omega,by go_num,HT.out,HA.out,by rw[E.out]⟩,by simp[intOf];omega⟩
   ·have E:Hid _:=St.add3 t v hq
    go_wp2
    refine⟨⟨k+1,t.add v,by omega,by go_num,HT.out,HA.out,by rw[E.out]⟩,by simp[intOf];omega⟩
  ·have e:l.take k=l:=List.take_of_length_le (by omega)
   rw[e] at ht
   subst ht
   go_wp2
   refine bodyPost_ret (v:=.agg #[.int .u64 (ofL l).a,.int .u64 (ofL l).b,.int .u64 (ofL l).c,.int .u64 (ofL l).d]) (by simp[results,Tryz.results219,go_sem]) rfl ⟨rfl,?_⟩
   exact ((Below.refl _ _).alloc (Nat.le_refl _) _).alloc (by simp<;>omega) _
structure Sy where
 kind:Int
 text:ByteArray
 set:St
 name:ByteArray
 sep:ByteArray
structure Pr where
 lex:Bool
 sort:ByteArray
 cons:ByteArray
 bracket:Bool
 syms:List Sy
structure Gr where
 assoc:Int
 cons:List ByteArray
structure Fo where
 sort:ByteArray
 set:St
structure Re where
 sort:ByteArray
 by':ByteArray
inductive It where
 | mk (kind:Int) (text:ByteArray) (n:Int) (items:List It)
def It.kind:It→Int | .mk k _ _ _=>k
def It.text:It→ByteArray | .mk _ t _ _=>t
def It.n:It→Int | .mk _ _ n _=>n
def It.items:It→List It | .mk _ _ _ l=>l
structure Bo where
 cons:ByteArray
 items:List It
structure Df where
 start:ByteArray
 layout:ByteArray
 prods:List Pr
 chains:List (List Gr)
 follows:List Fo
 rejects:List Re
 boxes:List Bo
instance:Inhabited St:=⟨⟨0,0,0,0⟩⟩
instance:Inhabited Sy:=⟨⟨0,⟨#[]⟩,default,⟨#[]⟩,⟨#[]⟩⟩⟩
instance:Inhabited Pr:=⟨⟨false,⟨#[]⟩,⟨#[]⟩,false,[]⟩⟩
instance:Inhabited Gr:=⟨⟨0,[]⟩⟩
instance:Inhabited Fo:=⟨⟨⟨#[]⟩,default⟩⟩
instance:Inhabited Re:=⟨⟨⟨#[]⟩,⟨#[]⟩⟩⟩
instance:Inhabited It:=⟨.mk 0 ⟨#[]⟩ 0 []⟩
instance:Inhabited Bo:=⟨⟨⟨#[]⟩,[]⟩⟩
def Row {α:Type} (w:World) (B n:Nat) (V:α→List Value→Prop) (a:Option Addr) (l:List α):Prop:=
 ∀j x,l[j]?=some x→∃b o vs,a=some ⟨b,o,none⟩∧b<B∧V x vs∧∀i v,vs[i]?=some v→w.cell? ⟨b,o+j*n+i,none⟩=some v
theorem Row.keep {α:Type} {w w':World} {B B' n:Nat} {V V':α→List Value→Prop} {a:Option Addr} {l:List α} (h:Row w B n V a l) (hb:Below B w w') (hB:B≤B') (hV:∀x vs,x∈l→V x vs→V' x vs):Row w' B' n V' a l:=fun j x hj=>by
 obtain⟨b,o,vs,e,hlt,hv,hc⟩:=h j x hj
 exact⟨b,o,vs,e,by omega,hV x vs (List.mem_of_getElem? hj) hv,fun i v hi=>(hb.cell (p:=⟨b,o+j*n+i,none⟩) hlt).trans (hc i v hi)⟩
def Sl {α:Type} (w:World) (B n:Nat) (V:α→List Value→Prop) (l:List α) (v:Value):Prop:=
 ∃a c,v=.slice a l.length c∧l.length≤c∧l.length≤140737488355328∧Row w B n V a l
theorem Sl.keep {α:Type} {w w':World} {B B' n:Nat} {V V':α→List Value→Prop} {l:List α} {v:Value} (h:Sl w B n V l v) (hb:Below B w w') (hB:B≤B') (hV:∀x vs,x∈l→V x vs→V' x vs):Sl w' B' n V' l v:=by
 obtain⟨a,c,e,h1,h2,h3⟩:=h
 exact⟨a,c,e,h1,h2,h3.keep hb hB hV⟩
def SyV (x:Sy) (vs:List Value):Prop:=x.set.ok∧vs=[.int .i64 x.kind,.string x.text,.int .u64 x.set.a,.int .u64 x.set.b,.int .u64 x.set.c,.int .u64 x.set.d,.string x.name,.string x.sep]
def PrV (w:World) (B:Nat) (p:Pr) (vs:List Value):Prop:=∃v,vs=[.bool p.lex,.string p.sort,.string p.cons,.bool p.bracket,v]∧Sl w B 8 SyV p.syms v
def StrV (s:ByteArray) (vs:List Value):Prop:=vs=[.string s]
def GrV (w:World) (B:Nat) (g:Gr) (vs:List Value):Prop:=∃v,vs=[.int .i64 g.assoc,v]∧Sl w B 1 StrV g.cons v
def ChV (w:World) (B:Nat) (c:List Gr) (vs:List Value):Prop:=∃v,vs=[v]∧Sl w B 2 (GrV w B) c v
def FoV (f:Fo) (vs:List Value):Prop:=f.set.ok∧vs=[.string f.sort,.int .u64 f.set.a,.int .u64 f.set.b,.int .u64 f.set.c,.int .u64 f.set.d]
def ReV (r:Re) (vs:List Value):Prop:=vs=[.string r.sort,.string r.by']
def ItV (w:World) (B:Nat):Nat→It→List Value→Prop
 | 0,_,_=>False
 | f+1,i,vs=>∃v,vs=[.int .i64 i.kind,.string i.text,.int .i64 i.n,v]∧Sl w B 4 (ItV w B f) i.items v
def BoV (w:World) (B f:Nat) (b:Bo) (vs:List Value):Prop:=∃v,vs=[.string b.cons,v]∧Sl w B 4 (ItV w B f) b.items v
def DfV (w:World) (B f:Nat) (d:Df) (vs:List Value):Prop:=∃v2 v3 v4 v5 v6,vs=[.string d.start,.string d.layout,v2,v3,v4,v5,v6]∧Sl w B 5 (PrV w B) d.prods v2∧Sl w B 1 (ChV w B) d.chains v3∧Sl w B 5 FoV d.follows v4∧Sl w B 2 ReV d.rejects v5∧Sl w B 2 (BoV w B f) d.boxes v6
section
variable {w w':World} {B B':Nat}
theorem PrV.keep (hb:Below B w w') (hB:B≤B') {p:Pr} {vs:List Value} (h:PrV w B p vs):PrV w' B' p vs:=by
 obtain⟨v,e,h⟩:=h
 exact⟨v,e,h.keep hb hB (fun _ _ _ h=>h)⟩
theorem GrV.keep (hb:Below B w w') (hB:B≤B') {p:Gr} {vs:List Value} (h:GrV w B p vs):GrV w' B' p vs:=by
 obtain⟨v,e,h⟩:=h
 exact⟨v,e,h.keep hb hB (fun _ _ _ h=>h)⟩
theorem ChV.keep (hb:Below B w w') (hB:B≤B') {p:List Gr} {vs:List Value} (h:ChV w B p vs):ChV w' B' p vs:=by
 obtain⟨v,e,h⟩:=h
 exact⟨v,e,h.keep hb hB (fun _ _ _ h=>h.keep hb hB)⟩
theorem ItV.keep (hb:Below B w w') (hB:B≤B'):∀ {f:Nat} {p:It} {vs:List Value},ItV w B f p vs→ItV w' B' f p vs
 | 0,_,_,h=>h
 | f+1,p,vs,h=>by
  obtain⟨v,e,h⟩:=h
  exact⟨v,e,h.keep hb hB (fun _ _ _ h=>h.keep hb hB)⟩
theorem BoV.keep (hb:Below B w w') (hB:B≤B') {f:Nat} {p:Bo} {vs:List Value} (h:BoV w B f p vs):BoV w' B' f p vs:=by
 obtain⟨v,e,h⟩:=h
 exact⟨v,e,h.keep hb hB (fun _ _ _ h=>h.keep hb hB)⟩
theorem DfV.keep (hb:Below B w w') (hB:B≤B') {f:Nat} {d:Df} {vs:List Value} (h:DfV w B f d vs):DfV w' B' f d vs:=by
 obtain⟨v2,v3,v4,v5,v6,e,h2,h3,h4,h5,h6⟩:=h
 exact⟨v2,v3,v4,v5,v6,e,h2.keep hb hB (fun _ _ _ h=>h.keep hb hB),h3.keep hb hB (fun _ _ _ h=>h.keep hb hB),h4.keep hb hB (fun _ _ _ h=>h),h5.keep hb hB (fun _ _ _ h=>h),h6.keep hb hB (fun _ _ _ h=>h.keep hb hB)⟩
end
structure DA (w:World) (d:Df) (vs:List Value):Prop where
 at':∃f,DfV w w.heap.size f d vs
theorem DA.nx {w w':World} {d:Df} {vs:List Value} (hb:Below w.heap.size w w') (h:DA w d vs):DA w' d vs:=by
 obtain⟨f,h⟩:=h.at'
 exact⟨f,h.keep hb hb.size⟩
section
theorem str_iff {x y:ByteArray}:x.toList=y.toList↔x=y:=by
 rw[ByteArray.toList_eq,ByteArray.toList_eq]
 constructor
 ·intro h
  obtain⟨⟨a⟩⟩:=x
  obtain⟨⟨b⟩⟩:=y
  simp at h
  rw[h]
 ·intro h;rw[h]
theorem eqStr (d:Nat) (x y:ByteArray) (w:World):(Op.equalIn (d+1) 9 (.string x) (.string y)).run Tryz.prog w=.ok (x==y) w:=by
 rw[Op.equalIn]
 simp[Sem.run_bind,run_underlying Tryz.underlying9,Result.andThen_ok,go_sem]
theorem eq49e (s t:St) (w:World):(Op.equalIn 9999 49 (.agg #[.int .u64 s.a,.int .u64 s.b,.int .u64 s.c,.int .u64 s.d]) (.agg #[.int .u64 t.a,.int .u64 t.b,.int .u64 t.c,.int .u64 t.d])).run Tryz.prog w=.ok (s.same t) w:=by
 have hp:∀(x0 x1 x2 x3:Value) w,((part 47 #[x0,x1,x2,x3] 0).run Tryz.prog w=.ok x0 w)∧((part 47 #[x0,x1,x2,x3] 1).run Tryz.prog w=.ok x1 w)∧((part 47 #[x0,x1,x2,x3] 2).run Tryz.prog w=.ok x2 w)∧((part 47 #[x0,x1,x2,x3] 3).run Tryz.prog w=.ok x3 w):=by
  intro x0 x1 x2 x3 w
  refine⟨?_,?_,?_,?_⟩<;>kernel_rfl
 have hz:∀w,(sizeOf 47).run Tryz.prog w=.ok 1 w:=fun w=>by kernel_rfl
 have he:∀(a b:Nat) w,(Op.equalIn 9998 47 (.int .u64 a) (.int .u64 b)).run Tryz.prog w=.ok ((a:Int)==(b:Int)) w:=fun a b w=>run_equalIn_int w 9997 47 .u64 .u64 a b Tryz.underlying47
 rw[show (9999:Nat)=9998+1 from rfl]
 rw[Op.equalIn]
 simp only[Sem.run_bind,run_underlying Tryz.underlying49,Result.andThen_ok]
 simp[Std.Legacy.Range.forIn_eq_forIn_range',List.range',hz,hp,he]
 unfold St.same
 by_cases h0:s.a=t.a
 ·by_cases h1:s.b=t.b
  ·by_cases h2:s.c=t.c
   ·by_cases h3:s.d=t.d
    ·simp[h0,h1,h2,h3]
    ·have e:¬((s.d:Int)=(t.d:Int)):=by omega
     simp[h0,h1,h2,h3,e]
   ·have e:¬((s.c:Int)=(t.c:Int)):=by omega
    simp[h0,h1,h2,e]
  ·have e:¬((s.b:Int)=(t.b:Int)):=by omega
   simp[h0,h1,e]
 ·have e:¬((s.a:Int)=(t.a:Int)):=by omega
  simp[h0,e]
theorem eq134 (x y:Sy) (w:World):(Op.equalIn 10000 134 (.agg #[.int .i64 x.kind,.string x.text,.int .u64 x.set.a,.int .u64 x.set.b,.int .u64 x.set.c,.int .u64 x.set.d,.string x.name,.string x.sep]) (.agg #[.int .i64 y.kind,.string y.text,.int .u64 y.set.a,.int .u64 y.set.b,.int .u64 y.set.c,.int .u64 y.set.d,.string y.name,.string y.sep])).run Tryz.prog w=.ok (x.kind==y.kind&&x.text==y.text&&x.set.same y.set&&x.name==y.name&&x.sep==y.sep) w:=by
 have hp:∀(x0 x1 x2 x3 x4 x5 x6 x7:Value) w,((part 3 #[x0,x1,x2,x3,x4,x5,x6,x7] 0).run Tryz.prog w=.ok x0 w)∧((part 9 #[x0,x1,x2,x3,x4,x5,x6,x7] 1).run Tryz.prog w=.ok x1 w)∧((part 49 #[x0,x1,x2,x3,x4,x5,x6,x7] 2).run Tryz.prog w=.ok (.agg #[x2,x3,x4,x5]) w)∧((part 9 #[x0,x1,x2,x3,x4,x5,x6,x7] 6).run Tryz.prog w=.ok x6 w)∧((part 9 #[x0,x1,x2,x3,x4,x5,x6,x7] 7).run Tryz.prog w=.ok x7 w):=by
  intro x0 x1 x2 x3 x4 x5 x6 x7 w
  refine⟨?_,?_,?_,?_,?_⟩<;>kernel_rfl
 have h0:Tryz.prog.stoodInHeld 134=false:=by kernel_rfl
 have he:∀(a b:Int) w,(Op.equalIn 9999 3 (.int .i64 a) (.int .i64 b)).run Tryz.prog w=.ok (a==b) w:=fun a b w=>run_equalIn_int w 9998 3 .i64 .i64 a b Tryz.underlying3
 have hs:∀(a b:ByteArray) w,(Op.equalIn 9999 9 (.string a) (.string b)).run Tryz.prog w=.ok (a==b) w:=fun a b w=>eqStr 9998 a b w
 rw[show (10000:Nat)=9999+1 from rfl]
 rw[Op.equalIn]
 simp only[Sem.run_bind,run_underlying Tryz.underlying134,Result.andThen_ok]
 simp[h0,hp,he,hs,eq49e]
 generalize (x.text==y.text)=p1
 generalize x.set.same y.set=p2
 generalize (x.name==y.name)=p3
 generalize (x.sep==y.sep)=p4
 by_cases h0:x.kind=y.kind
 ·cases p1<;>cases p2<;>cases p3<;>cases p4<;>simp[h0]
 ·simp[h0]
theorem ba_eq {x y:ByteArray}:(x==y)=true↔x=y:=by
 have h:(x==y)=(x.data==y.data):=by first | rfl | (cases x;cases y;rfl)
 rw[h,beq_iff_eq]
 constructor
 ·intro e;cases x;cases y;simp at e;rw[e]
 ·intro e;rw[e]
open Classical in
theorem symEq (x y:Sy) (w:World):(Op.equalIn 10000 134 (.agg #[.int .i64 x.kind,.string x.text,.int .u64 x.set.a,.int .u64 x.set.b,.int .u64 x.set.c,.int .u64 x.set.d,.string x.name,.string x.sep]) (.agg #[.int .i64 y.kind,.string y.text,.int .u64 y.set.a,.int .u64 y.set.b,.int .u64 y.set.c,.int .u64 y.set.d,.string y.name,.string y.sep])).run Tryz.prog w=.ok (decide (x=y)) w:=by
 rw[eq134]
 congr 1
 rw[Bool.eq_iff_iff]
 simp only[Bool.and_eq_true,ba_eq,St.same_eq,beq_iff_eq,decide_eq_true_eq]
 constructor
 ·rintro⟨⟨⟨⟨h0,h1⟩,h2⟩,h3⟩,h4⟩
  cases x;cases y;simp_all
 ·intro h;subst h;exact⟨⟨⟨⟨rfl,rfl⟩,rfl⟩,rfl⟩,rfl⟩
end
end Go.Proofs.YtcpakcffiopfjaaGreatDoor
