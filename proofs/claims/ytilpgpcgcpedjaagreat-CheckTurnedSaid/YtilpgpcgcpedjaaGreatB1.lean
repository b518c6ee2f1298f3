/- Symbols, groups, chains and productions that are right. Symbols that are right. Groups, chains and productions that are right. Templates that are right: the closure that counts. Templates that are right: all over items, counted. Definitions that are right: defs.Right. The document's own: names, and symbols that are right. The document's symbols that are right are the program's. -/
import Derived.Test.YtilpgpcgcpedjaaGreatAl
import Derived.Test.YtilpgpcgcpedjaaGreatA0
import Derived.RangeFuncBox
namespace Go.Proofs.YtilpgpcgcpedjaaGreat
open Go.RowKit
set_option linter.unusedVariables false
set_option linter.unusedSimpArgs false
set_option maxRecDepth 100000
set_option maxHeartbeats 16000000
set_option linter.unusedVariables false
set_option linter.unusedSimpArgs false
set_option maxRecDepth 100000
set_option maxHeartbeats 16000000
def nm (s:ByteArray):Bool:=nameB great s.data.toList
def em (s:ByteArray):Bool:=decide (s.size=0)
def nmN (s:ByteArray):Bool:=em s||nm s
def btw (n m:Int):Bool:=decide (1≤n)&&decide (n≤m)
noncomputable def eqS (x y:Sy):Bool:=@decide (x=y) (Classical.propDecidable _)
noncomputable def oftenB (x:Sy):Bool:=if em x.name then eqS x ⟨x.kind,⟨#[]⟩,x.set,⟨#[]⟩,⟨#[]⟩⟩ else eqS x ⟨x.kind,⟨#[]⟩,⟨0,0,0,0⟩,x.name,x.sep⟩&&nm x.name&&decide (x.sep.size≤32)
noncomputable def symB (x:Sy):Bool:=
 if x.kind=1 then eqS x ⟨x.kind,x.text,⟨0,0,0,0⟩,⟨#[]⟩,⟨#[]⟩⟩&&decide (x.text.size≤32)
 else if x.kind=2 then eqS x ⟨x.kind,⟨#[]⟩,x.set,⟨#[]⟩,⟨#[]⟩⟩
 else if x.kind=3 then eqS x ⟨x.kind,⟨#[]⟩,⟨0,0,0,0⟩,x.name,⟨#[]⟩⟩&&nm x.name
 else if x.kind=4 then em x.sep&&oftenB x
 else if x.kind=5 then oftenB x
 else if x.kind=6 then oftenB x
 else false
def groupB (g:Gr):Bool:=decide (0≤g.assoc)&&decide (g.assoc≤3)&&btw g.cons.length 16&&g.cons.all nm
def chainB (c:List Gr):Bool:=btw c.length 16&&c.all groupB
noncomputable def prodB (p:Pr):Bool:=nm p.sort&&nmN p.cons&&!(p.lex&&p.bracket||!p.lex&&p.bracket==!em p.cons)&&btw p.syms.length 12&&p.syms.all symB
theorem em_eq {s:ByteArray} (h:s.size=0):em s=true:=by simp[em,h]
theorem em_ne {s:ByteArray} (h:¬s.size=0):em s=false:=by simp[em,h]
theorem nameN_any (x:ByteArray) (w:World):Calls Tryz.prog 69 #[.string x] w fun e w'=>e=.returned (.bool (nmN x))∧Below w.heap.size w w':=by
 by_cases h0:x.size=0
 ·obtain rfl:=str_empty x h0
  go_enter Tryz.func69,Tryz.ntmps69
  go_wp2
  go_ret
  exact⟨rfl,Below.refl _ _⟩
 ·have hx:=ne_empty x h0
  have HE:Hid (nmN x=nm x):=by show _=_;rw[nmN,em_ne h0];rfl
  have HN:Hid _:=fun w=>isName_any x w
  clear h0
  go_enter Tryz.func69,Tryz.ntmps69
  go_wp2_with (go_at_call 76;refine (HN.out _).mono ?_)
  rintro e w1 ⟨rfl,hb⟩
  have HB:=hHi hb
  clear hb
  go_wp2
  go_ret
  exact⟨by rw[HE.out];rfl,HB.out⟩
theorem btw_any (n m:Int) (w:World):Calls Tryz.prog 113 #[.int .i64 n,.int .i64 m] w fun e w'=>e=.returned (.bool (btw n m))∧w'=w:=by
 by_cases h1:1≤n
 ·have HE:Hid (btw n m=decide (n≤m)):=by show _=_;rw[btw,decide_eq_true h1];rfl
  go_enter Tryz.func113,Tryz.ntmps113
  go_wp2
  go_ret
  exact⟨by rw[HE.out];rfl,rfl⟩
 ·have HE:Hid (btw n m=false):=by show _=_;rw[btw,decide_eq_false h1];rfl
  go_enter Tryz.func113,Tryz.ntmps113
  go_wp2
  go_ret
  exact⟨by rw[HE.out];rfl,rfl⟩
theorem follow_any (x:Fo) (w:World):Calls Tryz.prog 75 #[.agg #[.string x.sort,.int .u64 x.set.a,.int .u64 x.set.b,.int .u64 x.set.c,.int .u64 x.set.d]] w fun e w'=>e=.returned (.bool (nm x.sort))∧Below w.heap.size w w':=by
 have HN:Hid _:=fun w=>isName_any x.sort w
 obtain⟨w1,hw1⟩:∃w1,w.alloc (.cells #[.string x.sort,.int .u64 x.set.a,.int .u64 x.set.b,.int .u64 x.set.c,.int .u64 x.set.d] 54)=w1:=⟨_,rfl⟩
 have b1:Below w.heap.size w w1:=by rw[←hw1];exact (Below.refl _ _).alloc (Nat.le_refl _) _
 have c0:w1.cell? ⟨w.heap.size,0,none⟩=some (.string x.sort):=by rw[←hw1];exact cell_new 0 rfl
 have HB:=hHi b1
 clear b1
 go_enter Tryz.func75,Tryz.ntmps75
 go_wp2_with (go_at_call 76;refine (HN.out _).mono ?_)
 rintro e w2 ⟨rfl,hb⟩
 have HB2:Hid _:=below_tr HB.out hb
 clear hb
 go_wp2
 go_ret
 exact⟨rfl,HB2.out⟩
theorem reject_any (x:Re) (w:World):Calls Tryz.prog 78 #[.agg #[.string x.sort,.string x.by']] w fun e w'=>e=.returned (.bool (nm x.sort&&nm x.by'))∧Below w.heap.size w w':=by
 have HN:Hid _:=fun w=>isName_any x.sort w
 have HM:Hid _:=fun w=>isName_any x.by' w
 obtain⟨w1,hw1⟩:∃w1,w.alloc (.cells #[.string x.sort,.string x.by'] 56)=w1:=⟨_,rfl⟩
 have b1:Below w.heap.size w w1:=by rw[←hw1];exact (Below.refl _ _).alloc (Nat.le_refl _) _
 have s1:w.heap.size<w1.heap.size:=by rw[←hw1];simp
 have c0:w1.cell? ⟨w.heap.size,0,none⟩=some (.string x.sort):=by rw[←hw1];exact cell_new 0 rfl
 have c1:w1.cell? ⟨w.heap.size,1,none⟩=some (.string x.by'):=by rw[←hw1];exact cell_new 1 rfl
 have HB:=hHi b1
 clear b1
 cases hq:nm x.sort with
 | false=>
  have HQ:Hid (nameB great x.sort.data.toList=false):=hq
  rw[HQ.out] at HN
  clear hq
  go_enter Tryz.func78,Tryz.ntmps78
  go_wp2_with (go_at_call 76;refine (HN.out _).mono ?_)
  rintro e w2 ⟨rfl,hb⟩
  have HB2:Hid _:=below_tr HB.out hb
  clear hb
  go_wp2
  go_ret
  exact⟨rfl,HB2.out⟩
 | true=>
  have HQ:Hid (nameB great x.sort.data.toList=true):=hq
  rw[HQ.out] at HN
  clear hq
  go_enter Tryz.func78,Tryz.ntmps78
  go_wp2_with fail
  refine (HN.out _).mono ?_
  rintro e w2 ⟨rfl,hb⟩
  have c1':=(hb.cell (p:=⟨w.heap.size,1,none⟩) s1).trans c1
  have HB2:Hid _:=below_tr HB.out hb
  clear hb c1
  go_wp2_with fail
  refine (HM.out _).mono ?_
  rintro e w3 ⟨rfl,hb⟩
  have HB3:Hid _:=below_tr HB2.out hb
  clear hb
  go_wp2
  go_ret
  exact⟨rfl,HB3.out⟩
theorem often_any (x:Sy) (w:World):Calls Tryz.prog 149 #[.agg #[.int .i64 x.kind,.string x.text,.int .u64 x.set.a,.int .u64 x.set.b,.int .u64 x.set.c,.int .u64 x.set.d,.string x.name,.string x.sep]] w fun e w'=>e=.returned (.bool (oftenB x))∧Below w.heap.size w w':=by
 obtain⟨w1,hw1⟩:∃w1,w.alloc (.cells #[.int .i64 x.kind,.string x.text,.int .u64 x.set.a,.int .u64 x.set.b,.int .u64 x.set.c,.int .u64 x.set.d,.string x.name,.string x.sep] 62)=w1:=⟨_,rfl⟩
 have b1:Below w.heap.size w w1:=by rw[←hw1];exact (Below.refl _ _).alloc (Nat.le_refl _) _
 have s1:w.heap.size<w1.heap.size:=by rw[←hw1];simp
 have c0:w1.cell? ⟨w.heap.size,0,none⟩=some (.int .i64 x.kind):=by rw[←hw1];exact cell_new 0 rfl
 have c1:w1.cell? ⟨w.heap.size,1,none⟩=some (.string x.text):=by rw[←hw1];exact cell_new 1 rfl
 have c2:w1.cell? ⟨w.heap.size,2,none⟩=some (.int .u64 x.set.a):=by rw[←hw1];exact cell_new 2 rfl
 have c3:w1.cell? ⟨w.heap.size,3,none⟩=some (.int .u64 x.set.b):=by rw[←hw1];exact cell_new 3 rfl
 have c4:w1.cell? ⟨w.heap.size,4,none⟩=some (.int .u64 x.set.c):=by rw[←hw1];exact cell_new 4 rfl
 have c5:w1.cell? ⟨w.heap.size,5,none⟩=some (.int .u64 x.set.d):=by rw[←hw1];exact cell_new 5 rfl
 have c6:w1.cell? ⟨w.heap.size,6,none⟩=some (.string x.name):=by rw[←hw1];exact cell_new 6 rfl
 have c7:w1.cell? ⟨w.heap.size,7,none⟩=some (.string x.sep):=by rw[←hw1];exact cell_new 7 rfl
 have HB:=hHi b1
 clear b1
 have E1:∀w,(Op.equalIn 10000 62 (.agg #[.int .i64 x.kind,.string x.text,.int .u64 x.set.a,.int .u64 x.set.b,.int .u64 x.set.c,.int .u64 x.set.d,.string x.name,.string x.sep]) (.agg #[.int .i64 x.kind,.string ⟨#[]⟩,.int .u64 x.set.a,.int .u64 x.set.b,.int .u64 x.set.c,.int .u64 x.set.d,.string ⟨#[]⟩,.string ⟨#[]⟩])).run Tryz.prog w=.ok (eqS x ⟨x.kind,⟨#[]⟩,x.set,⟨#[]⟩,⟨#[]⟩⟩) w:=fun w=>symEq x ⟨x.kind,⟨#[]⟩,x.set,⟨#[]⟩,⟨#[]⟩⟩ w
 have E2:∀w,(Op.equalIn 10000 62 (.agg #[.int .i64 x.kind,.string x.text,.int .u64 x.set.a,.int .u64 x.set.b,.int .u64 x.set.c,.int .u64 x.set.d,.string x.name,.string x.sep]) (.agg #[.int .i64 x.kind,.string ⟨#[]⟩,.int .u64 0,.int .u64 0,.int .u64 0,.int .u64 0,.string x.name,.string x.sep])).run Tryz.prog w=.ok (eqS x ⟨x.kind,⟨#[]⟩,⟨0,0,0,0⟩,x.name,x.sep⟩) w:=fun w=>symEq x ⟨x.kind,⟨#[]⟩,⟨0,0,0,0⟩,x.name,x.sep⟩ w
 have HN:Hid _:=fun w=>isName_any x.name w
 by_cases h0:x.name.size=0
 ·have HE:Hid (oftenB x=eqS x ⟨x.kind,⟨#[]⟩,x.set,⟨#[]⟩,⟨#[]⟩⟩):=by show _=_;rw[oftenB,em_eq h0];rfl
  have hne:x.name.toList.isEmpty=true:=by rw[str_empty _ h0,ByteArray.toList_eq];rfl
  clear E2
  generalize eqS x ⟨x.kind,⟨#[]⟩,x.set,⟨#[]⟩,⟨#[]⟩⟩=q at *
  go_enter Tryz.func149,Tryz.ntmps149
  go_wp2
  go_ret
  exact⟨by rw[HE.out];rfl,HB.out⟩
 ·have hne:=ne_empty x.name h0
  have HE:Hid (oftenB x=(eqS x ⟨x.kind,⟨#[]⟩,⟨0,0,0,0⟩,x.name,x.sep⟩&&nm x.name&&decide (x.sep.size≤32))):=by show _=_;rw[oftenB,em_ne h0];rfl
  clear h0 E1
  generalize eqS x ⟨x.kind,⟨#[]⟩,⟨0,0,0,0⟩,x.name,x.sep⟩=q at *
  cases q with
  | false=>
   go_enter Tryz.func149,Tryz.ntmps149
   go_wp2
   go_ret
   exact⟨by rw[HE.out];rfl,HB.out⟩
  | true=>
   cases hq:nm x.name with
   | false=>
    have HQ:Hid (nameB great x.name.data.toList=false):=hq
    rw[hq] at HE
    rw[HQ.out] at HN
    clear hq
    go_enter Tryz.func149,Tryz.ntmps149
    go_wp2_with fail
    refine (HN.out _).mono ?_
    rintro e w2 ⟨rfl,hb⟩
    have HB2:Hid _:=below_tr HB.out hb
    clear hb
    go_wp2
    go_ret
    exact⟨by rw[HE.out];rfl,HB2.out⟩
   | true=>
    have HQ:Hid (nameB great x.name.data.toList=true):=hq
    rw[hq] at HE
    rw[HQ.out] at HN
    clear hq
    go_enter Tryz.func149,Tryz.ntmps149
    go_wp2_with fail
    refine (HN.out _).mono ?_
    rintro e w2 ⟨rfl,hb⟩
    have c7':=(hb.cell (p:=⟨w.heap.size,7,none⟩) s1).trans c7
    have HB2:Hid _:=below_tr HB.out hb
    clear hb c7
    go_wp2
    go_ret
    exact⟨by rw[HE.out];simp;omega,HB2.out⟩
theorem sym_any (x:Sy) (w:World):Calls Tryz.prog 115 #[.agg #[.int .i64 x.kind,.string x.text,.int .u64 x.set.a,.int .u64 x.set.b,.int .u64 x.set.c,.int .u64 x.set.d,.string x.name,.string x.sep]] w fun e w'=>e=.returned (.bool (symB x))∧Below w.heap.size w w':=by
 obtain⟨w1,hw1⟩:∃w1,w.alloc (.cells #[.int .i64 x.kind,.string x.text,.int .u64 x.set.a,.int .u64 x.set.b,.int .u64 x.set.c,.int .u64 x.set.d,.string x.name,.string x.sep] 62)=w1:=⟨_,rfl⟩
 have b1:Below w.heap.size w w1:=by rw[←hw1];exact (Below.refl _ _).alloc (Nat.le_refl _) _
 have s1:w.heap.size<w1.heap.size:=by rw[←hw1];simp
 have c0:w1.cell? ⟨w.heap.size,0,none⟩=some (.int .i64 x.kind):=by rw[←hw1];exact cell_new 0 rfl
 have c1:w1.cell? ⟨w.heap.size,1,none⟩=some (.string x.text):=by rw[←hw1];exact cell_new 1 rfl
 have c2:w1.cell? ⟨w.heap.size,2,none⟩=some (.int .u64 x.set.a):=by rw[←hw1];exact cell_new 2 rfl
 have c3:w1.cell? ⟨w.heap.size,3,none⟩=some (.int .u64 x.set.b):=by rw[←hw1];exact cell_new 3 rfl
 have c4:w1.cell? ⟨w.heap.size,4,none⟩=some (.int .u64 x.set.c):=by rw[←hw1];exact cell_new 4 rfl
 have c5:w1.cell? ⟨w.heap.size,5,none⟩=some (.int .u64 x.set.d):=by rw[←hw1];exact cell_new 5 rfl
 have c6:w1.cell? ⟨w.heap.size,6,none⟩=some (.string x.name):=by rw[←hw1];exact cell_new 6 rfl
 have c7:w1.cell? ⟨w.heap.size,7,none⟩=some (.string x.sep):=by rw[←hw1];exact cell_new 7 rfl
 have HB:=hHi b1
 clear b1
 have E1:∀w,(Op.equalIn 10000 62 (.agg #[.int .i64 x.kind,.string x.text,.int .u64 x.set.a,.int .u64 x.set.b,.int .u64 x.set.c,.int .u64 x.set.d,.string x.name,.string x.sep]) (.agg #[.int .i64 x.kind,.string x.text,.int .u64 0,.int .u64 0,.int .u64 0,.int .u64 0,.string ⟨#[]⟩,.string ⟨#[]⟩])).run Tryz.prog w=.ok (eqS x ⟨x.kind,x.text,⟨0,0,0,0⟩,⟨#[]⟩,⟨#[]⟩⟩) w:=fun w=>symEq x ⟨x.kind,x.text,⟨0,0,0,0⟩,⟨#[]⟩,⟨#[]⟩⟩ w
 have E2:∀w,(Op.equalIn 10000 62 (.agg #[.int .i64 x.kind,.string x.text,.int .u64 x.set.a,.int .u64 x.set.b,.int .u64 x.set.c,.int .u64 x.set.d,.string x.name,.string x.sep]) (.agg #[.int .i64 x.kind,.string ⟨#[]⟩,.int .u64 x.set.a,.int .u64 x.set.b,.int .u64 x.set.c,.int .u64 x.set.d,.string ⟨#[]⟩,.string ⟨#[]⟩])).run Tryz.prog w=.ok (eqS x ⟨x.kind,⟨#[]⟩,x.set,⟨#[]⟩,⟨#[]⟩⟩) w:=fun w=>symEq x ⟨x.kind,⟨#[]⟩,x.set,⟨#[]⟩,⟨#[]⟩⟩ w
 have E3:∀w,(Op.equalIn 10000 62 (.agg #[.int .i64 x.kind,.string x.text,.int .u64 x.set.a,.int .u64 x.set.b,.int .u64 x.set.c,.int .u64 x.set.d,.string x.name,.string x.sep]) (.agg #[.int .i64 x.kind,.string ⟨#[]⟩,.int .u64 0,.int .u64 0,.int .u64 0,.int .u64 0,.string x.name,.string ⟨#[]⟩])).run Tryz.prog w=.ok (eqS x ⟨x.kind,⟨#[]⟩,⟨0,0,0,0⟩,x.name,⟨#[]⟩⟩) w:=fun w=>symEq x ⟨x.kind,⟨#[]⟩,⟨0,0,0,0⟩,x.name,⟨#[]⟩⟩ w
 have HN:Hid _:=fun w=>isName_any x.name w
 have HO:Hid _:=fun w=>often_any x w
 have HD:Hid (symB x=if x.kind=1 then eqS x ⟨x.kind,x.text,⟨0,0,0,0⟩,⟨#[]⟩,⟨#[]⟩⟩&&decide (x.text.size≤32) else if x.kind=2 then eqS x ⟨x.kind,⟨#[]⟩,x.set,⟨#[]⟩,⟨#[]⟩⟩ else if x.kind=3 then eqS x ⟨x.kind,⟨#[]⟩,⟨0,0,0,0⟩,x.name,⟨#[]⟩⟩&&nm x.name else if x.kind=4 then em x.sep&&oftenB x else if x.kind=5 then oftenB x else if x.kind=6 then oftenB x else false):=rfl
 generalize symB x=R at *
 by_cases k1:x.kind=1
 ·rw[if_pos k1] at HD
  have hk:(x.kind==1)=true:=by simpa using k1
  clear E2 E3 k1
  generalize eqS x ⟨x.kind,x.text,⟨0,0,0,0⟩,⟨#[]⟩,⟨#[]⟩⟩=q at *
  cases q with
  | false=>
   go_enter Tryz.func115,Tryz.ntmps115
   go_wp2
   go_ret
   exact⟨by rw[HD.out];rfl,HB.out⟩
  | true=>
   go_enter Tryz.func115,Tryz.ntmps115
   go_wp2
   go_ret
   exact⟨by rw[HD.out];simp;omega,HB.out⟩
 rw[if_neg k1] at HD
 have hk1:(x.kind==1)=false:=by simpa using k1
 clear E1
 by_cases k2:x.kind=2
 ·rw[if_pos k2] at HD
  have hk:(x.kind==2)=true:=by simpa using k2
  clear E3 k1 k2
  generalize eqS x ⟨x.kind,⟨#[]⟩,x.set,⟨#[]⟩,⟨#[]⟩⟩=q at *
  go_enter Tryz.func115,Tryz.ntmps115
  go_wp2
  go_ret
  exact⟨by rw[HD.out];rfl,HB.out⟩
 rw[if_neg k2] at HD
 have hk2:(x.kind==2)=false:=by simpa using k2
 clear E2
 by_cases k3:x.kind=3
 ·rw[if_pos k3] at HD
  have hk:(x.kind==3)=true:=by simpa using k3
  clear k1 k2 k3
  generalize eqS x ⟨x.kind,⟨#[]⟩,⟨0,0,0,0⟩,x.name,⟨#[]⟩⟩=q at *
  cases q with
  | false=>
   go_enter Tryz.func115,Tryz.ntmps115
   go_wp2
   go_ret
   exact⟨by rw[HD.out];rfl,HB.out⟩
  | true=>
   go_enter Tryz.func115,Tryz.ntmps115
   go_wp2_with fail
   refine (HN.out _).mono ?_
   rintro e w2 ⟨rfl,hb⟩
   have HB2:Hid _:=below_tr HB.out hb
   clear hb
   go_wp2
   go_ret
   exact⟨by rw[HD.out];rfl,HB2.out⟩
 rw[if_neg k3] at HD
 have hk3:(x.kind==3)=false:=by simpa using k3
 clear E3
 by_cases k4:x.kind=4
 ·rw[if_pos k4] at HD
  have hk:(x.kind==4)=true:=by simpa using k4
  clear k1 k2 k3 k4
  by_cases h0:x.sep.size=0
  ·have hne:x.sep.toList.isEmpty=true:=by rw[str_empty _ h0,ByteArray.toList_eq];rfl
   rw[em_eq h0] at HD
   clear h0
   go_enter Tryz.func115,Tryz.ntmps115
   go_wp2_with fail
   refine (HO.out _).mono ?_
   rintro e w2 ⟨rfl,hb⟩
   have HB2:Hid _:=below_tr HB.out hb
   clear hb
   go_wp2
   go_ret
   exact⟨by rw[HD.out];rfl,HB2.out⟩
  ·have hne:=ne_empty x.sep h0
   rw[em_ne h0] at HD
   clear h0
   go_enter Tryz.func115,Tryz.ntmps115
   go_wp2
   go_ret
   exact⟨by rw[HD.out];rfl,HB.out⟩
 rw[if_neg k4] at HD
 have hk4:(x.kind==4)=false:=by simpa using k4
 by_cases k5:x.kind=5
 ·rw[if_pos k5] at HD
  have hk:(x.kind==5)=true:=by simpa using k5
  clear k1 k2 k3 k4 k5
  go_enter Tryz.func115,Tryz.ntmps115
  go_wp2_with fail
  refine (HO.out _).mono ?_
  rintro e w2 ⟨rfl,hb⟩
  have HB2:Hid _:=below_tr HB.out hb
  clear hb
  go_wp2
  go_ret
  exact⟨by rw[HD.out];rfl,HB2.out⟩
 rw[if_neg k5] at HD
 have hk5:(x.kind==5)=false:=by simpa using k5
 by_cases k6:x.kind=6
 ·rw[if_pos k6] at HD
  have hk:(x.kind==6)=true:=by simpa using k6
  clear k1 k2 k3 k4 k5 k6
  go_enter Tryz.func115,Tryz.ntmps115
  go_wp2_with fail
  refine (HO.out _).mono ?_
  rintro e w2 ⟨rfl,hb⟩
  have HB2:Hid _:=below_tr HB.out hb
  clear hb
  go_wp2
  go_ret
  exact⟨by rw[HD.out];rfl,HB2.out⟩
 rw[if_neg k6] at HD
 have hk6:(x.kind==6)=false:=by simpa using k6
 clear k1 k2 k3 k4 k5 k6
 go_enter Tryz.func115,Tryz.ntmps115
 go_wp2
 go_ret
 exact⟨by rw[HD.out];rfl,HB.out⟩
theorem group_any (g:Gr) (v:Value) (w:World) (h:Sl w w.heap.size 1 StrV g.cons v):Calls Tryz.prog 119 #[.agg #[.int .i64 g.assoc,v]] w fun e w'=>e=.returned (.bool (groupB g))∧Below w.heap.size w w':=by
 obtain⟨w1,hw1⟩:∃w1,w.alloc (.cells #[.int .i64 g.assoc,v] 68)=w1:=⟨_,rfl⟩
 have b1:Below w.heap.size w w1:=by rw[←hw1];exact (Below.refl _ _).alloc (Nat.le_refl _) _
 have c0:w1.cell? ⟨w.heap.size,0,none⟩=some (.int .i64 g.assoc):=by rw[←hw1];exact cell_new 0 rfl
 have c1:w1.cell? ⟨w.heap.size,1,none⟩=some v:=by rw[←hw1];exact cell_new 1 rfl
 have HA:=hU (all_str nm g.cons v w1 (h.keep b1 b1.size (fun _ _ _ h=>h)) (fun x _ W _=>isName_any x W))
 have HW:Hid _:=fun (n:Int)=>btw_any n 16 w1
 have HB:=hHi b1
 have HD:Hid (groupB g=(decide (0≤g.assoc)&&decide (g.assoc≤3)&&btw g.cons.length 16&&g.cons.all nm)):=rfl
 generalize groupB g=R at *
 obtain⟨a,c,rfl,hcc,hln,_⟩:=h
 clear b1
 by_cases h0:0≤g.assoc
 ·rw[decide_eq_true h0] at HD
  by_cases h3:g.assoc≤3
  ·rw[decide_eq_true h3] at HD
   cases hb:btw g.cons.length 16 with
   | false=>
    have HW':Hid _:=HW.out g.cons.length
    rw[hb] at HD HW'
    clear hb HW
    go_enter Tryz.func119,Tryz.ntmps119
    go_wp2_with fail
    refine Calls.mono HW'.out ?_
    rintro e w2 ⟨rfl,rfl⟩
    go_wp2
    go_ret
    exact⟨by rw[HD.out];rfl,HB.out⟩
   | true=>
    have HW':Hid _:=HW.out g.cons.length
    rw[hb] at HD HW'
    clear hb HW
    go_enter Tryz.func119,Tryz.ntmps119
    go_wp2_with fail
    refine Calls.mono HW'.out ?_
    rintro e w2 ⟨rfl,rfl⟩
    go_wp2_with fail
    refine Calls.mono (HA.out ()) ?_
    rintro e w3 ⟨rfl,hb⟩
    have HB3:Hid _:=below_tr HB.out hb
    clear hb
    go_wp2
    go_ret
    exact⟨by rw[HD.out];rfl,HB3.out⟩
  ·rw[decide_eq_false h3] at HD
   go_enter Tryz.func119,Tryz.ntmps119
   go_wp2
   go_ret
   exact⟨by rw[HD.out];rfl,HB.out⟩
 ·rw[decide_eq_false h0] at HD
  go_enter Tryz.func119,Tryz.ntmps119
  go_wp2
  go_ret
  exact⟨by rw[HD.out];rfl,HB.out⟩
theorem chain_any (l:List Gr) (v:Value) (w:World) (h:Sl w w.heap.size 2 (GrV w w.heap.size) l v):Calls Tryz.prog 73 #[v] w fun e w'=>e=.returned (.bool (chainB l))∧Below w.heap.size w w':=by
 have HA:=hU (all_group groupB l v w h (fun x _ v W _ h=>group_any x v W h))
 have HW:Hid _:=fun (n:Int)=>btw_any n 16 w
 have HD:Hid (chainB l=(btw l.length 16&&l.all groupB)):=rfl
 generalize chainB l=R at *
 obtain⟨a,c,rfl,hcc,hln,_⟩:=h
 cases hb:btw l.length 16 with
 | false=>
  have HW':Hid _:=HW.out l.length
  rw[hb] at HD HW'
  clear hb HW
  go_enter Tryz.func73,Tryz.ntmps73
  go_wp2_with fail
  refine Calls.mono HW'.out ?_
  rintro e w2 ⟨rfl,rfl⟩
  go_wp2
  go_ret
  exact⟨by rw[HD.out];rfl,Below.refl _ _⟩
 | true=>
  have HW':Hid _:=HW.out l.length
  rw[hb] at HD HW'
  clear hb HW
  go_enter Tryz.func73,Tryz.ntmps73
  go_wp2_with fail
  refine Calls.mono HW'.out ?_
  rintro e w2 ⟨rfl,rfl⟩
  go_wp2_with fail
  refine Calls.mono (HA.out ()) ?_
  rintro e w3 ⟨rfl,hb⟩
  have HB3:=hHi hb
  clear hb
  go_wp2
  go_ret
  exact⟨by rw[HD.out];rfl,HB3.out⟩
theorem prod_any (p:Pr) (v:Value) (w:World) (h:Sl w w.heap.size 8 SyV p.syms v):Calls Tryz.prog 71 #[.agg #[.bool p.lex,.string p.sort,.string p.cons,.bool p.bracket,v]] w fun e w'=>e=.returned (.bool (prodB p))∧Below w.heap.size w w':=by
 obtain⟨w1,hw1⟩:∃w1,w.alloc (.cells #[.bool p.lex,.string p.sort,.string p.cons,.bool p.bracket,v] 44)=w1:=⟨_,rfl⟩
 have b1:Below w.heap.size w w1:=by rw[←hw1];exact (Below.refl _ _).alloc (Nat.le_refl _) _
 have s1:w.heap.size<w1.heap.size:=by rw[←hw1];simp
 have hc:∀j u,(#[.bool p.lex,.string p.sort,.string p.cons,.bool p.bracket,v]:Array Value)[j]?=some u→w1.cell? ⟨w.heap.size,j,none⟩=some u:=fun j u hu=>by rw[←hw1];exact cell_new j hu
 have c1:=hc 1 _ rfl
 have HCW:Hid (∀W,Below w1.heap.size w1 W→W.cell? ⟨w.heap.size,0,none⟩=some (.bool p.lex)∧W.cell? ⟨w.heap.size,2,none⟩=some (.string p.cons)∧W.cell? ⟨w.heap.size,3,none⟩=some (.bool p.bracket)∧W.cell? ⟨w.heap.size,4,none⟩=some v):=fun W hb=>by
  have q:∀j,W.cell? ⟨w.heap.size,j,none⟩=w1.cell? ⟨w.heap.size,j,none⟩:=fun j=>hb.cell (p:=⟨w.heap.size,j,none⟩) s1
  exact⟨(q 0).trans (hc 0 _ rfl),(q 2).trans (hc 2 _ rfl),(q 3).trans (hc 3 _ rfl),(q 4).trans (hc 4 _ rfl)⟩
 have HA:Hid (∀W,Below w1.heap.size w1 W→Calls Tryz.prog 114 #[v,.func (.func 115) #[] #[]] W fun e w'=>e=.returned (.bool (p.syms.all symB))∧Below W.heap.size W w'):=fun W hb=>all_sym symB p.syms v W (h.keep (below_tr b1 hb) (below_tr b1 hb).size (fun _ _ _ h=>h)) (fun x _ _ W _=>sym_any x W)
 have HW:Hid _:=fun (n:Int) (w:World)=>btw_any n 12 w
 have HN:Hid _:=fun w=>isName_any p.sort w
 have HM:Hid _:=fun w=>nameN_any p.cons w
 have HB:=hHi b1
 have HD:Hid (prodB p=(nm p.sort&&nmN p.cons&&!(p.lex&&p.bracket||!p.lex&&p.bracket==!em p.cons)&&btw p.syms.length 12&&p.syms.all symB)):=rfl
 generalize prodB p=R at *
 obtain⟨a,c,rfl,hcc,hln,_⟩:=h
 clear b1 hc
 cases hs:nm p.sort with
 | false=>
  have HQ:Hid (nameB great p.sort.data.toList=false):=hs
  rw[HQ.out] at HN
  rw[hs] at HD
  clear hs
  go_enter Tryz.func71,Tryz.ntmps71
  go_wp2_with fail
  refine (HN.out _).mono ?_
  rintro e w2 ⟨rfl,hb⟩
  have HB2:Hid _:=below_tr HB.out hb
  clear hb
  go_wp2
  go_ret
  exact⟨by rw[HD.out];rfl,HB2.out⟩
 | true=>
 have HQ:Hid (nameB great p.sort.data.toList=true):=hs
 rw[HQ.out] at HN
 rw[hs] at HD
 clear hs
 cases hm:nmN p.cons with
 | false=>
  rw[hm] at HD HM
  clear hm
  go_enter Tryz.func71,Tryz.ntmps71
  go_wp2_with fail
  refine (HN.out _).mono ?_
  rintro e w2 ⟨rfl,hb⟩
  have HB2:=hHi hb
  obtain⟨d0,d2,d3,d4⟩:=HCW.out w2 hb
  clear hb
  go_wp2_with fail
  refine (HM.out _).mono ?_
  rintro e w3 ⟨rfl,hb⟩
  have HB3:Hid _:=below_tr HB.out (below_tr HB2.out hb)
  clear hb
  go_wp2
  go_ret
  exact⟨by rw[HD.out];rfl,HB3.out⟩
 | true=>
 rw[hm] at HD HM
 clear hm
 have HT:Hid (∀w3,Below w1.heap.size w1 w3→Below w.heap.size w w3):=fun w3 hb=>below_tr HB.out hb
 obtain⟨lx,hlx⟩:∃lx,p.lex=lx:=⟨_,rfl⟩
 obtain⟨br,hbr⟩:∃br,p.bracket=br:=⟨_,rfl⟩
 rw[hlx,hbr] at HD
 rw[hlx,hbr] at HCW
 rw[hlx,hbr] at hw1
 rw[hlx,hbr]
 have he:(em p.cons=true∧p.cons.toList.isEmpty=true)∨(em p.cons=false∧p.cons.toList.isEmpty=false):=by
  by_cases h0:p.cons.size=0
  ·exact .inl ⟨em_eq h0,by rw[str_empty _ h0,ByteArray.toList_eq];rfl⟩
  ·exact .inr ⟨em_ne h0,ne_empty _ h0⟩
 clear hlx hbr
 obtain⟨nn,hnn⟩:∃nn,p.syms.length=nn:=⟨_,rfl⟩
 rw[hnn] at HD hcc hln
 rw[hnn] at HA
 rw[hnn] at HCW
 rw[hnn] at hw1
 rw[hnn]
 clear hnn
 cases hb12:btw (nn:Int) 12 with
 | false=>
  have HW':Hid _:=fun w=>HW.out (nn:Int) w
  rw[hb12] at HD HW'
  clear hb12 HW
  cases lx<;>cases br<;>rcases he with ⟨he,hi⟩ | ⟨he,hi⟩ <;>
  (rw[he] at HD
   clear he
   go_enter Tryz.func71,Tryz.ntmps71
   go_wp2_with fail
   refine (HN.out _).mono ?_
   rintro e w2 ⟨rfl,hb⟩
   have HB2:=hHi hb
   obtain⟨d0,d2,d3,d4⟩:=HCW.out w2 hb
   clear hb
   go_wp2_with fail
   refine (HM.out _).mono ?_
   rintro e w3 ⟨rfl,hb⟩
   have hb3:=below_tr HB2.out hb
   have HB3:Hid _:=HT.out w3 hb3
   clear d0 d2 d3 d4
   obtain⟨d0,d2,d3,d4⟩:=HCW.out w3 hb3
   clear hb hb3
   go_wp2_with fail
   first
   | (refine (HW'.out _).mono ?_
      rintro e w4 ⟨rfl,rfl⟩
      go_wp2
      go_ret
      exact⟨by rw[HD.out];rfl,HB3.out⟩)
   | (go_ret
      exact⟨by rw[HD.out];rfl,HB3.out⟩))
 | true=>
  have HW':Hid _:=fun w=>HW.out (nn:Int) w
  rw[hb12] at HD HW'
  clear hb12 HW
  cases lx<;>cases br<;>rcases he with ⟨he,hi⟩ | ⟨he,hi⟩ <;>
  (rw[he] at HD
   clear he
   go_enter Tryz.func71,Tryz.ntmps71
   go_wp2_with fail
   refine (HN.out _).mono ?_
   rintro e w2 ⟨rfl,hb⟩
   have HB2:=hHi hb
   obtain⟨d0,d2,d3,d4⟩:=HCW.out w2 hb
   clear hb
   go_wp2_with fail
   refine (HM.out _).mono ?_
   rintro e w3 ⟨rfl,hb⟩
   have hb3:=below_tr HB2.out hb
   have HB3:Hid _:=HT.out w3 hb3
   have HB33:=hHi hb3
   clear d0 d2 d3 d4
   obtain⟨d0,d2,d3,d4⟩:=HCW.out w3 hb3
   clear hb hb3
   go_wp2_with fail
   first
   | (refine (HW'.out _).mono ?_
      rintro e w4 ⟨rfl,rfl⟩
      go_wp2_with fail
      refine (HA.out _ HB33.out).mono ?_
      rintro e w5 ⟨rfl,hb⟩
      have HB5:Hid _:=below_tr HB3.out hb
      clear hb
      go_wp2
      go_ret
      exact⟨by rw[HD.out];simp,HB5.out⟩)
   | (go_ret
      exact⟨by rw[HD.out];rfl,HB3.out⟩))
def numB (n:Int):Bool:=decide (0≤n)&&decide (n≤999999)
def itemB (i:It):Bool:=
 if i.kind=1 then decide (i.text.size≤32)&&i.n==0&&!decide (0<i.items.length)
 else if i.kind=2 then em i.text&&numB i.n&&!decide (0<i.items.length)
 else if i.kind=3 then em i.text&&i.n==0&&!decide (0<i.items.length)
 else if i.kind=4 then em i.text&&i.n==0&&!decide (0<i.items.length)
 else if i.kind=5 then em i.text&&numB i.n
 else if i.kind=6 then em i.text&&i.n==0
 else false
mutual
def itR:Nat→It→Nat×Bool
 | c,.mk k t n l=>if c+1≤64∧itemB (.mk k t n l)=true then itsR (c+1) l else (c+1,false)
def itsR:Nat→List It→Nat×Bool
 | c,[]=>(c,true)
 | c,i::l=>if (itR c i).2 then itsR (itR c i).1 l else ((itR c i).1,false)
end
theorem itR_eq (c:Nat) (i:It):itR c i=if c+1≤64∧itemB i=true then itsR (c+1) i.items else (c+1,false):=by cases i;rw[itR];rfl
mutual
theorem itR_le:∀(c:Nat) (i:It),c≤64→(itR c i).1≤65∧((itR c i).2=true→(itR c i).1≤64)
 | c,.mk k t n l,h=>by
  rw[itR]
  split
  ·rename_i hc
   exact itsR_le (c+1) l hc.1
  ·exact⟨by show c+1≤65;omega,fun h=>by cases h⟩
theorem itsR_le:∀(c:Nat) (l:List It),c≤64→(itsR c l).1≤65∧((itsR c l).2=true→(itsR c l).1≤64)
 | c,[],h=>by rw[itsR];exact⟨by show c≤65;omega,fun _=>h⟩
 | c,i::l,h=>by
  rw[itsR]
  have hi:=itR_le c i h
  split
  ·rename_i hq
   exact itsR_le _ l (hi.2 hq)
  ·exact⟨hi.1,fun h=>by cases h⟩
end
theorem bx_lt {W:World} {B:Nat} {t:TypeId} {v:Value} (h:Boxed W B t v):B<W.heap.size:=(Array.getElem?_eq_some_iff.1 (show W.heap[B]?=_ from h)).1
theorem bx_set {W:World} {B:Nat} {t:TypeId} {v:Value} (h:Boxed W B t v) (u:Value):Boxed (W.setCell ⟨B,0,none⟩ u) B t u:=by
 have:=heap_setCell_same W B 0 #[v] t u h
 simpa [Boxed] using this
theorem gr_set (W:World) (b o:Nat) (u:Value):W.grownBy (W.setCell ⟨b,o,none⟩ u) (some b):=
 ⟨rfl,rfl,rfl,by simp[World.setCell],fun k _ hne=>Below.heap_setCell _ _ _ k (fun e=>hne (by rw[e]))⟩
theorem gr_tr {X Y Z:World} {r:Option Nat} (h:X.grownBy Y r) (k:Y.grownBy Z r):X.grownBy Z r:=
 ⟨k.os.trans h.os,k.tape.trans h.tape,k.output.trans h.output,Nat.le_trans h.size k.size,fun b hb hne=>(k.block b (Nat.lt_of_lt_of_le hb h.size) hne).trans (h.block b hb hne)⟩
theorem gr_refl (X:World) (r:Option Nat):X.grownBy X r:=⟨rfl,rfl,rfl,Nat.le_refl _,fun _ _ _=>rfl⟩
theorem gr_of {X Y:World} (h:Below X.heap.size X Y) (r:Option Nat):X.grownBy Y r:=⟨h.os,h.tape,h.output,h.size,fun b hb _=>h.block b hb⟩
theorem gr_box {X Y:World} {L B:Nat} {t:TypeId} {v:Value} (h:X.grownBy Y (some L)) (hb:Boxed X B t v) (hne:B≠L):Boxed Y B t v:=(h.block B (bx_lt hb) (fun e=>hne (by cases e;rfl))).trans hb
theorem gr_bel {X Y:World} {L B:Nat} (h:X.grownBy Y (some L)) (hB:B≤L) (hs:B≤X.heap.size):Below B X Y:=⟨h.os,h.tape,h.output,h.size,fun b hb=>h.block b (by omega) (fun e=>by cases e;omega)⟩
theorem num_any (n:Int) (w:World):Calls Tryz.prog 158 #[.int .i64 n] w fun e w'=>e=.returned (.bool (numB n))∧w'=w:=by
 by_cases h1:0≤n
 ·have HE:Hid (numB n=decide (n≤999999)):=by show _=_;rw[numB,decide_eq_true h1];rfl
  go_enter Tryz.func158,Tryz.ntmps158
  go_wp2
  go_ret
  exact⟨by rw[HE.out];rfl,rfl⟩
 ·have HE:Hid (numB n=false):=by show _=_;rw[numB,decide_eq_false h1];rfl
  go_enter Tryz.func158,Tryz.ntmps158
  go_wp2
  go_ret
  exact⟨by rw[HE.out];rfl,rfl⟩
theorem item_any (x:It) (a:Option Addr) (c:Nat) (w:World):Calls Tryz.prog 129 #[.agg #[.int .i64 x.kind,.string x.text,.int .i64 x.n,.slice a x.items.length c]] w fun e w'=>e=.returned (.bool (itemB x))∧Below w.heap.size w w':=by
 obtain⟨n,hnn⟩:∃n,x.items.length=n:=⟨_,rfl⟩
 have HD:Hid (itemB x=if x.kind=1 then decide (x.text.size≤32)&&x.n==0&&!decide (0<n) else if x.kind=2 then em x.text&&numB x.n&&!decide (0<n) else if x.kind=3 then em x.text&&x.n==0&&!decide (0<n) else if x.kind=4 then em x.text&&x.n==0&&!decide (0<n) else if x.kind=5 then em x.text&&numB x.n else if x.kind=6 then em x.text&&x.n==0 else false):=by rw[←hnn];rfl
 rw[hnn]
 generalize itemB x=R at *
 obtain⟨w1,hw1⟩:∃w1,w.alloc (.cells #[.int .i64 x.kind,.string x.text,.int .i64 x.n,.slice a n c] 98)=w1:=⟨_,rfl⟩
 have b1:Below w.heap.size w w1:=by rw[←hw1];exact (Below.refl _ _).alloc (Nat.le_refl _) _
 have c0:w1.cell? ⟨w.heap.size,0,none⟩=some (.int .i64 x.kind):=by rw[←hw1];exact cell_new 0 rfl
 have c1:w1.cell? ⟨w.heap.size,1,none⟩=some (.string x.text):=by rw[←hw1];exact cell_new 1 rfl
 have c2:w1.cell? ⟨w.heap.size,2,none⟩=some (.int .i64 x.n):=by rw[←hw1];exact cell_new 2 rfl
 have c3:w1.cell? ⟨w.heap.size,3,none⟩=some (.slice a n c):=by rw[←hw1];exact cell_new 3 rfl
 have HB:=hHi b1
 have HM:Hid _:=fun w=>num_any x.n w
 clear b1 hnn
 have he:(em x.text=true∧x.text.toList.isEmpty=true)∨(em x.text=false∧x.text.toList.isEmpty=false):=by
  by_cases h0:x.text.size=0
  ·exact .inl ⟨em_eq h0,by rw[str_empty _ h0,ByteArray.toList_eq];rfl⟩
  ·exact .inr ⟨em_ne h0,ne_empty _ h0⟩
 by_cases k1:x.kind=1
 ·rw[if_pos k1] at HD
  have hk:(x.kind==1)=true:=by simpa using k1
  clear k1
  by_cases h32:x.text.size≤32
  ·rw[decide_eq_true h32] at HD
   have h32I:(x.text.size:Int)≤32:=by omega
   by_cases hz:x.n=0
   ·have hzb:(x.n==0)=true:=by simpa using hz
    rw[hzb] at HD
    clear hz
    go_enter Tryz.func129,Tryz.ntmps129
    go_wp2
    go_ret
    exact⟨by rw[HD.out];simp,HB.out⟩
   ·have hzb:(x.n==0)=false:=by simpa using hz
    rw[hzb] at HD
    clear hz
    go_enter Tryz.func129,Tryz.ntmps129
    go_wp2
    go_ret
    exact⟨by rw[HD.out];rfl,HB.out⟩
  ·rw[decide_eq_false h32] at HD
   have h32I:¬(x.text.size:Int)≤32:=by omega
   clear h32
   go_enter Tryz.func129,Tryz.ntmps129
   go_wp2
   go_ret
   exact⟨by rw[HD.out];rfl,HB.out⟩
 rw[if_neg k1] at HD
 have hk1:(x.kind==1)=false:=by simpa using k1
 by_cases k2:x.kind=2
 ·rw[if_pos k2] at HD
  have hk:(x.kind==2)=true:=by simpa using k2
  clear k1 k2
  rcases he with ⟨he,hi⟩ | ⟨he,hi⟩
  ·rw[he] at HD
   clear he
   cases hq:numB x.n with
   | false=>
    rw[hq] at HD HM
    clear hq
    go_enter Tryz.func129,Tryz.ntmps129
    go_wp2_with fail
    refine (HM.out _).mono ?_
    rintro e w2 ⟨rfl,rfl⟩
    go_wp2
    go_ret
    exact⟨by rw[HD.out];rfl,HB.out⟩
   | true=>
    rw[hq] at HD HM
    clear hq
    go_enter Tryz.func129,Tryz.ntmps129
    go_wp2_with fail
    refine (HM.out _).mono ?_
    rintro e w2 ⟨rfl,rfl⟩
    go_wp2
    go_ret
    exact⟨by rw[HD.out];simp,HB.out⟩
  ·rw[he] at HD
   clear he
   go_enter Tryz.func129,Tryz.ntmps129
   go_wp2
   go_ret
   exact⟨by rw[HD.out];rfl,HB.out⟩
 rw[if_neg k2] at HD
 have hk2:(x.kind==2)=false:=by simpa using k2
 by_cases k3:x.kind=3
 ·rw[if_pos k3] at HD
  have hk:(x.kind==3)=true:=by simpa using k3
  clear k1 k2 k3
  rcases he with ⟨he,hi⟩ | ⟨he,hi⟩
  ·rw[he] at HD
   clear he
   by_cases hz:x.n=0
   ·have hzb:(x.n==0)=true:=by simpa using hz
    rw[hzb] at HD
    clear hz
    go_enter Tryz.func129,Tryz.ntmps129
    go_wp2
    go_ret
    exact⟨by rw[HD.out];simp,HB.out⟩
   ·have hzb:(x.n==0)=false:=by simpa using hz
    rw[hzb] at HD
    clear hz
    go_enter Tryz.func129,Tryz.ntmps129
    go_wp2
    go_ret
    exact⟨by rw[HD.out];rfl,HB.out⟩
  ·rw[he] at HD
   clear he
   go_enter Tryz.func129,Tryz.ntmps129
   go_wp2
   go_ret
   exact⟨by rw[HD.out];rfl,HB.out⟩
 rw[if_neg k3] at HD
 have hk3:(x.kind==3)=false:=by simpa using k3
 by_cases k4:x.kind=4
 ·rw[if_pos k4] at HD
  have hk:(x.kind==4)=true:=by simpa using k4
  clear k1 k2 k3 k4
  rcases he with ⟨he,hi⟩ | ⟨he,hi⟩
  ·rw[he] at HD
   clear he
   by_cases hz:x.n=0
   ·have hzb:(x.n==0)=true:=by simpa using hz
    rw[hzb] at HD
    clear hz
    go_enter Tryz.func129,Tryz.ntmps129
    go_wp2
    go_ret
    exact⟨by rw[HD.out];simp,HB.out⟩
   ·have hzb:(x.n==0)=false:=by simpa using hz
    rw[hzb] at HD
    clear hz
    go_enter Tryz.func129,Tryz.ntmps129
    go_wp2
    go_ret
    exact⟨by rw[HD.out];rfl,HB.out⟩
  ·rw[he] at HD
   clear he
   go_enter Tryz.func129,Tryz.ntmps129
   go_wp2
   go_ret
   exact⟨by rw[HD.out];rfl,HB.out⟩
 rw[if_neg k4] at HD
 have hk4:(x.kind==4)=false:=by simpa using k4
 by_cases k5:x.kind=5
 ·rw[if_pos k5] at HD
  have hk:(x.kind==5)=true:=by simpa using k5
  clear k1 k2 k3 k4 k5
  rcases he with ⟨he,hi⟩ | ⟨he,hi⟩
  ·rw[he] at HD
   clear he
   cases hq:numB x.n with
   | false=>
    rw[hq] at HD HM
    clear hq
    go_enter Tryz.func129,Tryz.ntmps129
    go_wp2_with fail
    refine (HM.out _).mono ?_
    rintro e w2 ⟨rfl,rfl⟩
    go_wp2
    go_ret
    exact⟨by rw[HD.out];rfl,HB.out⟩
   | true=>
    rw[hq] at HD HM
    clear hq
    go_enter Tryz.func129,Tryz.ntmps129
    go_wp2_with fail
    refine (HM.out _).mono ?_
    rintro e w2 ⟨rfl,rfl⟩
    go_wp2
    go_ret
    exact⟨by rw[HD.out];simp,HB.out⟩
  ·rw[he] at HD
   clear he
   go_enter Tryz.func129,Tryz.ntmps129
   go_wp2
   go_ret
   exact⟨by rw[HD.out];rfl,HB.out⟩
 rw[if_neg k5] at HD
 have hk5:(x.kind==5)=false:=by simpa using k5
 by_cases k6:x.kind=6
 ·rw[if_pos k6] at HD
  have hk:(x.kind==6)=true:=by simpa using k6
  clear k1 k2 k3 k4 k5 k6
  rcases he with ⟨he,hi⟩ | ⟨he,hi⟩
  ·rw[he] at HD
   clear he
   by_cases hz:x.n=0
   ·have hzb:(x.n==0)=true:=by simpa using hz
    rw[hzb] at HD
    clear hz
    go_enter Tryz.func129,Tryz.ntmps129
    go_wp2
    go_ret
    exact⟨by rw[HD.out];simp,HB.out⟩
   ·have hzb:(x.n==0)=false:=by simpa using hz
    rw[hzb] at HD
    clear hz
    go_enter Tryz.func129,Tryz.ntmps129
    go_wp2
    go_ret
    exact⟨by rw[HD.out];rfl,HB.out⟩
  ·rw[he] at HD
   clear he
   go_enter Tryz.func129,Tryz.ntmps129
   go_wp2
   go_ret
   exact⟨by rw[HD.out];rfl,HB.out⟩
 rw[if_neg k6] at HD
 have hk6:(x.kind==6)=false:=by simpa using k6
 clear k1 k2 k3 k4 k5 k6 he
 go_enter Tryz.func129,Tryz.ntmps129
 go_wp2
 go_ret
 exact⟨by rw[HD.out];rfl,HB.out⟩
def RowI (w:World) (B:Nat) (H:It→Value→Prop) (a:Option Addr) (l:List It):Prop:=Row w B 4 (fun x vs=>∃v,vs=[.int .i64 x.kind,.string x.text,.int .i64 x.n,v]∧H x v) a l
theorem its_take {l:List It} {c k c':Nat} {x:It} (h:itsR c l=itsR c' (l.drop k)) (hx:l[k]?=some x):itsR c l=if (itR c' x).2 then itsR (itR c' x).1 (l.drop (k+1)) else ((itR c' x).1,false):=by
 have hlt:=(List.getElem?_eq_some_iff.1 hx).1
 have e:=(List.getElem?_eq_some_iff.1 hx).2
 rw[h,List.drop_eq_getElem_cons hlt,e,itsR]
theorem idxI (Cb Pb B:Nat) (hBC:B≤Cb) (l:List It) (a:Option Addr) (cp c0:Nat) (w:World) (hlen:l.length≤140737488355328) (hBw:B≤w.heap.size) (hr:RowI w B (fun x v=>∀(c:Nat) (W:World),w.grownBy W (some Cb)→Boxed W Cb 3 (.int .i64 (c:Int))→c≤64→Calls Tryz.prog 160 #[.agg #[.int .i64 x.kind,.string x.text,.int .i64 x.n,v],.pointer (some ⟨Pb,0,none⟩)] W fun e w'=>e=.returned (.bool (!(itR c x).2))∧Boxed w' Cb 3 (.int .i64 (((itR c x).1:Nat):Int))∧W.grownBy w' (some Cb)) a l) (hb0:Boxed w Cb 3 (.int .i64 (c0:Int))) (hc0:c0≤64) :
  Calls Tryz.prog 169 #[.slice a l.length cp,.func (.func 160) #[] #[.pointer (some ⟨Pb,0,none⟩)]] w fun e w'=>(∃i:Int,e=.returned (.int .i64 i)∧(0≤i↔(itsR c0 l).2=false))∧Boxed w' Cb 3 (.int .i64 (((itsR c0 l).1:Nat):Int))∧w.grownBy w' (some Cb):=by
 have HR:=hHi hr
 clear hr
 go_enter Tryz.func169,Tryz.ntmps169
 go_wp2
 go_loopw[5,8] (fun _ iv W=>∃k c:Nat,k≤l.length∧iv=.int .i64 k∧itsR c0 l=itsR c (l.drop k)∧c≤64∧Boxed W Cb 3 (.int .i64 (c:Int))∧w.grownBy W (some Cb)) (fun _ iv _=>l.length-(intOf iv).toNat)
 case atStart=>exact⟨0,c0,Nat.zero_le _,rfl,rfl,hc0,hb0,gr_refl _ _⟩
 case round=>
  obtain⟨k,c,hk,rfl,hh,hcl,hbc,hB⟩:=hrel
  by_cases hlt:k<l.length
  ·obtain⟨x,hx⟩:∃x,l[k]?=some x:=⟨l[k],by simp[hlt]⟩
   have hT:=its_take hh hx
   obtain⟨b,o,us,hab,hblt,⟨v,rfl,hH⟩,hc⟩:=HR.out k x hx
   subst hab
   have hBB:=gr_bel hB hBC hBw
   have hq_:=hcb hBB hblt hc
   have q0:=hq_ 0 _ rfl
   have q1:=hq_ 1 _ rfl
   have q2:=hq_ 2 _ rfl
   have q3:=hq_ 3 _ rfl
   clear hq_
   rw[Nat.add_zero] at q0
   have hltI:(k:Int)<l.length:=by omega
   have HC:Hid _:=hH c wr hB hbc hcl
   have hle:=itR_le c x hcl
   have HG:=hHi hB
   clear hc hH hh hBB hB hbc hx
   cases h3:(itR c x).2 with
   | false=>
    rw[h3] at HC hT
    rw[if_neg (by simp)] at hT
    have HT:=hHi hT
    clear h3 hT
    go_wp2_with fail
    refine Calls.mono HC.out ?_
    rintro e w6 ⟨rfl,hb6,hg6⟩
    have HB6:Hid _:=And.intro hb6 (gr_tr HG.out hg6)
    clear hb6 hg6 q0 q1 q2 q3
    go_wp2
    go_ret
    refine⟨⟨(k:Int),rfl,?_⟩,?_,HB6.out.2⟩
    ·rw[HT.out];simp
    ·rw[HT.out];exact HB6.out.1
   | true=>
    rw[h3] at HC hT
    rw[if_pos rfl] at hT
    have HT:=hHi hT
    have HL:Hid _:=hle.2 h3
    clear h3 hT hle
    go_wp2_with fail
    refine Calls.mono HC.out ?_
    rintro e w6 ⟨rfl,hb6,hg6⟩
    have HB6:Hid _:=And.intro hb6 (gr_tr HG.out hg6)
    clear hb6 hg6 q0 q1 q2 q3
    go_wp2
    go_roundw
    case rel=>exact⟨k+1,_,by omega,by go_num,HT.out,HL.out,HB6.out.1,HB6.out.2⟩
    case measure=>simp[intOf];omega
  ·obtain rfl:k=l.length:=by omega
   rw[List.drop_length,itsR] at hh
   have HT:=hHi hh
   have HB6:Hid _:=And.intro hbc hB
   clear hh hbc hB
   go_wp2
   go_ret
   refine⟨⟨-1,rfl,?_⟩,?_,HB6.out.2⟩
   ·rw[HT.out];simp
   ·rw[HT.out];exact HB6.out.1
theorem conI (Cb Pb B:Nat) (hBC:B≤Cb) (l:List It) (a:Option Addr) (cp c0:Nat) (w:World) (hlen:l.length≤140737488355328) (hBw:B≤w.heap.size) (hr:RowI w B (fun x v=>∀(c:Nat) (W:World),w.grownBy W (some Cb)→Boxed W Cb 3 (.int .i64 (c:Int))→c≤64→Calls Tryz.prog 160 #[.agg #[.int .i64 x.kind,.string x.text,.int .i64 x.n,v],.pointer (some ⟨Pb,0,none⟩)] W fun e w'=>e=.returned (.bool (!(itR c x).2))∧Boxed w' Cb 3 (.int .i64 (((itR c x).1:Nat):Int))∧W.grownBy w' (some Cb)) a l) (hb0:Boxed w Cb 3 (.int .i64 (c0:Int))) (hc0:c0≤64) :
  Calls Tryz.prog 159 #[.slice a l.length cp,.func (.func 160) #[] #[.pointer (some ⟨Pb,0,none⟩)]] w fun e w'=>e=.returned (.bool (!(itsR c0 l).2))∧Boxed w' Cb 3 (.int .i64 (((itsR c0 l).1:Nat):Int))∧w.grownBy w' (some Cb):=by
 have HC:=hU (idxI Cb Pb B hBC l a cp c0 w hlen hBw hr hb0 hc0)
 clear hr
 go_enter Tryz.func159,Tryz.ntmps159
 go_wp2_with fail
 refine Calls.mono (HC.out ()) ?_
 rintro e w6 ⟨⟨i,rfl,h2⟩,hb6,hg6⟩
 have hd:decide (0≤i)=!(itsR c0 l).2:=by
  by_cases hi:0≤i
  ·rw[decide_eq_true hi,h2.1 hi];rfl
  ·rw[decide_eq_false hi]
   cases h:(itsR c0 l).2
   ·exact absurd (h2.2 h) hi
   ·rfl
 have HD:=hHi hd
 have HB6:Hid _:=And.intro hb6 hg6
 clear hd h2 hb6 hg6
 go_wp2
 go_ret
 exact⟨by rw[HD.out];rfl,HB6.out⟩
theorem allI (Cb Rb B:Nat) (hBC:B≤Cb) (l:List It) (lv:Value) (c0:Nat) (w:World) (hBw:B≤w.heap.size) (hl:Sl w B 4 (fun x vs=>∃v,vs=[.int .i64 x.kind,.string x.text,.int .i64 x.n,v]∧(∀(c:Nat) (W:World),w.grownBy W (some Cb)→Boxed W Cb 3 (.int .i64 (c:Int))→c≤64→Calls Tryz.prog 128 #[.agg #[.int .i64 x.kind,.string x.text,.int .i64 x.n,v],.pointer (some ⟨Cb,0,none⟩),.pointer (some ⟨Rb,0,none⟩)] W fun e w'=>e=.returned (.bool (itR c x).2)∧Boxed w' Cb 3 (.int .i64 (((itR c x).1:Nat):Int))∧W.grownBy w' (some Cb))) l lv) (hb0:Boxed w Cb 3 (.int .i64 (c0:Int))) (hc0:c0≤64) :
  Calls Tryz.prog 130 #[lv,.func (.func 128) #[] #[.pointer (some ⟨Cb,0,none⟩),.pointer (some ⟨Rb,0,none⟩)]] w fun e w'=>e=.returned (.bool (itsR c0 l).2)∧Boxed w' Cb 3 (.int .i64 (((itsR c0 l).1:Nat):Int))∧w.grownBy w' (some Cb):=by
 obtain⟨a,cp,rfl,hcp,hlen,hr⟩:=hl
 have hCl:=bx_lt hb0
 obtain⟨w1,hw1⟩:∃w1,w.alloc (.cells #[.func (.func 128) #[] #[.pointer (some ⟨Cb,0,none⟩),.pointer (some ⟨Rb,0,none⟩)]] 120)=w1:=⟨_,rfl⟩
 have b1:Below w.heap.size w w1:=by rw[←hw1];exact (Below.refl _ _).alloc (Nat.le_refl _) _
 have s1:w1.heap.size=w.heap.size+1:=by rw[←hw1];simp
 have p1:Boxed w1 w.heap.size 120 (.func (.func 128) #[] #[.pointer (some ⟨Cb,0,none⟩),.pointer (some ⟨Rb,0,none⟩)]):=by rw[←hw1];exact Boxed.new _ _ _
 have hb1:Boxed w1 Cb 3 (.int .i64 (c0:Int)):=(b1.block Cb hCl).trans hb0
 have hgw:w.grownBy w1 (some Cb):=gr_of b1 _
 have HCC:Hid _:=fun (_:Unit)=>conI Cb w.heap.size B hBC l a cp c0 w1 hlen (by omega) (hr.keep (b1.mono hBw) (Nat.le_refl _) (fun x vs _ hx=>by
  obtain⟨v,e,hH⟩:=hx
  refine⟨v,e,fun c W hW hbW hcW=>?_⟩
  have pW:=gr_box hW p1 (by omega)
  obtain⟨W1,hW1⟩:∃W1,W.alloc (.cells #[.int .i64 x.kind,.string x.text,.int .i64 x.n,v] 98)=W1:=⟨_,rfl⟩
  have bb:Below W.heap.size W W1:=by rw[←hW1];exact (Below.refl _ _).alloc (Nat.le_refl _) _
  have hbl:=bx_lt hbW
  have hpl:=bx_lt pW
  have pbW:Boxed W1 w.heap.size 120 (.func (.func 128) #[] #[.pointer (some ⟨Cb,0,none⟩),.pointer (some ⟨Rb,0,none⟩)]):=(bb.block _ hpl).trans pW
  have pW1:W1.cell? ⟨w.heap.size,0,none⟩=some (.func (.func 128) #[] #[.pointer (some ⟨Cb,0,none⟩),.pointer (some ⟨Rb,0,none⟩)]):=pbW.cell
  have t0:W1.cell? ⟨W.heap.size,0,none⟩=some (.int .i64 x.kind):=by rw[←hW1];exact cell_new 0 rfl
  have t1:W1.cell? ⟨W.heap.size,1,none⟩=some (.string x.text):=by rw[←hW1];exact cell_new 1 rfl
  have t2:W1.cell? ⟨W.heap.size,2,none⟩=some (.int .i64 x.n):=by rw[←hW1];exact cell_new 2 rfl
  have t3:W1.cell? ⟨W.heap.size,3,none⟩=some v:=by rw[←hW1];exact cell_new 3 rfl
  have HC1:Hid _:=hH c W1 (gr_tr (gr_tr hgw hW) (gr_of bb _)) ((bb.block Cb hbl).trans hbW) hcW
  have HG:Hid _:=gr_of bb (some Cb)
  clear hH pW pbW bb hW hbW
  go_enter Tryz.func160,Tryz.ntmps160
  go_wp2_with fail
  refine Calls.mono HC1.out ?_
  rintro e w6 ⟨rfl,hb6,hg6⟩
  have HB6:Hid _:=And.intro hb6 (gr_tr HG.out hg6)
  clear hb6 hg6
  go_wp2
  go_ret
  exact⟨rfl,HB6.out⟩)) hb1 hc0
 have HW1:=hHi hgw
 clear p1 b1 hr hb1 hgw
 go_enter Tryz.func130,Tryz.ntmps130
 go_wp2_with fail
 refine Calls.mono (HCC.out ()) ?_
 rintro e w6 ⟨rfl,hb6,hg6⟩
 have HB6:Hid _:=And.intro hb6 (gr_tr HW1.out hg6)
 clear hb6 hg6
 go_wp2
 go_ret
 exact⟨by simp,HB6.out⟩
def boxB (b:Bo):Bool:=nm b.cons&&(itsR 0 b.items).2
theorem one_any (Cb Rb B:Nat) (hBC:B≤Cb) (hne:Rb≠Cb):∀(f:Nat) (x:It) (v:Value) (c:Nat) (w:World),B≤w.heap.size→Sl w B 4 (ItV w B f) x.items v→Boxed w Cb 3 (.int .i64 (c:Int))→Boxed w Rb 120 (.func (.func 128) #[] #[.pointer (some ⟨Cb,0,none⟩),.pointer (some ⟨Rb,0,none⟩)])→c≤64 →
  Calls Tryz.prog 128 #[.agg #[.int .i64 x.kind,.string x.text,.int .i64 x.n,v],.pointer (some ⟨Cb,0,none⟩),.pointer (some ⟨Rb,0,none⟩)] w fun e w'=>e=.returned (.bool (itR c x).2)∧Boxed w' Cb 3 (.int .i64 (((itR c x).1:Nat):Int))∧w.grownBy w' (some Cb):=by
 intro f
 induction f using Nat.strongRecOn with
 | ind f ih=>
 intro x v c w hBw hsl hbc hbr hc
 have HSL:Hid (Sl w B 4 (ItV w B f) x.items v):=hsl
 obtain⟨a,cp,rfl,hcp,hlen,_⟩:=hsl
 have hCl:=bx_lt hbc
 have hRl:=bx_lt hbr
 obtain⟨w1,hw1⟩:∃w1,w.alloc (.cells #[.int .i64 x.kind,.string x.text,.int .i64 x.n,.slice a x.items.length cp] 98)=w1:=⟨_,rfl⟩
 have b1:Below w.heap.size w w1:=by rw[←hw1];exact (Below.refl _ _).alloc (Nat.le_refl _) _
 have s1:w1.heap.size=w.heap.size+1:=by rw[←hw1];simp
 have hc1:Boxed w1 Cb 3 (.int .i64 (c:Int)):=(b1.block Cb hCl).trans hbc
 have k0:=hc1.cell
 have k1:=hc1.frozen
 obtain⟨w2,hw2⟩:∃w2,w1.setCell ⟨Cb,0,none⟩ (.int .i64 ((c:Int)+1))=w2:=⟨_,rfl⟩
 have hc2:Boxed w2 Cb 3 (.int .i64 ((c:Int)+1)):=by rw[←hw2];exact bx_set hc1 _
 have g2:w.grownBy w2 (some Cb):=gr_tr (gr_of b1 _) (by rw[←hw2];exact gr_set _ _ _ _)
 have k2:=hc2.cell
 have s2:w2.heap.size=w.heap.size+1:=by rw[←hw2,←s1];simp[World.setCell]
 have g12:w1.grownBy w2 (some Cb):=by rw[←hw2];exact gr_set _ _ _ _
 have hcell:∀j u,(#[.int .i64 x.kind,.string x.text,.int .i64 x.n,.slice a x.items.length cp]:Array Value)[j]?=some u→w2.cell? ⟨w.heap.size,j,none⟩=some u:=fun j u hu=>(World.cell?_of_block (a:=⟨w.heap.size,j,none⟩) (g12.block w.heap.size (by omega) (fun e=>by simp at e;omega))).trans (by rw[←hw1];exact cell_new j hu)
 have d0:=hcell 0 _ rfl
 have d1:=hcell 1 _ rfl
 have d2:=hcell 2 _ rfl
 have d3:=hcell 3 _ rfl
 have HIT:Hid _:=fun w=>item_any x a cp w
 have HE:Hid _:=itR_eq c x
 have HG:=hHi g2
 have HC2:Hid (Boxed w2 Cb 3 (.int .i64 ((c+1:Nat):Int))):=by show Boxed _ _ _ _;rw[show ((c+1:Nat):Int)=(c:Int)+1 by omega];exact hc2
 have HD3:=hHi d3
 clear hcell g12 hc1 hc2 b1 g2
 by_cases h64:c+1≤64
 ·have h64I:(c:Int)+1≤64:=by omega
  cases hq:itemB x with
  | false=>
   rw[if_neg (by rw[hq];simp)] at HE
   rw[hq] at HIT
   clear hq
   go_enter Tryz.func128,Tryz.ntmps128
   go_wp2_with fail
   refine (HIT.out _).mono ?_
   rintro e w3 ⟨rfl,hb3⟩
   have HF:Hid (Boxed w3 Cb 3 (.int .i64 ((c+1:Nat):Int))∧w.grownBy w3 (some Cb)):=⟨(hb3.block Cb (by omega)).trans HC2.out,gr_tr HG.out (gr_of hb3 _)⟩
   clear hb3
   go_wp2
   go_ret
   rw[HE.out]
   exact⟨rfl,HF.out⟩
  | true=>
   rw[if_pos ⟨h64,hq⟩] at HE
   rw[hq] at HIT
   clear hq
   go_enter Tryz.func128,Tryz.ntmps128
   go_wp2_with fail
   refine (HIT.out _).mono ?_
   rintro e w3 ⟨rfl,hb3⟩
   have g3:w.grownBy w3 (some Cb):=gr_tr HG.out (gr_of hb3 _)
   have hc3:Boxed w3 Cb 3 (.int .i64 ((c+1:Nat):Int)):=(hb3.block Cb (by omega)).trans HC2.out
   have hr3:Boxed w3 Rb 120 (.func (.func 128) #[] #[.pointer (some ⟨Cb,0,none⟩),.pointer (some ⟨Rb,0,none⟩)]):=gr_box g3 hbr hne
   have r3:=hr3.cell
   have e3:=(hb3.cell (p:=⟨w.heap.size,3,none⟩) (by show w.heap.size<_;omega)).trans HD3.out
   have hs3:=g3.size
   have HAL:Hid _:=fun (_:Unit)=>allI Cb Rb B hBC x.items (.slice a x.items.length cp) (c+1) w3 (by omega) (Sl.keep HSL.out (gr_bel g3 hBC hBw) (Nat.le_refl _) (fun y vs _ hy=>by
    cases f with
    | zero=>exact hy.elim
    | succ f'=>
     obtain⟨v',e',hs'⟩:=hy
     refine⟨v',e',fun c' W hW hbW hcW=>?_⟩
     have gW:=gr_tr g3 hW
     have hsW:=gW.size
     exact ih f' (by omega) y v' c' W (by omega) (hs'.keep (gr_bel gW hBC hBw) (Nat.le_refl _) (fun _ _ _ h=>h.keep (gr_bel gW hBC hBw) (Nat.le_refl _))) hbW (gr_box gW hbr hne) hcW)) hc3 h64
   have HG3:=hHi g3
   clear hb3 g3 hc3 hr3 d0 d1 d2 d3 k2
   go_wp2_with fail
   refine Calls.mono (HAL.out ()) ?_
   rintro e w4 ⟨rfl,hb4,hg4⟩
   have HF:Hid _:=And.intro hb4 (gr_tr HG3.out hg4)
   clear hb4 hg4
   go_wp2
   go_ret
   rw[HE.out]
   exact⟨rfl,HF.out⟩
 ·rw[if_neg (fun h=>h64 h.1)] at HE
  have h64I:¬(c:Int)+1≤64:=by omega
  clear h64
  go_enter Tryz.func128,Tryz.ntmps128
  go_wp2
  go_ret
  rw[HE.out]
  exact⟨rfl,HC2.out,HG.out⟩
theorem box_any (f:Nat) (b:Bo) (v:Value) (w:World) (h:Sl w w.heap.size 4 (ItV w w.heap.size f) b.items v):Calls Tryz.prog 80 #[.agg #[.string b.cons,v]] w fun e w'=>e=.returned (.bool (boxB b))∧Below w.heap.size w w':=by
 have HSL:Hid (Sl w w.heap.size 4 (ItV w w.heap.size f) b.items v):=h
 have HN:Hid _:=fun w=>isName_any b.cons w
 have HD:Hid (boxB b=(nm b.cons&&(itsR 0 b.items).2)):=rfl
 generalize boxB b=R at *
 clear h
 obtain⟨w3,hw3⟩:∃w3,(((w.alloc (.cells #[.string b.cons,v] 59)).alloc (.cells #[.int .i64 0] 3)).alloc (.cells #[.nilFunc] 120)).setCell ⟨w.heap.size+1+1,0,none⟩ (.func (.func 128) #[] #[.pointer (some ⟨w.heap.size+1,0,none⟩),.pointer (some ⟨w.heap.size+1+1,0,none⟩)])=w3:=⟨_,rfl⟩
 have bC0:=(Boxed.new (w.alloc (.cells #[.string b.cons,v] 59)) 3 (.int .i64 0)).alloc (.cells #[.nilFunc] 120)
 have bF0:=Boxed.new ((w.alloc (.cells #[.string b.cons,v] 59)).alloc (.cells #[.int .i64 0] 3)) 120 .nilFunc
 simp only[World.size_alloc] at bC0 bF0
 have bC:Boxed w3 (w.heap.size+1) 3 (.int .i64 0):=by rw[←hw3];exact (Below.heap_setCell _ _ _ (w.heap.size+1) (by show w.heap.size+1≠w.heap.size+1+1;omega)).trans bC0
 have bR:Boxed w3 (w.heap.size+1+1) 120 (.func (.func 128) #[] #[.pointer (some ⟨w.heap.size+1,0,none⟩),.pointer (some ⟨w.heap.size+1+1,0,none⟩)]):=by rw[←hw3];exact bx_set bF0 _
 have bb0:Below w.heap.size w (((w.alloc (.cells #[.string b.cons,v] 59)).alloc (.cells #[.int .i64 0] 3)).alloc (.cells #[.nilFunc] 120)):=(((Below.refl _ _).alloc (Nat.le_refl _) _).alloc (by simp) _).alloc (by simp;omega) _
 have bb:Below w.heap.size w w3:=by rw[←hw3];exact bb0.setCell (by show w.heap.size≤w.heap.size+1+1;omega) _
 have s3:w3.heap.size=w.heap.size+3:=by rw[←hw3];simp[World.setCell]
 have qq:∀j u,(#[.string b.cons,v]:Array Value)[j]?=some u→w3.cell? ⟨w.heap.size,j,none⟩=some u:=fun j u hu=>by
  rw[←hw3,World.cell?_setCell_far _ _ _ _ (by show w.heap.size+1+1≠w.heap.size;omega),World.cell?_alloc_past _ _ _ (by simp;omega),World.cell?_alloc_past _ _ _ (by simp)];exact cell_new j hu
 have q0:=qq 0 _ rfl
 have q1:=qq 1 _ rfl
 have n0:=bF0.cell
 have nf:=bF0.frozen
 have hst:(store ⟨w.heap.size+1+1,0,none⟩ (.func (.func 128) #[] #[.pointer (some ⟨w.heap.size+1,0,none⟩),.pointer (some ⟨w.heap.size+1+1,0,none⟩)])).run Tryz.prog (((w.alloc (.cells #[.string b.cons,v] 59)).alloc (.cells #[.int .i64 0] 3)).alloc (.cells #[.nilFunc] 120))=.ok () w3:=by
  rw[run_store Tryz.prog _ _ _ _ rfl,n0]
  simp only[nf,hw3]
  rfl
 clear bC0 bF0 n0 nf qq bb0
 cases hq:nm b.cons with
 | false=>
  have HQ:Hid (nameB great b.cons.data.toList=false):=hq
  rw[HQ.out] at HN
  rw[hq] at HD
  have HBB:=hHi bb
  clear hq bb bC bR hw3
  go_enter Tryz.func80,Tryz.ntmps80
  go_wp2_with fail
  refine (HN.out _).mono ?_
  rintro e w4 ⟨rfl,hb4⟩
  have HB:=hHi (below_tr HBB.out hb4)
  clear hb4
  go_wp2
  go_ret
  exact⟨by rw[HD.out];rfl,HB.out⟩
 | true=>
  have HQ:Hid (nameB great b.cons.data.toList=true):=hq
  rw[HQ.out] at HN
  rw[hq] at HD
  have HBX:Hid _:=And.intro bC (And.intro bR bb)
  clear hq hw3 bC bR bb
  go_enter Tryz.func80,Tryz.ntmps80
  go_wp2_with fail
  refine (HN.out _).mono ?_
  rintro e w4 ⟨rfl,hb4⟩
  have hs4:=hb4.size
  have bC4:Boxed w4 (w.heap.size+1) 3 (.int .i64 0):=(hb4.block _ (by omega)).trans HBX.out.1
  have bR4:Boxed w4 (w.heap.size+1+1) 120 (.func (.func 128) #[] #[.pointer (some ⟨w.heap.size+1,0,none⟩),.pointer (some ⟨w.heap.size+1+1,0,none⟩)]):=(hb4.block _ (by omega)).trans HBX.out.2.1
  have q4:=(hb4.cell (p:=⟨w.heap.size,1,none⟩) (by show w.heap.size<_;omega)).trans q1
  have bw4:Below w.heap.size w w4:=HBX.out.2.2.trans (hb4.mono (by omega))
  have r4:=bR4.cell
  have HAL:Hid _:=fun (_:Unit)=>allI (w.heap.size+1) (w.heap.size+1+1) w.heap.size (by omega) b.items v 0 w4 (by omega) (Sl.keep HSL.out bw4 (Nat.le_refl _) (fun y vs _ hy=>by
   cases f with
   | zero=>exact hy.elim
   | succ f'=>
    obtain⟨v',e',hs'⟩:=hy
    refine⟨v',e',fun c' W hW hbW hcW=>?_⟩
    have gB:Below w.heap.size w W:=bw4.trans (gr_bel hW (by omega) (by omega))
    have hsW:=hW.size
    exact one_any (w.heap.size+1) (w.heap.size+1+1) w.heap.size (by omega) (by omega) f' y v' c' W (by omega) (hs'.keep gB (Nat.le_refl _) (fun _ _ _ h=>h.keep gB (Nat.le_refl _))) hbW (gr_box hW bR4 (by omega)) hcW)) bC4 (by omega)
  have HB4:=hHi bw4
  clear bC4 bR4 hb4 bw4 q0 q1
  go_wp2_with fail
  refine Calls.mono (HAL.out ()) ?_
  rintro e w5 ⟨rfl,hb5,hg5⟩
  have HB5:Hid (Below w.heap.size w w5):=HB4.out.trans (gr_bel hg5 (by omega) (by omega))
  clear hb5 hg5
  go_wp2
  go_ret
  exact⟨by rw[HD.out];rfl,HB5.out⟩
noncomputable def rightB (d:Df):Bool:=nmN d.start&&nmN d.layout&&decide (d.prods.length≤200)&&d.prods.all prodB&&d.chains.all chainB&&d.follows.all (fun x=>nm x.sort)&&d.rejects.all (fun x=>nm x.sort&&nm x.by')&&d.boxes.all boxB
theorem right_any (d:Df) (f:Nat) (v2 v3 v4 v5 v6:Value) (w:World) (h2:Sl w w.heap.size 5 (PrV w w.heap.size) d.prods v2) (h3:Sl w w.heap.size 1 (ChV w w.heap.size) d.chains v3) (h4:Sl w w.heap.size 5 FoV d.follows v4) (h5:Sl w w.heap.size 2 ReV d.rejects v5) (h6:Sl w w.heap.size 2 (BoV w w.heap.size f) d.boxes v6) :
  Calls Tryz.prog 34 #[.agg #[.string d.start,.string d.layout,v2,v3,v4,v5,v6]] w fun e w'=>e=.returned (.bool (rightB d))∧Below w.heap.size w w':=by
 obtain⟨w1,hw1⟩:∃w1,w.alloc (.cells #[.string d.start,.string d.layout,v2,v3,v4,v5,v6] 28)=w1:=⟨_,rfl⟩
 have b1:Below w.heap.size w w1:=by rw[←hw1];exact (Below.refl _ _).alloc (Nat.le_refl _) _
 have s1:w.heap.size<w1.heap.size:=by rw[←hw1];simp
 have hc:∀j u,(#[.string d.start,.string d.layout,v2,v3,v4,v5,v6]:Array Value)[j]?=some u→w1.cell? ⟨w.heap.size,j,none⟩=some u:=fun j u hu=>by rw[←hw1];exact cell_new j hu
 have HCW:Hid (∀W,Below w1.heap.size w1 W→W.cell? ⟨w.heap.size,0,none⟩=some (.string d.start)∧W.cell? ⟨w.heap.size,1,none⟩=some (.string d.layout)∧W.cell? ⟨w.heap.size,2,none⟩=some (v2)∧W.cell? ⟨w.heap.size,3,none⟩=some (v3)∧W.cell? ⟨w.heap.size,4,none⟩=some (v4)∧W.cell? ⟨w.heap.size,5,none⟩=some (v5)∧W.cell? ⟨w.heap.size,6,none⟩=some (v6)):=fun W hb=>by
  have q:∀j,W.cell? ⟨w.heap.size,j,none⟩=w1.cell? ⟨w.heap.size,j,none⟩:=fun j=>hb.cell (p:=⟨w.heap.size,j,none⟩) s1
  exact⟨(q 0).trans (hc 0 _ rfl),(q 1).trans (hc 1 _ rfl),(q 2).trans (hc 2 _ rfl),(q 3).trans (hc 3 _ rfl),(q 4).trans (hc 4 _ rfl),(q 5).trans (hc 5 _ rfl),(q 6).trans (hc 6 _ rfl)⟩
 have HT:Hid (∀W,Below w1.heap.size w1 W→Below w.heap.size w W):=fun W hb=>below_tr b1 hb
 have H0:Hid _:=fun w=>nameN_any d.start w
 have H1:Hid _:=fun w=>nameN_any d.layout w
 have H2:Hid (∀W,Below w1.heap.size w1 W→Calls Tryz.prog 70 #[v2,.func (.func 71) #[] #[]] W fun e w'=>e=.returned (.bool (d.prods.all prodB))∧Below W.heap.size W w'):=fun W hb=>all_prod prodB d.prods v2 W (h2.keep (HT.out W hb) (HT.out W hb).size (fun _ _ _ h=>h.keep (HT.out W hb) (HT.out W hb).size)) (fun x _ v W _ h=>prod_any x v W h)
 have H3:Hid (∀W,Below w1.heap.size w1 W→Calls Tryz.prog 72 #[v3,.func (.func 73) #[] #[]] W fun e w'=>e=.returned (.bool (d.chains.all chainB))∧Below W.heap.size W w'):=fun W hb=>all_chain chainB d.chains v3 W (h3.keep (HT.out W hb) (HT.out W hb).size (fun _ _ _ h=>h.keep (HT.out W hb) (HT.out W hb).size)) (fun x _ v W _ h=>chain_any x v W h)
 have H4:Hid (∀W,Below w1.heap.size w1 W→Calls Tryz.prog 74 #[v4,.func (.func 75) #[] #[]] W fun e w'=>e=.returned (.bool (d.follows.all (fun x=>nm x.sort)))∧Below W.heap.size W w'):=fun W hb=>all_follow (fun x=>nm x.sort) d.follows v4 W (h4.keep (HT.out W hb) (HT.out W hb).size (fun _ _ _ h=>h)) (fun x _ _ W _=>follow_any x W)
 have H5:Hid (∀W,Below w1.heap.size w1 W→Calls Tryz.prog 77 #[v5,.func (.func 78) #[] #[]] W fun e w'=>e=.returned (.bool (d.rejects.all (fun x=>nm x.sort&&nm x.by')))∧Below W.heap.size W w'):=fun W hb=>all_reject (fun x=>nm x.sort&&nm x.by') d.rejects v5 W (h5.keep (HT.out W hb) (HT.out W hb).size (fun _ _ _ h=>h)) (fun x _ W _=>reject_any x W)
 have H6:Hid (∀W,Below w1.heap.size w1 W→Calls Tryz.prog 79 #[v6,.func (.func 80) #[] #[]] W fun e w'=>e=.returned (.bool (d.boxes.all boxB))∧Below W.heap.size W w'):=fun W hb=>all_box f boxB d.boxes v6 W (h6.keep (HT.out W hb) (HT.out W hb).size (fun _ _ _ h=>h.keep (HT.out W hb) (HT.out W hb).size)) (fun x _ v W _ h=>box_any f x v W h)
 obtain⟨a2,p2,rfl,_,hl2,_⟩:=h2
 have HD:Hid (rightB d=(nmN d.start&&nmN d.layout&&decide (d.prods.length≤200)&&d.prods.all prodB&&d.chains.all chainB&&d.follows.all (fun x=>nm x.sort)&&d.rejects.all (fun x=>nm x.sort&&nm x.by')&&d.boxes.all boxB)):=rfl
 generalize rightB d=R at *
 have HB0:Hid (Below w1.heap.size w1 w1):=Below.refl _ _
 obtain⟨c0,c1,c2,c3,c4,c5,c6⟩:=HCW.out w1 HB0.out
 clear b1 hc h3 h4 h5 h6
 obtain⟨n0,e0⟩:∃q,nmN d.start=q:=⟨_,rfl⟩
 rw[e0] at HD H0
 clear e0
 obtain⟨n1,e1⟩:∃q,nmN d.layout=q:=⟨_,rfl⟩
 rw[e1] at HD H1
 clear e1
 obtain⟨n3,e3⟩:∃q,d.prods.all prodB=q:=⟨_,rfl⟩
 rw[e3] at HD H2
 clear e3
 obtain⟨n4,e4⟩:∃q,d.chains.all chainB=q:=⟨_,rfl⟩
 rw[e4] at HD H3
 clear e4
 obtain⟨n5,e5⟩:∃q,d.follows.all (fun x=>nm x.sort)=q:=⟨_,rfl⟩
 rw[e5] at HD H4
 clear e5
 obtain⟨n6,e6⟩:∃q,d.rejects.all (fun x=>nm x.sort&&nm x.by')=q:=⟨_,rfl⟩
 rw[e6] at HD H5
 clear e6
 obtain⟨n7,e7⟩:∃q,d.boxes.all boxB=q:=⟨_,rfl⟩
 rw[e7] at HD H6
 clear e7
 cases n0 with
 | false=>
  go_enter Tryz.func34,Tryz.ntmps34
  go_wp2_with fail
  refine (H0.out _).mono ?_
  rintro e y0 ⟨rfl,hb⟩
  have HB1:=hHi (below_tr HB0.out hb)
  clear hb c0 c1 c2 c3 c4 c5 c6
  obtain⟨c0,c1,c2,c3,c4,c5,c6⟩:=HCW.out y0 HB1.out
  go_wp2
  go_ret
  exact⟨by rw[HD.out];first | rfl | simp,HT.out _ HB1.out⟩
 | true=>
 cases n1 with
 | false=>
  go_enter Tryz.func34,Tryz.ntmps34
  go_wp2_with fail
  refine (H0.out _).mono ?_
  rintro e y0 ⟨rfl,hb⟩
  have HB1:=hHi (below_tr HB0.out hb)
  clear hb c0 c1 c2 c3 c4 c5 c6
  obtain⟨c0,c1,c2,c3,c4,c5,c6⟩:=HCW.out y0 HB1.out
  go_wp2_with fail
  refine (H1.out _).mono ?_
  rintro e y1 ⟨rfl,hb⟩
  have HB2:=hHi (below_tr HB1.out hb)
  clear hb c0 c1 c2 c3 c4 c5 c6
  obtain⟨c0,c1,c2,c3,c4,c5,c6⟩:=HCW.out y1 HB2.out
  go_wp2
  go_ret
  exact⟨by rw[HD.out];first | rfl | simp,HT.out _ HB2.out⟩
 | true=>
 by_cases hp:d.prods.length≤200
 case neg=>
  rw[decide_eq_false hp] at HD
  have hpI:¬(d.prods.length:Int)≤200:=by omega
  clear hp
  go_enter Tryz.func34,Tryz.ntmps34
  go_wp2_with fail
  refine (H0.out _).mono ?_
  rintro e y0 ⟨rfl,hb⟩
  have HB1:=hHi (below_tr HB0.out hb)
  clear hb c0 c1 c2 c3 c4 c5 c6
  obtain⟨c0,c1,c2,c3,c4,c5,c6⟩:=HCW.out y0 HB1.out
  go_wp2_with fail
  refine (H1.out _).mono ?_
  rintro e y1 ⟨rfl,hb⟩
  have HB2:=hHi (below_tr HB1.out hb)
  clear hb c0 c1 c2 c3 c4 c5 c6
  obtain⟨c0,c1,c2,c3,c4,c5,c6⟩:=HCW.out y1 HB2.out
  go_wp2
  go_ret
  exact⟨by rw[HD.out];first | rfl | simp,HT.out _ HB2.out⟩
 rw[decide_eq_true hp] at HD
 have hpI:(d.prods.length:Int)≤200:=by omega
 cases n3 with
 | false=>
  go_enter Tryz.func34,Tryz.ntmps34
  go_wp2_with fail
  refine (H0.out _).mono ?_
  rintro e y0 ⟨rfl,hb⟩
  have HB1:=hHi (below_tr HB0.out hb)
  clear hb c0 c1 c2 c3 c4 c5 c6
  obtain⟨c0,c1,c2,c3,c4,c5,c6⟩:=HCW.out y0 HB1.out
  go_wp2_with fail
  refine (H1.out _).mono ?_
  rintro e y1 ⟨rfl,hb⟩
  have HB2:=hHi (below_tr HB1.out hb)
  clear hb c0 c1 c2 c3 c4 c5 c6
  obtain⟨c0,c1,c2,c3,c4,c5,c6⟩:=HCW.out y1 HB2.out
  go_wp2_with fail
  refine (H2.out _ HB2.out).mono ?_
  rintro e y3 ⟨rfl,hb⟩
  have HB4:=hHi (below_tr HB2.out hb)
  clear hb c0 c1 c2 c3 c4 c5 c6
  obtain⟨c0,c1,c2,c3,c4,c5,c6⟩:=HCW.out y3 HB4.out
  go_wp2
  go_ret
  exact⟨by rw[HD.out];first | rfl | simp,HT.out _ HB4.out⟩
 | true=>
 cases n4 with
 | false=>
  go_enter Tryz.func34,Tryz.ntmps34
  go_wp2_with fail
  refine (H0.out _).mono ?_
  rintro e y0 ⟨rfl,hb⟩
  have HB1:=hHi (below_tr HB0.out hb)
  clear hb c0 c1 c2 c3 c4 c5 c6
  obtain⟨c0,c1,c2,c3,c4,c5,c6⟩:=HCW.out y0 HB1.out
  go_wp2_with fail
  refine (H1.out _).mono ?_
  rintro e y1 ⟨rfl,hb⟩
  have HB2:=hHi (below_tr HB1.out hb)
  clear hb c0 c1 c2 c3 c4 c5 c6
  obtain⟨c0,c1,c2,c3,c4,c5,c6⟩:=HCW.out y1 HB2.out
  go_wp2_with fail
  refine (H2.out _ HB2.out).mono ?_
  rintro e y3 ⟨rfl,hb⟩
  have HB4:=hHi (below_tr HB2.out hb)
  clear hb c0 c1 c2 c3 c4 c5 c6
  obtain⟨c0,c1,c2,c3,c4,c5,c6⟩:=HCW.out y3 HB4.out
  go_wp2_with fail
  refine (H3.out _ HB4.out).mono ?_
  rintro e y4 ⟨rfl,hb⟩
  have HB5:=hHi (below_tr HB4.out hb)
  clear hb c0 c1 c2 c3 c4 c5 c6
  obtain⟨c0,c1,c2,c3,c4,c5,c6⟩:=HCW.out y4 HB5.out
  go_wp2
  go_ret
  exact⟨by rw[HD.out];first | rfl | simp,HT.out _ HB5.out⟩
 | true=>
 cases n5 with
 | false=>
  go_enter Tryz.func34,Tryz.ntmps34
  go_wp2_with fail
  refine (H0.out _).mono ?_
  rintro e y0 ⟨rfl,hb⟩
  have HB1:=hHi (below_tr HB0.out hb)
  clear hb c0 c1 c2 c3 c4 c5 c6
  obtain⟨c0,c1,c2,c3,c4,c5,c6⟩:=HCW.out y0 HB1.out
  go_wp2_with fail
  refine (H1.out _).mono ?_
  rintro e y1 ⟨rfl,hb⟩
  have HB2:=hHi (below_tr HB1.out hb)
  clear hb c0 c1 c2 c3 c4 c5 c6
  obtain⟨c0,c1,c2,c3,c4,c5,c6⟩:=HCW.out y1 HB2.out
  go_wp2_with fail
  refine (H2.out _ HB2.out).mono ?_
  rintro e y3 ⟨rfl,hb⟩
  have HB4:=hHi (below_tr HB2.out hb)
  clear hb c0 c1 c2 c3 c4 c5 c6
  obtain⟨c0,c1,c2,c3,c4,c5,c6⟩:=HCW.out y3 HB4.out
  go_wp2_with fail
  refine (H3.out _ HB4.out).mono ?_
  rintro e y4 ⟨rfl,hb⟩
  have HB5:=hHi (below_tr HB4.out hb)
  clear hb c0 c1 c2 c3 c4 c5 c6
  obtain⟨c0,c1,c2,c3,c4,c5,c6⟩:=HCW.out y4 HB5.out
  go_wp2_with fail
  refine (H4.out _ HB5.out).mono ?_
  rintro e y5 ⟨rfl,hb⟩
  have HB6:=hHi (below_tr HB5.out hb)
  clear hb c0 c1 c2 c3 c4 c5 c6
  obtain⟨c0,c1,c2,c3,c4,c5,c6⟩:=HCW.out y5 HB6.out
  go_wp2
  go_ret
  exact⟨by rw[HD.out];first | rfl | simp,HT.out _ HB6.out⟩
 | true=>
 cases n6 with
 | false=>
  go_enter Tryz.func34,Tryz.ntmps34
  go_wp2_with fail
  refine (H0.out _).mono ?_
  rintro e y0 ⟨rfl,hb⟩
  have HB1:=hHi (below_tr HB0.out hb)
  clear hb c0 c1 c2 c3 c4 c5 c6
  obtain⟨c0,c1,c2,c3,c4,c5,c6⟩:=HCW.out y0 HB1.out
  go_wp2_with fail
  refine (H1.out _).mono ?_
  rintro e y1 ⟨rfl,hb⟩
  have HB2:=hHi (below_tr HB1.out hb)
  clear hb c0 c1 c2 c3 c4 c5 c6
  obtain⟨c0,c1,c2,c3,c4,c5,c6⟩:=HCW.out y1 HB2.out
  go_wp2_with fail
  refine (H2.out _ HB2.out).mono ?_
  rintro e y3 ⟨rfl,hb⟩
  have HB4:=hHi (below_tr HB2.out hb)
  clear hb c0 c1 c2 c3 c4 c5 c6
  obtain⟨c0,c1,c2,c3,c4,c5,c6⟩:=HCW.out y3 HB4.out
  go_wp2_with fail
  refine (H3.out _ HB4.out).mono ?_
  rintro e y4 ⟨rfl,hb⟩
  have HB5:=hHi (below_tr HB4.out hb)
  clear hb c0 c1 c2 c3 c4 c5 c6
  obtain⟨c0,c1,c2,c3,c4,c5,c6⟩:=HCW.out y4 HB5.out
  go_wp2_with fail
  refine (H4.out _ HB5.out).mono ?_
  rintro e y5 ⟨rfl,hb⟩
  have HB6:=hHi (below_tr HB5.out hb)
  clear hb c0 c1 c2 c3 c4 c5 c6
  obtain⟨c0,c1,c2,c3,c4,c5,c6⟩:=HCW.out y5 HB6.out
  go_wp2_with fail
  refine (H5.out _ HB6.out).mono ?_
  rintro e y6 ⟨rfl,hb⟩
  have HB7:=hHi (below_tr HB6.out hb)
  clear hb c0 c1 c2 c3 c4 c5 c6
  obtain⟨c0,c1,c2,c3,c4,c5,c6⟩:=HCW.out y6 HB7.out
  go_wp2
  go_ret
  exact⟨by rw[HD.out];first | rfl | simp,HT.out _ HB7.out⟩
 | true=>
 cases n7 with
 | false=>
  go_enter Tryz.func34,Tryz.ntmps34
  go_wp2_with fail
  refine (H0.out _).mono ?_
  rintro e y0 ⟨rfl,hb⟩
  have HB1:=hHi (below_tr HB0.out hb)
  clear hb c0 c1 c2 c3 c4 c5 c6
  obtain⟨c0,c1,c2,c3,c4,c5,c6⟩:=HCW.out y0 HB1.out
  go_wp2_with fail
  refine (H1.out _).mono ?_
  rintro e y1 ⟨rfl,hb⟩
  have HB2:=hHi (below_tr HB1.out hb)
  clear hb c0 c1 c2 c3 c4 c5 c6
  obtain⟨c0,c1,c2,c3,c4,c5,c6⟩:=HCW.out y1 HB2.out
  go_wp2_with fail
  refine (H2.out _ HB2.out).mono ?_
  rintro e y3 ⟨rfl,hb⟩
  have HB4:=hHi (below_tr HB2.out hb)
  clear hb c0 c1 c2 c3 c4 c5 c6
  obtain⟨c0,c1,c2,c3,c4,c5,c6⟩:=HCW.out y3 HB4.out
  go_wp2_with fail
  refine (H3.out _ HB4.out).mono ?_
  rintro e y4 ⟨rfl,hb⟩
  have HB5:=hHi (below_tr HB4.out hb)
  clear hb c0 c1 c2 c3 c4 c5 c6
  obtain⟨c0,c1,c2,c3,c4,c5,c6⟩:=HCW.out y4 HB5.out
  go_wp2_with fail
  refine (H4.out _ HB5.out).mono ?_
  rintro e y5 ⟨rfl,hb⟩
  have HB6:=hHi (below_tr HB5.out hb)
  clear hb c0 c1 c2 c3 c4 c5 c6
  obtain⟨c0,c1,c2,c3,c4,c5,c6⟩:=HCW.out y5 HB6.out
  go_wp2_with fail
  refine (H5.out _ HB6.out).mono ?_
  rintro e y6 ⟨rfl,hb⟩
  have HB7:=hHi (below_tr HB6.out hb)
  clear hb c0 c1 c2 c3 c4 c5 c6
  obtain⟨c0,c1,c2,c3,c4,c5,c6⟩:=HCW.out y6 HB7.out
  go_wp2_with fail
  refine (H6.out _ HB7.out).mono ?_
  rintro e y7 ⟨rfl,hb⟩
  have HB8:=hHi (below_tr HB7.out hb)
  clear hb c0 c1 c2 c3 c4 c5 c6
  obtain⟨c0,c1,c2,c3,c4,c5,c6⟩:=HCW.out y7 HB8.out
  go_wp2
  go_ret
  exact⟨by rw[HD.out];first | rfl | simp,HT.out _ HB8.out⟩
 | true=>
 go_enter Tryz.func34,Tryz.ntmps34
 go_wp2_with fail
 refine (H0.out _).mono ?_
 rintro e y0 ⟨rfl,hb⟩
 have HB1:=hHi (below_tr HB0.out hb)
 clear hb c0 c1 c2 c3 c4 c5 c6
 obtain⟨c0,c1,c2,c3,c4,c5,c6⟩:=HCW.out y0 HB1.out
 go_wp2_with fail
 refine (H1.out _).mono ?_
 rintro e y1 ⟨rfl,hb⟩
 have HB2:=hHi (below_tr HB1.out hb)
 clear hb c0 c1 c2 c3 c4 c5 c6
 obtain⟨c0,c1,c2,c3,c4,c5,c6⟩:=HCW.out y1 HB2.out
 go_wp2_with fail
 refine (H2.out _ HB2.out).mono ?_
 rintro e y3 ⟨rfl,hb⟩
 have HB4:=hHi (below_tr HB2.out hb)
 clear hb c0 c1 c2 c3 c4 c5 c6
 obtain⟨c0,c1,c2,c3,c4,c5,c6⟩:=HCW.out y3 HB4.out
 go_wp2_with fail
 refine (H3.out _ HB4.out).mono ?_
 rintro e y4 ⟨rfl,hb⟩
 have HB5:=hHi (below_tr HB4.out hb)
 clear hb c0 c1 c2 c3 c4 c5 c6
 obtain⟨c0,c1,c2,c3,c4,c5,c6⟩:=HCW.out y4 HB5.out
 go_wp2_with fail
 refine (H4.out _ HB5.out).mono ?_
 rintro e y5 ⟨rfl,hb⟩
 have HB6:=hHi (below_tr HB5.out hb)
 clear hb c0 c1 c2 c3 c4 c5 c6
 obtain⟨c0,c1,c2,c3,c4,c5,c6⟩:=HCW.out y5 HB6.out
 go_wp2_with fail
 refine (H5.out _ HB6.out).mono ?_
 rintro e y6 ⟨rfl,hb⟩
 have HB7:=hHi (below_tr HB6.out hb)
 clear hb c0 c1 c2 c3 c4 c5 c6
 obtain⟨c0,c1,c2,c3,c4,c5,c6⟩:=HCW.out y6 HB7.out
 go_wp2_with fail
 refine (H6.out _ HB7.out).mono ?_
 rintro e y7 ⟨rfl,hb⟩
 have HB8:=hHi (below_tr HB7.out hb)
 clear hb c0 c1 c2 c3 c4 c5 c6
 obtain⟨c0,c1,c2,c3,c4,c5,c6⟩:=HCW.out y7 HB8.out
 go_wp2
 go_ret
 exact⟨by rw[HD.out];first | rfl | simp,HT.out _ HB8.out⟩
noncomputable def rsymB (x:Sy):Bool:=
 if x.kind=1 then eqS x ⟨x.kind,x.text,⟨0,0,0,0⟩,⟨#[]⟩,⟨#[]⟩⟩&&decide (x.text.size≤32)&&decide (x.sep.size≤32)&&(em x.name||nm x.name)
 else if x.kind=2 then eqS x ⟨x.kind,⟨#[]⟩,x.set,⟨#[]⟩,⟨#[]⟩⟩&&decide (x.text.size≤32)&&decide (x.sep.size≤32)&&(em x.name||nm x.name)
 else if x.kind=3 then eqS x ⟨x.kind,⟨#[]⟩,⟨0,0,0,0⟩,x.name,⟨#[]⟩⟩&&decide (x.text.size≤32)&&decide (x.sep.size≤32)&&nm x.name
 else if x.kind=4 then (if em x.name then eqS x ⟨x.kind,⟨#[]⟩,x.set,x.name,⟨#[]⟩⟩ else eqS x ⟨x.kind,⟨#[]⟩,⟨0,0,0,0⟩,x.name,⟨#[]⟩⟩)&&decide (x.text.size≤32)&&decide (x.sep.size≤32)&&(em x.name||nm x.name)
 else if x.kind=5 then (if em x.name then eqS x ⟨x.kind,⟨#[]⟩,x.set,x.name,⟨#[]⟩⟩ else eqS x ⟨x.kind,⟨#[]⟩,⟨0,0,0,0⟩,x.name,x.sep⟩)&&decide (x.text.size≤32)&&decide (x.sep.size≤32)&&(em x.name||nm x.name)
 else if x.kind=6 then (if em x.name then eqS x ⟨x.kind,⟨#[]⟩,x.set,x.name,⟨#[]⟩⟩ else eqS x ⟨x.kind,⟨#[]⟩,⟨0,0,0,0⟩,x.name,x.sep⟩)&&decide (x.text.size≤32)&&decide (x.sep.size≤32)&&(em x.name||nm x.name)
 else false
theorem em_iff {s:ByteArray}:em s=true↔s=⟨#[]⟩:=by
 constructor
 ·intro h;exact str_empty s (by simpa [em] using h)
 ·intro h;rw[h];rfl
theorem eqS_iff {x y:Sy}:eqS x y=true↔x=y:=by unfold eqS;simp
end Go.Proofs.YtilpgpcgcpedjaaGreat
