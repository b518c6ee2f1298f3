/- What the document's Right wants besides. The document's own: productions that are right. The document's own: chains that are right. The document's own: items that are right. The document's own: definitions that are right. -/
import Derived.Test.YtcpakcffiopfjaaGreatDoorB1
import Derived.Test.YtcpakcffiopfjaaGreatDoorA0
namespace Go.Proofs.YtcpakcffiopfjaaGreatDoor
open Go.RowKit
set_option linter.unusedVariables false
set_option linter.unusedSimpArgs false
set_option maxRecDepth 100000
set_option maxHeartbeats 16000000
set_option linter.unusedVariables false
set_option linter.unusedSimpArgs false
set_option maxRecDepth 100000
set_option maxHeartbeats 16000000
theorem cls_pos (n:Nat):decide (0<cls n)=alnum n:=by
 unfold cls alnum
 cases great n<;>cases small n<;>cases digB n<;>decide
theorem cls_one (n:Nat):decide (cls n=1)=great n:=by
 unfold cls
 cases great n<;>cases small n<;>cases digB n<;>decide
theorem cls_any (n:Nat) (w:World):Calls Tryz.prog 145 #[.int .u8 n] w fun e w'=>e=.returned (.int .i64 (cls n))∧w'=w:=by
 have H:Hid (cls n=if (65≤n∧n≤90) then 1 else if (97≤n∧n≤122) then 2 else if (48≤n∧n≤57) then 3 else 0):=by
  show _=_
  unfold cls great small digB
  simp only[Bool.and_eq_true,decide_eq_true_eq]
 go_enter Tryz.func145,Tryz.ntmps145
 go_wp2
 all_goals go_ret
 all_goals (refine⟨ret_int ?_,rfl⟩;rw[H.out])
 all_goals (repeat' split)
 all_goals omega
theorem far_any (x:ByteArray) (i:Nat) (w:World) (hx:x.size≤9223372036854775807) (hi:i≤x.size):Calls Tryz.prog 146 #[.string x,.int .i64 i] w fun e w'=>e=.returned (.int .i64 ((i+lspan alnum (x.data.toList.drop i):Nat):Int))∧w'=w:=by
 obtain⟨R,hR⟩:∃R,i+lspan alnum (x.data.toList.drop i)=R:=⟨_,rfl⟩
 rw[hR]
 have hxi:(x.size:Int)≤9223372036854775807:=by omega
 go_enter Tryz.func146,Tryz.ntmps146
 go_wp2
 go_loop [1] (fun v=>∃k:Nat,k≤x.size∧v=.int .i64 k∧k+lspan alnum (x.data.toList.drop k)=R) (fun v=>x.size-(intOf v).toNat)
 case atStart=>exact⟨i,hi,rfl,hR⟩
 case round=>
  clear hR hi
  obtain⟨k,hk,rfl,hq⟩:=hrel
  by_cases hlt:k<x.size
  ·have hlt':(k:Int)<x.size:=by omega
   have b0:=bt_eq x k hlt
   rw[drop_at x k hlt] at hq
   simp only[lspan,b0] at hq
   have HC:Hid _:=fun w=>cls_any (bt x k) w
   have hcp:=cls_pos (bt x k)
   generalize hal:alnum (bt x k)=a at *
   clear hal
   generalize cls (bt x k)=m at *
   have HQ:=hHi hq
   clear hq
   cases a
   ·have hm:m=0:=by simp at hcp;omega
    subst hm
    clear hcp
    rw[if_neg (by simp)] at HQ
    go_wp2_with (go_at_call 145;refine (HC.out _).mono ?_;rintro e w' ⟨rfl,rfl⟩)
    go_ret
    exact⟨ret_int (by rw[←HQ.out];rfl),rfl⟩
   ·have hm:(0:Int)<m:=by simp at hcp;omega
    clear hcp
    rw[if_pos rfl] at HQ
    go_wp2_with (go_at_call 145;refine (HC.out _).mono ?_;rintro e w' ⟨rfl,rfl⟩)
    go_round
    case rel=>exact⟨k+1,by omega,by go_num,by have:=HQ.out;omega⟩
    case measure=>simp[intOf];omega
  ·have hlt':¬(k:Int)<x.size:=by omega
   rw[drop_end x k (by omega)] at hq
   have HQ:=hHi hq
   clear hq
   go_wp2
   go_ret
   exact⟨ret_int (by rw[←HQ.out];rfl),rfl⟩
theorem rname_any (x:ByteArray) (w:World):Calls Tryz.prog 96 #[.string x] w fun e w'=>e=.returned (.bool (nameB great x.data.toList))∧w'=w:=by
 by_cases h0:x.size=0
 ·obtain rfl:=str_empty x h0
  go_enter Tryz.func96,Tryz.ntmps96
  go_wp2
  go_ret
  exact⟨ret_bool (by decide),rfl⟩
 ·have hnl:x.data.toList≠[]:=by intro h;have:=list_len x;rw[h] at this;exact h0 this.symm
  have k0:0<x.size:=by omega
  have k0':(0:Int)<x.size:=by omega
  have b0:=bt_eq x 0 k0
  have HC:Hid _:=fun w=>cls_any (bt x 0) w
  have hc1:=cls_one (bt x 0)
  have H:Hid (nameB great x.data.toList=(great (bt x 0)&&whole x.data.toList)):=by show _=_;unfold nameB;rw[bt_list];simp[hnl]
  have H2:Hid (whole x.data.toList=(decide (x.size≤32)&&decide (lspan alnum x.data.toList=x.size))):=by show _=_;unfold whole;rw[list_len]
  rw[H2.out] at H
  clear H2
  generalize great (bt x 0)=g at *
  generalize cls (bt x 0)=m at *
  by_cases h1:x.size≤32
  ·have h1':(x.size:Int)≤32:=by omega
   have HF:Hid _:=fun w=>far_any x 0 w (by omega) (by omega)
   simp only[List.drop_zero,Nat.zero_add] at HF
   generalize lspan alnum x.data.toList=n at *
   cases g
   ·have hm:((m:Int)==1)=false:=by simp at hc1 ⊢;omega
    clear hc1
    go_enter Tryz.func96,Tryz.ntmps96
    go_wp2_with (go_at_call 145;refine (HC.out _).mono ?_;rintro e w' ⟨rfl,rfl⟩)
    go_ret
    exact⟨ret_bool (by rw[H.out];rfl),rfl⟩
   ·have hm:m=1:=by simpa using hc1
    subst hm
    clear hc1
    go_enter Tryz.func96,Tryz.ntmps96
    go_wp2_with (first | (go_at_call 145;refine (HC.out _).mono ?_;rintro e w' ⟨rfl,rfl⟩) | (go_at_call 146;refine (HF.out _).mono ?_;rintro e w' ⟨rfl,rfl⟩))
    go_ret
    refine⟨ret_bool ?_,rfl⟩
    rw[H.out,Bool.eq_iff_iff];simp[h1];try omega
  ·have h1':¬(x.size:Int)≤32:=by omega
   go_enter Tryz.func96,Tryz.ntmps96
   go_wp2
   go_ret
   exact⟨ret_bool (by rw[H.out];simp[h1]),rfl⟩
theorem rnm_any (x:ByteArray) (b:Bool) (w:World):Calls Tryz.prog 42 #[.string x,.bool b] w fun e w'=>e=.returned (.bool (b&&em x||nm x))∧w'=w:=by
 have HN:Hid _:=fun w=>rname_any x w
 cases b with
 | false=>
  go_enter Tryz.func42,Tryz.ntmps42
  go_wp2_with fail
  refine (HN.out _).mono ?_
  rintro e w2 ⟨rfl,rfl⟩
  go_wp2
  go_ret
  exact⟨rfl,rfl⟩
 | true=>
  by_cases h0:x.size=0
  ·obtain rfl:=str_empty x h0
   go_enter Tryz.func42,Tryz.ntmps42
   go_wp2
   go_ret
   exact⟨rfl,rfl⟩
  ·have hx:=ne_empty x h0
   have HE:Hid (em x=false):=em_ne h0
   clear h0
   go_enter Tryz.func42,Tryz.ntmps42
   go_wp2_with fail
   refine (HN.out _).mono ?_
   rintro e w2 ⟨rfl,rfl⟩
   go_wp2
   go_ret
   exact⟨by rw[HE.out];rfl,rfl⟩
theorem rsym_any (x:Sy) (w:World):Calls Tryz.prog 97 #[.agg #[.int .i64 x.kind,.string x.text,.int .u64 x.set.a,.int .u64 x.set.b,.int .u64 x.set.c,.int .u64 x.set.d,.string x.name,.string x.sep]] w fun e w'=>e=.returned (.bool (rsymB x))∧Below w.heap.size w w':=by
 have HN:Hid _:=fun b w=>rnm_any x.name b w
 have HD:Hid (rsymB x=if x.kind=1 then eqS x ⟨x.kind,x.text,⟨0,0,0,0⟩,⟨#[]⟩,⟨#[]⟩⟩&&decide (x.text.size≤32)&&decide (x.sep.size≤32)&&(em x.name||nm x.name) else if x.kind=2 then eqS x ⟨x.kind,⟨#[]⟩,x.set,⟨#[]⟩,⟨#[]⟩⟩&&decide (x.text.size≤32)&&decide (x.sep.size≤32)&&(em x.name||nm x.name) else if x.kind=3 then eqS x ⟨x.kind,⟨#[]⟩,⟨0,0,0,0⟩,x.name,⟨#[]⟩⟩&&decide (x.text.size≤32)&&decide (x.sep.size≤32)&&nm x.name else if x.kind=4 then (if em x.name then eqS x ⟨x.kind,⟨#[]⟩,x.set,x.name,⟨#[]⟩⟩ else eqS x ⟨x.kind,⟨#[]⟩,⟨0,0,0,0⟩,x.name,⟨#[]⟩⟩)&&decide (x.text.size≤32)&&decide (x.sep.size≤32)&&(em x.name||nm x.name) else if x.kind=5 then (if em x.name then eqS x ⟨x.kind,⟨#[]⟩,x.set,x.name,⟨#[]⟩⟩ else eqS x ⟨x.kind,⟨#[]⟩,⟨0,0,0,0⟩,x.name,x.sep⟩)&&decide (x.text.size≤32)&&decide (x.sep.size≤32)&&(em x.name||nm x.name) else if x.kind=6 then (if em x.name then eqS x ⟨x.kind,⟨#[]⟩,x.set,x.name,⟨#[]⟩⟩ else eqS x ⟨x.kind,⟨#[]⟩,⟨0,0,0,0⟩,x.name,x.sep⟩)&&decide (x.text.size≤32)&&decide (x.sep.size≤32)&&(em x.name||nm x.name) else false):=rfl
 generalize rsymB x=R at *
 have he:(em x.name=true∧x.name.toList.isEmpty=true)∨(em x.name=false∧x.name.toList.isEmpty=false):=by
  by_cases h0:x.name.size=0
  ·exact .inl ⟨em_eq h0,by rw[str_empty _ h0,ByteArray.toList_eq];rfl⟩
  ·exact .inr ⟨em_ne h0,ne_empty _ h0⟩
 by_cases k1:x.kind=1
 ·rw[if_pos k1] at HD
  have hk:(x.kind==1)=true:=by simpa using k1
  have hk3:(x.kind != 3)=true:=by simp[k1]
  have hk4:(x.kind != 4)=true:=by simp[k1]
  clear k1
  clear he
  have E1:∀w,(Op.equalIn 10000 134 (.agg #[.int .i64 x.kind,.string x.text,.int .u64 x.set.a,.int .u64 x.set.b,.int .u64 x.set.c,.int .u64 x.set.d,.string x.name,.string x.sep]) (.agg #[.int .i64 x.kind,.string x.text,.int .u64 0,.int .u64 0,.int .u64 0,.int .u64 0,.string ⟨#[]⟩,.string ⟨#[]⟩])).run Tryz.prog w=.ok (eqS x ⟨x.kind,x.text,⟨0,0,0,0⟩,⟨#[]⟩,⟨#[]⟩⟩) w:=fun w=>symEq x ⟨x.kind,x.text,⟨0,0,0,0⟩,⟨#[]⟩,⟨#[]⟩⟩ w
  generalize eqS x ⟨x.kind,x.text,⟨0,0,0,0⟩,⟨#[]⟩,⟨#[]⟩⟩=q at *
  cases q with
  | false=>
   go_enter Tryz.func97,Tryz.ntmps97
   go_wp2
   go_ret
   exact⟨by rw[HD.out];rfl,((Below.refl _ _).alloc (Nat.le_refl _) _).alloc (by simp) _⟩
  | true=>
   by_cases h1:x.text.size≤32
   ·rw[decide_eq_true h1] at HD
    have h1I:(x.text.size:Int)≤32:=by omega
    by_cases h2:x.sep.size≤32
    ·rw[decide_eq_true h2] at HD
     have h2I:(x.sep.size:Int)≤32:=by omega
     clear h1 h2
     go_enter Tryz.func97,Tryz.ntmps97
     go_wp2_with fail
     refine (HN.out _ _).mono ?_
     rintro e w2 ⟨rfl,rfl⟩
     go_wp2
     go_ret
     exact⟨by rw[HD.out];simp,((Below.refl _ _).alloc (Nat.le_refl _) _).alloc (by simp) _⟩
    ·rw[decide_eq_false h2] at HD
     have h2I:¬(x.sep.size:Int)≤32:=by omega
     clear h1 h2
     go_enter Tryz.func97,Tryz.ntmps97
     go_wp2
     go_ret
     exact⟨by rw[HD.out];rfl,((Below.refl _ _).alloc (Nat.le_refl _) _).alloc (by simp) _⟩
   ·rw[decide_eq_false h1] at HD
    have h1I:¬(x.text.size:Int)≤32:=by omega
    clear h1
    go_enter Tryz.func97,Tryz.ntmps97
    go_wp2
    go_ret
    exact⟨by rw[HD.out];rfl,((Below.refl _ _).alloc (Nat.le_refl _) _).alloc (by simp) _⟩
 rw[if_neg k1] at HD
 have hq1:(x.kind==1)=false:=by simpa using k1
 by_cases k2:x.kind=2
 ·rw[if_pos k2] at HD
  have hk:(x.kind==2)=true:=by simpa using k2
  have hk3:(x.kind != 3)=true:=by simp[k2]
  have hk4:(x.kind != 4)=true:=by simp[k2]
  clear k1 k2
  clear he
  have E1:∀w,(Op.equalIn 10000 134 (.agg #[.int .i64 x.kind,.string x.text,.int .u64 x.set.a,.int .u64 x.set.b,.int .u64 x.set.c,.int .u64 x.set.d,.string x.name,.string x.sep]) (.agg #[.int .i64 x.kind,.string ⟨#[]⟩,.int .u64 x.set.a,.int .u64 x.set.b,.int .u64 x.set.c,.int .u64 x.set.d,.string ⟨#[]⟩,.string ⟨#[]⟩])).run Tryz.prog w=.ok (eqS x ⟨x.kind,⟨#[]⟩,x.set,⟨#[]⟩,⟨#[]⟩⟩) w:=fun w=>symEq x ⟨x.kind,⟨#[]⟩,x.set,⟨#[]⟩,⟨#[]⟩⟩ w
  generalize eqS x ⟨x.kind,⟨#[]⟩,x.set,⟨#[]⟩,⟨#[]⟩⟩=q at *
  cases q with
  | false=>
   go_enter Tryz.func97,Tryz.ntmps97
   go_wp2
   go_ret
   exact⟨by rw[HD.out];rfl,((Below.refl _ _).alloc (Nat.le_refl _) _).alloc (by simp) _⟩
  | true=>
   by_cases h1:x.text.size≤32
   ·rw[decide_eq_true h1] at HD
    have h1I:(x.text.size:Int)≤32:=by omega
    by_cases h2:x.sep.size≤32
    ·rw[decide_eq_true h2] at HD
     have h2I:(x.sep.size:Int)≤32:=by omega
     clear h1 h2
     go_enter Tryz.func97,Tryz.ntmps97
     go_wp2_with fail
     refine (HN.out _ _).mono ?_
     rintro e w2 ⟨rfl,rfl⟩
     go_wp2
     go_ret
     exact⟨by rw[HD.out];simp,((Below.refl _ _).alloc (Nat.le_refl _) _).alloc (by simp) _⟩
    ·rw[decide_eq_false h2] at HD
     have h2I:¬(x.sep.size:Int)≤32:=by omega
     clear h1 h2
     go_enter Tryz.func97,Tryz.ntmps97
     go_wp2
     go_ret
     exact⟨by rw[HD.out];rfl,((Below.refl _ _).alloc (Nat.le_refl _) _).alloc (by simp) _⟩
   ·rw[decide_eq_false h1] at HD
    have h1I:¬(x.text.size:Int)≤32:=by omega
    clear h1
    go_enter Tryz.func97,Tryz.ntmps97
    go_wp2
    go_ret
    exact⟨by rw[HD.out];rfl,((Below.refl _ _).alloc (Nat.le_refl _) _).alloc (by simp) _⟩
 rw[if_neg k2] at HD
 have hq2:(x.kind==2)=false:=by simpa using k2
 by_cases k3:x.kind=3
 ·rw[if_pos k3] at HD
  have hk:(x.kind==3)=true:=by simpa using k3
  have hk3:(x.kind != 3)=false:=by simp[k3]
  have hk4:(x.kind != 4)=true:=by simp[k3]
  clear k1 k2 k3
  clear he
  have E1:∀w,(Op.equalIn 10000 134 (.agg #[.int .i64 x.kind,.string x.text,.int .u64 x.set.a,.int .u64 x.set.b,.int .u64 x.set.c,.int .u64 x.set.d,.string x.name,.string x.sep]) (.agg #[.int .i64 x.kind,.string ⟨#[]⟩,.int .u64 0,.int .u64 0,.int .u64 0,.int .u64 0,.string x.name,.string ⟨#[]⟩])).run Tryz.prog w=.ok (eqS x ⟨x.kind,⟨#[]⟩,⟨0,0,0,0⟩,x.name,⟨#[]⟩⟩) w:=fun w=>symEq x ⟨x.kind,⟨#[]⟩,⟨0,0,0,0⟩,x.name,⟨#[]⟩⟩ w
  generalize eqS x ⟨x.kind,⟨#[]⟩,⟨0,0,0,0⟩,x.name,⟨#[]⟩⟩=q at *
  cases q with
  | false=>
   go_enter Tryz.func97,Tryz.ntmps97
   go_wp2
   go_ret
   exact⟨by rw[HD.out];rfl,((Below.refl _ _).alloc (Nat.le_refl _) _).alloc (by simp) _⟩
  | true=>
   by_cases h1:x.text.size≤32
   ·rw[decide_eq_true h1] at HD
    have h1I:(x.text.size:Int)≤32:=by omega
    by_cases h2:x.sep.size≤32
    ·rw[decide_eq_true h2] at HD
     have h2I:(x.sep.size:Int)≤32:=by omega
     clear h1 h2
     go_enter Tryz.func97,Tryz.ntmps97
     go_wp2_with fail
     refine (HN.out _ _).mono ?_
     rintro e w2 ⟨rfl,rfl⟩
     go_wp2
     go_ret
     exact⟨by rw[HD.out];simp,((Below.refl _ _).alloc (Nat.le_refl _) _).alloc (by simp) _⟩
    ·rw[decide_eq_false h2] at HD
     have h2I:¬(x.sep.size:Int)≤32:=by omega
     clear h1 h2
     go_enter Tryz.func97,Tryz.ntmps97
     go_wp2
     go_ret
     exact⟨by rw[HD.out];rfl,((Below.refl _ _).alloc (Nat.le_refl _) _).alloc (by simp) _⟩
   ·rw[decide_eq_false h1] at HD
    have h1I:¬(x.text.size:Int)≤32:=by omega
    clear h1
    go_enter Tryz.func97,Tryz.ntmps97
    go_wp2
    go_ret
    exact⟨by rw[HD.out];rfl,((Below.refl _ _).alloc (Nat.le_refl _) _).alloc (by simp) _⟩
 rw[if_neg k3] at HD
 have hq3:(x.kind==3)=false:=by simpa using k3
 by_cases k4:x.kind=4
 ·rw[if_pos k4] at HD
  have hk:(x.kind==4)=true:=by simpa using k4
  have hk3:(x.kind != 3)=true:=by simp[k4]
  have hk4:(x.kind != 4)=false:=by simp[k4]
  clear k1 k2 k3 k4
  rcases he with ⟨he,hi⟩ | ⟨he,hi⟩
  ·rw[he] at HD
   rw[if_pos rfl] at HD
   rw[he] at HN
   have E1:∀w,(Op.equalIn 10000 134 (.agg #[.int .i64 x.kind,.string x.text,.int .u64 x.set.a,.int .u64 x.set.b,.int .u64 x.set.c,.int .u64 x.set.d,.string x.name,.string x.sep]) (.agg #[.int .i64 x.kind,.string ⟨#[]⟩,.int .u64 x.set.a,.int .u64 x.set.b,.int .u64 x.set.c,.int .u64 x.set.d,.string x.name,.string ⟨#[]⟩])).run Tryz.prog w=.ok (eqS x ⟨x.kind,⟨#[]⟩,x.set,x.name,⟨#[]⟩⟩) w:=fun w=>symEq x ⟨x.kind,⟨#[]⟩,x.set,x.name,⟨#[]⟩⟩ w
   generalize eqS x ⟨x.kind,⟨#[]⟩,x.set,x.name,⟨#[]⟩⟩=q at *
   cases q with
   | false=>
    go_enter Tryz.func97,Tryz.ntmps97
    go_wp2
    go_ret
    exact⟨by rw[HD.out];rfl,((Below.refl _ _).alloc (Nat.le_refl _) _).alloc (by simp) _⟩
   | true=>
    by_cases h1:x.text.size≤32
    ·rw[decide_eq_true h1] at HD
     have h1I:(x.text.size:Int)≤32:=by omega
     by_cases h2:x.sep.size≤32
     ·rw[decide_eq_true h2] at HD
      have h2I:(x.sep.size:Int)≤32:=by omega
      clear h1 h2
      go_enter Tryz.func97,Tryz.ntmps97
      go_wp2_with fail
      refine (HN.out _ _).mono ?_
      rintro e w2 ⟨rfl,rfl⟩
      go_wp2
      go_ret
      exact⟨by rw[HD.out];simp,((Below.refl _ _).alloc (Nat.le_refl _) _).alloc (by simp) _⟩
     ·rw[decide_eq_false h2] at HD
      have h2I:¬(x.sep.size:Int)≤32:=by omega
      clear h1 h2
      go_enter Tryz.func97,Tryz.ntmps97
      go_wp2
      go_ret
      exact⟨by rw[HD.out];rfl,((Below.refl _ _).alloc (Nat.le_refl _) _).alloc (by simp) _⟩
    ·rw[decide_eq_false h1] at HD
     have h1I:¬(x.text.size:Int)≤32:=by omega
     clear h1
     go_enter Tryz.func97,Tryz.ntmps97
     go_wp2
     go_ret
     exact⟨by rw[HD.out];rfl,((Below.refl _ _).alloc (Nat.le_refl _) _).alloc (by simp) _⟩
  ·rw[he] at HD
   rw[if_neg (by simp)] at HD
   rw[he] at HN
   have E1:∀w,(Op.equalIn 10000 134 (.agg #[.int .i64 x.kind,.string x.text,.int .u64 x.set.a,.int .u64 x.set.b,.int .u64 x.set.c,.int .u64 x.set.d,.string x.name,.string x.sep]) (.agg #[.int .i64 x.kind,.string ⟨#[]⟩,.int .u64 0,.int .u64 0,.int .u64 0,.int .u64 0,.string x.name,.string ⟨#[]⟩])).run Tryz.prog w=.ok (eqS x ⟨x.kind,⟨#[]⟩,⟨0,0,0,0⟩,x.name,⟨#[]⟩⟩) w:=fun w=>symEq x ⟨x.kind,⟨#[]⟩,⟨0,0,0,0⟩,x.name,⟨#[]⟩⟩ w
   generalize eqS x ⟨x.kind,⟨#[]⟩,⟨0,0,0,0⟩,x.name,⟨#[]⟩⟩=q at *
   cases q with
   | false=>
    go_enter Tryz.func97,Tryz.ntmps97
    go_wp2
    go_ret
    exact⟨by rw[HD.out];rfl,((Below.refl _ _).alloc (Nat.le_refl _) _).alloc (by simp) _⟩
   | true=>
    by_cases h1:x.text.size≤32
    ·rw[decide_eq_true h1] at HD
     have h1I:(x.text.size:Int)≤32:=by omega
     by_cases h2:x.sep.size≤32
     ·rw[decide_eq_true h2] at HD
      have h2I:(x.sep.size:Int)≤32:=by omega
      clear h1 h2
      go_enter Tryz.func97,Tryz.ntmps97
      go_wp2_with fail
      refine (HN.out _ _).mono ?_
      rintro e w2 ⟨rfl,rfl⟩
      go_wp2
      go_ret
      exact⟨by rw[HD.out];simp,((Below.refl _ _).alloc (Nat.le_refl _) _).alloc (by simp) _⟩
     ·rw[decide_eq_false h2] at HD
      have h2I:¬(x.sep.size:Int)≤32:=by omega
      clear h1 h2
      go_enter Tryz.func97,Tryz.ntmps97
      go_wp2
      go_ret
      exact⟨by rw[HD.out];rfl,((Below.refl _ _).alloc (Nat.le_refl _) _).alloc (by simp) _⟩
    ·rw[decide_eq_false h1] at HD
     have h1I:¬(x.text.size:Int)≤32:=by omega
     clear h1
     go_enter Tryz.func97,Tryz.ntmps97
     go_wp2
     go_ret
     exact⟨by rw[HD.out];rfl,((Below.refl _ _).alloc (Nat.le_refl _) _).alloc (by simp) _⟩
 rw[if_neg k4] at HD
 have hq4:(x.kind==4)=false:=by simpa using k4
 by_cases k5:x.kind=5
 ·rw[if_pos k5] at HD
  have hk:(x.kind==5)=true:=by simpa using k5
  have hk3:(x.kind != 3)=true:=by simp[k5]
  have hk4:(x.kind != 4)=true:=by simp[k5]
  clear k1 k2 k3 k4 k5
  rcases he with ⟨he,hi⟩ | ⟨he,hi⟩
  ·rw[he] at HD
   rw[if_pos rfl] at HD
   rw[he] at HN
   have E1:∀w,(Op.equalIn 10000 134 (.agg #[.int .i64 x.kind,.string x.text,.int .u64 x.set.a,.int .u64 x.set.b,.int .u64 x.set.c,.int .u64 x.set.d,.string x.name,.string x.sep]) (.agg #[.int .i64 x.kind,.string ⟨#[]⟩,.int .u64 x.set.a,.int .u64 x.set.b,.int .u64 x.set.c,.int .u64 x.set.d,.string x.name,.string ⟨#[]⟩])).run Tryz.prog w=.ok (eqS x ⟨x.kind,⟨#[]⟩,x.set,x.name,⟨#[]⟩⟩) w:=fun w=>symEq x ⟨x.kind,⟨#[]⟩,x.set,x.name,⟨#[]⟩⟩ w
   generalize eqS x ⟨x.kind,⟨#[]⟩,x.set,x.name,⟨#[]⟩⟩=q at *
   cases q with
   | false=>
    go_enter Tryz.func97,Tryz.ntmps97
    go_wp2
    go_ret
    exact⟨by rw[HD.out];rfl,((Below.refl _ _).alloc (Nat.le_refl _) _).alloc (by simp) _⟩
   | true=>
    by_cases h1:x.text.size≤32
    ·rw[decide_eq_true h1] at HD
     have h1I:(x.text.size:Int)≤32:=by omega
     by_cases h2:x.sep.size≤32
     ·rw[decide_eq_true h2] at HD
      have h2I:(x.sep.size:Int)≤32:=by omega
      clear h1 h2
      go_enter Tryz.func97,Tryz.ntmps97
      go_wp2_with fail
      refine (HN.out _ _).mono ?_
      rintro e w2 ⟨rfl,rfl⟩
      go_wp2
      go_ret
      exact⟨by rw[HD.out];simp,((Below.refl _ _).alloc (Nat.le_refl _) _).alloc (by simp) _⟩
     ·rw[decide_eq_false h2] at HD
      have h2I:¬(x.sep.size:Int)≤32:=by omega
      clear h1 h2
      go_enter Tryz.func97,Tryz.ntmps97
      go_wp2
      go_ret
      exact⟨by rw[HD.out];rfl,((Below.refl _ _).alloc (Nat.le_refl _) _).alloc (by simp) _⟩
    ·rw[decide_eq_false h1] at HD
     have h1I:¬(x.text.size:Int)≤32:=by omega
     clear h1
     go_enter Tryz.func97,Tryz.ntmps97
     go_wp2
     go_ret
     exact⟨by rw[HD.out];rfl,((Below.refl _ _).alloc (Nat.le_refl _) _).alloc (by simp) _⟩
  ·rw[he] at HD
   rw[if_neg (by simp)] at HD
   rw[he] at HN
   have E1:∀w,(Op.equalIn 10000 134 (.agg #[.int .i64 x.kind,.string x.text,.int .u64 x.set.a,.int .u64 x.set.b,.int .u64 x.set.c,.int .u64 x.set.d,.string x.name,.string x.sep]) (.agg #[.int .i64 x.kind,.string ⟨#[]⟩,.int .u64 0,.int .u64 0,.int .u64 0,.int .u64 0,.string x.name,.string x.sep])).run Tryz.prog w=.ok (eqS x ⟨x.kind,⟨#[]⟩,⟨0,0,0,0⟩,x.name,x.sep⟩) w:=fun w=>symEq x ⟨x.kind,⟨#[]⟩,⟨0,0,0,0⟩,x.name,x.sep⟩ w
   generalize eqS x ⟨x.kind,⟨#[]⟩,⟨0,0,0,0⟩,x.name,x.sep⟩=q at *
   cases q with
   | false=>
    go_enter Tryz.func97,Tryz.ntmps97
    go_wp2
    go_ret
    exact⟨by rw[HD.out];rfl,((Below.refl _ _).alloc (Nat.le_refl _) _).alloc (by simp) _⟩
   | true=>
    by_cases h1:x.text.size≤32
    ·rw[decide_eq_true h1] at HD
     have h1I:(x.text.size:Int)≤32:=by omega
     by_cases h2:x.sep.size≤32
     ·rw[decide_eq_true h2] at HD
      have h2I:(x.sep.size:Int)≤32:=by omega
      clear h1 h2
      go_enter Tryz.func97,Tryz.ntmps97
      go_wp2_with fail
      refine (HN.out _ _).mono ?_
      rintro e w2 ⟨rfl,rfl⟩
      go_wp2
      go_ret
      exact⟨by rw[HD.out];simp,((Below.refl _ _).alloc (Nat.le_refl _) _).alloc (by simp) _⟩
     ·rw[decide_eq_false h2] at HD
      have h2I:¬(x.sep.size:Int)≤32:=by omega
      clear h1 h2
      go_enter Tryz.func97,Tryz.ntmps97
      go_wp2
      go_ret
      exact⟨by rw[HD.out];rfl,((Below.refl _ _).alloc (Nat.le_refl _) _).alloc (by simp) _⟩
    ·rw[decide_eq_false h1] at HD
     have h1I:¬(x.text.size:Int)≤32:=by omega
     clear h1
     go_enter Tryz.func97,Tryz.ntmps97
     go_wp2
     go_ret
     exact⟨by rw[HD.out];rfl,((Below.refl _ _).alloc (Nat.le_refl _) _).alloc (by simp) _⟩
 rw[if_neg k5] at HD
 have hq5:(x.kind==5)=false:=by simpa using k5
 by_cases k6:x.kind=6
 ·rw[if_pos k6] at HD
  have hk:(x.kind==6)=true:=by simpa using k6
  have hk3:(x.kind != 3)=true:=by simp[k6]
  have hk4:(x.kind != 4)=true:=by simp[k6]
  clear k1 k2 k3 k4 k5 k6
  rcases he with ⟨he,hi⟩ | ⟨he,hi⟩
  ·rw[he] at HD
   rw[if_pos rfl] at HD
   rw[he] at HN
   have E1:∀w,(Op.equalIn 10000 134 (.agg #[.int .i64 x.kind,.string x.text,.int .u64 x.set.a,.int .u64 x.set.b,.int .u64 x.set.c,.int .u64 x.set.d,.string x.name,.string x.sep]) (.agg #[.int .i64 x.kind,.string ⟨#[]⟩,.int .u64 x.set.a,.int .u64 x.set.b,.int .u64 x.set.c,.int .u64 x.set.d,.string x.name,.string ⟨#[]⟩])).run Tryz.prog w=.ok (eqS x ⟨x.kind,⟨#[]⟩,x.set,x.name,⟨#[]⟩⟩) w:=fun w=>symEq x ⟨x.kind,⟨#[]⟩,x.set,x.name,⟨#[]⟩⟩ w
   generalize eqS x ⟨x.kind,⟨#[]⟩,x.set,x.name,⟨#[]⟩⟩=q at *
   cases q with
   | false=>
    go_enter Tryz.func97,Tryz.ntmps97
    go_wp2
    go_ret
    exact⟨by rw[HD.out];rfl,((Below.refl _ _).alloc (Nat.le_refl _) _).alloc (by simp) _⟩
   | true=>
    by_cases h1:x.text.size≤32
    ·rw[decide_eq_true h1] at HD
     have h1I:(x.text.size:Int)≤32:=by omega
     by_cases h2:x.sep.size≤32
     ·rw[decide_eq_true h2] at HD
      have h2I:(x.sep.size:Int)≤32:=by omega
      clear h1 h2
      go_enter Tryz.func97,Tryz.ntmps97
      go_wp2_with fail
      refine (HN.out _ _).mono ?_
      rintro e w2 ⟨rfl,rfl⟩
      go_wp2
      go_ret
      exact⟨by rw[HD.out];simp,((Below.refl _ _).alloc (Nat.le_refl _) _).alloc (by simp) _⟩
     ·rw[decide_eq_false h2] at HD
      have h2I:¬(x.sep.size:Int)≤32:=by omega
      clear h1 h2
      go_enter Tryz.func97,Tryz.ntmps97
      go_wp2
      go_ret
      exact⟨by rw[HD.out];rfl,((Below.refl _ _).alloc (Nat.le_refl _) _).alloc (by simp) _⟩
    ·rw[decide_eq_false h1] at HD
     have h1I:¬(x.text.size:Int)≤32:=by omega
     clear h1
     go_enter Tryz.func97,Tryz.ntmps97
     go_wp2
     go_ret
     exact⟨by rw[HD.out];rfl,((Below.refl _ _).alloc (Nat.le_refl _) _).alloc (by simp) _⟩
  ·rw[he] at HD
   rw[if_neg (by simp)] at HD
   rw[he] at HN
   have E1:∀w,(Op.equalIn 10000 134 (.agg #[.int .i64 x.kind,.string x.text,.int .u64 x.set.a,.int .u64 x.set.b,.int .u64 x.set.c,.int .u64 x.set.d,.string x.name,.string x.sep]) (.agg #[.int .i64 x.kind,.string ⟨#[]⟩,.int .u64 0,.int .u64 0,.int .u64 0,.int .u64 0,.string x.name,.string x.sep])).run Tryz.prog w=.ok (eqS x ⟨x.kind,⟨#[]⟩,⟨0,0,0,0⟩,x.name,x.sep⟩) w:=fun w=>symEq x ⟨x.kind,⟨#[]⟩,⟨0,0,0,0⟩,x.name,x.sep⟩ w
   generalize eqS x ⟨x.kind,⟨#[]⟩,⟨0,0,0,0⟩,x.name,x.sep⟩=q at *
   cases q with
   | false=>
    go_enter Tryz.func97,Tryz.ntmps97
    go_wp2
    go_ret
    exact⟨by rw[HD.out];rfl,((Below.refl _ _).alloc (Nat.le_refl _) _).alloc (by simp) _⟩
   | true=>
    by_cases h1:x.text.size≤32
    ·rw[decide_eq_true h1] at HD
     have h1I:(x.text.size:Int)≤32:=by omega
     by_cases h2:x.sep.size≤32
     ·rw[decide_eq_true h2] at HD
      have h2I:(x.sep.size:Int)≤32:=by omega
      clear h1 h2
      go_enter Tryz.func97,Tryz.ntmps97
      go_wp2_with fail
      refine (HN.out _ _).mono ?_
      rintro e w2 ⟨rfl,rfl⟩
      go_wp2
      go_ret
      exact⟨by rw[HD.out];simp,((Below.refl _ _).alloc (Nat.le_refl _) _).alloc (by simp) _⟩
     ·rw[decide_eq_false h2] at HD
      have h2I:¬(x.sep.size:Int)≤32:=by omega
      clear h1 h2
      go_enter Tryz.func97,Tryz.ntmps97
      go_wp2
      go_ret
      exact⟨by rw[HD.out];rfl,((Below.refl _ _).alloc (Nat.le_refl _) _).alloc (by simp) _⟩
    ·rw[decide_eq_false h1] at HD
     have h1I:¬(x.text.size:Int)≤32:=by omega
     clear h1
     go_enter Tryz.func97,Tryz.ntmps97
     go_wp2
     go_ret
     exact⟨by rw[HD.out];rfl,((Below.refl _ _).alloc (Nat.le_refl _) _).alloc (by simp) _⟩
 rw[if_neg k6] at HD
 have hq6:(x.kind==6)=false:=by simpa using k6
 clear k1 k2 k3 k4 k5 k6 he
 go_enter Tryz.func97,Tryz.ntmps97
 go_wp2
 go_ret
 exact⟨by rw[HD.out];rfl,((Below.refl _ _).alloc (Nat.le_refl _) _).alloc (by simp) _⟩
theorem rsym_eq (x:Sy):rsymB x=symB x:=by
 rw[Bool.eq_iff_iff]
 unfold rsymB symB oftenB
 obtain⟨k,t,st,n,p⟩:=x
 dsimp only
 by_cases k1:k=1
 ·subst k1
  simp only[if_true,Bool.and_eq_true,Bool.or_eq_true,eqS_iff,decide_eq_true_eq,em_iff,Sy.mk.injEq,true_and]
  constructor
  ·rintro⟨⟨⟨h,h1⟩,h2⟩,h3⟩;exact⟨h,h1⟩
  ·rintro⟨h,h1⟩
   obtain⟨_,rfl,rfl⟩:=h
   exact⟨⟨⟨⟨by assumption,rfl,rfl⟩,h1⟩,by decide⟩,.inl rfl⟩
 rw[if_neg k1,if_neg k1]
 by_cases k2:k=2
 ·subst k2
  simp only[if_true,Bool.and_eq_true,Bool.or_eq_true,eqS_iff,decide_eq_true_eq,em_iff,Sy.mk.injEq,true_and]
  constructor
  ·rintro⟨⟨⟨h,h1⟩,h2⟩,h3⟩;exact h
  ·rintro h
   obtain⟨rfl,rfl,rfl⟩:=h
   exact⟨⟨⟨⟨rfl,rfl,rfl⟩,by decide⟩,by decide⟩,.inl rfl⟩
 rw[if_neg k2,if_neg k2]
 by_cases k3:k=3
 ·subst k3
  simp only[if_true,Bool.and_eq_true,eqS_iff,decide_eq_true_eq,Sy.mk.injEq,true_and]
  constructor
  ·rintro⟨⟨⟨h,h1⟩,h2⟩,h3⟩;exact⟨h,h3⟩
  ·rintro⟨h,h3⟩
   obtain⟨rfl,_,rfl⟩:=h
   exact⟨⟨⟨⟨rfl,by assumption,rfl⟩,by decide⟩,by decide⟩,h3⟩
 rw[if_neg k3,if_neg k3]
 have often:∀q:ByteArray,((if em n=true then eqS ⟨k,t,st,n,p⟩ ⟨k,⟨#[]⟩,st,n,⟨#[]⟩⟩ else eqS ⟨k,t,st,n,p⟩ ⟨k,⟨#[]⟩,⟨0,0,0,0⟩,n,q⟩)&&decide (t.size≤32)&&decide (p.size≤32)&&(em n||nm n))=true↔(if em n=true then t=⟨#[]⟩∧p=⟨#[]⟩ else t=⟨#[]⟩∧st=⟨0,0,0,0⟩∧p=q∧p.size≤32∧nm n=true):=fun q=>by
  cases he:em n
  ·simp only[Bool.false_eq_true,if_false,Bool.and_eq_true,Bool.or_eq_true,eqS_iff,decide_eq_true_eq,Sy.mk.injEq,true_and,false_or]
   constructor
   ·rintro⟨⟨⟨⟨rfl,rfl,rfl⟩,h1⟩,h2⟩,h3⟩;exact⟨rfl,rfl,rfl,h2,h3⟩
   ·rintro⟨rfl,rfl,rfl,h2,h3⟩;exact⟨⟨⟨⟨rfl,rfl,rfl⟩,by decide⟩,h2⟩,h3⟩
  ·simp only[if_true,Bool.and_eq_true,Bool.or_eq_true,eqS_iff,decide_eq_true_eq,Sy.mk.injEq,true_and,true_or,and_true]
   constructor
   ·rintro⟨⟨⟨rfl,rfl⟩,h1⟩,h2⟩;exact⟨rfl,rfl⟩
   ·rintro⟨rfl,rfl⟩;exact⟨⟨⟨rfl,rfl⟩,by decide⟩,by decide⟩
 have mine:(if em n=true then eqS ⟨k,t,st,n,p⟩ ⟨k,⟨#[]⟩,st,⟨#[]⟩,⟨#[]⟩⟩ else eqS ⟨k,t,st,n,p⟩ ⟨k,⟨#[]⟩,⟨0,0,0,0⟩,n,p⟩&&nm n&&decide (p.size≤32))=true↔(if em n=true then t=⟨#[]⟩∧p=⟨#[]⟩ else t=⟨#[]⟩∧st=⟨0,0,0,0⟩∧p.size≤32∧nm n=true):=by
  cases he:em n
  ·simp only[Bool.false_eq_true,if_false,Bool.and_eq_true,eqS_iff,decide_eq_true_eq,Sy.mk.injEq,true_and,and_true]
   constructor
   ·rintro⟨⟨⟨rfl,rfl⟩,h1⟩,h2⟩;exact⟨rfl,rfl,h2,h1⟩
   ·rintro⟨rfl,rfl,h2,h1⟩;exact⟨⟨⟨rfl,rfl⟩,h1⟩,h2⟩
  ·have hn:=em_iff.1 he
   simp only[if_true,eqS_iff,Sy.mk.injEq,true_and,hn]
 by_cases k4:k=4
 ·rw[if_pos k4,if_pos k4,often ⟨#[]⟩,Bool.and_eq_true,mine]
  cases he:em n
  ·simp only[Bool.false_eq_true,if_false]
   constructor
   ·rintro⟨rfl,rfl,rfl,h,h3⟩;exact⟨rfl,rfl,rfl,h,h3⟩
   ·rintro⟨hp,rfl,rfl,h,h3⟩;obtain rfl:=em_iff.1 hp;exact⟨rfl,rfl,rfl,h,h3⟩
  ·simp only[if_true]
   constructor
   ·rintro⟨rfl,rfl⟩;exact⟨rfl,rfl,rfl⟩
   ·rintro⟨_,h⟩;exact h
 rw[if_neg k4,if_neg k4]
 by_cases k5:k=5
 ·rw[if_pos k5,if_pos k5,often p,mine]
  cases he:em n<;>simp
 rw[if_neg k5,if_neg k5]
 by_cases k6:k=6
 ·rw[if_pos k6,if_pos k6,often p,mine]
  cases he:em n<;>simp
 rw[if_neg k6,if_neg k6]
theorem rnm_f {x:ByteArray} {q:Bool} (h:nm x=q) (w:World):Calls Tryz.prog 42 #[.string x,.bool false] w fun e w'=>e=.returned (.bool q)∧w'=w:=by
 refine (rnm_any x false w).mono ?_
 rintro e w' ⟨rfl,rfl⟩
 exact⟨by rw[←h];rfl,rfl⟩
theorem rnm_t {x:ByteArray} {q:Bool} (h:nmN x=q) (w:World):Calls Tryz.prog 42 #[.string x,.bool true] w fun e w'=>e=.returned (.bool q)∧w'=w:=by
 refine (rnm_any x true w).mono ?_
 rintro e w' ⟨rfl,rfl⟩
 exact⟨by rw[←h];rfl,rfl⟩
theorem all_take {α:Type} {q:α→Bool} {l:List α} {k:Nat} {x:α} (h:l[k]?=some x):(l.take (k+1)).all q=((l.take k).all q&&q x):=by
 have h:=List.getElem?_eq_some_iff.1 h
 rw[List.take_succ_eq_append_getElem h.1,h.2,List.all_append]
 simp
theorem all_none {α:Type} {q:α→Bool} {l:List α} {k:Nat} {x:α} (h:l[k]?=some x) (hq:q x=false):l.all q=false:=by
 cases ha:l.all q
 ·rfl
 ·have:=List.all_eq_true.1 ha x (List.mem_of_getElem? h)
  rw[hq] at this;cases this
theorem em_two (x:ByteArray):(em x=true∧x.toList.isEmpty=true)∨(em x=false∧x.toList.isEmpty=false):=by
 by_cases h0:x.size=0
 ·exact .inl ⟨em_eq h0,by rw[str_empty _ h0,ByteArray.toList_eq];rfl⟩
 ·exact .inr ⟨em_ne h0,ne_empty _ h0⟩
theorem rprod_any (p:Pr) (v:Value) (w:World) (h:Sl w w.heap.size 8 SyV p.syms v):Calls Tryz.prog 43 #[.agg #[.bool p.lex,.string p.sort,.string p.cons,.bool p.bracket,v]] w fun e w'=>e=.returned (.bool (prodB p))∧Below w.heap.size w w':=by
 obtain⟨w1,hw1⟩:∃w1,w.alloc (.cells #[.bool p.lex,.string p.sort,.string p.cons,.bool p.bracket,v] 57)=w1:=⟨_,rfl⟩
 have b1:Below w.heap.size w w1:=by rw[←hw1];exact (Below.refl _ _).alloc (Nat.le_refl _) _
 have s1:w.heap.size<w1.heap.size:=by rw[←hw1];simp
 have hc:∀j u,(#[.bool p.lex,.string p.sort,.string p.cons,.bool p.bracket,v]:Array Value)[j]?=some u→w1.cell? ⟨w.heap.size,j,none⟩=some u:=fun j u hu=>by rw[←hw1];exact cell_new j hu
 have c0:=hc 0 _ rfl
 have c1:=hc 1 _ rfl
 have c2:=hc 2 _ rfl
 have c3:=hc 3 _ rfl
 have c4:=hc 4 _ rfl
 have HB:=hHi b1
 have HD:Hid (prodB p=(nm p.sort&&nmN p.cons&&!(p.lex&&p.bracket||!p.lex&&p.bracket==!em p.cons)&&btw p.syms.length 12&&p.syms.all symB)):=rfl
 generalize prodB p=R at *
 obtain⟨a,c,rfl,hcc,hln,hr⟩:=h
 have HR:=hHi hr
 have hz:=em_two p.cons
 clear b1 hc hr
 cases hs:nm p.sort with
 | false=>
  have HN:Hid _:=fun w=>rnm_f hs w
  rw[hs] at HD
  clear hs
  go_enter Tryz.func43,Tryz.ntmps43
  go_wp2_with fail
  refine (HN.out _).mono ?_
  rintro e w2 ⟨rfl,rfl⟩
  go_wp2
  go_ret
  exact⟨by rw[HD.out];rfl,HB.out⟩
 | true=>
 have HN:Hid _:=fun w=>rnm_f hs w
 rw[hs] at HD
 clear hs
 cases hm:nmN p.cons with
 | false=>
  have HM:Hid _:=fun w=>rnm_t hm w
  rw[hm] at HD
  clear hm
  go_enter Tryz.func43,Tryz.ntmps43
  go_wp2_with fail
  refine (HN.out _).mono ?_
  rintro e w2 ⟨rfl,rfl⟩
  go_wp2_with fail
  refine (HM.out _).mono ?_
  rintro e w2 ⟨rfl,rfl⟩
  go_wp2
  go_ret
  exact⟨by rw[HD.out];rfl,HB.out⟩
 | true=>
 have HM:Hid _:=fun w=>rnm_t hm w
 rw[hm] at HD
 clear hm
 obtain⟨lx,hlx⟩:∃lx,p.lex=lx:=⟨_,rfl⟩
 obtain⟨br,hbr⟩:∃br,p.bracket=br:=⟨_,rfl⟩
 rw[hlx,hbr] at HD hw1
 rw[hlx] at c0
 rw[hbr] at c3
 rw[hlx,hbr]
 clear hlx hbr
 obtain⟨n,hn⟩:∃n,p.syms.length=n:=⟨_,rfl⟩
 have HNN:=hHi hn
 rw[hn] at HD c4 hw1 hcc hln
 rw[hn]
 clear hn
 by_cases h1:1≤n
 case neg=>
  have h1I:(n:Int)<1:=by omega
  have HE:Hid (btw (n:Int) 12=false):=by show _=_;rw[btw,decide_eq_false (by omega)];rfl
  rw[HE.out] at HD
  clear h1
  go_enter Tryz.func43,Tryz.ntmps43
  go_wp2_with fail
  refine (HN.out _).mono ?_
  rintro e w2 ⟨rfl,rfl⟩
  go_wp2_with fail
  refine (HM.out _).mono ?_
  rintro e w2 ⟨rfl,rfl⟩
  go_wp2
  go_ret
  exact⟨by rw[HD.out];simp,HB.out⟩
 have h1I:¬(n:Int)<1:=by omega
 by_cases h2:n≤12
 case neg=>
  have h2I:(n:Int)>12:=by omega
  have HE:Hid (btw (n:Int) 12=false):=by show _=_;rw[btw,decide_eq_false (show ¬(n:Int)≤12 by omega)];simp
  rw[HE.out] at HD
  clear h1 h2
  go_enter Tryz.func43,Tryz.ntmps43
  go_wp2_with fail
  refine (HN.out _).mono ?_
  rintro e w2 ⟨rfl,rfl⟩
  go_wp2_with fail
  refine (HM.out _).mono ?_
  rintro e w2 ⟨rfl,rfl⟩
  go_wp2
  go_ret
  exact⟨by rw[HD.out];simp,HB.out⟩
 have h2I:¬(n:Int)>12:=by omega
 have HE:Hid (btw (n:Int) 12=true):=by show _=_;rw[btw,decide_eq_true (show (1:Int)≤n by omega),decide_eq_true (show (n:Int)≤12 by omega)];rfl
 rw[HE.out] at HD
 have HL:Hid (∀k x,p.syms[k]?=some x→∀W,Below w1.heap.size w1 W→∃b o,a=some ⟨b,o,none⟩∧W.cell? ⟨b,o+k*8,none⟩=some (.int .i64 x.kind)∧W.cell? ⟨b,o+k*8+1,none⟩=some (.string x.text)∧W.cell? ⟨b,o+k*8+2,none⟩=some (.int .u64 x.set.a)∧W.cell? ⟨b,o+k*8+3,none⟩=some (.int .u64 x.set.b)∧W.cell? ⟨b,o+k*8+4,none⟩=some (.int .u64 x.set.c)∧W.cell? ⟨b,o+k*8+5,none⟩=some (.int .u64 x.set.d)∧W.cell? ⟨b,o+k*8+6,none⟩=some (.string x.name)∧W.cell? ⟨b,o+k*8+7,none⟩=some (.string x.sep)):=fun k x hx W hW=>by
  obtain⟨b,o,us,hab,hblt,⟨_,rfl⟩,hc⟩:=HR.out k x hx
  have hBW:=below_tr HB.out hW
  exact⟨b,o,hab,(hBW.cell (p:=⟨b,o+k*8+0,none⟩) hblt).trans (hc 0 _ rfl),(hBW.cell (p:=⟨b,o+k*8+1,none⟩) hblt).trans (hc 1 _ rfl),(hBW.cell (p:=⟨b,o+k*8+2,none⟩) hblt).trans (hc 2 _ rfl),(hBW.cell (p:=⟨b,o+k*8+3,none⟩) hblt).trans (hc 3 _ rfl),(hBW.cell (p:=⟨b,o+k*8+4,none⟩) hblt).trans (hc 4 _ rfl),(hBW.cell (p:=⟨b,o+k*8+5,none⟩) hblt).trans (hc 5 _ rfl),(hBW.cell (p:=⟨b,o+k*8+6,none⟩) hblt).trans (hc 6 _ rfl),(hBW.cell (p:=⟨b,o+k*8+7,none⟩) hblt).trans (hc 7 _ rfl)⟩
 have HS1:=hHi s1
 clear HR s1
 rcases hz with ⟨he,hi⟩ | ⟨he,hi⟩
 ·cases lx with
  | false=>
   cases br with
   | false=>
    rw[he] at HD
    clear he
    go_enter Tryz.func43,Tryz.ntmps43
    go_wp2_with fail
    refine (HN.out _).mono ?_
    rintro e w2 ⟨rfl,rfl⟩
    go_wp2_with fail
    refine (HM.out _).mono ?_
    rintro e w2 ⟨rfl,rfl⟩
    go_wp2
    go_ret
    exact⟨by rw[HD.out];rfl,HB.out⟩
   | true=>
    rw[he] at HD
    clear he
    go_enter Tryz.func43,Tryz.ntmps43
    go_wp2_with fail
    refine (HN.out _).mono ?_
    rintro e w2 ⟨rfl,rfl⟩
    go_wp2_with fail
    refine (HM.out _).mono ?_
    rintro e w2 ⟨rfl,rfl⟩
    go_wp2
    go_loopw[3] (fun iv W=>∃k:Nat,k≤n∧iv=.int .i64 k∧(p.syms.take k).all symB=true∧Below w2.heap.size w2 W) (fun iv _=>n-(intOf iv).toNat)
    case atStart=>exact⟨0,Nat.zero_le _,rfl,rfl,Below.refl _ _⟩
    case round=>
     obtain⟨k,hk,rfl,hh,hB⟩:=hrel
     have HH:=hHi hh
     have d4:=(hB.cell (p:=⟨w.heap.size,4,none⟩) HS1.out).trans c4
     clear hh
     by_cases hlt:k<n
     ·obtain⟨x,hx⟩:∃x,p.syms[k]?=some x:=⟨p.syms[k]'(by rw[HNN.out];exact hlt),by simp⟩
      obtain⟨b,o,hab,e0,e1,e2,e3,e4,e5,e6,e7⟩:=HL.out k x hx wr hB
      subst hab
      have hltI:(k:Int)<n:=by omega
      have HX:=hHi hx
      have HC:=hU (rsym_any x wr)
      rw[rsym_eq] at HC
      clear hx
      cases h3:symB x with
      | false=>
       rw[h3] at HC
       have HMM:Hid _:=all_none HX.out h3
       clear h3
       go_wp2_with fail
       refine hMo HC ?_
       rintro e w6 ⟨rfl,hb6⟩
       have HB6:Hid _:=below_tr HB.out (below_tr hB hb6)
       clear hb6 e0 e1 e2 e3 e4 e5 e6 e7 d4
       go_wp2
       go_ret
       exact⟨by rw[HD.out,HMM.out];simp,HB6.out⟩
      | true=>
       rw[h3] at HC
       have HE2:Hid ((p.syms.take (k+1)).all symB=true):=by show _=_;rw[all_take HX.out,h3,HH.out];rfl
       clear h3
       go_wp2_with fail
       refine hMo HC ?_
       rintro e w6 ⟨rfl,hb6⟩
       have HB6:Hid (Below w2.heap.size w2 w6):=below_tr hB hb6
       clear hb6 e0 e1 e2 e3 e4 e5 e6 e7 d4
       go_wp2
       go_roundw
       case rel=>exact⟨k+1,by omega,by go_num,HE2.out,HB6.out⟩
       case measure=>simp[intOf];omega
     ·obtain rfl:k=n:=by omega
      have HH2:Hid (p.syms.all symB=true):=by
       have:=HH.out
       rw[←HNN.out,List.take_length] at this
       exact this
      have HB7:Hid _:=below_tr HB.out hB
      go_wp2
      go_ret
      exact⟨by rw[HD.out,HH2.out];rfl,HB7.out⟩
  | true=>
   cases br with
   | false=>
    rw[he] at HD
    clear he
    go_enter Tryz.func43,Tryz.ntmps43
    go_wp2_with fail
    refine (HN.out _).mono ?_
    rintro e w2 ⟨rfl,rfl⟩
    go_wp2_with fail
    refine (HM.out _).mono ?_
    rintro e w2 ⟨rfl,rfl⟩
    go_wp2
    go_loopw[3] (fun iv W=>∃k:Nat,k≤n∧iv=.int .i64 k∧(p.syms.take k).all symB=true∧Below w2.heap.size w2 W) (fun iv _=>n-(intOf iv).toNat)
    case atStart=>exact⟨0,Nat.zero_le _,rfl,rfl,Below.refl _ _⟩
    case round=>
     obtain⟨k,hk,rfl,hh,hB⟩:=hrel
     have HH:=hHi hh
     have d4:=(hB.cell (p:=⟨w.heap.size,4,none⟩) HS1.out).trans c4
     clear hh
     by_cases hlt:k<n
     ·obtain⟨x,hx⟩:∃x,p.syms[k]?=some x:=⟨p.syms[k]'(by rw[HNN.out];exact hlt),by simp⟩
      obtain⟨b,o,hab,e0,e1,e2,e3,e4,e5,e6,e7⟩:=HL.out k x hx wr hB
      subst hab
      have hltI:(k:Int)<n:=by omega
      have HX:=hHi hx
      have HC:=hU (rsym_any x wr)
      rw[rsym_eq] at HC
      clear hx
      cases h3:symB x with
      | false=>
       rw[h3] at HC
       have HMM:Hid _:=all_none HX.out h3
       clear h3
       go_wp2_with fail
       refine hMo HC ?_
       rintro e w6 ⟨rfl,hb6⟩
       have HB6:Hid _:=below_tr HB.out (below_tr hB hb6)
       clear hb6 e0 e1 e2 e3 e4 e5 e6 e7 d4
       go_wp2
       go_ret
       exact⟨by rw[HD.out,HMM.out];simp,HB6.out⟩
      | true=>
       rw[h3] at HC
       have HE2:Hid ((p.syms.take (k+1)).all symB=true):=by show _=_;rw[all_take HX.out,h3,HH.out];rfl
       clear h3
       go_wp2_with fail
       refine hMo HC ?_
       rintro e w6 ⟨rfl,hb6⟩
       have HB6:Hid (Below w2.heap.size w2 w6):=below_tr hB hb6
       clear hb6 e0 e1 e2 e3 e4 e5 e6 e7 d4
       go_wp2
       go_roundw
       case rel=>exact⟨k+1,by omega,by go_num,HE2.out,HB6.out⟩
       case measure=>simp[intOf];omega
     ·obtain rfl:k=n:=by omega
      have HH2:Hid (p.syms.all symB=true):=by
       have:=HH.out
       rw[←HNN.out,List.take_length] at this
       exact this
      have HB7:Hid _:=below_tr HB.out hB
      go_wp2
      go_ret
      exact⟨by rw[HD.out,HH2.out];rfl,HB7.out⟩
   | true=>
    rw[he] at HD
    clear he
    go_enter Tryz.func43,Tryz.ntmps43
    go_wp2_with fail
    refine (HN.out _).mono ?_
    rintro e w2 ⟨rfl,rfl⟩
    go_wp2_with fail
    refine (HM.out _).mono ?_
    rintro e w2 ⟨rfl,rfl⟩
    go_wp2
    go_ret
    exact⟨by rw[HD.out];rfl,HB.out⟩
 ·cases lx with
  | false=>
   cases br with
   | false=>
    rw[he] at HD
    clear he
    go_enter Tryz.func43,Tryz.ntmps43
    go_wp2_with fail
    refine (HN.out _).mono ?_
    rintro e w2 ⟨rfl,rfl⟩
    go_wp2_with fail
    refine (HM.out _).mono ?_
    rintro e w2 ⟨rfl,rfl⟩
    go_wp2
    go_loopw[3] (fun iv W=>∃k:Nat,k≤n∧iv=.int .i64 k∧(p.syms.take k).all symB=true∧Below w2.heap.size w2 W) (fun iv _=>n-(intOf iv).toNat)
    case atStart=>exact⟨0,Nat.zero_le _,rfl,rfl,Below.refl _ _⟩
    case round=>
     obtain⟨k,hk,rfl,hh,hB⟩:=hrel
     have HH:=hHi hh
     have d4:=(hB.cell (p:=⟨w.heap.size,4,none⟩) HS1.out).trans c4
     clear hh
     by_cases hlt:k<n
     ·obtain⟨x,hx⟩:∃x,p.syms[k]?=some x:=⟨p.syms[k]'(by rw[HNN.out];exact hlt),by simp⟩
      obtain⟨b,o,hab,e0,e1,e2,e3,e4,e5,e6,e7⟩:=HL.out k x hx wr hB
      subst hab
      have hltI:(k:Int)<n:=by omega
      have HX:=hHi hx
      have HC:=hU (rsym_any x wr)
      rw[rsym_eq] at HC
      clear hx
      cases h3:symB x with
      | false=>
       rw[h3] at HC
       have HMM:Hid _:=all_none HX.out h3
       clear h3
       go_wp2_with fail
       refine hMo HC ?_
       rintro e w6 ⟨rfl,hb6⟩
       have HB6:Hid _:=below_tr HB.out (below_tr hB hb6)
       clear hb6 e0 e1 e2 e3 e4 e5 e6 e7 d4
       go_wp2
       go_ret
       exact⟨by rw[HD.out,HMM.out];simp,HB6.out⟩
      | true=>
       rw[h3] at HC
       have HE2:Hid ((p.syms.take (k+1)).all symB=true):=by show _=_;rw[all_take HX.out,h3,HH.out];rfl
       clear h3
       go_wp2_with fail
       refine hMo HC ?_
       rintro e w6 ⟨rfl,hb6⟩
       have HB6:Hid (Below w2.heap.size w2 w6):=below_tr hB hb6
       clear hb6 e0 e1 e2 e3 e4 e5 e6 e7 d4
       go_wp2
       go_roundw
       case rel=>exact⟨k+1,by omega,by go_num,HE2.out,HB6.out⟩
       case measure=>simp[intOf];omega
     ·obtain rfl:k=n:=by omega
      have HH2:Hid (p.syms.all symB=true):=by
       have:=HH.out
       rw[←HNN.out,List.take_length] at this
       exact this
      have HB7:Hid _:=below_tr HB.out hB
      go_wp2
      go_ret
      exact⟨by rw[HD.out,HH2.out];rfl,HB7.out⟩
   | true=>
    rw[he] at HD
    clear he
    go_enter Tryz.func43,Tryz.ntmps43
    go_wp2_with fail
    refine (HN.out _).mono ?_
    rintro e w2 ⟨rfl,rfl⟩
    go_wp2_with fail
    refine (HM.out _).mono ?_
    rintro e w2 ⟨rfl,rfl⟩
    go_wp2
    go_ret
    exact⟨by rw[HD.out];rfl,HB.out⟩
  | true=>
   cases br with
   | false=>
    rw[he] at HD
    clear he
    go_enter Tryz.func43,Tryz.ntmps43
    go_wp2_with fail
    refine (HN.out _).mono ?_
    rintro e w2 ⟨rfl,rfl⟩
    go_wp2_with fail
    refine (HM.out _).mono ?_
    rintro e w2 ⟨rfl,rfl⟩
    go_wp2
    go_loopw[3] (fun iv W=>∃k:Nat,k≤n∧iv=.int .i64 k∧(p.syms.take k).all symB=true∧Below w2.heap.size w2 W) (fun iv _=>n-(intOf iv).toNat)
    case atStart=>exact⟨0,Nat.zero_le _,rfl,rfl,Below.refl _ _⟩
    case round=>
     obtain⟨k,hk,rfl,hh,hB⟩:=hrel
     have HH:=hHi hh
     have d4:=(hB.cell (p:=⟨w.heap.size,4,none⟩) HS1.out).trans c4
     clear hh
     by_cases hlt:k<n
     ·obtain⟨x,hx⟩:∃x,p.syms[k]?=some x:=⟨p.syms[k]'(by rw[HNN.out];exact hlt),by simp⟩
      obtain⟨b,o,hab,e0,e1,e2,e3,e4,e5,e6,e7⟩:=HL.out k x hx wr hB
      subst hab
      have hltI:(k:Int)<n:=by omega
      have HX:=hHi hx
      have HC:=hU (rsym_any x wr)
      rw[rsym_eq] at HC
      clear hx
      cases h3:symB x with
      | false=>
       rw[h3] at HC
       have HMM:Hid _:=all_none HX.out h3
       clear h3
       go_wp2_with fail
       refine hMo HC ?_
       rintro e w6 ⟨rfl,hb6⟩
       have HB6:Hid _:=below_tr HB.out (below_tr hB hb6)
       clear hb6 e0 e1 e2 e3 e4 e5 e6 e7 d4
       go_wp2
       go_ret
       exact⟨by rw[HD.out,HMM.out];simp,HB6.out⟩
      | true=>
       rw[h3] at HC
       have HE2:Hid ((p.syms.take (k+1)).all symB=true):=by show _=_;rw[all_take HX.out,h3,HH.out];rfl
       clear h3
       go_wp2_with fail
       refine hMo HC ?_
       rintro e w6 ⟨rfl,hb6⟩
       have HB6:Hid (Below w2.heap.size w2 w6):=below_tr hB hb6
       clear hb6 e0 e1 e2 e3 e4 e5 e6 e7 d4
       go_wp2
       go_roundw
       case rel=>exact⟨k+1,by omega,by go_num,HE2.out,HB6.out⟩
       case measure=>simp[intOf];omega
     ·obtain rfl:k=n:=by omega
      have HH2:Hid (p.syms.all symB=true):=by
       have:=HH.out
       rw[←HNN.out,List.take_length] at this
       exact this
      have HB7:Hid _:=below_tr HB.out hB
      go_wp2
      go_ret
      exact⟨by rw[HD.out,HH2.out];rfl,HB7.out⟩
   | true=>
    rw[he] at HD
    clear he
    go_enter Tryz.func43,Tryz.ntmps43
    go_wp2_with fail
    refine (HN.out _).mono ?_
    rintro e w2 ⟨rfl,rfl⟩
    go_wp2_with fail
    refine (HM.out _).mono ?_
    rintro e w2 ⟨rfl,rfl⟩
    go_wp2
    go_ret
    exact⟨by rw[HD.out];rfl,HB.out⟩
theorem btw_no {n:Nat} {m:Int} (h:¬ 1≤n):btw (n:Int) m=false:=by rw[btw,decide_eq_false (show ¬(1:Int)≤n by omega)];rfl
theorem btw_big {n m:Nat} (h:¬n≤m):btw (n:Int) m=false:=by rw[btw,decide_eq_false (show ¬(n:Int)≤m by omega)];simp
theorem btw_ok {n m:Nat} (h1:1≤n) (h:n≤m):btw (n:Int) m=true:=by rw[btw,decide_eq_true (show (n:Int)≤m by omega),decide_eq_true (show (1:Int)≤n by omega)];rfl
theorem rchain_any (l:List Gr) (v:Value) (w:World) (h:Sl w w.heap.size 2 (GrV w w.heap.size) l v):Calls Tryz.prog 44 #[v] w fun e w'=>e=.returned (.bool (chainB l))∧Below w.heap.size w w':=by
 have HD:Hid (chainB l=(btw l.length 16&&l.all groupB)):=rfl
 generalize chainB l=R at *
 obtain⟨a,c,rfl,hcc,hln,hr⟩:=h
 have HR:=hHi hr
 clear hr
 obtain⟨n,hn⟩:∃n,l.length=n:=⟨_,rfl⟩
 have HNN:=hHi hn
 rw[hn] at HD hcc hln
 rw[hn]
 clear hn
 by_cases h1:1≤n
 case neg=>
  have h1I:(n:Int)<1:=by omega
  rw[btw_no h1] at HD
  clear h1
  go_enter Tryz.func44,Tryz.ntmps44
  go_wp2
  go_ret
  exact⟨by rw[HD.out];rfl,Below.refl _ _⟩
 have h1I:¬(n:Int)<1:=by omega
 by_cases h2:n≤16
 case neg=>
  have h2I:(n:Int)>16:=by omega
  have HE:Hid (btw (n:Int) 16=false):=btw_big h2
  rw[HE.out] at HD
  clear h1 h2
  go_enter Tryz.func44,Tryz.ntmps44
  go_wp2
  go_ret
  exact⟨by rw[HD.out];rfl,Below.refl _ _⟩
 have h2I:¬(n:Int)>16:=by omega
 have HE:Hid (btw (n:Int) 16=true):=btw_ok h1 h2
 rw[HE.out] at HD
 clear h1 h2
 go_enter Tryz.func44,Tryz.ntmps44
 go_wp2
 go_loopw[3,4,5] (fun iv _ _ W=>∃k:Nat,k≤n∧iv=.int .i64 k∧(l.take k).all groupB=true∧Below w.heap.size w W) (fun iv _ _ _=>n-(intOf iv).toNat)
 case atStart=>exact⟨0,Nat.zero_le _,rfl,rfl,Below.refl _ _⟩
 case round=>
  obtain⟨k,hk,rfl,hh,hB⟩:=hrel
  have HH:=hHi hh
  clear hh
  by_cases hlt:k<n
  case neg=>
   obtain rfl:k=n:=by omega
   have HH2:Hid (l.all groupB=true):=by
    have:=HH.out
    rw[←HNN.out,List.take_length] at this
    exact this
   go_wp2
   go_ret
   exact⟨by rw[HD.out,HH2.out];rfl,hB⟩
  obtain⟨x,hx⟩:∃x,l[k]?=some x:=⟨l[k]'(by rw[HNN.out];exact hlt),by simp⟩
  obtain⟨b,o,us,hab,hblt,⟨v2,rfl,a2,c2,rfl,hc2,hl2,hr2⟩,hc⟩:=HR.out k x hx
  subst hab
  have e0:wr.cell? ⟨b,o+k*2,none⟩=some (.int .i64 x.assoc):=(hB.cell (p:=⟨b,o+k*2+0,none⟩) hblt).trans (hc 0 _ rfl)
  have e1:=(hB.cell (p:=⟨b,o+k*2+1,none⟩) hblt).trans (hc 1 _ rfl)
  have hltI:(k:Int)<n:=by omega
  have HX:=hHi hx
  have HR2:=hHi hr2
  clear hx hc hr2
  have HG:Hid (groupB x=(decide (0≤x.assoc)&&decide (x.assoc≤3)&&btw x.cons.length 16&&x.cons.all nm)):=rfl
  have HF:Hid (groupB x=false→l.all groupB=false):=fun h=>all_none HX.out h
  have HT:Hid (groupB x=true→(l.take (k+1)).all groupB=true):=fun h=>by rw[all_take HX.out,h,HH.out];rfl
  generalize groupB x=G at *
  obtain⟨m,hm⟩:∃m,x.cons.length=m:=⟨_,rfl⟩
  have HMM:=hHi hm
  rw[hm] at HG e1 hc2 hl2
  clear hm
  obtain⟨wb,hwb⟩:∃wb,wr.alloc (.cells #[.int .i64 x.assoc,.slice a2 m c2] 61)=wb:=⟨_,rfl⟩
  have g0:wb.cell? ⟨wr.heap.size,0,none⟩=some (.int .i64 x.assoc):=by rw[←hwb];exact cell_new 0 rfl
  have g1:wb.cell? ⟨wr.heap.size,1,none⟩=some (.slice a2 m c2):=by rw[←hwb];exact cell_new 1 rfl
  have HBb:Hid (Below w.heap.size w wb):=by rw[←hwb];exact hB.alloc hB.size _
  by_cases q0:0≤x.assoc
  case neg=>
   have q0I:x.assoc<0:=by omega
   rw[decide_eq_false q0] at HG
   clear q0
   go_wp2
   go_ret
   exact⟨by rw[HD.out,HF.out (by rw[HG.out];rfl)];rfl,HBb.out⟩
  have q0I:¬x.assoc<0:=by omega
  rw[decide_eq_true q0] at HG
  by_cases q3:x.assoc≤3
  case neg=>
   have q3I:x.assoc>3:=by omega
   rw[decide_eq_false q3] at HG
   clear q3 q0
   go_wp2
   go_ret
   exact⟨by rw[HD.out,HF.out (by rw[HG.out];rfl)];rfl,HBb.out⟩
  have q3I:¬x.assoc>3:=by omega
  rw[decide_eq_true q3] at HG
  clear q0 q3
  by_cases m1:1≤m
  case neg=>
   have m1I:(m:Int)<1:=by omega
   rw[btw_no m1] at HG
   clear m1
   go_wp2
   go_ret
   exact⟨by rw[HD.out,HF.out (by rw[HG.out];rfl)];rfl,HBb.out⟩
  have m1I:¬(m:Int)<1:=by omega
  by_cases m2:m≤16
  case neg=>
   have m2I:(m:Int)>16:=by omega
   have HE2:Hid (btw (m:Int) 16=false):=btw_big m2
   rw[HE2.out] at HG
   clear m1 m2
   go_wp2
   go_ret
   exact⟨by rw[HD.out,HF.out (by rw[HG.out];rfl)];rfl,HBb.out⟩
  have m2I:¬(m:Int)>16:=by omega
  have HE2:Hid (btw (m:Int) 16=true):=btw_ok m1 m2
  rw[HE2.out] at HG
  clear m1 m2
  have HL:Hid (∀j y,x.cons[j]?=some y→∃b o,a2=some ⟨b,o,none⟩∧wb.cell? ⟨b,o+j,none⟩=some (.string y)):=fun j y hy=>by
   obtain⟨b,o,us,hab,hblt,rfl,hc⟩:=HR2.out j y hy
   exact⟨b,o,hab,by simpa using (HBb.out.cell (p:=⟨b,o+j*1+0,none⟩) hblt).trans (hc 0 _ rfl)⟩
  go_wp2
  go_loop [5] (fun jv=>∃j:Nat,j≤m∧jv=.int .i64 j∧(x.cons.take j).all nm=true) (fun jv=>m-(intOf jv).toNat)
  case atStart=>exact⟨0,Nat.zero_le _,rfl,rfl⟩
  case round=>
   obtain⟨j,hj,rfl,hjj⟩:=hrel
   have HJ:=hHi hjj
   clear hjj
   by_cases hlj:j<m
   case neg=>
    obtain rfl:j=m:=by omega
    have HJ2:Hid (x.cons.all nm=true):=by
     have:=HJ.out
     rw[←HMM.out,List.take_length] at this
     exact this
    have HT2:Hid _:=HT.out (by rw[HG.out,HJ2.out];rfl)
    go_wp2
    go_roundw
    case rel=>exact⟨k+1,by omega,by go_num,HT2.out,HBb.out⟩
    case measure=>simp[intOf];omega
   obtain⟨y,hy⟩:∃y,x.cons[j]?=some y:=⟨x.cons[j]'(by rw[HMM.out];exact hlj),by simp⟩
   obtain⟨b2,o2,hab2,f0⟩:=HL.out j y hy
   subst hab2
   have hljI:(j:Int)<m:=by omega
   have HY:=hHi hy
   clear hy
   cases hq:nm y with
   | false=>
    have HC:Hid _:=fun w=>rnm_f hq w
    have HA:Hid _:=all_none HY.out hq
    clear hq
    go_wp2_with fail
    refine (HC.out _).mono ?_
    rintro e w6 ⟨rfl,rfl⟩
    go_wp2
    go_ret
    exact⟨by rw[HD.out,HF.out (by rw[HG.out,HA.out];rfl)];rfl,HBb.out⟩
   | true=>
    have HC:Hid _:=fun w=>rnm_f hq w
    have HA:Hid ((x.cons.take (j+1)).all nm=true):=by show _=_;rw[all_take HY.out,hq,HJ.out];rfl
    clear hq
    go_wp2_with fail
    refine (HC.out _).mono ?_
    rintro e w6 ⟨rfl,rfl⟩
    go_wp2
    go_round
    case rel=>exact⟨j+1,by omega,by go_num,HA.out⟩
    case measure=>simp[intOf];omega
def ritB (k:Int) (t n:Int) (m:Nat):Bool:=decide (0≤n)&&decide (n≤999999)&&decide (t≤32)&&decide (1≤k)&&decide (k≤6)&&(decide (k=1)||decide (t=0))&&(decide (k=2)||decide (k=5)||decide (n=0))&&(decide (5≤k)||decide (m=0))
theorem rit_eq (i:It):ritB i.kind i.text.size i.n i.items.length=itemB i:=by
 unfold ritB itemB numB em
 rw[Bool.eq_iff_iff]
 by_cases k1:i.kind=1
 ·rw[if_pos k1];simp only[Bool.and_eq_true,Bool.or_eq_true,decide_eq_true_eq,beq_iff_eq,Bool.not_eq_true',decide_eq_false_iff_not];omega
 rw[if_neg k1]
 by_cases k2:i.kind=2
 ·rw[if_pos k2];simp only[Bool.and_eq_true,Bool.or_eq_true,decide_eq_true_eq,Bool.not_eq_true',decide_eq_false_iff_not];omega
 rw[if_neg k2]
 by_cases k3:i.kind=3
 ·rw[if_pos k3];simp only[Bool.and_eq_true,Bool.or_eq_true,decide_eq_true_eq,beq_iff_eq,Bool.not_eq_true',decide_eq_false_iff_not];omega
 rw[if_neg k3]
 by_cases k4:i.kind=4
 ·rw[if_pos k4];simp only[Bool.and_eq_true,Bool.or_eq_true,decide_eq_true_eq,beq_iff_eq,Bool.not_eq_true',decide_eq_false_iff_not];omega
 rw[if_neg k4]
 by_cases k5:i.kind=5
 ·rw[if_pos k5];simp only[Bool.and_eq_true,Bool.or_eq_true,decide_eq_true_eq];omega
 rw[if_neg k5]
 by_cases k6:i.kind=6
 ·rw[if_pos k6];simp only[Bool.and_eq_true,Bool.or_eq_true,decide_eq_true_eq,beq_iff_eq];omega
 rw[if_neg k6]
 simp only[Bool.and_eq_true,Bool.or_eq_true,decide_eq_true_eq,Bool.false_eq_true,iff_false];omega
theorem rit_iff {k t n:Int} {m:Nat}:ritB k t n m=true↔0≤n∧n≤999999∧t≤32∧1≤k∧k≤6∧(k=1∨t=0)∧(k=2∨k=5∨n=0)∧(5≤k∨m=0):=by
 unfold ritB;simp only[Bool.and_eq_true,Bool.or_eq_true,decide_eq_true_eq];omega
def rnI (q:Nat×Bool):Int:=if q.2 then q.1 else -1
theorem its_one {m:Nat} {l:List It} {k:Nat} {x:It} (h:l[k]?=some x):itsR m (l.drop k)=if (itR m x).2 then itsR (itR m x).1 (l.drop (k+1)) else ((itR m x).1,false):=by
 have h:=List.getElem?_eq_some_iff.1 h
 rw[List.drop_eq_getElem_cons h.1,h.2,itsR]
theorem its_stop {m:Nat} {l:List It} {k:Nat} {x:It} {kd n:Int} {t j:Nat} (h:l[k]?=some x) (h1:x.kind=kd) (h2:x.n=n) (h3:x.text.size=t) (h4:x.items.length=j) (hb:¬(m+1≤64∧ritB kd t n j=true)):rnI (itsR m (l.drop k))=-1:=by
 subst h1 h2 h3 h4
 rw[rit_eq] at hb
 have hi:itR m x=(m+1,false):=by rw[itR_eq,if_neg hb]
 rw[its_one h,hi]
 rfl
theorem its_go {m:Nat} {l:List It} {k:Nat} {x:It} {kd n:Int} {t j:Nat} (h:l[k]?=some x) (h1:x.kind=kd) (h2:x.n=n) (h3:x.text.size=t) (h4:x.items.length=j) (hb:m+1≤64) (hr:ritB kd t n j=true):itsR m (l.drop k)=if (itsR (m+1) x.items).2 then itsR (itsR (m+1) x.items).1 (l.drop (k+1)) else ((itsR (m+1) x.items).1,false):=by
 subst h1 h2 h3 h4
 rw[rit_eq] at hr
 have hi:itR m x=itsR (m+1) x.items:=by rw[itR_eq,if_pos ⟨hb,hr⟩]
 rw[its_one h,hi]
theorem rits_any:∀(f:Nat) (l:List It) (v:Value) (n:Nat) (w:World),n≤64→Sl w w.heap.size 4 (ItV w w.heap.size f) l v→Calls Tryz.prog 45 #[v,.int .i64 n] w fun e w'=>e=.returned (.int .i64 (rnI (itsR n l)))∧Below w.heap.size w w':=by
 intro f
 induction f with
 | zero=>
  intro l v n w hn64 h
  cases l with
  | cons x l=>
   obtain⟨a,c,rfl,hcc,hln,hr⟩:=h
   obtain⟨b,o,us,hab,hblt,hf,hc⟩:=hr 0 x rfl
   exact hf.elim
  | nil=>
   obtain⟨a,c,rfl,hcc,hln,hr⟩:=h
   have HE:Hid (rnI (itsR n [])=n):=by show _=_;rw[itsR];rfl
   clear hr
   go_enter Tryz.func45,Tryz.ntmps45
   go_wp2
   go_loopw[1,5,6] (fun nv iv _ W=>nv=.int .i64 n∧iv=.int .i64 0∧W=w) (fun _ _ _ _=>0)
   case atStart=>exact⟨rfl,rfl,rfl⟩
   case round=>
    obtain⟨rfl,rfl,rfl⟩:=hrel
    go_wp2
    go_ret
    exact⟨by rw[HE.out];rfl,Below.refl _ _⟩
 | succ f ih=>
 intro l v n w hn64 h
 obtain⟨a,c,rfl,hcc,hln,hr⟩:=h
 have HR:=hHi hr
 have HI:=hHi ih
 clear hr ih
 obtain⟨N,hN⟩:∃N,l.length=N:=⟨_,rfl⟩
 have HNN:=hHi hN
 rw[hN] at hcc hln
 rw[hN]
 clear hN
 go_enter Tryz.func45,Tryz.ntmps45
 go_wp2
 go_loopw[1,5,6] (fun nv iv _ W=>∃k m:Nat,k≤N∧iv=.int .i64 k∧nv=.int .i64 m∧m≤64∧itsR n l=itsR m (l.drop k)∧Below w.heap.size w W) (fun _ iv _ _=>N-(intOf iv).toNat)
 case atStart=>exact⟨0,n,Nat.zero_le _,rfl,rfl,hn64,rfl,Below.refl _ _⟩
 case round=>
  obtain⟨k,m,hk,rfl,rfl,hm,hh,hB⟩:=hrel
  have HH:=hHi hh
  clear hh
  by_cases hlt:k<N
  case neg=>
   obtain rfl:k=N:=by omega
   have HE:Hid (rnI (itsR n l)=m):=by
    show _=_
    rw[HH.out,List.drop_eq_nil_of_le (by rw[HNN.out];exact Nat.le_refl _),itsR];rfl
   clear hn64
   go_wp2
   go_ret
   exact⟨by rw[HE.out];rfl,hB⟩
  obtain⟨x,hx⟩:∃x,l[k]?=some x:=⟨l[k]'(by rw[HNN.out];exact hlt),by simp⟩
  obtain⟨b,o,us,hab,hblt,⟨v2,rfl,a2,c2,rfl,hc2,hl2,hr2⟩,hc⟩:=HR.out k x hx
  subst hab
  obtain⟨kd,hkd⟩:∃kd,x.kind=kd:=⟨_,rfl⟩
  obtain⟨q,hq⟩:∃q,x.n=q:=⟨_,rfl⟩
  obtain⟨tx,htx⟩:∃tx,x.text=tx:=⟨_,rfl⟩
  obtain⟨j,hj⟩:∃j,x.items.length=j:=⟨_,rfl⟩
  rw[hkd,hq,htx,hj] at hc
  rw[hj] at hc2 hl2
  have e0:wr.cell? ⟨b,o+k*4,none⟩=some (.int .i64 kd):=(hB.cell (p:=⟨b,o+k*4+0,none⟩) hblt).trans (hc 0 _ rfl)
  have hq_:=hcb hB hblt hc
  have e1:=hq_ 1 _ rfl
  have e2:=hq_ 2 _ rfl
  have e3:=hq_ 3 _ rfl
  clear hq_
  have hltI:(k:Int)<N:=by omega
  obtain⟨wb,hwb⟩:∃wb,wr.alloc (.cells #[.int .i64 kd,.string tx,.int .i64 q,.slice a2 j c2] 124)=wb:=⟨_,rfl⟩
  have g0:wb.cell? ⟨wr.heap.size,0,none⟩=some (.int .i64 kd):=by rw[←hwb];exact cell_new 0 rfl
  have g1:wb.cell? ⟨wr.heap.size,1,none⟩=some (.string tx):=by rw[←hwb];exact cell_new 1 rfl
  have g2:wb.cell? ⟨wr.heap.size,2,none⟩=some (.int .i64 q):=by rw[←hwb];exact cell_new 2 rfl
  have g3:wb.cell? ⟨wr.heap.size,3,none⟩=some (.slice a2 j c2):=by rw[←hwb];exact cell_new 3 rfl
  have HBb:Hid (Below w.heap.size w wb):=by rw[←hwb];exact hB.alloc hB.size _
  have HS:Hid (¬(m+1≤64∧ritB kd tx.size q j=true)→rnI (itsR n l)=-1):=fun h=>by rw[HH.out];exact its_stop hx hkd hq (by rw[htx]) hj h
  have HGo:Hid (m+1≤64→ritB kd tx.size q j=true→itsR n l=if (itsR (m+1) x.items).2 then itsR (itsR (m+1) x.items).1 (l.drop (k+1)) else ((itsR (m+1) x.items).1,false)):=fun h1 h2=>by rw[HH.out];exact its_go hx hkd hq (by rw[htx]) hj h1 h2
  have HC:Hid (m+1≤64→Calls Tryz.prog 45 #[.slice a2 j c2,.int .i64 ((m:Int)+1)] wb fun e w'=>e=.returned (.int .i64 (rnI (itsR (m+1) x.items)))∧Below wb.heap.size wb w'):=fun h1=>by
   have:=HI.out x.items (.slice a2 j c2) (m+1) wb h1 ⟨a2,c2,by rw[hj],by rw[hj];exact hc2,by rw[hj];exact hl2,hr2.keep HBb.out HBb.out.size (fun _ _ _ h=>h.keep HBb.out HBb.out.size)⟩
   simpa using this
  have HLE:Hid ((m+1≤64)→(itsR (m+1) x.items).2=true→(itsR (m+1) x.items).1≤64):=fun h1 h2=>(itsR_le _ _ h1).2 h2
  clear hx hc hr2 hkd hq htx hj HR HI hc2 hl2 hcc hblt
  generalize itsR (m+1) x.items=Q at HGo HC HLE
  clear x
  have he:(tx.size=0∧tx.toList.isEmpty=true)∨(¬tx.size=0∧tx.toList.isEmpty=false):=by
   by_cases h0:tx.size=0
   ·exact .inl ⟨h0,by rw[str_empty _ h0,ByteArray.toList_eq];rfl⟩
   ·exact .inr ⟨h0,ne_empty _ h0⟩
  by_cases q1:m+1≤64
  case neg=>
   have q1I:(m:Int)+1>64:=by omega
   have HZ:Hid (rnI (itsR n l)=-1):=HS.out (by rw[rit_iff];omega)
   clear q1 he
   go_wp2
   go_ret
   exact⟨by rw[HZ.out];rfl,HBb.out⟩
  have q1I:¬(m:Int)+1>64:=by omega
  by_cases q2:0≤q
  case neg=>
   have q2I:q<0:=by omega
   have HZ:Hid (rnI (itsR n l)=-1):=HS.out (by rw[rit_iff];omega)
   clear q1 q2 he
   go_wp2
   go_ret
   exact⟨by rw[HZ.out];rfl,HBb.out⟩
  have q2I:¬q<0:=by omega
  by_cases q3:q≤999999
  case neg=>
   have q3I:q>999999:=by omega
   have HZ:Hid (rnI (itsR n l)=-1):=HS.out (by rw[rit_iff];omega)
   clear q1 q2 q3 he
   go_wp2
   go_ret
   exact⟨by rw[HZ.out];rfl,HBb.out⟩
  have q3I:¬q>999999:=by omega
  by_cases q4:tx.size≤32
  case neg=>
   have q4I:(tx.size:Int)>32:=by omega
   have HZ:Hid (rnI (itsR n l)=-1):=HS.out (by rw[rit_iff];omega)
   clear q1 q2 q3 q4 he
   go_wp2
   go_ret
   exact⟨by rw[HZ.out];rfl,HBb.out⟩
  have q4I:¬(tx.size:Int)>32:=by omega
  by_cases q5:1≤kd
  case neg=>
   have q5I:kd<1:=by omega
   have HZ:Hid (rnI (itsR n l)=-1):=HS.out (by rw[rit_iff];omega)
   clear q1 q2 q3 q4 q5 he
   go_wp2
   go_ret
   exact⟨by rw[HZ.out];rfl,HBb.out⟩
  have q5I:¬kd<1:=by omega
  by_cases q6:kd≤6
  case neg=>
   have q6I:kd>6:=by omega
   have HZ:Hid (rnI (itsR n l)=-1):=HS.out (by rw[rit_iff];omega)
   clear q1 q2 q3 q4 q5 q6 he
   go_wp2
   go_ret
   exact⟨by rw[HZ.out];rfl,HBb.out⟩
  have q6I:¬kd>6:=by omega
  obtain rfl | rfl | rfl | rfl | rfl | rfl:kd=1∨kd=2∨kd=3∨kd=4∨kd=5∨kd=6:=by omega
  ·clear he
   by_cases hz:q=0
   case neg=>
    have hz1:(q==0)=false:=by simpa using hz
    have hz2:(q != 0)=true:=by simpa using hz
    have HZ:Hid (rnI (itsR n l)=-1):=HS.out (by rw[rit_iff];omega)
    clear q1 q2 q3 q4 q5 q6 hz
    go_wp2
    go_ret
    exact⟨by rw[HZ.out];rfl,HBb.out⟩
   have hz1:(q==0)=true:=by simpa using hz
   have hz2:(q != 0)=false:=by simpa using hz
   by_cases hj:j=0
   case neg=>
    have hjI:(j:Int)>0:=by omega
    have HZ:Hid (rnI (itsR n l)=-1):=HS.out (by rw[rit_iff];omega)
    clear q1 q2 q3 q4 q5 q6 hj hz
    go_wp2
    go_ret
    exact⟨by rw[HZ.out];rfl,HBb.out⟩
   have hjI:¬(j:Int)>0:=by omega
   have HQ:Hid _:=HGo.out q1 (by rw[rit_iff];omega)
   have HC1:=hU (HC.out q1)
   have HLE1:Hid _:=HLE.out q1
   clear q1 q2 q3 q4 q5 q6 HC HLE hz hj
   obtain⟨qn,qb⟩:=Q
   cases qb with
   | false=>
    have HZ:Hid (rnI (itsR n l)=-1):=by show _=_;rw[HQ.out];rfl
    go_wp2_with fail
    refine hMo HC1 ?_
    rintro e w6 ⟨rfl,hb6⟩
    have HB6:=hHi (below_tr HBb.out hb6)
    have hrn:rnI (qn,false)=-1:=rfl
    rw[hrn]
    clear hb6 hrn
    go_wp2
    go_ret
    exact⟨by rw[HZ.out];rfl,HB6.out⟩
   | true=>
    have HZ:Hid (itsR n l=itsR qn (l.drop (k+1))):=by show _=_;rw[HQ.out];rfl
    have HL6:Hid (qn≤64):=HLE1.out rfl
    go_wp2_with fail
    refine hMo HC1 ?_
    rintro e w6 ⟨rfl,hb6⟩
    have HB6:=hHi (below_tr HBb.out hb6)
    have hrn:rnI (qn,true)=qn:=rfl
    rw[hrn]
    clear hb6 hrn
    have hqn:¬(qn:Int)<0:=by omega
    go_wp2
    go_roundw
    case rel=>exact⟨k+1,qn,by omega,by go_num,rfl,HL6.out,HZ.out,HB6.out⟩
    case measure=>simp[intOf];omega
  ·rcases he with ⟨ht,he⟩ | ⟨ht,he⟩
   case inr=>
    have HZ:Hid (rnI (itsR n l)=-1):=HS.out (by rw[rit_iff];omega)
    clear q1 q2 q3 q4 q5 q6 ht
    go_wp2
    go_ret
    exact⟨by rw[HZ.out];rfl,HBb.out⟩
   by_cases hj:j=0
   case neg=>
    have hjI:(j:Int)>0:=by omega
    have HZ:Hid (rnI (itsR n l)=-1):=HS.out (by rw[rit_iff];omega)
    clear q1 q2 q3 q4 q5 q6 hj
    go_wp2
    go_ret
    exact⟨by rw[HZ.out];rfl,HBb.out⟩
   have hjI:¬(j:Int)>0:=by omega
   have HQ:Hid _:=HGo.out q1 (by rw[rit_iff];omega)
   have HC1:=hU (HC.out q1)
   have HLE1:Hid _:=HLE.out q1
   clear q1 q2 q3 q4 q5 q6 HC HLE hj ht
   obtain⟨qn,qb⟩:=Q
   cases qb with
   | false=>
    have HZ:Hid (rnI (itsR n l)=-1):=by show _=_;rw[HQ.out];rfl
    go_wp2_with fail
    refine hMo HC1 ?_
    rintro e w6 ⟨rfl,hb6⟩
    have HB6:=hHi (below_tr HBb.out hb6)
    have hrn:rnI (qn,false)=-1:=rfl
    rw[hrn]
    clear hb6 hrn
    go_wp2
    go_ret
    exact⟨by rw[HZ.out];rfl,HB6.out⟩
   | true=>
    have HZ:Hid (itsR n l=itsR qn (l.drop (k+1))):=by show _=_;rw[HQ.out];rfl
    have HL6:Hid (qn≤64):=HLE1.out rfl
    go_wp2_with fail
    refine hMo HC1 ?_
    rintro e w6 ⟨rfl,hb6⟩
    have HB6:=hHi (below_tr HBb.out hb6)
    have hrn:rnI (qn,true)=qn:=rfl
    rw[hrn]
    clear hb6 hrn
    have hqn:¬(qn:Int)<0:=by omega
    go_wp2
    go_roundw
    case rel=>exact⟨k+1,qn,by omega,by go_num,rfl,HL6.out,HZ.out,HB6.out⟩
    case measure=>simp[intOf];omega
  ·rcases he with ⟨ht,he⟩ | ⟨ht,he⟩
   case inr=>
    have HZ:Hid (rnI (itsR n l)=-1):=HS.out (by rw[rit_iff];omega)
    clear q1 q2 q3 q4 q5 q6 ht
    go_wp2
    go_ret
    exact⟨by rw[HZ.out];rfl,HBb.out⟩
   by_cases hz:q=0
   case neg=>
    have hz1:(q==0)=false:=by simpa using hz
    have hz2:(q != 0)=true:=by simpa using hz
    have HZ:Hid (rnI (itsR n l)=-1):=HS.out (by rw[rit_iff];omega)
    clear q1 q2 q3 q4 q5 q6 hz
    go_wp2
    go_ret
    exact⟨by rw[HZ.out];rfl,HBb.out⟩
   have hz1:(q==0)=true:=by simpa using hz
   have hz2:(q != 0)=false:=by simpa using hz
   by_cases hj:j=0
   case neg=>
    have hjI:(j:Int)>0:=by omega
    have HZ:Hid (rnI (itsR n l)=-1):=HS.out (by rw[rit_iff];omega)
    clear q1 q2 q3 q4 q5 q6 hj hz
    go_wp2
    go_ret
    exact⟨by rw[HZ.out];rfl,HBb.out⟩
   have hjI:¬(j:Int)>0:=by omega
   have HQ:Hid _:=HGo.out q1 (by rw[rit_iff];omega)
   have HC1:=hU (HC.out q1)
   have HLE1:Hid _:=HLE.out q1
   clear q1 q2 q3 q4 q5 q6 HC HLE hz hj ht
   obtain⟨qn,qb⟩:=Q
   cases qb with
   | false=>
    have HZ:Hid (rnI (itsR n l)=-1):=by show _=_;rw[HQ.out];rfl
    go_wp2_with fail
    refine hMo HC1 ?_
    rintro e w6 ⟨rfl,hb6⟩
    have HB6:=hHi (below_tr HBb.out hb6)
    have hrn:rnI (qn,false)=-1:=rfl
    rw[hrn]
    clear hb6 hrn
    go_wp2
    go_ret
    exact⟨by rw[HZ.out];rfl,HB6.out⟩
   | true=>
    have HZ:Hid (itsR n l=itsR qn (l.drop (k+1))):=by show _=_;rw[HQ.out];rfl
    have HL6:Hid (qn≤64):=HLE1.out rfl
    go_wp2_with fail
    refine hMo HC1 ?_
    rintro e w6 ⟨rfl,hb6⟩
    have HB6:=hHi (below_tr HBb.out hb6)
    have hrn:rnI (qn,true)=qn:=rfl
    rw[hrn]
    clear hb6 hrn
    have hqn:¬(qn:Int)<0:=by omega
    go_wp2
    go_roundw
    case rel=>exact⟨k+1,qn,by omega,by go_num,rfl,HL6.out,HZ.out,HB6.out⟩
    case measure=>simp[intOf];omega
  ·rcases he with ⟨ht,he⟩ | ⟨ht,he⟩
   case inr=>
    have HZ:Hid (rnI (itsR n l)=-1):=HS.out (by rw[rit_iff];omega)
    clear q1 q2 q3 q4 q5 q6 ht
    go_wp2
    go_ret
    exact⟨by rw[HZ.out];rfl,HBb.out⟩
   by_cases hz:q=0
   case neg=>
    have hz1:(q==0)=false:=by simpa using hz
    have hz2:(q != 0)=true:=by simpa using hz
    have HZ:Hid (rnI (itsR n l)=-1):=HS.out (by rw[rit_iff];omega)
    clear q1 q2 q3 q4 q5 q6 hz
    go_wp2
    go_ret
    exact⟨by rw[HZ.out];rfl,HBb.out⟩
   have hz1:(q==0)=true:=by simpa using hz
   have hz2:(q != 0)=false:=by simpa using hz
   by_cases hj:j=0
   case neg=>
    have hjI:(j:Int)>0:=by omega
    have HZ:Hid (rnI (itsR n l)=-1):=HS.out (by rw[rit_iff];omega)
    clear q1 q2 q3 q4 q5 q6 hj hz
    go_wp2
    go_ret
    exact⟨by rw[HZ.out];rfl,HBb.out⟩
   have hjI:¬(j:Int)>0:=by omega
   have HQ:Hid _:=HGo.out q1 (by rw[rit_iff];omega)
   have HC1:=hU (HC.out q1)
   have HLE1:Hid _:=HLE.out q1
   clear q1 q2 q3 q4 q5 q6 HC HLE hz hj ht
   obtain⟨qn,qb⟩:=Q
   cases qb with
   | false=>
    have HZ:Hid (rnI (itsR n l)=-1):=by show _=_;rw[HQ.out];rfl
    go_wp2_with fail
    refine hMo HC1 ?_
    rintro e w6 ⟨rfl,hb6⟩
    have HB6:=hHi (below_tr HBb.out hb6)
    have hrn:rnI (qn,false)=-1:=rfl
    rw[hrn]
    clear hb6 hrn
    go_wp2
    go_ret
    exact⟨by rw[HZ.out];rfl,HB6.out⟩
   | true=>
    have HZ:Hid (itsR n l=itsR qn (l.drop (k+1))):=by show _=_;rw[HQ.out];rfl
    have HL6:Hid (qn≤64):=HLE1.out rfl
    go_wp2_with fail
    refine hMo HC1 ?_
    rintro e w6 ⟨rfl,hb6⟩
    have HB6:=hHi (below_tr HBb.out hb6)
    have hrn:rnI (qn,true)=qn:=rfl
    rw[hrn]
    clear hb6 hrn
    have hqn:¬(qn:Int)<0:=by omega
    go_wp2
    go_roundw
    case rel=>exact⟨k+1,qn,by omega,by go_num,rfl,HL6.out,HZ.out,HB6.out⟩
    case measure=>simp[intOf];omega
  ·rcases he with ⟨ht,he⟩ | ⟨ht,he⟩
   case inr=>
    have HZ:Hid (rnI (itsR n l)=-1):=HS.out (by rw[rit_iff];omega)
    clear q1 q2 q3 q4 q5 q6 ht
    go_wp2
    go_ret
    exact⟨by rw[HZ.out];rfl,HBb.out⟩
   have HQ:Hid _:=HGo.out q1 (by rw[rit_iff];omega)
   have HC1:=hU (HC.out q1)
   have HLE1:Hid _:=HLE.out q1
   clear q1 q2 q3 q4 q5 q6 HC HLE ht
   obtain⟨qn,qb⟩:=Q
   cases qb with
   | false=>
    have HZ:Hid (rnI (itsR n l)=-1):=by show _=_;rw[HQ.out];rfl
    go_wp2_with fail
    refine hMo HC1 ?_
    rintro e w6 ⟨rfl,hb6⟩
    have HB6:=hHi (below_tr HBb.out hb6)
    have hrn:rnI (qn,false)=-1:=rfl
    rw[hrn]
    clear hb6 hrn
    go_wp2
    go_ret
    exact⟨by rw[HZ.out];rfl,HB6.out⟩
   | true=>
    have HZ:Hid (itsR n l=itsR qn (l.drop (k+1))):=by show _=_;rw[HQ.out];rfl
    have HL6:Hid (qn≤64):=HLE1.out rfl
    go_wp2_with fail
    refine hMo HC1 ?_
    rintro e w6 ⟨rfl,hb6⟩
    have HB6:=hHi (below_tr HBb.out hb6)
    have hrn:rnI (qn,true)=qn:=rfl
    rw[hrn]
    clear hb6 hrn
    have hqn:¬(qn:Int)<0:=by omega
    go_wp2
    go_roundw
    case rel=>exact⟨k+1,qn,by omega,by go_num,rfl,HL6.out,HZ.out,HB6.out⟩
    case measure=>simp[intOf];omega
  ·rcases he with ⟨ht,he⟩ | ⟨ht,he⟩
   case inr=>
    have HZ:Hid (rnI (itsR n l)=-1):=HS.out (by rw[rit_iff];omega)
    clear q1 q2 q3 q4 q5 q6 ht
    go_wp2
    go_ret
    exact⟨by rw[HZ.out];rfl,HBb.out⟩
   by_cases hz:q=0
   case neg=>
    have hz1:(q==0)=false:=by simpa using hz
    have hz2:(q != 0)=true:=by simpa using hz
    have HZ:Hid (rnI (itsR n l)=-1):=HS.out (by rw[rit_iff];omega)
    clear q1 q2 q3 q4 q5 q6 hz
    go_wp2
    go_ret
    exact⟨by rw[HZ.out];rfl,HBb.out⟩
   have hz1:(q==0)=true:=by simpa using hz
   have hz2:(q != 0)=false:=by simpa using hz
   have HQ:Hid _:=HGo.out q1 (by rw[rit_iff];omega)
   have HC1:=hU (HC.out q1)
   have HLE1:Hid _:=HLE.out q1
   clear q1 q2 q3 q4 q5 q6 HC HLE hz ht
   obtain⟨qn,qb⟩:=Q
   cases qb with
   | false=>
    have HZ:Hid (rnI (itsR n l)=-1):=by show _=_;rw[HQ.out];rfl
    go_wp2_with fail
    refine hMo HC1 ?_
    rintro e w6 ⟨rfl,hb6⟩
    have HB6:=hHi (below_tr HBb.out hb6)
    have hrn:rnI (qn,false)=-1:=rfl
    rw[hrn]
    clear hb6 hrn
    go_wp2
    go_ret
    exact⟨by rw[HZ.out];rfl,HB6.out⟩
   | true=>
    have HZ:Hid (itsR n l=itsR qn (l.drop (k+1))):=by show _=_;rw[HQ.out];rfl
    have HL6:Hid (qn≤64):=HLE1.out rfl
    go_wp2_with fail
    refine hMo HC1 ?_
    rintro e w6 ⟨rfl,hb6⟩
    have HB6:=hHi (below_tr HBb.out hb6)
    have hrn:rnI (qn,true)=qn:=rfl
    rw[hrn]
    clear hb6 hrn
    have hqn:¬(qn:Int)<0:=by omega
    go_wp2
    go_roundw
    case rel=>exact⟨k+1,qn,by omega,by go_num,rfl,HL6.out,HZ.out,HB6.out⟩
    case measure=>simp[intOf];omega
theorem rright_any (d:Df) (f:Nat) (v2 v3 v4 v5 v6:Value) (w:World) (h2:Sl w w.heap.size 5 (PrV w w.heap.size) d.prods v2) (h3:Sl w w.heap.size 1 (ChV w w.heap.size) d.chains v3) (h4:Sl w w.heap.size 5 FoV d.follows v4) (h5:Sl w w.heap.size 2 ReV d.rejects v5) (h6:Sl w w.heap.size 2 (BoV w w.heap.size f) d.boxes v6) :
  Calls Tryz.prog 17 #[.agg #[.string d.start,.string d.layout,v2,v3,v4,v5,v6]] w fun e w'=>e=.returned (.bool (rightB d))∧Below w.heap.size w w':=by
 obtain⟨a2,p2,rfl,_,hl2,hr2⟩:=h2
 obtain⟨a3,p3,rfl,_,hl3,hr3⟩:=h3
 obtain⟨a4,p4,rfl,_,hl4,hr4⟩:=h4
 obtain⟨a5,p5,rfl,_,hl5,hr5⟩:=h5
 obtain⟨a6,p6,rfl,_,hl6,hr6⟩:=h6
 obtain⟨N2,hN2⟩:∃N,d.prods.length=N:=⟨_,rfl⟩
 have HN2:=hHi hN2
 rw[hN2] at hl2 ⊢
 have HR2:=hHi hr2
 clear hr2
 obtain⟨N3,hN3⟩:∃N,d.chains.length=N:=⟨_,rfl⟩
 have HN3:=hHi hN3
 rw[hN3] at hl3 ⊢
 have HR3:=hHi hr3
 clear hr3
 obtain⟨N4,hN4⟩:∃N,d.follows.length=N:=⟨_,rfl⟩
 have HN4:=hHi hN4
 rw[hN4] at hl4 ⊢
 have HR4:=hHi hr4
 clear hr4
 obtain⟨N5,hN5⟩:∃N,d.rejects.length=N:=⟨_,rfl⟩
 have HN5:=hHi hN5
 rw[hN5] at hl5 ⊢
 have HR5:=hHi hr5
 clear hr5
 obtain⟨N6,hN6⟩:∃N,d.boxes.length=N:=⟨_,rfl⟩
 have HN6:=hHi hN6
 rw[hN6] at hl6 ⊢
 have HR6:=hHi hr6
 clear hr6
 have HD:Hid (rightB d=(nmN d.start&&nmN d.layout&&decide (N2≤200)&&d.prods.all prodB&&d.chains.all chainB&&d.follows.all (fun x=>nm x.sort)&&d.rejects.all (fun x=>nm x.sort&&nm x.by')&&d.boxes.all boxB)):=by rw[←hN2];rfl
 clear hN2 hN3 hN4 hN5 hN6
 generalize rightB d=R at *
 obtain⟨w1,hw1⟩:∃w1,w.alloc (.cells #[.string d.start,.string d.layout,.slice a2 N2 p2,.slice a3 N3 p3,.slice a4 N4 p4,.slice a5 N5 p5,.slice a6 N6 p6] 28)=w1:=⟨_,rfl⟩
 have b1:Below w.heap.size w w1:=by rw[←hw1];exact (Below.refl _ _).alloc (Nat.le_refl _) _
 have s1:w.heap.size<w1.heap.size:=by rw[←hw1];simp
 have hc:∀j u,(#[.string d.start,.string d.layout,.slice a2 N2 p2,.slice a3 N3 p3,.slice a4 N4 p4,.slice a5 N5 p5,.slice a6 N6 p6]:Array Value)[j]?=some u→w1.cell? ⟨w.heap.size,j,none⟩=some u:=fun j u hu=>by rw[←hw1];exact cell_new j hu
 have HCW:Hid (∀W,Below w1.heap.size w1 W→W.cell? ⟨w.heap.size,0,none⟩=some (.string d.start)∧W.cell? ⟨w.heap.size,1,none⟩=some (.string d.layout)∧W.cell? ⟨w.heap.size,2,none⟩=some (.slice a2 N2 p2)∧W.cell? ⟨w.heap.size,3,none⟩=some (.slice a3 N3 p3)∧W.cell? ⟨w.heap.size,4,none⟩=some (.slice a4 N4 p4)∧W.cell? ⟨w.heap.size,5,none⟩=some (.slice a5 N5 p5)∧W.cell? ⟨w.heap.size,6,none⟩=some (.slice a6 N6 p6)):=fun W hb=>by
  have q:∀j,W.cell? ⟨w.heap.size,j,none⟩=w1.cell? ⟨w.heap.size,j,none⟩:=fun j=>hb.cell (p:=⟨w.heap.size,j,none⟩) s1
  exact⟨(q 0).trans (hc 0 _ rfl),(q 1).trans (hc 1 _ rfl),(q 2).trans (hc 2 _ rfl),(q 3).trans (hc 3 _ rfl),(q 4).trans (hc 4 _ rfl),(q 5).trans (hc 5 _ rfl),(q 6).trans (hc 6 _ rfl)⟩
 have HT:Hid (∀W,Below w1.heap.size w1 W→Below w.heap.size w W):=fun W hb=>below_tr b1 hb
 have H0:Hid _:=fun w=>rnm_any d.start true w
 have H1:Hid _:=fun w=>rnm_any d.layout true w
 have HB0:Hid (Below w1.heap.size w1 w1):=Below.refl _ _
 obtain⟨c0,c1,c2,c3,c4,c5,c6⟩:=HCW.out w1 HB0.out
 clear b1 hc
 have HO:Hid (∀x:ByteArray,(true&&em x||nm x)=nmN x):=fun x=>rfl
 rw[HO.out] at H0 H1
 obtain⟨n0,e0⟩:∃q,nmN d.start=q:=⟨_,rfl⟩
 rw[e0] at HD H0
 clear e0
 obtain⟨n1,e1⟩:∃q,nmN d.layout=q:=⟨_,rfl⟩
 rw[e1] at HD H1
 clear e1
 obtain⟨q2,e⟩:∃q,d.prods.all prodB=q:=⟨_,rfl⟩
 rw[e] at HD
 have HQ2:=hHi e
 clear e
 obtain⟨q3,e⟩:∃q,d.chains.all chainB=q:=⟨_,rfl⟩
 rw[e] at HD
 have HQ3:=hHi e
 clear e
 obtain⟨q4,e⟩:∃q,d.follows.all (fun x=>nm x.sort)=q:=⟨_,rfl⟩
 rw[e] at HD
 have HQ4:=hHi e
 clear e
 obtain⟨q5,e⟩:∃q,d.rejects.all (fun x=>nm x.sort&&nm x.by')=q:=⟨_,rfl⟩
 rw[e] at HD
 have HQ5:=hHi e
 clear e
 obtain⟨q6,e⟩:∃q,d.boxes.all boxB=q:=⟨_,rfl⟩
 rw[e] at HD
 have HQ6:=hHi e
 clear e
 cases n0 with
 | false=>
  go_enter Tryz.func17,Tryz.ntmps17
  go_wp2_with fail
  refine (H0.out _).mono ?_
  rintro e y0 ⟨rfl,hy⟩
  have hy:=hy.symm
  subst hy
  go_wp2
  go_ret
  exact⟨by rw[HD.out];first | rfl | simp,HT.out _ HB0.out⟩
 | true=>
 cases n1 with
 | false=>
  go_enter Tryz.func17,Tryz.ntmps17
  go_wp2_with fail
  refine (H0.out _).mono ?_
  rintro e y0 ⟨rfl,hy⟩
  have hy:=hy.symm
  subst hy
  go_wp2_with fail
  refine (H1.out _).mono ?_
  rintro e y1 ⟨rfl,hy⟩
  have hy:=hy.symm
  subst hy
  go_wp2
  go_ret
  exact⟨by rw[HD.out];first | rfl | simp,HT.out _ HB0.out⟩
 | true=>
 by_cases hp:N2≤200
 case neg=>
  rw[decide_eq_false hp] at HD
  have hpI:(N2:Int)>200:=by omega
  clear hp
  go_enter Tryz.func17,Tryz.ntmps17
  go_wp2_with fail
  refine (H0.out _).mono ?_
  rintro e y0 ⟨rfl,hy⟩
  have hy:=hy.symm
  subst hy
  go_wp2_with fail
  refine (H1.out _).mono ?_
  rintro e y1 ⟨rfl,hy⟩
  have hy:=hy.symm
  subst hy
  go_wp2
  go_ret
  exact⟨by rw[HD.out];first | rfl | simp,HT.out _ HB0.out⟩
 rw[decide_eq_true hp] at HD
 have hpI:¬(N2:Int)>200:=by omega
 clear hp
 go_enter Tryz.func17,Tryz.ntmps17
 go_wp2_with fail
 refine (H0.out _).mono ?_
 rintro e y0 ⟨rfl,hy⟩
 have hy:=hy.symm
 subst hy
 go_wp2_with fail
 refine (H1.out _).mono ?_
 rintro e y1 ⟨rfl,hy⟩
 have hy:=hy.symm
 subst hy
 go_wp2
 go_loopw[3] (fun iv W=>∃k:Nat,k≤N2∧iv=.int .i64 k∧(d.prods.take k).all prodB=true∧Below w1.heap.size w1 W) (fun iv _=>N2-(intOf iv).toNat)
 case atStart=>exact⟨0,Nat.zero_le _,rfl,rfl,HB0.out⟩
 case round=>
 obtain⟨k,hk,rfl,hh,hB⟩:=hrel
 obtain⟨y,hy⟩:∃y,y=wr:=⟨_,rfl⟩
 subst hy
 have HH:=hHi hh
 have HBk:=hHi hB
 clear hh hB c0 c1 c2 c3 c4 c5 c6
 obtain⟨c0,c1,c2,c3,c4,c5,c6⟩:=HCW.out y HBk.out
 by_cases hlt:k<N2
 case pos=>
  obtain⟨x,hx⟩:∃x,d.prods[k]?=some x:=⟨d.prods[k]'(by rw[HN2.out];exact hlt),by simp⟩
  have hB:=HT.out _ HBk.out
  obtain⟨b,o,us,hab,hblt,⟨v,rfl,hfact⟩,hc⟩:=HR2.out k x hx
  have HC:=hU (rprod_any x v y (hfact.keep hB hB.size (fun _ _ _ h=>h)))
  subst hab
  have hq_:=hcb hB hblt hc
  have t0:=hq_ 0 _ rfl
  have t1:=hq_ 1 _ rfl
  have t2:=hq_ 2 _ rfl
  have t3:=hq_ 3 _ rfl
  have t4:=hq_ 4 _ rfl
  clear hq_
  rw[Nat.add_zero] at t0
  have hltI:(k:Int)<N2:=by omega
  have HX:=hHi hx
  clear hx hc hB
  cases hq:prodB x with
  | false=>
   rw[hq] at HC
   have HF:Hid (q2=false):=by rw[←HQ2.out];exact all_none HX.out hq
   clear hq
   go_wp2_with fail
   refine hMo HC ?_
   rintro e w6 ⟨rfl,hb6⟩
   have HB6:Hid _:=below_tr HBk.out hb6
   clear hb6
   obtain⟨z0,z1,z2,z3,z4,z5,z6⟩:=HCW.out w6 HB6.out
   go_wp2
   go_ret
   exact⟨by rw[HD.out,HF.out];simp,HT.out _ HB6.out⟩
  | true=>
   rw[hq] at HC
   have HT1:Hid ((d.prods.take (k+1)).all prodB=true):=by show _=_;rw[all_take HX.out,HH.out,hq];rfl
   clear hq
   go_wp2_with fail
   refine hMo HC ?_
   rintro e w6 ⟨rfl,hb6⟩
   have HB6:Hid _:=below_tr HBk.out hb6
   clear hb6
   obtain⟨z0,z1,z2,z3,z4,z5,z6⟩:=HCW.out w6 HB6.out
   go_wp2
   go_roundw
   case rel=>exact⟨k+1,by omega,by go_num,HT1.out,HB6.out⟩
   case measure=>simp[intOf];omega
 obtain rfl:k=N2:=by omega
 have HA2:Hid (q2=true):=by
  have:=HH.out
  rw[←HN2.out,List.take_length,HQ2.out] at this
  exact this
 rw[HA2.out] at HD
 have HBx2:Hid _:=HBk.out
 clear HH HBk
 go_wp2
 go_loopw[4] (fun iv W=>∃k:Nat,k≤N3∧iv=.int .i64 k∧(d.chains.take k).all chainB=true∧Below w1.heap.size w1 W) (fun iv _=>N3-(intOf iv).toNat)
 case atStart=>exact⟨0,Nat.zero_le _,rfl,rfl,HBx2.out⟩
 case round=>
 obtain⟨k,hk,rfl,hh,hB⟩:=hrel
 obtain⟨y,hy⟩:∃y,y=wr:=⟨_,rfl⟩
 subst hy
 have HH:=hHi hh
 have HBk:=hHi hB
 clear hh hB c0 c1 c2 c3 c4 c5 c6
 obtain⟨c0,c1,c2,c3,c4,c5,c6⟩:=HCW.out y HBk.out
 by_cases hlt:k<N3
 case pos=>
  obtain⟨x,hx⟩:∃x,d.chains[k]?=some x:=⟨d.chains[k]'(by rw[HN3.out];exact hlt),by simp⟩
  have hB:=HT.out _ HBk.out
  obtain⟨b,o,us,hab,hblt,⟨v,rfl,hfact⟩,hc⟩:=HR3.out k x hx
  have HC:=hU (rchain_any x v y (hfact.keep hB hB.size (fun _ _ _ h=>h.keep hB hB.size)))
  subst hab
  have t0:=(hB.cell (p:=⟨b,o+k*1+0,none⟩) hblt).trans (hc 0 _ rfl)
  rw[Nat.mul_one,Nat.add_zero] at t0
  have hltI:(k:Int)<N3:=by omega
  have HX:=hHi hx
  clear hx hc hB
  cases hq:chainB x with
  | false=>
   rw[hq] at HC
   have HF:Hid (q3=false):=by rw[←HQ3.out];exact all_none HX.out hq
   clear hq
   go_wp2_with fail
   refine hMo HC ?_
   rintro e w6 ⟨rfl,hb6⟩
   have HB6:Hid _:=below_tr HBk.out hb6
   clear hb6
   obtain⟨z0,z1,z2,z3,z4,z5,z6⟩:=HCW.out w6 HB6.out
   go_wp2
   go_ret
   exact⟨by rw[HD.out,HF.out];simp,HT.out _ HB6.out⟩
  | true=>
   rw[hq] at HC
   have HT1:Hid ((d.chains.take (k+1)).all chainB=true):=by show _=_;rw[all_take HX.out,HH.out,hq];rfl
   clear hq
   go_wp2_with fail
   refine hMo HC ?_
   rintro e w6 ⟨rfl,hb6⟩
   have HB6:Hid _:=below_tr HBk.out hb6
   clear hb6
   obtain⟨z0,z1,z2,z3,z4,z5,z6⟩:=HCW.out w6 HB6.out
   go_wp2
   go_roundw
   case rel=>exact⟨k+1,by omega,by go_num,HT1.out,HB6.out⟩
   case measure=>simp[intOf];omega
 obtain rfl:k=N3:=by omega
 have HA3:Hid (q3=true):=by
  have:=HH.out
  rw[←HN3.out,List.take_length,HQ3.out] at this
  exact this
 rw[HA3.out] at HD
 have HBx3:Hid _:=HBk.out
 clear HH HBk
 go_wp2
 go_loopw[5] (fun iv W=>∃k:Nat,k≤N4∧iv=.int .i64 k∧(d.follows.take k).all (fun x=>nm x.sort)=true∧Below w1.heap.size w1 W) (fun iv _=>N4-(intOf iv).toNat)
 case atStart=>exact⟨0,Nat.zero_le _,rfl,rfl,HBx3.out⟩
 case round=>
 obtain⟨k,hk,rfl,hh,hB⟩:=hrel
 obtain⟨y,hy⟩:∃y,y=wr:=⟨_,rfl⟩
 subst hy
 have HH:=hHi hh
 have HBk:=hHi hB
 clear hh hB c0 c1 c2 c3 c4 c5 c6
 obtain⟨c0,c1,c2,c3,c4,c5,c6⟩:=HCW.out y HBk.out
 by_cases hlt:k<N4
 case pos=>
  obtain⟨x,hx⟩:∃x,d.follows[k]?=some x:=⟨d.follows[k]'(by rw[HN4.out];exact hlt),by simp⟩
  have hB:=HT.out _ HBk.out
  obtain⟨b,o,us,hab,hblt,⟨hfact,rfl⟩,hc⟩:=HR4.out k x hx
  subst hab
  have hq_:=hcb hB hblt hc
  have t0:=hq_ 0 _ rfl
  have t1:=hq_ 1 _ rfl
  have t2:=hq_ 2 _ rfl
  have t3:=hq_ 3 _ rfl
  have t4:=hq_ 4 _ rfl
  clear hq_
  rw[Nat.add_zero] at t0
  have hltI:(k:Int)<N4:=by omega
  have HX:=hHi hx
  clear hx hc hB
  cases hq:nm x.sort with
  | false=>
   have HC:Hid _:=fun w=>rnm_f hq w
   have HF:Hid (q4=false):=by rw[←HQ4.out];exact all_none HX.out hq
   clear hq
   go_wp2_with fail
   refine (HC.out _).mono ?_
   rintro e w6 ⟨rfl,rfl⟩
   go_wp2
   go_ret
   exact⟨by rw[HD.out,HF.out];simp,HT.out _ HBk.out⟩
  | true=>
   have HC:Hid _:=fun w=>rnm_f hq w
   have HT1:Hid ((d.follows.take (k+1)).all (fun x=>nm x.sort)=true):=by show _=_;rw[all_take HX.out,HH.out,hq];rfl
   clear hq
   go_wp2_with fail
   refine (HC.out _).mono ?_
   rintro e w6 ⟨rfl,rfl⟩
   go_wp2
   go_roundw
   case rel=>exact⟨k+1,by omega,by go_num,HT1.out,HBk.out⟩
   case measure=>simp[intOf];omega
 obtain rfl:k=N4:=by omega
 have HA4:Hid (q4=true):=by
  have:=HH.out
  rw[←HN4.out,List.take_length,HQ4.out] at this
  exact this
 rw[HA4.out] at HD
 have HBx4:Hid _:=HBk.out
 clear HH HBk
 go_wp2
 go_loopw[6] (fun iv W=>∃k:Nat,k≤N5∧iv=.int .i64 k∧(d.rejects.take k).all (fun x=>nm x.sort&&nm x.by')=true∧Below w1.heap.size w1 W) (fun iv _=>N5-(intOf iv).toNat)
 case atStart=>exact⟨0,Nat.zero_le _,rfl,rfl,HBx4.out⟩
 case round=>
 obtain⟨k,hk,rfl,hh,hB⟩:=hrel
 obtain⟨y,hy⟩:∃y,y=wr:=⟨_,rfl⟩
 subst hy
 have HH:=hHi hh
 have HBk:=hHi hB
 clear hh hB c0 c1 c2 c3 c4 c5 c6
 obtain⟨c0,c1,c2,c3,c4,c5,c6⟩:=HCW.out y HBk.out
 by_cases hlt:k<N5
 case pos=>
  obtain⟨x,hx⟩:∃x,d.rejects[k]?=some x:=⟨d.rejects[k]'(by rw[HN5.out];exact hlt),by simp⟩
  have hB:=HT.out _ HBk.out
  obtain⟨b,o,us,hab,hblt,hus,hc⟩:=HR5.out k x hx
  have hus:us=[.string x.sort,.string x.by']:=hus
  subst hus
  subst hab
  have hq_:=hcb hB hblt hc
  have t0:=hq_ 0 _ rfl
  have t1:=hq_ 1 _ rfl
  clear hq_
  rw[Nat.add_zero] at t0
  have hltI:(k:Int)<N5:=by omega
  have HX:=hHi hx
  clear hx hc hB
  cases hq1:nm x.sort with
  | false=>
   have HC:Hid _:=fun w=>rnm_f hq1 w
   have hq:(nm x.sort&&nm x.by')=false:=by rw[hq1];rfl
   clear hq1
   have HF:Hid (q5=false):=by rw[←HQ5.out];exact all_none HX.out hq
   clear hq
   go_wp2_with fail
   refine (HC.out _).mono ?_
   rintro e w6 ⟨rfl,rfl⟩
   go_wp2
   go_ret
   exact⟨by rw[HD.out,HF.out];simp,HT.out _ HBk.out⟩
  | true=>
  have HC:Hid _:=fun w=>rnm_f hq1 w
  cases hq2:nm x.by' with
  | false=>
   have HC2:Hid _:=fun w=>rnm_f hq2 w
   have hq:(nm x.sort&&nm x.by')=false:=by rw[hq1,hq2];rfl
   clear hq1 hq2
   have HF:Hid (q5=false):=by rw[←HQ5.out];exact all_none HX.out hq
   clear hq
   go_wp2_with fail
   refine (HC.out _).mono ?_
   rintro e w6 ⟨rfl,rfl⟩
   go_wp2_with fail
   refine (HC2.out _).mono ?_
   rintro e w7 ⟨rfl,rfl⟩
   go_wp2
   go_ret
   exact⟨by rw[HD.out,HF.out];simp,HT.out _ HBk.out⟩
  | true=>
   have HC2:Hid _:=fun w=>rnm_f hq2 w
   have hq:(nm x.sort&&nm x.by')=true:=by rw[hq1,hq2];rfl
   clear hq1 hq2
   have HT1:Hid ((d.rejects.take (k+1)).all (fun x=>nm x.sort&&nm x.by')=true):=by show _=_;rw[all_take HX.out,HH.out,hq];rfl
   clear hq
   go_wp2_with fail
   refine (HC.out _).mono ?_
   rintro e w6 ⟨rfl,rfl⟩
   go_wp2_with fail
   refine (HC2.out _).mono ?_
   rintro e w7 ⟨rfl,rfl⟩
   go_wp2
   go_roundw
   case rel=>exact⟨k+1,by omega,by go_num,HT1.out,HBk.out⟩
   case measure=>simp[intOf];omega
 obtain rfl:k=N5:=by omega
 have HA5:Hid (q5=true):=by
  have:=HH.out
  rw[←HN5.out,List.take_length,HQ5.out] at this
  exact this
 rw[HA5.out] at HD
 have HBx5:Hid _:=HBk.out
 clear HH HBk
 go_wp2
 go_loopw[7] (fun iv W=>∃k:Nat,k≤N6∧iv=.int .i64 k∧(d.boxes.take k).all boxB=true∧Below w1.heap.size w1 W) (fun iv _=>N6-(intOf iv).toNat)
 case atStart=>exact⟨0,Nat.zero_le _,rfl,rfl,HBx5.out⟩
 case round=>
 obtain⟨k,hk,rfl,hh,hB⟩:=hrel
 obtain⟨y,hy⟩:∃y,y=wr:=⟨_,rfl⟩
 subst hy
 have HH:=hHi hh
 have HBk:=hHi hB
 clear hh hB c0 c1 c2 c3 c4 c5 c6
 obtain⟨c0,c1,c2,c3,c4,c5,c6⟩:=HCW.out y HBk.out
 by_cases hlt:k<N6
 case pos=>
  obtain⟨x,hx⟩:∃x,d.boxes[k]?=some x:=⟨d.boxes[k]'(by rw[HN6.out];exact hlt),by simp⟩
  have hB:=HT.out _ HBk.out
  obtain⟨b,o,us,hab,hblt,⟨v,rfl,hfact⟩,hc⟩:=HR6.out k x hx
  have HC:=hU (rits_any f x.items v 0 y (Nat.zero_le _) (hfact.keep hB hB.size (fun _ _ _ h=>h.keep hB hB.size)))
  subst hab
  have hq_:=hcb hB hblt hc
  have t0:=hq_ 0 _ rfl
  have t1:=hq_ 1 _ rfl
  clear hq_
  rw[Nat.add_zero] at t0
  have hltI:(k:Int)<N6:=by omega
  have HX:=hHi hx
  clear hx hc hB
  cases hq1:nm x.cons with
  | false=>
   have HC1:Hid _:=fun w=>rnm_f hq1 w
   have hq:boxB x=false:=by unfold boxB;rw[hq1];rfl
   clear hq1
   have HF:Hid (q6=false):=by rw[←HQ6.out];exact all_none HX.out hq
   clear hq
   go_wp2_with fail
   refine (HC1.out _).mono ?_
   rintro e w6 ⟨rfl,rfl⟩
   go_wp2
   go_ret
   exact⟨by rw[HD.out,HF.out];simp,HT.out _ HBk.out⟩
  | true=>
  have HC1:Hid _:=fun w=>rnm_f hq1 w
  cases hq2:(itsR 0 x.items).2 with
  | false=>
   have hrn:rnI (itsR 0 x.items)=-1:=by unfold rnI;rw[hq2];rfl
   rw[hrn] at HC
   have hq:boxB x=false:=by unfold boxB;rw[hq1,hq2];rfl
   clear hq1 hq2 hrn
   have HF:Hid (q6=false):=by rw[←HQ6.out];exact all_none HX.out hq
   clear hq
   go_wp2_with fail
   refine (HC1.out _).mono ?_
   rintro e w6 ⟨rfl,rfl⟩
   go_wp2_with fail
   refine hMo HC ?_
   rintro e w7 ⟨rfl,hb7⟩
   have HB6:Hid _:=below_tr HBk.out hb7
   clear hb7
   obtain⟨z0,z1,z2,z3,z4,z5,z6⟩:=HCW.out w7 HB6.out
   go_wp2
   go_ret
   exact⟨by rw[HD.out,HF.out];simp,HT.out _ HB6.out⟩
  | true=>
   have hrn:rnI (itsR 0 x.items)=((itsR 0 x.items).1:Int):=by unfold rnI;rw[hq2];rfl
   rw[hrn] at HC
   have hq:boxB x=true:=by unfold boxB;rw[hq1,hq2];rfl
   clear hq1 hq2 hrn
   have HT1:Hid ((d.boxes.take (k+1)).all boxB=true):=by show _=_;rw[all_take HX.out,HH.out,hq];rfl
   clear hq
   have hge:¬((itsR 0 x.items).1:Int)<0:=by omega
   generalize (itsR 0 x.items).1=M at *
   go_wp2_with fail
   refine (HC1.out _).mono ?_
   rintro e w6 ⟨rfl,rfl⟩
   go_wp2_with fail
   refine hMo HC ?_
   rintro e w7 ⟨rfl,hb7⟩
   have HB6:Hid _:=below_tr HBk.out hb7
   clear hb7
   obtain⟨z0,z1,z2,z3,z4,z5,z6⟩:=HCW.out w7 HB6.out
   go_wp2
   go_roundw
   case rel=>exact⟨k+1,by omega,by go_num,HT1.out,HB6.out⟩
   case measure=>simp[intOf];omega
 obtain rfl:k=N6:=by omega
 have HA6:Hid (q6=true):=by
  have:=HH.out
  rw[←HN6.out,List.take_length,HQ6.out] at this
  exact this
 rw[HA6.out] at HD
 have HBx6:Hid _:=HBk.out
 clear HH HBk
 go_wp2
 go_ret
 exact⟨by rw[HD.out];rfl,HT.out _ HBx6.out⟩
end Go.Proofs.YtcpakcffiopfjaaGreatDoor
