/- Texts in quotes: isPlain, the signs, readQuoted and Unquote at every text. readQuoted and Unquote, at every text of at most 65536 bytes, and Unquote at every text. Unquote, at every text. Quote, at every row of bytes of at most 65536. Storing a word and a fault into their boxes. A word's parts: remarks, the ends of sets, new words, names and keys. -/
import Derived.Test.YtcpakcffiopfjaaGreatDoorA2
import Derived.Test.YtcpakcffiopfjaaGreatDoorA1
import Derived.Deep.RegionHeld3
import Derived.Deep.DrawnRows
import Derived.OwnWalk
import Derived.Test.YtcpakcffiopfjaaGreatDoorA0
import Derived.Test.YtcpakcffiopfjaaGreatDoorA3
namespace Go.Proofs.YtcpakcffiopfjaaGreatDoor
open Go.RowKit
set_option linter.unusedVariables false
set_option linter.unusedSimpArgs false
set_option maxRecDepth 100000
set_option maxHeartbeats 16000000
set_option linter.unusedVariables false
set_option linter.unusedSimpArgs false
set_option maxRecDepth 100000
set_option maxHeartbeats 16000000
theorem plainq_any (n:Nat) (w:World) (hn:n<256):Calls Tryz.prog 188 #[.int .u8 n] w fun e w'=>e=.returned (.bool (plainq n))∧w'=w:=by
 have H:Hid (plainq n=(decide (32≤n)&&decide (n≤126)&&decide (n≠34)&&decide (n≠92))):=rfl
 go_enter Tryz.func188,Tryz.ntmps188
 go_wp2
 all_goals go_ret
 all_goals (refine⟨ret_bool ?_,rfl⟩;rw[H.out])
 all_goals (rw[Bool.eq_iff_iff];simp;try omega)
theorem shortq_bd (n:Nat):shortq n<5:=by
 have:∀c:Fin 256,Lib.indexByte [110,116,114,34,92] (UInt8.ofNat c.val)<5:=by decide +kernel
 have h:=this ⟨n%256,Nat.mod_lt _ (by omega)⟩
 have e:UInt8.ofNat (n%256)=UInt8.ofNat n:=by
  apply UInt8.toNat_inj.1;simp
 simp only at h
 rw[e] at h;exact h
theorem saidq_at:∀i:Fin 5,(⟨#[10,9,13,34,92]⟩:ByteArray)[i.val].toNat=saidq i.val:=by decide +kernel
theorem shortq_any (n:Nat) (w:World) :
  Calls Tryz.prog 114 #[.string ⟨#[110,116,114,34,92]⟩,.int .u8 n] w fun e w'=>e=.returned (.int .i64 (shortq n))∧w'=w:=idx_any _ n w
theorem rdq_any (x:ByteArray) (w:World) :
  Calls Tryz.prog 187 #[.string x,.string ⟨#[110,116,114,34,92]⟩,.string ⟨#[10,9,13,34,92]⟩] w fun e w'=>e=.returned (.tuple #[.int .u8 (rdq x).1,.int .i64 (rdq x).2])∧∃nq,w'=w.drewN nq:=by
 have H:Hid (rdq x=_):=rdq.eq_1 x
 by_cases h1:x.size<2
 ·rw[if_pos (Or.inl h1)] at H
  have h1':(x.size:Int)<2:=by omega
  rw[show rdq x=_ from H]
  clear H
  go_enter Tryz.func187,Tryz.ntmps187
  go_wp2
  exact bodyPost_ret (v:=.tuple #[.int .u8 0,.int .i64 0]) (by simp[results,Tryz.results187,go_sem]) rfl ⟨rfl,0,rfl⟩
 have k0:0<x.size:=by omega
 have k1:1<x.size:=by omega
 have b0:=bt_eq x 0 k0
 by_cases h2:bt x 0=92
 ·rw[if_neg (by simp[h1,h2])] at H
  rw[h2] at b0
  have b1:=bt_eq x 1 k1
  have HS:Hid _:=fun w=>shortq_any (bt x 1) w
  have hs:=shortq_bd (bt x 1)
  have hl:=bt_lt x 1
  by_cases h3:0≤shortq (bt x 1)
  ·rw[if_pos h3] at H
   obtain⟨i,he⟩:=Int.eq_ofNat_of_zero_le h3
   rw[he] at HS H hs
   have sa:=saidq_at ⟨i,by omega⟩
   simp only[Int.toNat_natCast] at H
   rw[show rdq x=_ from H]
   clear H he h3
   have hi:i<5:=by omega
   go_enter Tryz.func187,Tryz.ntmps187
   go_wp2_with (go_at_call 114;refine (HS.out _).mono ?_;rintro e w' ⟨rfl,rfl⟩)
   exact bodyPost_ret (v:=.tuple #[.int .u8 (saidq i),.int .i64 2]) (by simp[results,Tryz.results187,go_sem]) rfl ⟨rfl,0,rfl⟩
  ·rw[if_neg h3] at H
   by_cases h4:x.size<4
   ·rw[if_pos (Or.inl h4)] at H
    rw[show rdq x=_ from H]
    clear H
    go_enter Tryz.func187,Tryz.ntmps187
    go_wp2_with (go_at_call 114;refine (HS.out _).mono ?_;rintro e w' ⟨rfl,rfl⟩)
    exact bodyPost_ret (v:=.tuple #[.int .u8 0,.int .i64 0]) (by simp[results,Tryz.results187,go_sem]) rfl ⟨rfl,0,rfl⟩
   ·by_cases h5:bt x 1=120
    ·rw[if_neg (by simp[h4,h5])] at H
     have b2:=bt_eq x 2 (by omega)
     have b3:=bt_eq x 3 (by omega)
     have k2:2<x.size:=by omega
     have k3:3<x.size:=by omega
     have HD2:Hid _:=fun w=>digit_any (bt x 2) w (bt_lt x 2)
     have HD3:Hid _:=fun w=>digit_any (bt x 3) w (bt_lt x 3)
     rw[h5] at HS
     have l2:=dig_lo (bt x 2)
     have l3:=dig_lo (bt x 3)
     have u2:=dig_hi (bt x 2)
     have u3:=dig_hi (bt x 3)
     generalize dig (bt x 2)=d2 at *
     generalize dig (bt x 3)=d3 at *
     have k2i:(2:Int)<x.size:=by omega
     have k3i:(3:Int)<x.size:=by omega
     by_cases h6:d2<0
     ·rw[if_pos (Or.inl h6)] at H
      rw[show rdq x=_ from H]
      clear H
      go_enter Tryz.func187,Tryz.ntmps187
      go_wp2_with (go_at_call 114;refine (HS.out _).mono ?_;rintro e w' ⟨rfl,rfl⟩)
      go_quiet (first | (go_at_call_of 204 (bt x 2);exact Calls.quiet_of_same (HD2.out _)) | (go_at_call_of 204 (bt x 3);exact Calls.quiet_of_same (HD3.out _)))
      go_wp2
      exact bodyPost_ret (v:=.tuple #[.int .u8 0,.int .i64 0]) (by simp[results,Tryz.results187,go_sem]) rfl ⟨rfl,nq,rfl⟩
     ·by_cases h7:d3<0
      ·rw[if_pos (Or.inr h7)] at H
       rw[show rdq x=_ from H]
       clear H
       go_enter Tryz.func187,Tryz.ntmps187
       go_wp2_with (go_at_call 114;refine (HS.out _).mono ?_;rintro e w' ⟨rfl,rfl⟩)
       go_quiet (first | (go_at_call_of 204 (bt x 2);exact Calls.quiet_of_same (HD2.out _)) | (go_at_call_of 204 (bt x 3);exact Calls.quiet_of_same (HD3.out _)))
       go_wp2
       exact bodyPost_ret (v:=.tuple #[.int .u8 0,.int .i64 0]) (by simp[results,Tryz.results187,go_sem]) rfl ⟨rfl,nq,rfl⟩
      ·rw[if_neg (by omega)] at H
       obtain⟨e2,rfl⟩:=Int.eq_ofNat_of_zero_le (show 0≤d2 by omega)
       obtain⟨e3,rfl⟩:=Int.eq_ofNat_of_zero_le (show 0≤d3 by omega)
       simp only[Int.toNat_natCast] at H
       rw[show rdq x=_ from H]
       clear H
       go_enter Tryz.func187,Tryz.ntmps187
       go_wp2_with (go_at_call 114;refine (HS.out _).mono ?_;rintro e w' ⟨rfl,rfl⟩)
       go_quiet (first | (go_at_call_of 204 (bt x 2);exact Calls.quiet_of_same (HD2.out _)) | (go_at_call_of 204 (bt x 3);exact Calls.quiet_of_same (HD3.out _)))
       go_wp2
       have q:=or_hex ⟨e2,by omega⟩ ⟨e3,by omega⟩
       exact bodyPost_ret (v:=.tuple #[.int .u8 ((e2*16+e3:Nat):Int),.int .i64 4]) (by simp only[←q];simp[results,Tryz.results187,go_sem]) rfl ⟨rfl,nq,rfl⟩
    ·rw[if_pos (Or.inr h5)] at H
     rw[show rdq x=_ from H]
     clear H
     have b2:((bt x 1:Int) != 120)=true:=by simp;omega
     go_enter Tryz.func187,Tryz.ntmps187
     go_wp2_with (go_at_call 114;refine (HS.out _).mono ?_;rintro e w' ⟨rfl,rfl⟩)
     exact bodyPost_ret (v:=.tuple #[.int .u8 0,.int .i64 0]) (by simp[results,Tryz.results187,go_sem]) rfl ⟨rfl,0,rfl⟩
 ·rw[if_pos (Or.inr h2)] at H
  rw[show rdq x=_ from H]
  clear H
  have b2:((bt x 0:Int) != 92)=true:=by simp;omega
  go_enter Tryz.func187,Tryz.ntmps187
  go_wp2
  exact bodyPost_ret (v:=.tuple #[.int .u8 0,.int .i64 0]) (by simp[results,Tryz.results187,go_sem]) rfl ⟨rfl,0,rfl⟩
section
theorem rdq_le (x:ByteArray):(rdq x).2≤x.size:=by
 unfold rdq
 split
 ·exact Nat.zero_le _
 ·rename_i h;split
  ·simp only;omega
  ·split
   ·exact Nat.zero_le _
   ·rename_i h2;split
    ·exact Nat.zero_le _
    ·simp only;omega
theorem rdql_at (x:ByteArray) (k:Nat):rdql (x.data.toList.drop k)=rdq (x.extract k x.size):=by
 unfold rdql;rw[←extract_post,←ba_list]
theorem quo_end (f:Nat) (l:List UInt8) (k:Nat) (acc:List Nat) (h:l=[]):quo f l k acc=⟨[],0,0,13⟩:=by
 subst h;cases f<;>rfl
theorem extract_size (x:ByteArray) (k:Nat):(x.extract k x.size).size=x.size-k:=by simp
def fv (p c:Nat):Value:=.agg #[.int .i64 (p:Int),.int .i64 (c:Int)]
def quoV (v:Value) (q:Quo):Value:=.tuple #[v,.int .i64 q.fin,fv q.fat q.code]
theorem quoV_eq {q:Quo} {a b c:Nat} {bs:List Nat} (h:q=⟨bs,a,b,c⟩) (v:Value):Ending.returned (.tuple #[v,.int .i64 (a:Int),.agg #[.int .i64 (b:Int),.int .i64 (c:Int)]])=.returned (quoV v q):=by rw[h];rfl
theorem belDrew {B:Nat} {w wr:World} (h:Below B w wr) (n:Nat):Below B w (wr.drewN n):=⟨h.os,h.tape,h.output,h.size,h.block⟩
attribute [local go_sem] setCell_drewN
theorem put2 {w wr:World} (h:Below w.heap.size w wr) {u v:Value}:Below w.heap.size w ((wr.setCell ⟨w.heap.size,0,none⟩ u).setCell ⟨w.heap.size,1,none⟩ v):=
 (h.setCell (p:=⟨w.heap.size,0,none⟩) (Nat.le_refl _) _).setCell (p:=⟨w.heap.size,1,none⟩) (Nat.le_refl _) _
theorem readQ_any (x:ByteArray) (w:World) (hx:x.size≤65536) :
  Calls Tryz.prog 162 #[.string x] w fun e w'=>∃v,e=.returned (quoV v (quoted x.data.toList))∧w'.ownsRow w.heap.size 5 1 v (quoted x.data.toList).bytes.length (bytesV (quoted x.data.toList).bytes)∧Below w.heap.size w w':=by
 obtain⟨i0,hi,hz0,hz1,hz2⟩:=info_parts info5
 have B0:=Blk.new w 37 #[.int .i64 0,.int .i64 0]
 have hB0:Below w.heap.size w (w.alloc (.cells #[.int .i64 0,.int .i64 0] 37)):=(Below.refl _ _).alloc (Nat.le_refl _) _
 have hq0:quo x.size (x.data.toList.drop 1) 1 []=quoted x.data.toList:=by unfold quoted;rw[list_len]
 obtain⟨q,hq⟩:∃q,quoted x.data.toList=q:=⟨_,rfl⟩
 rw[hq] at hq0
 rw[hq]
 clear hq
 go_enter Tryz.func162,Tryz.ntmps162
 go_wp2
 go_loopw[5,6] (fun v i wr=>∃(k f:Nat) (acc:List Nat),k≤x.size+1∧1≤k∧acc.length≤k∧x.size≤k+f∧i=.int .i64 k∧quo f (x.data.toList.drop k) k acc=q∧wr.ownsRow (w.heap.size+1) 5 1 v acc.length (bytesV acc)∧Blk wr w.heap.size 37 #[.int .i64 0,.int .i64 0]∧Below w.heap.size w wr) (fun _ i _=>x.size+1-(intOf i).toNat)
 case atStart=>exact⟨1,x.size,[],by omega,by omega,by simp,by omega,rfl,hq0,World.ownsRow_nil _ _ _ _,B0,hB0⟩
 case round=>
  obtain⟨k,f,acc,hk,hk1,hac,hf,rfl,hqq,hrow,hbx,hB⟩:=hrel
  clear B0 hB0 hq0
  rename_i wr _
  have HQ:=hHi hqq
  clear hqq
  have e0:=hbx.cell 0 (v:=.int .i64 0) rfl
  have e1:=hbx.cell 1 (v:=.int .i64 0) rfl
  have g0:=hbx.frozen 0
  have g1:=hbx.frozen 1
  have hl:=hbx.lt
  have hbase:w.heap.size+1≤wr.heap.size:=hl
  by_cases hlt:k<x.size
  ·have hlt':(k:Int)<x.size:=by omega
   have b0:=bt_eq x k hlt
   have hc:=bt_lt x k
   have HD:Hid _:=drop_at x k hlt
   obtain⟨f,rfl⟩:∃f',f=f'+1:=⟨f-1,by omega⟩
   rw[HD.out] at HQ
   simp only[quo,b0] at HQ
   by_cases h34:bt x k=34
   ·rw[if_pos h34] at HQ
    rw[h34] at b0
    go_wp2
    refine bodyPost_ret (v:=.tuple #[u5,.int .i64 ((k+1:Nat):Int),.agg #[.int .i64 ((0:Nat):Int),.int .i64 ((0:Nat):Int)]]) (by simp[results,Tryz.results162,go_sem,e0,e1]) rfl ⟨_,quoV_eq HQ.out.symm _,?_,put2 hB⟩
    rw[←HQ.out];exact row_mono (row_put (row_put hrow (by omega) _) (by omega) _) (by omega)
   rw[if_neg h34] at HQ
   have h34b:((bt x k:Int)==34)=false:=by simp;omega
   by_cases h92:bt x k=92
   ·rw[if_pos h92] at HQ
    rw[h92] at b0
    rw[←HD.out,rdql_at] at HQ
    have HR:Hid _:=fun w=>rdq_any (x.extract k x.size) w
    have hle:=rdq_le (x.extract k x.size)
    rw[extract_size] at hle
    generalize rdq (x.extract k x.size)=r at *
    obtain⟨e,n⟩:=r
    simp only at HQ HR hle
    by_cases hn:n=0
    ·subst hn
     rw[if_pos rfl] at HQ
     go_wp2_with (go_at_call 187;refine (HR.out _).mono ?_;rintro e w1 ⟨rfl,nq,rfl⟩)
     exact bodyPost_ret (v:=.tuple #[.slice none 0 0,.int .i64 ((0:Nat):Int),.agg #[.int .i64 (k:Int),.int .i64 ((12:Nat):Int)]]) (by simp[results,Tryz.results162,go_sem,e0,e1]) rfl ⟨_,quoV_eq HQ.out.symm _,by rw[←HQ.out];exact World.ownsRow_nil _ _ _ _,belDrew (put2 hB) nq⟩
    ·rw[if_neg hn,List.drop_drop] at HQ
     have hnb:((n:Int)==0)=false:=by simp;omega
     go_wp2_with (go_at_call 187;refine (HR.out _).mono ?_)
     rintro e1 w1 ⟨rfl,nq,rfl⟩
     replace hrow:(wr.drewN nq).ownsRow _ _ _ _ _ _:=hrow
     replace hbx:Blk (wr.drewN nq) _ _ _:=hbx
     replace hB:=belDrew hB nq
     go_wp2_with (at_builtin;refine wpList_append_own _ rfl _ _ 67 rfl (w.heap.size+1) 5 i0 (.int .u8 0) 1 1 Tryz.underlying67 hi hz0 hz1 hz2 rfl (by decide) _ _ _ rfl (hrow.alloc _) ⟨wr.heap.size,0,none⟩ 1 1 [.int .u8 e] rfl rfl ?c1 ?c2 ?c3 ?c4 ?c5 ?_)
     case c1=>exact cell_one_new _ _ _
     case c2=>intro u hu;simp at hu;subst hu;rfl
     case c3=>unfold maxLen;omega
     case c4=>omega
     case c5=>simp;omega
     intro v' w2 hown' hgrow _
     have hbx2:=(hbx.alloc (.cells #[.int .u8 (e:Int)] 5)).kept hgrow (hbx.not_row (by decide) hrow)
     have hB2:=(hB.alloc hB.size (.cells #[.int .u8 (e:Int)] 5)).grown hgrow (by have:=hB.size;simp;omega) (fun j hj=>by have:=(hrow.lt j hj).1;omega)
     obtain⟨g',cap',rfl⟩:=ownsRow_succ hown'
     go_wp2
     exact⟨⟨k+n,f,acc++[e],by omega,by omega,by simp;omega,by omega,by go_num,HQ.out,by rw[bytesV_snoc,List.length_append];exact hown',hbx2,hB2⟩,by simp[intOf];omega⟩
   ·rw[if_neg h92] at HQ
    have h92b:((bt x k:Int)==92)=false:=by simp;omega
    have HP:Hid _:=fun w=>plainq_any (bt x k) w hc
    generalize bt x k=c at *
    cases hp:plainq c with
    | false=>
     rw[hp] at HP HQ
     rw[if_neg (by simp)] at HQ
     go_wp2_with (go_at_call 188;refine (HP.out _).mono ?_;rintro e w1 ⟨rfl,rfl⟩)
     exact bodyPost_ret (v:=.tuple #[.slice none 0 0,.int .i64 ((0:Nat):Int),.agg #[.int .i64 (k:Int),.int .i64 ((11:Nat):Int)]]) (by simp[results,Tryz.results162,go_sem,e0,e1]) rfl ⟨_,quoV_eq HQ.out.symm _,by rw[←HQ.out];exact World.ownsRow_nil _ _ _ _,put2 hB⟩
    | true=>
     rw[hp] at HP HQ
     rw[if_pos rfl] at HQ
     clear hp
     go_wp2_with (go_at_call 188;refine (HP.out _).mono ?_)
     rintro e1 w1 ⟨rfl,hw1⟩
     replace hw1:=hw1.symm
     subst hw1
     go_wp2_with (at_builtin;refine wpList_append_own _ rfl _ _ 67 rfl (w.heap.size+1) 5 i0 (.int .u8 0) 1 1 Tryz.underlying67 hi hz0 hz1 hz2 rfl (by decide) _ _ _ rfl (hrow.alloc _) ⟨wr.heap.size,0,none⟩ 1 1 [.int .u8 c] rfl rfl ?c1 ?c2 ?c3 ?c4 ?c5 ?_)
     case c1=>exact cell_one_new _ _ _
     case c2=>intro u hu;simp at hu;subst hu;rfl
     case c3=>unfold maxLen;omega
     case c4=>omega
     case c5=>simp;omega
     intro v' w2 hown' hgrow _
     have hbx2:=(hbx.alloc (.cells #[.int .u8 (c:Int)] 5)).kept hgrow (hbx.not_row (by decide) hrow)
     have hB2:=(hB.alloc hB.size (.cells #[.int .u8 (c:Int)] 5)).grown hgrow (by have:=hB.size;simp;omega) (fun j hj=>by have:=(hrow.lt j hj).1;omega)
     obtain⟨g',cap',rfl⟩:=ownsRow_succ hown'
     go_wp2
     exact⟨⟨k+1,f,acc++[c],by omega,by omega,by simp;omega,by omega,by go_num,HQ.out,by rw[bytesV_snoc,List.length_append];exact hown',hbx2,hB2⟩,by simp[intOf];omega⟩
  ·rw[quo_end _ _ _ _ (drop_end x k (by omega))] at HQ
   have hlt':¬(k:Int)<x.size:=by omega
   go_wp2
   exact bodyPost_ret (v:=.tuple #[.slice none 0 0,.int .i64 ((0:Nat):Int),.agg #[.int .i64 ((0:Nat):Int),.int .i64 ((13:Nat):Int)]]) (by simp[results,Tryz.results162,go_sem,e0,e1]) rfl ⟨_,quoV_eq HQ.out.symm _,by rw[←HQ.out];exact World.ownsRow_nil _ _ _ _,put2 hB⟩
end
theorem specq_le (n:Nat):Lib.indexByte [10,9,13,34,92] n.toUInt8<5:=by
 have:∀c:Fin 256,Lib.indexByte [10,9,13,34,92] (UInt8.ofNat c.val)<5:=by decide +kernel
 have h:=this ⟨n%256,Nat.mod_lt _ (by omega)⟩
 have e:UInt8.ofNat (n%256)=UInt8.ofNat n:=by
  apply UInt8.toNat_inj.1;simp
 simp only at h
 rw[e] at h;exact h
def shortqL (i:Nat):UInt8:=[110,116,114,34,92].getD i 0
def escq (n:Nat):List UInt8:=if Lib.indexByte [10,9,13,34,92] n.toUInt8<0 then [92,120,hexd (n/16),hexd (n%16)] else [92,shortqL (Lib.indexByte [10,9,13,34,92] n.toUInt8).toNat]
theorem escq_short:∀i:Fin 5,(⟨#[92]⟩:ByteArray)++(⟨#[110,116,114,34,92]⟩:ByteArray).extract i.val (i.val+1)=⟨#[92,shortqL i.val]⟩:=by decide +kernel
theorem escq_any (n:Nat) (w:World) (hn:n<256) :
  Calls Tryz.prog 120 #[.int .u8 n,.string ⟨#[110,116,114,34,92]⟩,.string ⟨#[10,9,13,34,92]⟩] w fun e w'=>e=.returned (.string ⟨(escq n).toArray⟩)∧∃nq,w'=w.drewN nq:=by
 have hs:=specq_le n
 have HI:Hid (∀w,Calls Tryz.prog 114 #[.string ⟨#[10,9,13,34,92]⟩,.int .u8 n] w fun e w'=>e=.returned (.int .i64 (Lib.indexByte [10,9,13,34,92] n.toUInt8))∧w'=w):=fun w=>idx_any _ n w
 by_cases hi:0≤Lib.indexByte [10,9,13,34,92] n.toUInt8
 ·have H:Hid (escq n=[92,shortqL (Lib.indexByte [10,9,13,34,92] n.toUInt8).toNat]):=by
   show _=_
   unfold escq;rw[if_neg (by omega)]
  obtain⟨i,he⟩:=Int.eq_ofNat_of_zero_le hi
  rw[he] at HI H hs
  have H2:Hid _:=escq_short ⟨i,by omega⟩
  clear he hi
  go_enter Tryz.func120,Tryz.ntmps120
  go_wp2_with (go_at_call 114;refine (HI.out _).mono ?_;rintro e w' ⟨rfl,rfl⟩)
  go_ret
  refine⟨ret_str ?_,0,rfl⟩
  rw[H.out,H2.out];simp
 ·have H:Hid (escq n=[92,120,hexd (n/16),hexd (n%16)]):=by
   show _=_
   unfold escq;rw[if_pos (by omega)]
  have H2:Hid _:=esc_hex ⟨n,hn⟩
  have q1:(0:Int)≤(n:Int)/16:=by omega
  have q2:(n:Int)/16+1≤16:=by omega
  have q3:(0:Int)≤(n:Int)%16:=by omega
  have q4:(n:Int)%16+1≤16:=by omega
  have q5:=and15 n hn
  have hi':Lib.indexByte [10,9,13,34,92] n.toUInt8<0:=by omega
  generalize Lib.indexByte [10,9,13,34,92] n.toUInt8=i at *
  go_enter Tryz.func120,Tryz.ntmps120
  go_wp2_with (go_at_call 114;refine (HI.out _).mono ?_;rintro e w' ⟨rfl,rfl⟩)
  go_quiet (fail)
  go_wp2
  go_ret
  refine⟨ret_str ?_,nq,rfl⟩
  rw[H.out,H2.out]
def signq (n:Nat):List UInt8:=if plainq n then [UInt8.ofNat n] else escq n
def quoteL (l:List Nat):List UInt8:=[34]++l.flatMap signq++[34]
theorem signq_len:∀n:Fin 256,0<(signq n.val).length∧(signq n.val).length≤4:=by decide +kernel
theorem escq_len:∀n:Fin 256,0<(escq n.val).length:=by decide +kernel
theorem flat_le:∀l:List Nat,(∀n∈l,n<256)→(l.flatMap signq).length≤4*l.length
 | [],_=>by simp
 | n::l,h=>by
  have h1:=(signq_len ⟨n,h n (by simp)⟩).2
  have h2:=flat_le l (fun m hm=>h m (by simp[hm]))
  simp only[List.flatMap_cons,List.length_append,List.length_cons] at *;omega
def RowB (w:World) (a:Option Addr) (L:List Nat):Prop:=∀i,i<L.length→∃bk o,a=some ⟨bk,o,none⟩∧bk<w.heap.size∧w.cell? ⟨bk,o+i,none⟩=some (.int .u8 ((L.getD i 0:Nat):Int))
theorem RowB.below {w w':World} {a:Option Addr} {L:List Nat} (h:RowB w a L) {B:Nat} (hb:Below B w w') (hB:w.heap.size≤B):RowB w' a L:=by
 intro i hi
 obtain⟨bk,o,e,hl,hc⟩:=h i hi
 exact⟨bk,o,e,Nat.lt_of_lt_of_le hl hb.size,(hb.cell (p:=⟨bk,o+i,none⟩) (Nat.lt_of_lt_of_le hl hB)).trans hc⟩
theorem getD_lt {L:List Nat} (h:∀n∈L,n<256) (i:Nat):L.getD i 0<256:=by
 rw[List.getD_eq_getElem?_getD]
 cases e:L[i]? with
 | none=>simp
 | some x=>exact h x (List.mem_of_getElem? e)
theorem take_flat {L:List Nat} {i:Nat} (h:i<L.length):(L.take (i+1)).flatMap signq=(L.take i).flatMap signq++signq (L.getD i 0):=by
 rw[List.take_succ_eq_append_getElem h,List.flatMap_append];simp[List.getD_eq_getElem?_getD,List.getElem?_eq_getElem h]
theorem quote_any (L:List Nat) (a:Option Addr) (c:Nat) (w:World) (hL:∀n∈L,n<256) (hn:L.length≤65536) (hr:RowB w a L) :
  Calls Tryz.prog 171 #[.slice a L.length c] w fun e w'=>e=.returned (.string ⟨(quoteL L).toArray⟩)∧Below w.heap.size w w':=by
 have H0:Hid _:=fun (W:World) (l:List UInt8) (h:BL w.heap.size w.heap.size l W) (h1:l.length≤300000) (h2:w.heap.size≤W.heap.size)=>wbyte_any w.heap.size w.heap.size l 34 W (by omega) h (by omega) h2
 have b0:BL w.heap.size w.heap.size [] (w.alloc (.cells #[.pointer none,.slice none 0 0] 110)):=Lib.fresh_isBuilder 110 5 w
 have hB0:Below w.heap.size w (w.alloc (.cells #[.pointer none,.slice none 0 0] 110)):=(Below.refl _ _).alloc (Nat.le_refl _) _
 go_enter Tryz.func171,Tryz.ntmps171
 go_wp2_with (go_at_call 59;refine (H0.out _ _ b0 (by simp) (by simp)).mono ?_)
 rintro e w1 ⟨rfl,hb1,hB1,-⟩
 replace hB1:=hB0.trans hB1
 clear b0 hB0
 go_wp2
 go_loopw[9] (fun i W=>∃k:Nat,k≤L.length∧i=.int .i64 k∧BL w.heap.size w.heap.size ([34]++(L.take k).flatMap signq) W∧Below w.heap.size w W) (fun i _=>L.length-(intOf i).toNat)
 case atStart=>exact⟨0,Nat.zero_le _,rfl,by simpa using hb1,hB1⟩
 case round=>
  obtain⟨k,hk,rfl,hb,hB⟩:=hrel
  clear hb1 hB1
  have hfl:=flat_le (L.take k) (fun n h=>hL n (List.mem_of_mem_take h))
  have htl:(L.take k).length≤k:=List.length_take_le _ _
  have hsz:=hB.size
  by_cases hlt:k<L.length
  ·have hlt':(k:Int)<L.length:=by omega
   obtain⟨bk,o,rfl,hl,hcell⟩:=hr k hlt
   replace hcell:=(hB.cell (p:=⟨bk,o+k,none⟩) hl).trans hcell
   have HT:Hid _:=take_flat hlt
   have h256:=getD_lt hL k
   generalize L.getD k 0=n at *
   have HP:Hid _:=fun w=>plainq_any n w h256
   cases hp:plainq n with
   | true=>
    rw[hp] at HP
    have HS:Hid (signq n=[UInt8.ofNat n]):=by show _=_;unfold signq;rw[if_pos hp]
    have HW:=hU (wbyte_any w.heap.size w.heap.size _ n wr h256 hb (by rw[List.length_append,List.length_singleton];omega) hsz)
    clear hp
    go_wp2_with (first | (go_at_call 188;refine (HP.out _).mono ?_;rintro e w' ⟨rfl,rfl⟩) | (go_at_call 59;refine hMo HW ?_))
    rintro e w2 ⟨rfl,hb2,hB2,-⟩
    go_wp2
    go_roundw
    case rel=>exact⟨k+1,by omega,by go_num,by rw[HT.out,HS.out,←List.append_assoc];exact hb2,hB.trans hB2⟩
    case measure=>simp[intOf];omega
   | false=>
    rw[hp] at HP
    have HS:Hid (signq n=escq n):=by show _=_;unfold signq;rw[if_neg (by simp[hp])]
    have HE:Hid _:=fun w=>escq_any n w h256
    have hel:=escq_len ⟨n,h256⟩
    have hel4:=(signq_len ⟨n,h256⟩).2
    simp only at hel hel4
    rw[HS.out] at hel4
    have HW:Hid _:=fun nq=>wstr_any w.heap.size w.heap.size _ (escq n) (wr.drewN nq) hel hb (by rw[List.length_append,List.length_singleton];omega) hsz
    clear hp
    go_wp2_with (first | (go_at_call 188;refine (HP.out _).mono ?_;rintro e w' ⟨rfl,rfl⟩) | (go_at_call 120;refine (HE.out _).mono ?_;rintro e w' ⟨rfl,nq,rfl⟩) | (go_at_call 60;refine (HW.out _).mono ?_))
    rintro e w2 ⟨rfl,hb2,hB2,-⟩
    go_wp2
    go_roundw
    case rel=>exact⟨k+1,by omega,by go_num,by rw[HT.out,HS.out,←List.append_assoc];exact hb2,(belDrew hB _).trans hB2⟩
    case measure=>simp[intOf];omega
  ·obtain rfl:k=L.length:=by omega
   rw[List.take_length] at hb hfl
   clear hk hlt htl
   have HW:=hU (wbyte_any w.heap.size w.heap.size _ 34 wr (by omega) hb (by rw[List.length_append,List.length_singleton];omega) hsz)
   go_wp2_with (go_at_call 59;refine hMo HW ?_)
   rintro e w2 ⟨rfl,hb2,hB2,-⟩
   have HS:=hU (string_any w.heap.size w.heap.size _ w2 hb2 (by simp))
   go_wp2_with (go_at_call 61;refine hMo HS ?_)
   rintro e w3 ⟨rfl,hB3⟩
   go_wp2
   go_ret
   exact⟨ret_str rfl,(hB.trans hB2).trans hB3⟩
theorem gen {P:World→Prop} (R:World→Prop) {W:World} (h:R W) (k:∀W,R W→P W):P W:=k W h
theorem Blk.put2 {W:World} {b c:Nat} {t:TypeId} {cs:Array Value} (h:Blk W b t cs) (hne:b≠c) (u0 u1:Value):Blk ((W.setCell ⟨c,0,none⟩ u0).setCell ⟨c,1,none⟩ u1) b t cs:=(h.put c 0 u0 hne).put c 1 u1 hne
theorem Blk.set2 {W:World} {c:Nat} {t:TypeId} {x y:Value} (h:Blk W c t #[x,y]) (u0 u1:Value):Blk ((W.setCell ⟨c,0,none⟩ u0).setCell ⟨c,1,none⟩ u1) c t #[u0,u1]:=(h.set 0 u0).set 1 u1
theorem Blk.set11 {W:World} {b:Nat} {t:TypeId} {x0 x1 x2 x3 x4 x5 x6 x7 x8 x9 x10:Value} (h:Blk W b t #[x0,x1,x2,x3,x4,x5,x6,x7,x8,x9,x10]) (v0 v1 v2 v3 v4 v5 v6 v7 v8 v9 v10:Value):Blk (((((((((((W.setCell ⟨b,0,none⟩ v0).setCell ⟨b,1,none⟩ v1).setCell ⟨b,2,none⟩ v2).setCell ⟨b,3,none⟩ v3).setCell ⟨b,4,none⟩ v4).setCell ⟨b,5,none⟩ v5).setCell ⟨b,6,none⟩ v6).setCell ⟨b,7,none⟩ v7).setCell ⟨b,8,none⟩ v8).setCell ⟨b,9,none⟩ v9).setCell ⟨b,10,none⟩ v10) b t #[v0,v1,v2,v3,v4,v5,v6,v7,v8,v9,v10]:=by
 have h0:=h.set 0 v0
 simp only[List.setIfInBounds_toArray,List.set_cons_zero] at h0
 have h1:=h0.set 1 v1
 simp only[List.setIfInBounds_toArray,List.set_cons_zero,List.set_cons_succ] at h1
 have h2:=h1.set 2 v2
 simp only[List.setIfInBounds_toArray,List.set_cons_zero,List.set_cons_succ] at h2
 have h3:=h2.set 3 v3
 simp only[List.setIfInBounds_toArray,List.set_cons_zero,List.set_cons_succ] at h3
 have h4:=h3.set 4 v4
 simp only[List.setIfInBounds_toArray,List.set_cons_zero,List.set_cons_succ] at h4
 have h5:=h4.set 5 v5
 simp only[List.setIfInBounds_toArray,List.set_cons_zero,List.set_cons_succ] at h5
 have h6:=h5.set 6 v6
 simp only[List.setIfInBounds_toArray,List.set_cons_zero,List.set_cons_succ] at h6
 have h7:=h6.set 7 v7
 simp only[List.setIfInBounds_toArray,List.set_cons_zero,List.set_cons_succ] at h7
 have h8:=h7.set 8 v8
 simp only[List.setIfInBounds_toArray,List.set_cons_zero,List.set_cons_succ] at h8
 have h9:=h8.set 9 v9
 simp only[List.setIfInBounds_toArray,List.set_cons_zero,List.set_cons_succ] at h9
 have h10:=h9.set 10 v10
 simp only[List.setIfInBounds_toArray,List.set_cons_zero,List.set_cons_succ] at h10
 exact h10
theorem Blk.put11 {W:World} {b c:Nat} {t:TypeId} {cs:Array Value} (h:Blk W c t cs) (hne:c≠b) (v0 v1 v2 v3 v4 v5 v6 v7 v8 v9 v10:Value):Blk (((((((((((W.setCell ⟨b,0,none⟩ v0).setCell ⟨b,1,none⟩ v1).setCell ⟨b,2,none⟩ v2).setCell ⟨b,3,none⟩ v3).setCell ⟨b,4,none⟩ v4).setCell ⟨b,5,none⟩ v5).setCell ⟨b,6,none⟩ v6).setCell ⟨b,7,none⟩ v7).setCell ⟨b,8,none⟩ v8).setCell ⟨b,9,none⟩ v9).setCell ⟨b,10,none⟩ v10) c t cs:=by
 have h0:=h.put b 0 v0 hne
 have h1:=h0.put b 1 v1 hne
 have h2:=h1.put b 2 v2 hne
 have h3:=h2.put b 3 v3 hne
 have h4:=h3.put b 4 v4 hne
 have h5:=h4.put b 5 v5 hne
 have h6:=h5.put b 6 v6 hne
 have h7:=h6.put b 7 v7 hne
 have h8:=h7.put b 8 v8 hne
 have h9:=h8.put b 9 v9 hne
 have h10:=h9.put b 10 v10 hne
 exact h10
theorem below11 {B:Nat} {w W:World} {b:Nat} (h:Below B w W) (hb:B≤b) (v0 v1 v2 v3 v4 v5 v6 v7 v8 v9 v10:Value):Below B w (((((((((((W.setCell ⟨b,0,none⟩ v0).setCell ⟨b,1,none⟩ v1).setCell ⟨b,2,none⟩ v2).setCell ⟨b,3,none⟩ v3).setCell ⟨b,4,none⟩ v4).setCell ⟨b,5,none⟩ v5).setCell ⟨b,6,none⟩ v6).setCell ⟨b,7,none⟩ v7).setCell ⟨b,8,none⟩ v8).setCell ⟨b,9,none⟩ v9).setCell ⟨b,10,none⟩ v10):=by
 have h0:=h.setCell (p:=⟨b,0,none⟩) hb v0
 have h1:=h0.setCell (p:=⟨b,1,none⟩) hb v1
 have h2:=h1.setCell (p:=⟨b,2,none⟩) hb v2
 have h3:=h2.setCell (p:=⟨b,3,none⟩) hb v3
 have h4:=h3.setCell (p:=⟨b,4,none⟩) hb v4
 have h5:=h4.setCell (p:=⟨b,5,none⟩) hb v5
 have h6:=h5.setCell (p:=⟨b,6,none⟩) hb v6
 have h7:=h6.setCell (p:=⟨b,7,none⟩) hb v7
 have h8:=h7.setCell (p:=⟨b,8,none⟩) hb v8
 have h9:=h8.setCell (p:=⟨b,9,none⟩) hb v9
 have h10:=h9.setCell (p:=⟨b,10,none⟩) hb v10
 exact h10
theorem below2 {B:Nat} {w W:World} {c:Nat} (h:Below B w W) (hb:B≤c) (u0 u1:Value):Below B w ((W.setCell ⟨c,0,none⟩ u0).setCell ⟨c,1,none⟩ u1):=
 (h.setCell (p:=⟨c,0,none⟩) hb u0).setCell (p:=⟨c,1,none⟩) hb u1
theorem row2 {W:World} {base c:Nat} {e:TypeId} {size:Nat} {v:Value} {n:Nat} {xs:List Value} (h:W.ownsRow base e size v n xs) (hb:c<base) (u0 u1:Value):((W.setCell ⟨c,0,none⟩ u0).setCell ⟨c,1,none⟩ u1).ownsRow base e size v n xs:=row_put (row_put h hb u0) hb u1
theorem row11 {W:World} {base b:Nat} {e:TypeId} {size:Nat} {v:Value} {n:Nat} {xs:List Value} (h:W.ownsRow base e size v n xs) (hb:b<base) (v0 v1 v2 v3 v4 v5 v6 v7 v8 v9 v10:Value):(((((((((((W.setCell ⟨b,0,none⟩ v0).setCell ⟨b,1,none⟩ v1).setCell ⟨b,2,none⟩ v2).setCell ⟨b,3,none⟩ v3).setCell ⟨b,4,none⟩ v4).setCell ⟨b,5,none⟩ v5).setCell ⟨b,6,none⟩ v6).setCell ⟨b,7,none⟩ v7).setCell ⟨b,8,none⟩ v8).setCell ⟨b,9,none⟩ v9).setCell ⟨b,10,none⟩ v10).ownsRow base e size v n xs:=by
 have h0:=row_put (i:=0) h hb v0
 have h1:=row_put (i:=1) h0 hb v1
 have h2:=row_put (i:=2) h1 hb v2
 have h3:=row_put (i:=3) h2 hb v3
 have h4:=row_put (i:=4) h3 hb v4
 have h5:=row_put (i:=5) h4 hb v5
 have h6:=row_put (i:=6) h5 hb v6
 have h7:=row_put (i:=7) h6 hb v7
 have h8:=row_put (i:=8) h7 hb v8
 have h9:=row_put (i:=9) h8 hb v9
 have h10:=row_put (i:=10) h9 hb v10
 exact h10
theorem both13 {W:World} {b c:Nat} {t r:TypeId} {x0 x1 x2 x3 x4 x5 x6 x7 x8 x9 x10 y0 y1:Value} (h:Blk W b t #[x0,x1,x2,x3,x4,x5,x6,x7,x8,x9,x10]) (h':Blk W c r #[y0,y1]) (hne:b≠c) (v0 v1 v2 v3 v4 v5 v6 v7 v8 v9 v10 u0 u1:Value) :
  Blk (((((((((((((W.setCell ⟨b,0,none⟩ v0).setCell ⟨b,1,none⟩ v1).setCell ⟨b,2,none⟩ v2).setCell ⟨b,3,none⟩ v3).setCell ⟨b,4,none⟩ v4).setCell ⟨b,5,none⟩ v5).setCell ⟨b,6,none⟩ v6).setCell ⟨b,7,none⟩ v7).setCell ⟨b,8,none⟩ v8).setCell ⟨b,9,none⟩ v9).setCell ⟨b,10,none⟩ v10).setCell ⟨c,0,none⟩ u0).setCell ⟨c,1,none⟩ u1) b t #[v0,v1,v2,v3,v4,v5,v6,v7,v8,v9,v10]∧Blk (((((((((((((W.setCell ⟨b,0,none⟩ v0).setCell ⟨b,1,none⟩ v1).setCell ⟨b,2,none⟩ v2).setCell ⟨b,3,none⟩ v3).setCell ⟨b,4,none⟩ v4).setCell ⟨b,5,none⟩ v5).setCell ⟨b,6,none⟩ v6).setCell ⟨b,7,none⟩ v7).setCell ⟨b,8,none⟩ v8).setCell ⟨b,9,none⟩ v9).setCell ⟨b,10,none⟩ v10).setCell ⟨c,0,none⟩ u0).setCell ⟨c,1,none⟩ u1) c r #[u0,u1]:=
 ⟨(h.set11 v0 v1 v2 v3 v4 v5 v6 v7 v8 v9 v10).put2 hne u0 u1,(h'.put11 (Ne.symm hne) v0 v1 v2 v3 v4 v5 v6 v7 v8 v9 v10).set2 u0 u1⟩
theorem clone_any (x:ByteArray) (w:World) (hx:x.size≤65536):Calls Tryz.prog 166 #[.string x] w fun e w'=>e=.returned (.string x)∧Below w.heap.size w w':=by
 have H:Hid _:=fun w=>sclone_any x w (by omega)
 go_enter Tryz.func166,Tryz.ntmps166
 go_wp2_with (go_at_call 193;refine (H.out _).mono ?_;rintro e w' ⟨rfl,hb⟩)
 go_ret
 exact⟨rfl,hb⟩
def wv (kind:Nat) (t:ByteArray) (v:Value) (s:St) (n p ln co:Nat):Value:=
 .agg #[.int .i64 (kind:Int),.string t,v,.int .u64 s.a,.int .u64 s.b,.int .u64 s.c,.int .u64 s.d,.int .i64 (n:Int),.int .i64 (p:Int),.int .i64 (ln:Int),.int .i64 (co:Int)]
abbrev wz:Array Value:=#[.int .i64 0,.string ⟨#[]⟩,.slice none 0 0,.int .u64 0,.int .u64 0,.int .u64 0,.int .u64 0,.int .i64 0,.int .i64 0,.int .i64 0,.int .i64 0]
theorem Blk.word {W:World} {b:Nat} {t:TypeId} {x0 x1 x2 x3 x4 x5 x6 x7 x8 x9 x10:Value} (h:Blk W b t #[x0,x1,x2,x3,x4,x5,x6,x7,x8,x9,x10]) :
  W.cell? ⟨b,0,none⟩=some x0∧W.cell? ⟨b,1,none⟩=some x1∧W.cell? ⟨b,2,none⟩=some x2∧W.cell? ⟨b,3,none⟩=some x3∧W.cell? ⟨b,4,none⟩=some x4∧W.cell? ⟨b,5,none⟩=some x5∧W.cell? ⟨b,6,none⟩=some x6∧W.cell? ⟨b,7,none⟩=some x7∧W.cell? ⟨b,8,none⟩=some x8∧W.cell? ⟨b,9,none⟩=some x9∧W.cell? ⟨b,10,none⟩=some x10:=
 ⟨h.cell 0 rfl,h.cell 1 rfl,h.cell 2 rfl,h.cell 3 rfl,h.cell 4 rfl,h.cell 5 rfl,h.cell 6 rfl,h.cell 7 rfl,h.cell 8 rfl,h.cell 9 rfl,h.cell 10 rfl⟩
theorem Blk.pair {W:World} {b:Nat} {t:TypeId} {x0 x1:Value} (h:Blk W b t #[x0,x1]):W.cell? ⟨b,0,none⟩=some x0∧W.cell? ⟨b,1,none⟩=some x1:=⟨h.cell 0 rfl,h.cell 1 rfl⟩
theorem newWord_any (k:Nat) (x:ByteArray) (w:World) (hx:x.size≤65536):Calls Tryz.prog 115 #[.int .i64 k,.string x] w fun e w'=>e=.returned (wv k x (.slice none 0 0) St.zero 0 0 0 0)∧Below w.heap.size w w':=by
 have H:Hid _:=fun w=>clone_any x w hx
 have B0:Blk (w.alloc (.cells wz 104)) w.heap.size 104 wz:=Blk.new w 104 wz
 have hB0:Below w.heap.size w (w.alloc (.cells wz 104)):=(Below.refl _ _).alloc (Nat.le_refl _) _
 go_enter Tryz.func115,Tryz.ntmps115
 go_wp2_with (go_at_call 166;refine (H.out _).mono ?_)
 rintro e w1 ⟨rfl,hb1⟩
 have B1:=B0.after hb1
 have hB1:=below_of hB0 hb1
 obtain⟨e0,e1,e2,e3,e4,e5,e6,e7,e8,e9,e10⟩:=B1.word
 have hf:=B1.frozen
 have hl:=B1.lt
 go_wp2
 refine gen (fun W=>Blk W w.heap.size 104 _∧Below w.heap.size w W) ⟨B1.set11 _ _ _ _ _ _ _ _ _ _ _,below11 hB1 (Nat.le_refl _) _ _ _ _ _ _ _ _ _ _ _⟩ ?_
 rintro W ⟨hb,hB⟩
 obtain⟨e0,e1,e2,e3,e4,e5,e6,e7,e8,e9,e10⟩:=hb.word
 exact bodyPost_ret (v:=wv k x (.slice none 0 0) St.zero 0 0 0 0) (by simp[results,Tryz.results115,go_sem,wv,St.zero,e0,e1,e2,e3,e4,e5,e6,e7,e8,e9,e10]) rfl ⟨rfl,hB⟩
def not10 (n:Nat):Bool:=decide (n≠10)
theorem idx_span:∀l:List UInt8,(Lib.indexByte l 10=-1∧lspan not10 l=l.length)∨Lib.indexByte l 10=(lspan not10 l:Int)
 | []=>.inl ⟨rfl,rfl⟩
 | c::l=>by
  have ih:=idx_span l
  unfold Lib.indexByte
  by_cases h:c=10
  ·right;subst h;simp[lspan,not10]
  ·have h':c.toNat≠10:=fun e=>h (UInt8.toNat_inj.1 e)
   have hb:(c==10)=false:=by simpa using h
   have hs:lspan not10 (c::l)=lspan not10 l+1:=by simp[lspan,not10,h']
   rw[hb,hs]
   simp only[Bool.false_eq_true,if_false,List.length_cons]
   rcases ih with ⟨h1,h2⟩ | h1
   ·left;simp[h1,h2]
   ·right;rw[h1];rw[if_neg (by simp)];omega
theorem spanR_any (x:ByteArray) (w:World):Calls Tryz.prog 107 #[.string x] w fun e w'=>e=.returned (.int .i64 (lspan not10 x.data.toList))∧w'=w:=by
 have H:Hid (∀w,Calls Tryz.prog 114 #[.string x,.int .u8 10] w fun e w'=>e=.returned (.int .i64 (Lib.indexByte x.data.toList 10))∧w'=w):=fun w=>idx_any x 10 w
 have hs:=idx_span x.data.toList
 rw[list_len] at hs
 generalize Lib.indexByte x.data.toList 10=i at *
 generalize lspan not10 x.data.toList=k at *
 rcases hs with ⟨rfl,rfl⟩ | rfl
 ·go_enter Tryz.func107,Tryz.ntmps107
  go_wp2_with (go_at_call 114;refine (H.out _).mono ?_;rintro e w' ⟨rfl,rfl⟩)
  go_ret
  exact⟨rfl,rfl⟩
 ·go_enter Tryz.func107,Tryz.ntmps107
  go_wp2_with (go_at_call 114;refine (H.out _).mono ?_;rintro e w' ⟨rfl,rfl⟩)
  go_ret
  exact⟨rfl,rfl⟩
theorem spanS_any (x:ByteArray) (w:World) (hx:x.size≤65536):Calls Tryz.prog 163 #[.string x] w fun e w'=>e=.returned (.int .i64 (clo (x.data.toList.drop 1) 1))∧w'=w:=by
 obtain⟨R,hR⟩:∃R,clo (x.data.toList.drop 1) 1=R:=⟨_,rfl⟩
 rw[hR]
 go_enter Tryz.func163,Tryz.ntmps163
 go_wp2
 go_loop [3] (fun i=>∃k:Nat,1≤k∧k≤x.size+1∧i=.int .i64 k∧clo (x.data.toList.drop k) k=R) (fun i=>x.size+1-(intOf i).toNat)
 case atStart=>exact⟨1,Nat.le_refl _,by omega,rfl,hR⟩
 case round=>
  obtain⟨k,hk1,hk,rfl,hq⟩:=hrel
  clear hR
  have HQ:=hHi hq
  clear hq
  by_cases hlt:k<x.size
  ·have hlt':(k:Int)<x.size:=by omega
   have b0:=bt_eq x k hlt
   rw[drop_at x k hlt] at HQ
   by_cases h92:x[k].toNat=92
   ·rw[clo_esc _ _ _ h92,List.drop_drop] at HQ
    clear b0
    go_wp2
    go_round
    case rel=>exact⟨k+2,by omega,by omega,by go_num,HQ.out⟩
    case measure=>simp[intOf];omega
   ·by_cases h93:x[k].toNat=93
    ·rw[clo_end _ _ _ h93] at HQ
     rw[h93] at b0
     go_wp2
     go_ret
     exact⟨ret_int (by rw[←HQ.out];rfl),rfl⟩
    ·rw[clo_on _ _ _ h93 h92] at HQ
     have c1:((x[k].toNat:Int)==92)=false:=by simp;omega
     have c2:((x[k].toNat:Int)==93)=false:=by simp;omega
     clear b0
     go_wp2
     go_round
     case rel=>exact⟨k+1,by omega,by omega,by go_num,HQ.out⟩
     case measure=>simp[intOf];omega
  ·have hlt':¬(k:Int)<x.size:=by omega
   rw[drop_end x k (by omega)] at HQ
   simp only[clo] at HQ
   go_wp2
   go_ret
   exact⟨ret_int (by rw[←HQ.out];rfl),rfl⟩
end Go.Proofs.YtcpakcffiopfjaaGreatDoor
