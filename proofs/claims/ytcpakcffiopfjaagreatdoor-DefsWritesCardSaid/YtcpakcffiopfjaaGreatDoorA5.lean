/- Reading a word: names and keys, numbers, texts, sets. Reading a word: texts and sets. Reading a word: sets, and every word. (*scanner).skip, at every text and place. -/
import Derived.Test.YtcpakcffiopfjaaGreatDoorA4
import Derived.Test.YtcpakcffiopfjaaGreatDoorA0
import Derived.Deep.RegionWith
import Derived.BigQuiet
namespace Go.Proofs.YtcpakcffiopfjaaGreatDoor
open Go.RowKit
set_option linter.unusedVariables false
set_option linter.unusedSimpArgs false
set_option maxRecDepth 100000
set_option maxHeartbeats 16000000
set_option linter.unusedVariables false
set_option linter.unusedSimpArgs false
set_option maxRecDepth 100000
set_option maxHeartbeats 16000000
def rwV (l:List UInt8) (q:RW) (v:Value):Value:=.tuple #[wv q.kind ⟨(l.take q.len).toArray⟩ v q.set q.n 0 0 0,fv q.fat q.code]
def Reads (w:World) (x:ByteArray) (q:RW) (e:Ending) (w':World):Prop:=
 ∃v,e=.returned (rwV x.data.toList q v)∧w'.ownsRow w.heap.size 5 1 v q.bytes.length (bytesV q.bytes)∧Below w.heap.size w w'
abbrev wb (w:World):World:=(w.alloc (.cells wz 104)).alloc (.cells #[.int .i64 0,.int .i64 0] 37)
theorem wb_word (w:World):Blk (wb w) w.heap.size 104 wz:=(Blk.new w 104 wz).alloc _
theorem wb_fault (w:World):Blk (wb w) (w.heap.size+1) 37 #[.int .i64 0,.int .i64 0]:=by
 have:=Blk.new (w.alloc (.cells wz 104)) 37 #[.int .i64 0,.int .i64 0]
 rw[World.size_alloc] at this;exact this
theorem wb_below (w:World):Below w.heap.size w (wb w):=((Below.refl _ _).alloc (Nat.le_refl _) _).alloc (by simp) _
theorem wb_size (w:World):(wb w).heap.size=w.heap.size+2:=by simp
theorem readL_any (k:Nat) (x:ByteArray) (w:World):Calls Tryz.prog 108 #[.string x,.int .i64 k] w (Reads w x (rdLet x.data.toList k)):=by
 have HS:Hid _:=fun w=>spanL_any x w
 have hle:=lspan_le alnum x.data.toList
 rw[list_len] at hle
 obtain⟨R,hR⟩:∃R,rdLet x.data.toList k=R:=⟨_,rfl⟩
 rw[hR]
 unfold rdLet at hR
 generalize lspan alnum x.data.toList=n at *
 by_cases h:32<n
 ·rw[if_pos h] at hR
  have h':(32:Int)<n:=by omega
  go_enter Tryz.func108,Tryz.ntmps108
  go_wp2_with (go_at_call 117;refine (HS.out _).mono ?_)
  rintro e w1 ⟨rfl,hb1⟩
  have hW:=(wb_word w).after hb1
  have hF:=(wb_fault w).after hb1
  have hB:=below_of (wb_below w) hb1
  have l1:=hW.lt
  have l2:=hF.lt
  obtain⟨e0,e1,e2,e3,e4,e5,e6,e7,e8,e9,e10⟩:=hW.word
  obtain⟨f0,f1⟩:=hF.pair
  have z1:=hW.frozen
  have z2:=hF.frozen
  go_wp2
  refine gen (fun W=>(Blk W w.heap.size 104 _∧Blk W (w.heap.size+1) 37 _)∧Below w.heap.size w W) ⟨both13 hW hF (by omega) _ _ _ _ _ _ _ _ _ _ _ _ _,below2 (below11 hB (Nat.le_refl _) _ _ _ _ _ _ _ _ _ _ _) (by omega) _ _⟩ ?_
  rintro W ⟨⟨hb,hf⟩,hB'⟩
  clear e0 e1 e2 e3 e4 e5 e6 e7 e8 e9 e10 f0 f1
  obtain⟨e0,e1,e2,e3,e4,e5,e6,e7,e8,e9,e10⟩:=hb.word
  obtain⟨f0,f1⟩:=hf.pair
  exact bodyPost_ret (v:=rwV x.data.toList R (.slice none 0 0)) (by rw[←hR];simp[results,Tryz.results108,go_sem,rwV,wv,fv,St.zero,RW.fault,e0,e1,e2,e3,e4,e5,e6,e7,e8,e9,e10,f0,f1]) rfl ⟨_,rfl,by rw[←hR];exact World.ownsRow_nil _ _ _ _,hB'⟩
 ·rw[if_neg h] at hR
  have h':(n:Int)≤32:=by omega
  replace h:n≤32:=by omega
  have hle':(n:Int)≤x.size:=by omega
  have HN:Hid _:=fun w=>newWord_any k (x.extract 0 n) w (by simp;omega)
  have HX:Hid _:=extract_pre x n
  go_enter Tryz.func108,Tryz.ntmps108
  go_wp2_with (go_at_call 117;refine (HS.out _).mono ?_)
  rintro e w1 ⟨rfl,hb1⟩
  go_wp2_with (go_at_call 115;refine (HN.out _).mono ?_)
  rintro e w2 ⟨rfl,hb2⟩
  have hW:=((wb_word w).after hb1).after hb2
  have hF:=((wb_fault w).after hb1).after hb2
  have hB:=below_of (below_of (wb_below w) hb1) hb2
  clear hb1 hb2 HS HN
  have l1:=hW.lt
  have l2:=hF.lt
  obtain⟨e0,e1,e2,e3,e4,e5,e6,e7,e8,e9,e10⟩:=hW.word
  obtain⟨f0,f1⟩:=hF.pair
  have z1:=hW.frozen
  have z2:=hF.frozen
  unfold wv
  go_wp2
  refine gen (fun W=>(Blk W w.heap.size 104 _∧Blk W (w.heap.size+1) 37 _)∧Below w.heap.size w W) ⟨both13 hW hF (by omega) _ _ _ _ _ _ _ _ _ _ _ _ _,below2 (below11 hB (Nat.le_refl _) _ _ _ _ _ _ _ _ _ _ _) (by omega) _ _⟩ ?_
  rintro W ⟨⟨hb,hf⟩,hB'⟩
  clear e0 e1 e2 e3 e4 e5 e6 e7 e8 e9 e10 f0 f1
  obtain⟨e0,e1,e2,e3,e4,e5,e6,e7,e8,e9,e10⟩:=hb.word
  obtain⟨f0,f1⟩:=hf.pair
  exact bodyPost_ret (v:=rwV x.data.toList R (.slice none 0 0)) (by rw[←hR];simp[results,Tryz.results108,go_sem,rwV,wv,fv,St.zero,RW.plain,e0,e1,e2,e3,e4,e5,e6,e7,e8,e9,e10,f0,f1,HX.out]) rfl ⟨_,rfl,by rw[←hR];exact World.ownsRow_nil _ _ _ _,hB'⟩
theorem lspan_at (p:Nat→Bool):∀(l:List UInt8) (i:Nat),i<lspan p l→p (l.getD i 0).toNat=true
 | [],i,h=>by simp[lspan] at h
 | c::l,i,h=>by
  simp only[lspan] at h
  split at h
  ·rename_i hc
   cases i with
   | zero=>simpa using hc
   | succ i=>simpa using lspan_at p l i (by omega)
  ·omega
theorem numv_snoc (l:List UInt8) (c:UInt8):numv (l++[c])=numv l*10+(c.toNat-48):=by unfold numv;simp
theorem fold_le:∀(l:List UInt8) (a:Nat),(∀c∈l,c.toNat≤57)→l.foldl (fun n c=>n*10+(c.toNat-48)) a+1≤(a+1)*10 ^ l.length
 | [],a,_=>by simp
 | c::l,a,h=>by
  have h1:=fold_le l (a*10+(c.toNat-48)) (fun d hd=>h d (by simp[hd]))
  have h2:=h c (by simp)
  simp only[List.foldl_cons,List.length_cons,Nat.pow_succ]
  refine Nat.le_trans h1 ?_
  rw[Nat.mul_comm (10 ^ l.length) 10,←Nat.mul_assoc]
  exact Nat.mul_le_mul_right _ (by omega)
theorem numv_le (l:List UInt8) (h:∀c∈l,c.toNat≤57) (hl:l.length≤6):numv l≤999999:=by
 have h1:=fold_le l 0 h
 have h2:10 ^ l.length≤10 ^ 6:=Nat.pow_le_pow_right (by omega) hl
 unfold numv;omega
theorem digs_at (l:List UInt8) (t:ByteArray) (ht:t.data.toList=l.take (lspan digB l)) (i:Nat) (hi:i<t.size):48≤t[i].toNat∧t[i].toNat≤57:=by
 have h1:i<lspan digB l:=by
  have:=list_len t;rw[ht,List.length_take] at this;omega
 have h2:=lspan_at digB l i h1
 have h3:t[i]=l.getD i 0:=by
  have e:t[i]=t.data.toList.getD i 0:=by
   have:i<t.data.toList.length:=by rw[list_len];exact hi
   rw[List.getD_eq_getElem?_getD,List.getElem?_eq_getElem this];rfl
  rw[e,ht,List.getD_eq_getElem?_getD,List.getElem?_take,if_pos h1,List.getD_eq_getElem?_getD]
 rw[h3]
 unfold digB at h2;simpa using h2
theorem numv_mem {t:ByteArray} (h:∀i (hi:i<t.size),48≤t[i].toNat∧t[i].toNat≤57) {k:Nat} {d:UInt8} (hd:d∈t.data.toList.take k):d.toNat≤57:=by
 obtain⟨i,hi,rfl⟩:=List.getElem_of_mem (List.mem_of_mem_take hd)
 have hi':i<t.size:=by rw[list_len] at hi;exact hi
 exact (h i hi').2
theorem numv_next (t:ByteArray) (k:Nat) (h:k<t.size):numv (t.data.toList.take (k+1))=numv (t.data.toList.take k)*10+(t[k].toNat-48):=by
 rw[List.take_succ_eq_append_getElem (by simpa using h),numv_snoc];rfl
abbrev nb (t:ByteArray) (n:Int):Array Value:=#[.int .i64 3,.string t,.slice none 0 0,.int .u64 0,.int .u64 0,.int .u64 0,.int .u64 0,.int .i64 n,.int .i64 0,.int .i64 0,.int .i64 0]
theorem iter_cell7 (w:World) (t:ByteArray) (n:Int) (p:Nat):((w.alloc (.cells (nb t n) 104)).iter t p).cell? ⟨w.heap.size,7,none⟩=some (.int .i64 n):=by
 unfold World.iter;simp
theorem iter_froz7 (w:World) (t:ByteArray) (n:Int) (p:Nat):((w.alloc (.cells (nb t n) 104)).iter t p).frozen? ⟨w.heap.size,7,none⟩=false:=by
 unfold World.iter;simp
theorem iter_set7 (w:World) (t:ByteArray) (n m:Int) (p:Nat):((w.alloc (.cells (nb t n) 104)).iter t p).setCell ⟨w.heap.size,7,none⟩ (.int .i64 m)=(w.alloc (.cells (nb t m) 104)).iter t p:=by
 unfold World.iter;go_simp
theorem iterPos7 (w:World) (t:ByteArray) (a:Array Value) (p:Nat):((w.alloc (.cells a 104)).iter t p).iterPos (w.heap.size+1)=p:=by
 have:=World.iterPos_iter (w.alloc (.cells a 104)) t p
 rw[World.size_alloc] at this;exact this
theorem readN_any (x:ByteArray) (w:World) (h0:0<x.size):Calls Tryz.prog 111 #[.string x] w (Reads w x (rdNum x.data.toList)):=by
 have HS:Hid _:=fun w=>spanD_any x w
 have hle:=lspan_le digB x.data.toList
 rw[list_len] at hle
 obtain⟨R,hR⟩:∃R,rdNum x.data.toList=R:=⟨_,rfl⟩
 rw[hR]
 unfold rdNum at hR
 have HDG:Hid _:=digs_at x.data.toList
 rw[←bt_list] at hR
 have b0:=bt_eq x 0 h0
 generalize lspan digB x.data.toList=n at *
 generalize bt x 0=c at *
 by_cases h:6<n∨(1<n∧c=48)
 ·rw[if_pos h] at hR
  rcases Nat.lt_or_ge 6 n with h6 | h6
  ·have h6':(6:Int)<n:=by omega
   go_enter Tryz.func111,Tryz.ntmps111
   go_wp2_with (go_at_call 161;refine (HS.out _).mono ?_)
   rintro e w1 ⟨rfl,hb1⟩
   have hW:=(wb_word w).after hb1
   have hF:=(wb_fault w).after hb1
   have hB:=below_of (wb_below w) hb1
   clear hb1 HS
   have l1:=hW.lt
   have l2:=hF.lt
   obtain⟨e0,e1,e2,e3,e4,e5,e6,e7,e8,e9,e10⟩:=hW.word
   obtain⟨f0,f1⟩:=hF.pair
   have z1:=hW.frozen
   have z2:=hF.frozen
   go_wp2
   refine gen (fun W=>(Blk W w.heap.size 104 _∧Blk W (w.heap.size+1) 37 _)∧Below w.heap.size w W) ⟨both13 hW hF (by omega) _ _ _ _ _ _ _ _ _ _ _ _ _,below2 (below11 hB (Nat.le_refl _) _ _ _ _ _ _ _ _ _ _ _) (by omega) _ _⟩ ?_
   rintro W ⟨⟨hb,hf⟩,hB'⟩
   clear e0 e1 e2 e3 e4 e5 e6 e7 e8 e9 e10 f0 f1
   obtain⟨e0,e1,e2,e3,e4,e5,e6,e7,e8,e9,e10⟩:=hb.word
   obtain⟨f0,f1⟩:=hf.pair
   exact bodyPost_ret (v:=rwV x.data.toList R (.slice none 0 0)) (by rw[←hR];simp[results,Tryz.results111,go_sem,rwV,wv,fv,St.zero,RW.fault,e0,e1,e2,e3,e4,e5,e6,e7,e8,e9,e10,f0,f1]) rfl ⟨_,rfl,by rw[←hR];exact World.ownsRow_nil _ _ _ _,hB'⟩
  ·have h6':(n:Int)≤6:=by omega
   have h1:1<n:=by omega
   have h1':(1:Int)<n:=by omega
   obtain rfl:c=48:=by omega
   clear h
   go_enter Tryz.func111,Tryz.ntmps111
   go_wp2_with (go_at_call 161;refine (HS.out _).mono ?_)
   rintro e w1 ⟨rfl,hb1⟩
   have hW:=(wb_word w).after hb1
   have hF:=(wb_fault w).after hb1
   have hB:=below_of (wb_below w) hb1
   clear hb1 HS
   have l1:=hW.lt
   have l2:=hF.lt
   obtain⟨e0,e1,e2,e3,e4,e5,e6,e7,e8,e9,e10⟩:=hW.word
   obtain⟨f0,f1⟩:=hF.pair
   have z1:=hW.frozen
   have z2:=hF.frozen
   go_wp2
   refine gen (fun W=>(Blk W w.heap.size 104 _∧Blk W (w.heap.size+1) 37 _)∧Below w.heap.size w W) ⟨both13 hW hF (by omega) _ _ _ _ _ _ _ _ _ _ _ _ _,below2 (below11 hB (Nat.le_refl _) _ _ _ _ _ _ _ _ _ _ _) (by omega) _ _⟩ ?_
   rintro W ⟨⟨hb,hf⟩,hB'⟩
   clear e0 e1 e2 e3 e4 e5 e6 e7 e8 e9 e10 f0 f1
   obtain⟨e0,e1,e2,e3,e4,e5,e6,e7,e8,e9,e10⟩:=hb.word
   obtain⟨f0,f1⟩:=hf.pair
   exact bodyPost_ret (v:=rwV x.data.toList R (.slice none 0 0)) (by rw[←hR];simp[results,Tryz.results111,go_sem,rwV,wv,fv,St.zero,RW.fault,e0,e1,e2,e3,e4,e5,e6,e7,e8,e9,e10,f0,f1]) rfl ⟨_,rfl,by rw[←hR];exact World.ownsRow_nil _ _ _ _,hB'⟩
 ·rw[if_neg h] at hR
  have h6:n≤6:=by omega
  have h6':decide ((6:Int)<n)=false:=by simp;omega
  have hle':(n:Int)≤x.size:=by omega
  have HN:Hid _:=fun w=>newWord_any 3 (x.extract 0 n) w (by simp;omega)
  have HT:(x.extract 0 n).data.toList=x.data.toList.take n:=by rw[extract_list];simp
  have HX:Hid _:=extract_pre x n
  replace HDG:Hid _:=HDG.out (x.extract 0 n) HT
  have hsz:Hid ((x.extract 0 n).size≤6):=by show _≤_;simp;omega
  have hnv:Hid (numv (x.data.toList.take n)=numv (x.extract 0 n).data.toList):=by rw[HT];rfl
  rw[hnv.out] at hR
  clear HT hnv
  have h48:n≤1∨(1<n∧c≠48):=by omega
  clear h
  rcases h48 with h1 | ⟨h1,hc⟩
  ·have h1':decide ((1:Int)<n)=false:=by simp;omega
   clear h1
   go_enter Tryz.func111,Tryz.ntmps111
   go_wp2_with (go_at_call 161;refine (HS.out _).mono ?_)
   rintro e w1 ⟨rfl,hb1⟩
   go_wp2_with (go_at_call 115;refine (HN.out _).mono ?_)
   rintro e w2 ⟨rfl,hb2⟩
   have hW:=((wb_word w).after hb1).after hb2
   have hF:=((wb_fault w).after hb1).after hb2
   have hB:=below_of (below_of (wb_below w) hb1) hb2
   have hwl:=hF.lt
   clear hb1 hb2 HS HN
   simp only[wv,St.zero]
   generalize x.extract 0 n=t at *
   replace hsz:t.size≤6:=hsz.out
   go_wp2
   go_loopw[7] (fun _ wr=>∃pos:Nat,pos≤t.size∧wr=(w2.alloc (.cells (nb t (numv (t.data.toList.take pos))) 104)).iter t pos) (fun _ wr=>t.size-wr.iterPos (w2.heap.size+1))
   case atStart=>exact⟨0,Nat.zero_le _,rfl⟩
   case round=>
    obtain⟨pos,hp,rfl⟩:=hrel
    by_cases hlt:pos<t.size
    ·obtain⟨d1,d2⟩:=HDG.out pos hlt
     have hnx:∀ty,(Instr.next (.pointer (some ⟨w2.heap.size+1,0,none⟩)) true ty).run Tryz.prog ((w2.alloc (.cells (nb t (numv (t.data.toList.take pos))) 104)).iter t pos)=.ok (.tuple #[.bool true,.int .i64 pos,.int .i32 (t[pos]'hlt).toNat]) ((w2.alloc (.cells (nb t (numv (t.data.toList.take pos))) 104)).iter t (pos+1)):=fun ty=>by
      have:=run_next_ascii (P:=Tryz.prog) (w2.alloc (.cells (nb t (numv (t.data.toList.take pos))) 104)) t pos ty hlt (by omega)
      rw[World.size_alloc] at this;exact this
     have hnl:=numv_le (t.data.toList.take pos) (fun d hd=>numv_mem HDG.out hd) (by rw[List.length_take,list_len];omega)
     have HV:Hid _:=numv_next t pos hlt
     generalize numv (t.data.toList.take pos)=N at *
     generalize (t[pos]'hlt).toNat=d at *
     have hcl:=iter_cell7 w2 t N (pos+1)
     have hfz:=iter_froz7 w2 t N (pos+1)
     have hst:=fun m=>iter_set7 w2 t N m (pos+1)
     go_wp2
     go_roundw
     case rel=>exact⟨pos+1,by omega,by rw[HV.out];congr 5;go_num⟩
     case measure=>rw[iterPos7,iterPos7];omega
    ·obtain rfl:pos=t.size:=by omega
     rw[←list_len,List.take_length]
     refine gen (fun W=>(∀ty,(Instr.next (.pointer (some ⟨w2.heap.size+1,0,none⟩)) true ty).run Tryz.prog W=.ok (.tuple #[.bool false]) W)∧Blk W w.heap.size 104 wz∧Blk W (w.heap.size+1) 37 #[.int .i64 0,.int .i64 0]∧Blk W w2.heap.size 104 (nb t (numv t.data.toList))∧Below w.heap.size w W) ⟨fun ty=>by
      have:=run_next_end (P:=Tryz.prog) (w2.alloc (.cells (nb t (numv t.data.toList)) 104)) t t.data.toList.length ty (by rw[list_len];omega)
      rw[World.size_alloc] at this;exact this,(hW.alloc _).alloc _,(hF.alloc _).alloc _,(Blk.new w2 104 _).alloc _,(hB.alloc hB.size _).alloc (by have:=hB.size;simp;omega) _⟩ ?_
     clear hW hF hB
     rintro W ⟨hnx,hW,hF,hN,hB⟩
     generalize numv t.data.toList=N at *
     have l1:=hW.lt
     have l2:=hF.lt
     have l3:=hN.lt
     obtain⟨e0,e1,e2,e3,e4,e5,e6,e7,e8,e9,e10⟩:=hW.word
     obtain⟨f0,f1⟩:=hF.pair
     obtain⟨n0,n1,n2,n3,n4,n5,n6,n7,n8,n9,n10⟩:=hN.word
     have z1:=hW.frozen
     have z2:=hF.frozen
     go_wp2
     refine gen (fun W=>(Blk W w.heap.size 104 _∧Blk W (w.heap.size+1) 37 _)∧Below w.heap.size w W) ⟨both13 hW hF (by omega) _ _ _ _ _ _ _ _ _ _ _ _ _,below2 (below11 hB (Nat.le_refl _) _ _ _ _ _ _ _ _ _ _ _) (by omega) _ _⟩ ?_
     rintro W ⟨⟨hb,hf⟩,hB'⟩
     clear e0 e1 e2 e3 e4 e5 e6 e7 e8 e9 e10 f0 f1
     obtain⟨e0,e1,e2,e3,e4,e5,e6,e7,e8,e9,e10⟩:=hb.word
     obtain⟨f0,f1⟩:=hf.pair
     exact bodyPost_ret (v:=rwV x.data.toList R (.slice none 0 0)) (by rw[←hR];simp[results,Tryz.results111,go_sem,rwV,wv,fv,St.zero,e0,e1,e2,e3,e4,e5,e6,e7,e8,e9,e10,f0,f1,HX.out]) rfl ⟨_,rfl,by rw[←hR];exact World.ownsRow_nil _ _ _ _,hB'⟩
  ·have h1':decide ((1:Int)<n)=true:=by simp;omega
   clear h1
   have hcb:((c:Int)==48)=false:=by simp;omega
   go_enter Tryz.func111,Tryz.ntmps111
   go_wp2_with (go_at_call 161;refine (HS.out _).mono ?_)
   rintro e w1 ⟨rfl,hb1⟩
   go_wp2_with (go_at_call 115;refine (HN.out _).mono ?_)
   rintro e w2 ⟨rfl,hb2⟩
   have hW:=((wb_word w).after hb1).after hb2
   have hF:=((wb_fault w).after hb1).after hb2
   have hB:=below_of (below_of (wb_below w) hb1) hb2
   have hwl:=hF.lt
   clear hb1 hb2 HS HN
   simp only[wv,St.zero]
   generalize x.extract 0 n=t at *
   replace hsz:t.size≤6:=hsz.out
   go_wp2
   go_loopw[7] (fun _ wr=>∃pos:Nat,pos≤t.size∧wr=(w2.alloc (.cells (nb t (numv (t.data.toList.take pos))) 104)).iter t pos) (fun _ wr=>t.size-wr.iterPos (w2.heap.size+1))
   case atStart=>exact⟨0,Nat.zero_le _,rfl⟩
   case round=>
    obtain⟨pos,hp,rfl⟩:=hrel
    by_cases hlt:pos<t.size
    ·obtain⟨d1,d2⟩:=HDG.out pos hlt
     have hnx:∀ty,(Instr.next (.pointer (some ⟨w2.heap.size+1,0,none⟩)) true ty).run Tryz.prog ((w2.alloc (.cells (nb t (numv (t.data.toList.take pos))) 104)).iter t pos)=.ok (.tuple #[.bool true,.int .i64 pos,.int .i32 (t[pos]'hlt).toNat]) ((w2.alloc (.cells (nb t (numv (t.data.toList.take pos))) 104)).iter t (pos+1)):=fun ty=>by
      have:=run_next_ascii (P:=Tryz.prog) (w2.alloc (.cells (nb t (numv (t.data.toList.take pos))) 104)) t pos ty hlt (by omega)
      rw[World.size_alloc] at this;exact this
     have hnl:=numv_le (t.data.toList.take pos) (fun d hd=>numv_mem HDG.out hd) (by rw[List.length_take,list_len];omega)
     have HV:Hid _:=numv_next t pos hlt
     generalize numv (t.data.toList.take pos)=N at *
     generalize (t[pos]'hlt).toNat=d at *
     have hcl:=iter_cell7 w2 t N (pos+1)
     have hfz:=iter_froz7 w2 t N (pos+1)
     have hst:=fun m=>iter_set7 w2 t N m (pos+1)
     go_wp2
     go_roundw
     case rel=>exact⟨pos+1,by omega,by rw[HV.out];congr 5;go_num⟩
     case measure=>rw[iterPos7,iterPos7];omega
    ·obtain rfl:pos=t.size:=by omega
     rw[←list_len,List.take_length]
     refine gen (fun W=>(∀ty,(Instr.next (.pointer (some ⟨w2.heap.size+1,0,none⟩)) true ty).run Tryz.prog W=.ok (.tuple #[.bool false]) W)∧Blk W w.heap.size 104 wz∧Blk W (w.heap.size+1) 37 #[.int .i64 0,.int .i64 0]∧Blk W w2.heap.size 104 (nb t (numv t.data.toList))∧Below w.heap.size w W) ⟨fun ty=>by
      have:=run_next_end (P:=Tryz.prog) (w2.alloc (.cells (nb t (numv t.data.toList)) 104)) t t.data.toList.length ty (by rw[list_len];omega)
      rw[World.size_alloc] at this;exact this,(hW.alloc _).alloc _,(hF.alloc _).alloc _,(Blk.new w2 104 _).alloc _,(hB.alloc hB.size _).alloc (by have:=hB.size;simp;omega) _⟩ ?_
     clear hW hF hB
     rintro W ⟨hnx,hW,hF,hN,hB⟩
     generalize numv t.data.toList=N at *
     have l1:=hW.lt
     have l2:=hF.lt
     have l3:=hN.lt
     obtain⟨e0,e1,e2,e3,e4,e5,e6,e7,e8,e9,e10⟩:=hW.word
     obtain⟨f0,f1⟩:=hF.pair
     obtain⟨n0,n1,n2,n3,n4,n5,n6,n7,n8,n9,n10⟩:=hN.word
     have z1:=hW.frozen
     have z2:=hF.frozen
     go_wp2
     refine gen (fun W=>(Blk W w.heap.size 104 _∧Blk W (w.heap.size+1) 37 _)∧Below w.heap.size w W) ⟨both13 hW hF (by omega) _ _ _ _ _ _ _ _ _ _ _ _ _,below2 (below11 hB (Nat.le_refl _) _ _ _ _ _ _ _ _ _ _ _) (by omega) _ _⟩ ?_
     rintro W ⟨⟨hb,hf⟩,hB'⟩
     clear e0 e1 e2 e3 e4 e5 e6 e7 e8 e9 e10 f0 f1
     obtain⟨e0,e1,e2,e3,e4,e5,e6,e7,e8,e9,e10⟩:=hb.word
     obtain⟨f0,f1⟩:=hf.pair
     exact bodyPost_ret (v:=rwV x.data.toList R (.slice none 0 0)) (by rw[←hR];simp[results,Tryz.results111,go_sem,rwV,wv,fv,St.zero,e0,e1,e2,e3,e4,e5,e6,e7,e8,e9,e10,f0,f1,HX.out]) rfl ⟨_,rfl,by rw[←hR];exact World.ownsRow_nil _ _ _ _,hB'⟩
theorem Blk.drew {W:World} {b:Nat} {t:TypeId} {cs:Array Value} (h:Blk W b t cs):Blk W.drew b t cs:=h
theorem quo_fin:∀(f:Nat) (l:List UInt8) (k:Nat) (acc:List Nat),(quo f l k acc).code=0→(quo f l k acc).fin≤k+l.length
 | 0,l,k,acc,h=>by simp[quo] at h
 | f+1,[],k,acc,h=>by simp[quo] at h
 | f+1,c::l,k,acc,h=>by
  unfold quo at h ⊢
  split at h
  ·rename_i h1;rw[if_pos h1];simp only[List.length_cons];omega
  ·rename_i h1
   rw[if_neg h1]
   split at h
   ·rename_i h2
    rw[if_pos h2]
    split at h
    ·simp at h
    ·rename_i h3
     rw[if_neg h3]
     have h4:=quo_fin f _ _ _ h
     have h5:=rdq_le ⟨(c::l).toArray⟩
     have h6:(⟨(c::l).toArray⟩:ByteArray).size=(c::l).length:=rfl
     rw[h6] at h5
     have h7:(rdql (c::l)).2≤(c::l).length:=h5
     rw[List.length_drop] at h4
     omega
   ·rename_i h2
    rw[if_neg h2]
    split at h
    ·rename_i h3
     rw[if_pos h3]
     have h4:=quo_fin f _ _ _ h
     simp only[List.length_cons];omega
    ·simp at h
theorem quoted_fin (x:ByteArray) (h:(quoted x.data.toList).code=0) (h0:0<x.size):(quoted x.data.toList).fin≤x.size:=by
 have:=quo_fin _ _ _ _ h
 unfold quoted;rw[List.length_drop] at this;rw[list_len] at *;omega
theorem row_slice {W:World} {base:Nat} {e:TypeId} {size:Nat} {v:Value} {n:Nat} {xs:List Value} (h:W.ownsRow base e size v n xs):∃a c,v=.slice a n c:=by
 rcases h.2 with ⟨rfl,rfl⟩ | ⟨g,cap,cur,rfl,_⟩
 ·exact⟨none,0,rfl⟩
 ·exact⟨_,_,rfl⟩
theorem readT_any (x:ByteArray) (w:World) (hx:x.size≤65536) (h0:0<x.size):Calls Tryz.prog 112 #[.string x] w (Reads w x (rdText x.data.toList)):=by
 have HQ:Hid _:=fun w=>readQ_any x w hx
 have hfin:=fun h=>quoted_fin x h h0
 obtain⟨R,hR⟩:∃R,rdText x.data.toList=R:=⟨_,rfl⟩
 rw[hR]
 unfold rdText at hR
 generalize quoted x.data.toList=q at *
 obtain⟨bs,fin,fat,code⟩:=q
 simp only[quoV,fv] at HQ hR hfin
 by_cases h3:code=0
 ·subst h3
  rw[if_pos rfl] at hR
  replace hfin:=hfin rfl
  have hfin':(fin:Int)≤x.size:=by omega
  have HN:Hid _:=fun w=>newWord_any 4 (x.extract 0 fin) w (by simp;omega)
  have HX:Hid _:=extract_pre x fin
  go_enter Tryz.func112,Tryz.ntmps112
  go_wp2_with (go_at_call 162;refine (HQ.out _).mono ?_)
  rintro e w1 ⟨v,rfl,hrow,hb1⟩
  obtain⟨va,vc,rfl⟩:=row_slice hrow
  go_wp2_with (go_at_call 115;refine (HN.out _).mono ?_)
  rintro e w2 ⟨rfl,hb2⟩
  have hW:=(((wb_word w).after hb1).alloc (.cells #[.int .i64 (fat:Int),.int .i64 ((0:Nat):Int)] 37)).after hb2
  have hF:=(((wb_fault w).after hb1).alloc (.cells #[.int .i64 (fat:Int),.int .i64 ((0:Nat):Int)] 37)).after hb2
  have hB:=below_of (w:=w) (((below_of (wb_below w) hb1)).alloc (below_of (wb_below w) hb1).size (.cells #[.int .i64 (fat:Int),.int .i64 ((0:Nat):Int)] 37)) hb2
  have hr2:=row_below (hrow.alloc (.cells #[.int .i64 (fat:Int),.int .i64 ((0:Nat):Int)] 37)) hb2
  rw[wb_size] at hr2
  clear hb1 hb2 HQ HN hrow
  have l1:=hW.lt
  have l2:=hF.lt
  obtain⟨e0,e1,e2,e3,e4,e5,e6,e7,e8,e9,e10⟩:=hW.word
  obtain⟨f0,f1⟩:=hF.pair
  have z1:=hW.frozen
  have z2:=hF.frozen
  simp only[wv,St.zero]
  go_wp2
  have hb13:=both13 hW hF (by omega) (.int .i64 4) (.string (x.extract 0 fin)) (.slice va bs.length vc) (.int .u64 0) (.int .u64 0) (.int .u64 0) (.int .u64 0) (.int .i64 0) (.int .i64 0) (.int .i64 0) (.int .i64 0) (.int .i64 0) (.int .i64 0)
  have hbl:=below2 (below11 hB (Nat.le_refl _) (.int .i64 4) (.string (x.extract 0 fin)) (.slice va bs.length vc) (.int .u64 0) (.int .u64 0) (.int .u64 0) (.int .u64 0) (.int .i64 0) (.int .i64 0) (.int .i64 0) (.int .i64 0)) (Nat.le_succ _) (.int .i64 0) (.int .i64 0)
  have hq1:=(hb13.1.alloc (.cells #[.int .i64 4,.string (x.extract 0 fin),.slice va bs.length vc,.int .u64 0,.int .u64 0,.int .u64 0,.int .u64 0,.int .i64 0,.int .i64 0,.int .i64 0,.int .i64 0] 104))
  have hq2:=(hb13.2.alloc (.cells #[.int .i64 4,.string (x.extract 0 fin),.slice va bs.length vc,.int .u64 0,.int .u64 0,.int .u64 0,.int .u64 0,.int .i64 0,.int .i64 0,.int .i64 0,.int .i64 0] 104))
  replace hbl:=hbl.alloc hbl.size (.cells #[.int .i64 4,.string (x.extract 0 fin),.slice va bs.length vc,.int .u64 0,.int .u64 0,.int .u64 0,.int .u64 0,.int .i64 0,.int .i64 0,.int .i64 0,.int .i64 0] 104)
  have hq4:=row2 (row11 hr2 (show w.heap.size<w.heap.size+2 by omega) (.int .i64 4) (.string (x.extract 0 fin)) (.slice va bs.length vc) (.int .u64 0) (.int .u64 0) (.int .u64 0) (.int .u64 0) (.int .i64 0) (.int .i64 0) (.int .i64 0) (.int .i64 0)) (show w.heap.size+1<w.heap.size+2 by omega) (.int .i64 0) (.int .i64 0)
  replace hq4:=(hq4.alloc (.cells #[.int .i64 4,.string (x.extract 0 fin),.slice va bs.length vc,.int .u64 0,.int .u64 0,.int .u64 0,.int .u64 0,.int .i64 0,.int .i64 0,.int .i64 0,.int .i64 0] 104))
  refine gen (fun W=>(Blk W w.heap.size 104 _∧Blk W (w.heap.size+1) 37 _)∧Below w.heap.size w W∧W.ownsRow (w.heap.size+2) 5 1 _ _ _) ⟨⟨hq1,hq2⟩,hbl,hq4⟩ ?_
  rintro W ⟨⟨hb,hf⟩,hB',hrow⟩
  clear e0 e1 e2 e3 e4 e5 e6 e7 e8 e9 e10 f0 f1
  obtain⟨e0,e1,e2,e3,e4,e5,e6,e7,e8,e9,e10⟩:=hb.word
  obtain⟨f0,f1⟩:=hf.pair
  exact bodyPost_ret (v:=rwV x.data.toList R (.slice va bs.length vc)) (by rw[←hR];simp[results,Tryz.results112,go_sem,rwV,wv,fv,St.zero,e0,e1,e2,e3,e4,e5,e6,e7,e8,e9,e10,f0,f1,HX.out]) rfl ⟨_,rfl,by rw[←hR];exact row_mono hrow (by omega),hB'⟩
 ·rw[if_neg h3] at hR
  have h3':((code:Int) != 0)=true:=by simp;omega
  go_enter Tryz.func112,Tryz.ntmps112
  go_wp2_with (go_at_call 162;refine (HQ.out _).mono ?_)
  rintro e w1 ⟨v,rfl,hrow,hb1⟩
  obtain⟨va,vc,rfl⟩:=row_slice hrow
  have hW:=(wb_word w).after hb1
  have hF:=(wb_fault w).after hb1
  have hB:=below_of (wb_below w) hb1
  clear hb1 HQ hrow
  have l1:=hW.lt
  have l2:=hF.lt
  obtain⟨e0,e1,e2,e3,e4,e5,e6,e7,e8,e9,e10⟩:=hW.word
  obtain⟨f0,f1⟩:=hF.pair
  have z1:=hW.frozen
  have z2:=hF.frozen
  go_wp2
  go_region
  all_goals go_wp2
  have hb13:=both13 hW hF (by omega) (.int .i64 0) (.string ⟨#[]⟩) (.slice none 0 0) (.int .u64 0) (.int .u64 0) (.int .u64 0) (.int .u64 0) (.int .i64 0) (.int .i64 0) (.int .i64 0) (.int .i64 0) (.int .i64 (fat:Int)) (.int .i64 (code:Int))
  have hbl:=below2 (below11 hB (Nat.le_refl _) (.int .i64 0) (.string ⟨#[]⟩) (.slice none 0 0) (.int .u64 0) (.int .u64 0) (.int .u64 0) (.int .u64 0) (.int .i64 0) (.int .i64 0) (.int .i64 0) (.int .i64 0)) (Nat.le_succ _) (.int .i64 (fat:Int)) (.int .i64 (code:Int))
  have hq1:=(hb13.1.alloc (.cells #[.int .i64 (fat:Int),.int .i64 (code:Int)] 37)).drew
  have hq2:=(hb13.2.alloc (.cells #[.int .i64 (fat:Int),.int .i64 (code:Int)] 37)).drew
  replace hbl:=hbl.alloc hbl.size (.cells #[.int .i64 (fat:Int),.int .i64 (code:Int)] 37)
  replace hbl:=hbl.drew
  refine gen (fun W=>(Blk W w.heap.size 104 _∧Blk W (w.heap.size+1) 37 _)∧Below w.heap.size w W) ⟨⟨hq1,hq2⟩,hbl⟩ ?_
  rintro W ⟨⟨hb,hf⟩,hB'⟩
  clear e0 e1 e2 e3 e4 e5 e6 e7 e8 e9 e10 f0 f1
  obtain⟨e0,e1,e2,e3,e4,e5,e6,e7,e8,e9,e10⟩:=hb.word
  obtain⟨f0,f1⟩:=hf.pair
  exact bodyPost_ret (v:=rwV x.data.toList R (.slice none 0 0)) (by rw[←hR];simp[results,Tryz.results112,go_sem,rwV,wv,fv,St.zero,RW.fault,e0,e1,e2,e3,e4,e5,e6,e7,e8,e9,e10,f0,f1]) rfl ⟨_,rfl,by rw[←hR];exact World.ownsRow_nil _ _ _ _,hB'⟩
theorem clo_le:∀(l:List UInt8) (k:Nat),clo l k≤k+l.length
 | [],k=>by simp[clo]
 | [c],k=>by unfold clo;split<;>simp
 | c::d::l,k=>by
  have h1:=clo_le l (k+2)
  have h2:=clo_le (d::l) (k+1)
  unfold clo
  simp only[List.length_cons] at *
  split
  ·omega
  ·split<;>omega
theorem readS_any (x:ByteArray) (w:World) (hx:x.size≤65536) (h0:0<x.size):Calls Tryz.prog 113 #[.string x] w (Reads w x (rdSet x.data.toList)):=by
 have HS:Hid _:=fun w=>spanS_any x w hx
 have hle:=clo_le (x.data.toList.drop 1) 1
 rw[List.length_drop,list_len] at hle
 obtain⟨R,hR⟩:∃R,rdSet x.data.toList=R:=⟨_,rfl⟩
 rw[hR]
 unfold rdSet at hR
 generalize clo (x.data.toList.drop 1) 1=n at *
 by_cases hn:n=0
 ·subst hn
  rw[if_pos rfl] at hR
  go_enter Tryz.func113,Tryz.ntmps113
  go_wp2_with (go_at_call 163;refine (HS.out _).mono ?_;rintro e w1 ⟨rfl,rfl⟩)
  refine gen (fun W=>(Blk W _ 104 _∧Blk W _ 37 _)∧Below _ _ W) ⟨⟨(Blk.new _ 104 _).alloc _,Blk.new _ 37 _⟩,((Below.refl _ _).alloc (Nat.le_refl _) _).alloc (by simp) _⟩ ?_
  rintro W ⟨⟨hb,hf⟩,hB'⟩
  rw[World.size_alloc] at hf
  obtain⟨e0,e1,e2,e3,e4,e5,e6,e7,e8,e9,e10⟩:=hb.word
  obtain⟨f0,f1⟩:=hf.pair
  exact bodyPost_ret (v:=rwV x.data.toList R (.slice none 0 0)) (by rw[←hR];simp[results,Tryz.results113,go_sem,rwV,wv,fv,St.zero,RW.fault,e0,e1,e2,e3,e4,e5,e6,e7,e8,e9,e10,f0,f1]) rfl ⟨_,rfl,by rw[←hR];exact World.ownsRow_nil _ _ _ _,hB'⟩
 ·rw[if_neg hn] at hR
  have hnb:((n:Int)==0)=false:=by simp;omega
  have hle':(n:Int)≤x.size:=by omega
  have HX:Hid _:=extract_pre x n
  rw[←HX.out] at hR
  have HP:Hid _:=fun w=>parse_any (x.extract 0 n) w
  have HN:Hid _:=fun w=>newWord_any 5 (x.extract 0 n) w (by simp;omega)
  generalize prs (x.extract 0 n)=q at *
  obtain⟨s,fat,code⟩:=q
  simp only[prsV] at HP hR
  by_cases h3:code=0
  ·subst h3
   rw[if_pos rfl] at hR
   go_enter Tryz.func113,Tryz.ntmps113
   go_wp2_with (first | (go_at_call 163;refine (HS.out _).mono ?_;rintro e w' ⟨rfl,rfl⟩) | (go_at_call 164;refine (HP.out _).mono ?_))
   rintro e w1 ⟨rfl,hb1⟩
   go_wp2_with (go_at_call 115;refine (HN.out _).mono ?_)
   rintro e w2 ⟨rfl,hb2⟩
   have hW:=((((wb_word _).after hb1).alloc (.cells #[.int .u64 s.a,.int .u64 s.b,.int .u64 s.c,.int .u64 s.d] 49)).alloc (.cells #[.int .i64 (fat:Int),.int .i64 ((0:Nat):Int)] 37)).after hb2
   have hF:=((((wb_fault _).after hb1).alloc (.cells #[.int .u64 s.a,.int .u64 s.b,.int .u64 s.c,.int .u64 s.d] 49)).alloc (.cells #[.int .i64 (fat:Int),.int .i64 ((0:Nat):Int)] 37)).after hb2
   have hB1:=below_of (wb_below _) hb1
   have hB:=below_of ((hB1.alloc hB1.size (.cells #[.int .u64 s.a,.int .u64 s.b,.int .u64 s.c,.int .u64 s.d] 49)).alloc (by have:=hB1.size;simp;omega) (.cells #[.int .i64 (fat:Int),.int .i64 ((0:Nat):Int)] 37)) hb2
   have hS:=((Blk.new w1 49 #[.int .u64 s.a,.int .u64 s.b,.int .u64 s.c,.int .u64 s.d]).alloc (.cells #[.int .i64 (fat:Int),.int .i64 ((0:Nat):Int)] 37)).after hb2
   have s0:=hS.cell 0 (v:=.int .u64 s.a) rfl
   have s1:=hS.cell 1 (v:=.int .u64 s.b) rfl
   have s2:=hS.cell 2 (v:=.int .u64 s.c) rfl
   have s3:=hS.cell 3 (v:=.int .u64 s.d) rfl
   have l3:=hS.lt
   clear hb1 hb2 HS HP HN hB1
   have l1:=hW.lt
   have l2:=hF.lt
   obtain⟨e0,e1,e2,e3,e4,e5,e6,e7,e8,e9,e10⟩:=hW.word
   obtain⟨f0,f1⟩:=hF.pair
   have z1:=hW.frozen
   have z2:=hF.frozen
   simp only[wv,St.zero]
   go_wp2
   have hb13:=both13 hW hF (by omega) (.int .i64 5) (.string (x.extract 0 n)) (.slice none 0 0) (.int .u64 s.a) (.int .u64 s.b) (.int .u64 s.c) (.int .u64 s.d) (.int .i64 0) (.int .i64 0) (.int .i64 0) (.int .i64 0) (.int .i64 0) (.int .i64 0)
   have hbl:=below2 (below11 hB (Nat.le_refl _) (.int .i64 5) (.string (x.extract 0 n)) (.slice none 0 0) (.int .u64 s.a) (.int .u64 s.b) (.int .u64 s.c) (.int .u64 s.d) (.int .i64 0) (.int .i64 0) (.int .i64 0) (.int .i64 0)) (Nat.le_succ _) (.int .i64 0) (.int .i64 0)
   have hq1:=(hb13.1.alloc (.cells #[.int .i64 5,.string (x.extract 0 n),.slice none 0 0,.int .u64 s.a,.int .u64 s.b,.int .u64 s.c,.int .u64 s.d,.int .i64 0,.int .i64 0,.int .i64 0,.int .i64 0] 104))
   have hq2:=(hb13.2.alloc (.cells #[.int .i64 5,.string (x.extract 0 n),.slice none 0 0,.int .u64 s.a,.int .u64 s.b,.int .u64 s.c,.int .u64 s.d,.int .i64 0,.int .i64 0,.int .i64 0,.int .i64 0] 104))
   replace hbl:=hbl.alloc hbl.size (.cells #[.int .i64 5,.string (x.extract 0 n),.slice none 0 0,.int .u64 s.a,.int .u64 s.b,.int .u64 s.c,.int .u64 s.d,.int .i64 0,.int .i64 0,.int .i64 0,.int .i64 0] 104)
   refine gen (fun W=>(Blk W w.heap.size 104 _∧Blk W (w.heap.size+1) 37 _)∧Below w.heap.size w W) ⟨⟨hq1,hq2⟩,hbl⟩ ?_
   rintro W ⟨⟨hb,hf⟩,hB'⟩
   clear e0 e1 e2 e3 e4 e5 e6 e7 e8 e9 e10 f0 f1
   obtain⟨e0,e1,e2,e3,e4,e5,e6,e7,e8,e9,e10⟩:=hb.word
   obtain⟨f0,f1⟩:=hf.pair
   exact bodyPost_ret (v:=rwV x.data.toList R (.slice none 0 0)) (by rw[←hR];simp[results,Tryz.results113,go_sem,rwV,wv,fv,e0,e1,e2,e3,e4,e5,e6,e7,e8,e9,e10,f0,f1,HX.out]) rfl ⟨_,rfl,by rw[←hR];exact World.ownsRow_nil _ _ _ _,hB'⟩
  ·rw[if_neg h3] at hR
   have h3':((code:Int) != 0)=true:=by simp;omega
   clear HN
   go_enter Tryz.func113,Tryz.ntmps113
   go_wp2_with (first | (go_at_call 163;refine (HS.out _).mono ?_;rintro e w' ⟨rfl,rfl⟩) | (go_at_call 164;refine (HP.out _).mono ?_))
   rintro e w1 ⟨rfl,hb1⟩
   have hW:=(wb_word _).after hb1
   have hF:=(wb_fault _).after hb1
   have hB:=below_of (wb_below _) hb1
   clear hb1 HS HP
   have l1:=hW.lt
   have l2:=hF.lt
   obtain⟨e0,e1,e2,e3,e4,e5,e6,e7,e8,e9,e10⟩:=hW.word
   obtain⟨f0,f1⟩:=hF.pair
   have z1:=hW.frozen
   have z2:=hF.frozen
   go_wp2
   go_region
   all_goals go_wp2
   have hb13:=both13 hW hF (by omega) (.int .i64 0) (.string ⟨#[]⟩) (.slice none 0 0) (.int .u64 0) (.int .u64 0) (.int .u64 0) (.int .u64 0) (.int .i64 0) (.int .i64 0) (.int .i64 0) (.int .i64 0) (.int .i64 (fat:Int)) (.int .i64 (code:Int))
   have hbl:=below2 (below11 hB (Nat.le_refl _) (.int .i64 0) (.string ⟨#[]⟩) (.slice none 0 0) (.int .u64 0) (.int .u64 0) (.int .u64 0) (.int .u64 0) (.int .i64 0) (.int .i64 0) (.int .i64 0) (.int .i64 0)) (Nat.le_succ _) (.int .i64 (fat:Int)) (.int .i64 (code:Int))
   have hq1:=((hb13.1.alloc (.cells #[.int .u64 s.a,.int .u64 s.b,.int .u64 s.c,.int .u64 s.d] 49)).alloc (.cells #[.int .i64 (fat:Int),.int .i64 (code:Int)] 37)).drew
   have hq2:=((hb13.2.alloc (.cells #[.int .u64 s.a,.int .u64 s.b,.int .u64 s.c,.int .u64 s.d] 49)).alloc (.cells #[.int .i64 (fat:Int),.int .i64 (code:Int)] 37)).drew
   replace hbl:=hbl.alloc hbl.size (.cells #[.int .u64 s.a,.int .u64 s.b,.int .u64 s.c,.int .u64 s.d] 49)
   replace hbl:=hbl.alloc hbl.size (.cells #[.int .i64 (fat:Int),.int .i64 (code:Int)] 37)
   replace hbl:=hbl.drew
   refine gen (fun W=>(Blk W w.heap.size 104 _∧Blk W (w.heap.size+1) 37 _)∧Below w.heap.size w W) ⟨⟨hq1,hq2⟩,hbl⟩ ?_
   rintro W ⟨⟨hb,hf⟩,hB'⟩
   clear e0 e1 e2 e3 e4 e5 e6 e7 e8 e9 e10 f0 f1
   obtain⟨e0,e1,e2,e3,e4,e5,e6,e7,e8,e9,e10⟩:=hb.word
   obtain⟨f0,f1⟩:=hf.pair
   exact bodyPost_ret (v:=rwV x.data.toList R (.slice none 0 0)) (by rw[←hR];simp[results,Tryz.results113,go_sem,rwV,wv,fv,St.zero,RW.fault,e0,e1,e2,e3,e4,e5,e6,e7,e8,e9,e10,f0,f1]) rfl ⟨_,rfl,by rw[←hR];exact World.ownsRow_nil _ _ _ _,hB'⟩
section
attribute [local go_sem] setCell_drewN
def Sc (W:World) (b:Nat) (x:ByteArray) (p ln bg:Nat):Prop:=Blk W b 102 #[.string x,.int .i64 (p:Int),.int .i64 (ln:Int),.int .i64 (bg:Int)]
def scAt (W:World) (b:Nat):Nat:=match W.cell? ⟨b,1,none⟩ with | some (.int _ i)=>i.toNat | _=>0
theorem Sc.pos {W:World} {b:Nat} {x:ByteArray} {p ln bg:Nat} (h:Sc W b x p ln bg):scAt W b=p:=by
 unfold scAt;rw[Blk.cell h 1 (v:=.int .i64 (p:Int)) rfl];simp
theorem meas {W w:World} {b:Nat} {x:ByteArray} {p ln bg q n g:Nat} (h:Sc W b x p ln bg) (h2:Sc w b x q n g) (hlt:q<p) (hs:q<x.size):x.size-scAt W b<x.size-scAt w b:=by
 rw[h.pos,h2.pos];omega
theorem grown_drewN {w W:World} {r:Option Nat} (h:w.grownBy W r) (n:Nat):w.grownBy (W.drewN n) r:=⟨h.os,h.tape,h.output,h.size,h.block⟩
theorem grown_refl (w:World) (r:Option Nat):w.grownBy w r:=⟨rfl,rfl,rfl,Nat.le_refl _,fun _ _ _=>rfl⟩
theorem grown_trans {a b c:World} {r:Option Nat} (h:a.grownBy b r) (h2:b.grownBy c r):a.grownBy c r:=⟨h2.os.trans h.os,h2.tape.trans h.tape,h2.output.trans h.output,Nat.le_trans h.size h2.size,fun k hk hne=>(h2.block k (Nat.lt_of_lt_of_le hk h.size) hne).trans (h.block k hk hne)⟩
theorem skp_rem:∀(l:List UInt8) (p ln bg:Nat),skp l true p ln bg=skp (l.drop (lspan not10 l)) false (p+lspan not10 l) ln bg
 | [],p,ln,bg=>rfl
 | c::l,p,ln,bg=>by
  by_cases h:c.toNat=10
  ·have:lspan not10 (c::l)=0:=by simp[lspan,not10,h]
   rw[this];simp[skp,h]
  ·have hs:lspan not10 (c::l)=lspan not10 l+1:=by simp[lspan,not10,h]
   have h1:skp (c::l) true p ln bg=skp l true (p+1) ln bg:=by simp[skp,h]
   rw[h1,hs,skp_rem l]
   simp only[List.drop_succ_cons]
   congr 1
   omega
theorem skip_any (x:ByteArray) (b p ln bg:Nat) (w:World) (hx:x.size≤65536) (hp:p≤x.size) (hln:ln≤p+1) (hbg:bg≤p) (hb:Sc w b x p ln bg) :
  Calls Tryz.prog 56 #[.pointer (some ⟨b,0,none⟩)] w fun e w'=>e=.returned (.tuple #[])∧∃p' ln' bg',skp (x.data.toList.drop p) false p ln bg=(x.data.toList.drop p',p',ln',bg')∧p≤p'∧p'≤x.size∧ln'≤p'+1∧bg'≤p'∧Sc w' b x p' ln' bg'∧w.grownBy w' (some b)∧w'.heap.size=w.heap.size:=by
 obtain⟨S,hS⟩:∃S,skp (x.data.toList.drop p) false p ln bg=S:=⟨_,rfl⟩
 rw[hS]
 go_enter Tryz.func56,Tryz.ntmps56
 go_wp2
 go_loopw[2] (fun _ wr=>∃p1 ln1 bg1,skp (x.data.toList.drop p1) false p1 ln1 bg1=S∧p≤p1∧p1≤x.size∧ln1≤p1+1∧bg1≤p1∧Sc wr b x p1 ln1 bg1∧w.grownBy wr (some b)∧wr.heap.size=w.heap.size) (fun _ wr=>x.size-scAt wr b)
 case atStart=>exact⟨p,ln,bg,hS,Nat.le_refl _,hp,hln,hbg,hb,grown_refl _ _,rfl⟩
 case round=>
  clear hS hp hln hbg hb
  obtain⟨q,n,g,hS,hpq,hq,hn,hg,hb,hgr,hsz⟩:=hrel
  have HS:=hHi hS
  clear hS
  have e0:=Blk.cell hb 0 (v:=.string x) rfl
  have e1:=Blk.cell hb 1 (v:=.int .i64 (q:Int)) rfl
  have e2:=Blk.cell hb 2 (v:=.int .i64 (n:Int)) rfl
  have e3:=Blk.cell hb 3 (v:=.int .i64 (g:Int)) rfl
  have z:=Blk.frozen hb
  have hl:=Blk.lt hb
  have HZ:=hHi hsz
  clear hsz
  by_cases hlt:q<x.size
  ·have hlt':(q:Int)<x.size:=by omega
   have b0:=bt_eq x q hlt
   have hc:=bt_lt x q
   rw[drop_at x q hlt] at HS
   simp only[skp,b0] at HS
   generalize bt x q=c at *
   have hcase:(c=32∨c=9∨c=13)∨c=10∨c=35∨(c≠32∧c≠9∧c≠13∧c≠10∧c≠35):=by omega
   rcases hcase with h | rfl | rfl | h
   ·rw[if_neg (by omega),if_neg (by simp),if_pos h] at HS
    have hst:Sc (wr.setCell ⟨b,1,none⟩ (.int .i64 ((q:Int)+1))) b x (q+1) n g:=Blk.set hb 1 (.int .i64 ((q:Int)+1))
    have hgs:=grown_trans hgr (grownBy_setCell wr b 1 (.int .i64 ((q:Int)+1)))
    rcases h with rfl | rfl | rfl
    all_goals
     go_wp2
     go_quiet (fail)
     go_wp2
     go_quiet (fail)
     go_wp2
     go_roundw
     case rel=>exact⟨q+1,n,g,HS.out,by omega,by omega,by omega,by omega,hst,grown_drewN hgs _,by have:=HZ.out;simpa using this⟩
     case measure=>exact meas (show Sc (World.drewN _ _) b x (q+1) n g from hst) hb (by omega) hlt
   ·rw[if_pos rfl] at HS
    have hst:Sc (((wr.setCell ⟨b,1,none⟩ (.int .i64 ((q:Int)+1))).setCell ⟨b,2,none⟩ (.int .i64 ((n:Int)+1))).setCell ⟨b,3,none⟩ (.int .i64 ((q:Int)+1))) b x (q+1) (n+1) (q+1):=Blk.set (Blk.set (Blk.set hb 1 (.int .i64 ((q:Int)+1))) 2 (.int .i64 ((n:Int)+1))) 3 (.int .i64 ((q:Int)+1))
    have hgs:=grown_trans (grown_trans (grown_trans hgr (grownBy_setCell wr b 1 (.int .i64 ((q:Int)+1)))) (grownBy_setCell _ b 2 (.int .i64 ((n:Int)+1)))) (grownBy_setCell _ b 3 (.int .i64 ((q:Int)+1)))
    go_wp2
    go_quiet (fail)
    go_wp2
    go_quiet (fail)
    go_wp2
    go_roundw
    case rel=>exact⟨q+1,n+1,q+1,HS.out,by omega,by omega,by omega,by omega,hst,grown_drewN hgs _,by have:=HZ.out;simpa using this⟩
    case measure=>exact meas (show Sc (World.drewN _ _) b x (q+1) (n+1) (q+1) from hst) hb (by omega) hlt
   ·rw[if_neg (by omega),if_neg (by simp),if_neg (by omega),if_pos rfl,skp_rem] at HS
    have HR:Hid _:=fun w=>spanR_any (x.extract q x.size) w
    rw[extract_post] at HR
    have hk:lspan not10 (x.data.toList.drop q)=lspan not10 (x.data.toList.drop (q+1))+1:=by rw[drop_at x q hlt];simp[lspan,not10,b0]
    have hkl:=lspan_le not10 (x.data.toList.drop q)
    rw[List.length_drop,list_len] at hkl
    rw[List.drop_drop] at HS
    generalize lspan not10 (x.data.toList.drop (q+1))=k at *
    rw[hk] at HR hkl
    clear hk
    have hkl':(q:Int)+(k+1)≤x.size:=by omega
    have hwr:IntKind.i64.wrap ((q:Int)+((k:Int)+1))=((q+1+k:Nat):Int):=by rw[wrap_small _ (by omega) (by omega)];omega
    have hst:Sc (wr.setCell ⟨b,1,none⟩ (.int .i64 (IntKind.i64.wrap ((q:Int)+((k:Int)+1))))) b x (q+1+k) n g:=by
     rw[hwr];exact Blk.set hb 1 (.int .i64 (((q+1+k:Nat):Int)))
    have hgs:=grown_trans hgr (grownBy_setCell wr b 1 (.int .i64 (IntKind.i64.wrap ((q:Int)+((k:Int)+1)))))
    clear hwr
    go_wp2
    go_quiet (fail)
    go_wp2
    go_quiet (fail)
    go_wp2
    go_region_with (go_at_call 107;refine (HR.out _).mono ?_;rintro e w' ⟨rfl,rfl⟩)
    all_goals go_wp2
    all_goals exact⟨⟨q+1+k,n,g,HS.out,by omega,by omega,by omega,by omega,hst,grown_drewN hgs _,by have:=HZ.out;simpa using this⟩,meas (show Sc (World.drewN _ _) b x (q+1+k) n g from hst) hb (by omega) hlt⟩
   ·rw[if_neg (by omega),if_neg (by simp),if_neg (by omega),if_neg (by omega)] at HS
    have a1:((c:Int)==32)=false:=by simp;omega
    have a2:((c:Int)==9)=false:=by simp;omega
    have a3:((c:Int)==13)=false:=by simp;omega
    have a4:((c:Int)==10)=false:=by simp;omega
    have a5:((c:Int)==35)=false:=by simp;omega
    clear h
    go_wp2
    go_quiet (fail)
    go_wp2
    go_quiet (fail)
    go_wp2
    exact bodyPost_ret (v:=.tuple #[]) (by simp[results,Tryz.results56,go_sem]) rfl ⟨rfl,q,n,g,by rw[←HS.out,drop_at x q hlt],hpq,hq,hn,hg,hb,grown_drewN hgr _,HZ.out⟩
  ·have hlt':¬(q:Int)<x.size:=by omega
   go_wp2
   go_quiet (fail)
   go_wp2
   exact⟨rfl,.tuple #[],by simp[results,Tryz.results56,go_sem],rfl,q,n,g,by rw[←HS.out,drop_end x q (by omega)];rfl,hpq,hq,hn,hg,hb,grown_drewN hgr _,HZ.out⟩
end
end Go.Proofs.YtcpakcffiopfjaaGreatDoor
