/- readWord, at every text of at most 65536 bytes. (*scanner).pass: a word gets its place, and the scanner goes over it. Rows of words in memory; how many bytes a word has. Where a fault of a set, of a text or of a word can lie. Scan, at every text. -/
import Derived.Test.YtcpakcffiopfjaaGreatDoorA5
import Derived.BigRegion
import Derived.Test.YtcpakcffiopfjaaGreatDoorA0
namespace Go.Proofs.YtcpakcffiopfjaaGreatDoor
open Go.RowKit
set_option linter.unusedVariables false
set_option linter.unusedSimpArgs false
set_option maxRecDepth 100000
set_option maxHeartbeats 16000000
set_option linter.unusedVariables false
set_option linter.unusedSimpArgs false
set_option maxRecDepth 100000
set_option maxHeartbeats 16000000
theorem list_cons (x:ByteArray) (h:0<x.size):x.data.toList=x[0]::x.data.toList.drop 1:=by
 have:=drop_at x 0 h;simpa using this
theorem rdw_cons (c:UInt8) (l:List UInt8):rdw (c::l)=(if great c.toNat then rdLet (c::l) 1 else if small c.toNat then rdLet (c::l) 2 else if digB c.toNat then rdNum (c::l) else if c.toNat=34 then rdText (c::l) else if c.toNat=91 then rdSet (c::l) else if signB c.toNat then .plain 6 1 else .fault 0 11):=rfl
theorem rdw_at (x:ByteArray) (h:0<x.size):rdw x.data.toList=(if great (bt x 0) then rdLet x.data.toList 1 else if small (bt x 0) then rdLet x.data.toList 2 else if digB (bt x 0) then rdNum x.data.toList else if bt x 0=34 then rdText x.data.toList else if bt x 0=91 then rdSet x.data.toList else if signB (bt x 0) then .plain 6 1 else .fault 0 11):=by
 have h1:=rdw_cons x[0] (x.data.toList.drop 1)
 rw[←list_cons x h,bt_eq x 0 h] at h1
 exact h1
theorem readW_any (x:ByteArray) (w:World) (hx:x.size≤65536):Calls Tryz.prog 57 #[.string x] w (Reads w x (rdw x.data.toList)):=by
 obtain⟨R,hR⟩:∃R,rdw x.data.toList=R:=⟨_,rfl⟩
 rw[hR]
 by_cases h0:x.size=0
 ·obtain rfl:=str_empty x h0
  replace hR:RW.plain 7 0=R:=hR
  go_enter Tryz.func57,Tryz.ntmps57
  go_wp2
  refine gen (fun W=>(Blk W _ 104 _∧Blk W _ 37 _)∧Below _ _ W) ⟨⟨(Blk.new _ 104 _).alloc _,Blk.new _ 37 _⟩,((Below.refl _ _).alloc (Nat.le_refl _) _).alloc (by simp) _⟩ ?_
  rintro W ⟨⟨hb,hf⟩,hB'⟩
  rw[World.size_alloc] at hf
  obtain⟨e0,e1,e2,e3,e4,e5,e6,e7,e8,e9,e10⟩:=hb.word
  obtain⟨f0,f1⟩:=hf.pair
  exact bodyPost_ret (v:=rwV [] R (.slice none 0 0)) (by rw[←hR];simp[results,Tryz.results57,go_sem,rwV,wv,fv,St.zero,RW.plain,e0,e1,e2,e3,e4,e5,e6,e7,e8,e9,e10,f0,f1]) rfl ⟨_,rfl,by rw[←hR];exact World.ownsRow_nil _ _ _ _,hB'⟩
 ·have hne:=ne_empty x h0
  have hne':¬x.toList=[]:=by intro h;rw[h] at hne;cases hne
  have k0:0<x.size:=by omega
  have b0:=bt_eq x 0 k0
  have hl:=bt_lt x 0
  rw[rdw_at x k0] at hR
  clear h0
  have HG:Hid _:=fun w=>great_any (bt x 0) w
  have HS:Hid _:=fun w=>small_any (bt x 0) w
  have HD:Hid _:=fun w=>digB_any (bt x 0) w
  generalize bt x 0=c at *
  by_cases hg:great c=true
  ·rw[if_pos hg] at hR
   rw[hg] at HG
   subst hR
   have H:Hid _:=fun w=>readL_any 1 x w
   generalize rdLet x.data.toList 1=R at *
   go_enter Tryz.func57,Tryz.ntmps57
   go_wp2_with (first | (go_at_call 62;refine (HG.out _).mono ?_;rintro e w' ⟨rfl,rfl⟩) | (go_at_call 108;refine (H.out _).mono ?_))
   rintro e w1 ⟨v,rfl,hrow,hb1⟩
   have hW:=(wb_word _).after hb1
   have hF:=(wb_fault _).after hb1
   have hB:=below_of (wb_below _) hb1
   have hrow0:=hrow
   rw[wb_size] at hrow0
   clear hrow hb1 H
   obtain⟨va,vc,rfl⟩:=row_slice hrow0
   have l1:=hW.lt
   have l2:=hF.lt
   obtain⟨e0,e1,e2,e3,e4,e5,e6,e7,e8,e9,e10⟩:=hW.word
   obtain⟨f0,f1⟩:=hF.pair
   have z1:=hW.frozen
   have z2:=hF.frozen
   simp only[rwV,wv,fv]
   go_wp2
   have hb13:=both13 hW hF (by omega) (.int .i64 R.kind) (.string ⟨(x.data.toList.take R.len).toArray⟩) (.slice va R.bytes.length vc) (.int .u64 R.set.a) (.int .u64 R.set.b) (.int .u64 R.set.c) (.int .u64 R.set.d) (.int .i64 R.n) (.int .i64 0) (.int .i64 0) (.int .i64 0) (.int .i64 R.fat) (.int .i64 R.code)
   have hbl:=below2 (below11 hB (Nat.le_refl _) (.int .i64 R.kind) (.string ⟨(x.data.toList.take R.len).toArray⟩) (.slice va R.bytes.length vc) (.int .u64 R.set.a) (.int .u64 R.set.b) (.int .u64 R.set.c) (.int .u64 R.set.d) (.int .i64 R.n) (.int .i64 0) (.int .i64 0) (.int .i64 0)) (Nat.le_succ _) (.int .i64 R.fat) (.int .i64 R.code)
   have hq1:=hb13.1
   have hq2:=hb13.2
   have hq4:=row2 (row11 hrow0 (show w.heap.size<w.heap.size+2 by omega) (.int .i64 R.kind) (.string ⟨(x.data.toList.take R.len).toArray⟩) (.slice va R.bytes.length vc) (.int .u64 R.set.a) (.int .u64 R.set.b) (.int .u64 R.set.c) (.int .u64 R.set.d) (.int .i64 R.n) (.int .i64 0) (.int .i64 0) (.int .i64 0)) (show w.heap.size+1<w.heap.size+2 by omega) (.int .i64 R.fat) (.int .i64 R.code)
   refine gen (fun W=>(Blk W w.heap.size 104 _∧Blk W (w.heap.size+1) 37 _)∧Below w.heap.size w W∧W.ownsRow (w.heap.size+2) 5 1 _ _ _) ⟨⟨hq1,hq2⟩,hbl,hq4⟩ ?_
   rintro W ⟨⟨hb,hf⟩,hB',hrow⟩
   clear e0 e1 e2 e3 e4 e5 e6 e7 e8 e9 e10 f0 f1
   obtain⟨e0,e1,e2,e3,e4,e5,e6,e7,e8,e9,e10⟩:=hb.word
   obtain⟨f0,f1⟩:=hf.pair
   exact bodyPost_ret (v:=rwV x.data.toList R (.slice va R.bytes.length vc)) (by simp[results,Tryz.results57,go_sem,rwV,wv,fv,e0,e1,e2,e3,e4,e5,e6,e7,e8,e9,e10,f0,f1]) rfl ⟨_,rfl,row_mono hrow (by omega),hB'⟩
  have hg':great c=false:=by simpa using hg
  rw[if_neg hg] at hR
  rw[hg'] at HG
  clear hg hg'
  by_cases hs:small c=true
  ·rw[if_pos hs] at hR
   rw[hs] at HS
   subst hR
   have H:Hid _:=fun w=>readL_any 2 x w
   generalize rdLet x.data.toList 2=R at *
   go_enter Tryz.func57,Tryz.ntmps57
   go_wp2_with (first | (go_at_call 62;refine (HG.out _).mono ?_;rintro e w' ⟨rfl,rfl⟩) | (go_at_call 109;refine (HS.out _).mono ?_;rintro e w' ⟨rfl,rfl⟩) | (go_at_call 108;refine (H.out _).mono ?_))
   rintro e w1 ⟨v,rfl,hrow,hb1⟩
   have hW:=(wb_word _).after hb1
   have hF:=(wb_fault _).after hb1
   have hB:=below_of (wb_below _) hb1
   have hrow0:=hrow
   rw[wb_size] at hrow0
   clear hrow hb1 H
   obtain⟨va,vc,rfl⟩:=row_slice hrow0
   have l1:=hW.lt
   have l2:=hF.lt
   obtain⟨e0,e1,e2,e3,e4,e5,e6,e7,e8,e9,e10⟩:=hW.word
   obtain⟨f0,f1⟩:=hF.pair
   have z1:=hW.frozen
   have z2:=hF.frozen
   simp only[rwV,wv,fv]
   go_wp2
   have hb13:=both13 hW hF (by omega) (.int .i64 R.kind) (.string ⟨(x.data.toList.take R.len).toArray⟩) (.slice va R.bytes.length vc) (.int .u64 R.set.a) (.int .u64 R.set.b) (.int .u64 R.set.c) (.int .u64 R.set.d) (.int .i64 R.n) (.int .i64 0) (.int .i64 0) (.int .i64 0) (.int .i64 R.fat) (.int .i64 R.code)
   have hbl:=below2 (below11 hB (Nat.le_refl _) (.int .i64 R.kind) (.string ⟨(x.data.toList.take R.len).toArray⟩) (.slice va R.bytes.length vc) (.int .u64 R.set.a) (.int .u64 R.set.b) (.int .u64 R.set.c) (.int .u64 R.set.d) (.int .i64 R.n) (.int .i64 0) (.int .i64 0) (.int .i64 0)) (Nat.le_succ _) (.int .i64 R.fat) (.int .i64 R.code)
   have hq1:=hb13.1
   have hq2:=hb13.2
   have hq4:=row2 (row11 hrow0 (show w.heap.size<w.heap.size+2 by omega) (.int .i64 R.kind) (.string ⟨(x.data.toList.take R.len).toArray⟩) (.slice va R.bytes.length vc) (.int .u64 R.set.a) (.int .u64 R.set.b) (.int .u64 R.set.c) (.int .u64 R.set.d) (.int .i64 R.n) (.int .i64 0) (.int .i64 0) (.int .i64 0)) (show w.heap.size+1<w.heap.size+2 by omega) (.int .i64 R.fat) (.int .i64 R.code)
   refine gen (fun W=>(Blk W w.heap.size 104 _∧Blk W (w.heap.size+1) 37 _)∧Below w.heap.size w W∧W.ownsRow (w.heap.size+2) 5 1 _ _ _) ⟨⟨hq1,hq2⟩,hbl,hq4⟩ ?_
   rintro W ⟨⟨hb,hf⟩,hB',hrow⟩
   clear e0 e1 e2 e3 e4 e5 e6 e7 e8 e9 e10 f0 f1
   obtain⟨e0,e1,e2,e3,e4,e5,e6,e7,e8,e9,e10⟩:=hb.word
   obtain⟨f0,f1⟩:=hf.pair
   exact bodyPost_ret (v:=rwV x.data.toList R (.slice va R.bytes.length vc)) (by simp[results,Tryz.results57,go_sem,rwV,wv,fv,e0,e1,e2,e3,e4,e5,e6,e7,e8,e9,e10,f0,f1]) rfl ⟨_,rfl,row_mono hrow (by omega),hB'⟩
  have hs':small c=false:=by simpa using hs
  rw[if_neg hs] at hR
  rw[hs'] at HS
  clear hs hs'
  by_cases hd:digB c=true
  ·rw[if_pos hd] at hR
   rw[hd] at HD
   subst hR
   have H:Hid _:=fun w=>readN_any x w k0
   generalize rdNum x.data.toList=R at *
   go_enter Tryz.func57,Tryz.ntmps57
   go_wp2_with (first | (go_at_call 62;refine (HG.out _).mono ?_;rintro e w' ⟨rfl,rfl⟩) | (go_at_call 109;refine (HS.out _).mono ?_;rintro e w' ⟨rfl,rfl⟩) | (go_at_call 110;refine (HD.out _).mono ?_;rintro e w' ⟨rfl,rfl⟩) | (go_at_call 111;refine (H.out _).mono ?_))
   rintro e w1 ⟨v,rfl,hrow,hb1⟩
   have hW:=(wb_word _).after hb1
   have hF:=(wb_fault _).after hb1
   have hB:=below_of (wb_below _) hb1
   have hrow0:=hrow
   rw[wb_size] at hrow0
   clear hrow hb1 H
   obtain⟨va,vc,rfl⟩:=row_slice hrow0
   have l1:=hW.lt
   have l2:=hF.lt
   obtain⟨e0,e1,e2,e3,e4,e5,e6,e7,e8,e9,e10⟩:=hW.word
   obtain⟨f0,f1⟩:=hF.pair
   have z1:=hW.frozen
   have z2:=hF.frozen
   simp only[rwV,wv,fv]
   go_wp2
   have hb13:=both13 hW hF (by omega) (.int .i64 R.kind) (.string ⟨(x.data.toList.take R.len).toArray⟩) (.slice va R.bytes.length vc) (.int .u64 R.set.a) (.int .u64 R.set.b) (.int .u64 R.set.c) (.int .u64 R.set.d) (.int .i64 R.n) (.int .i64 0) (.int .i64 0) (.int .i64 0) (.int .i64 R.fat) (.int .i64 R.code)
   have hbl:=below2 (below11 hB (Nat.le_refl _) (.int .i64 R.kind) (.string ⟨(x.data.toList.take R.len).toArray⟩) (.slice va R.bytes.length vc) (.int .u64 R.set.a) (.int .u64 R.set.b) (.int .u64 R.set.c) (.int .u64 R.set.d) (.int .i64 R.n) (.int .i64 0) (.int .i64 0) (.int .i64 0)) (Nat.le_succ _) (.int .i64 R.fat) (.int .i64 R.code)
   have hq1:=hb13.1
   have hq2:=hb13.2
   have hq4:=row2 (row11 hrow0 (show w.heap.size<w.heap.size+2 by omega) (.int .i64 R.kind) (.string ⟨(x.data.toList.take R.len).toArray⟩) (.slice va R.bytes.length vc) (.int .u64 R.set.a) (.int .u64 R.set.b) (.int .u64 R.set.c) (.int .u64 R.set.d) (.int .i64 R.n) (.int .i64 0) (.int .i64 0) (.int .i64 0)) (show w.heap.size+1<w.heap.size+2 by omega) (.int .i64 R.fat) (.int .i64 R.code)
   refine gen (fun W=>(Blk W w.heap.size 104 _∧Blk W (w.heap.size+1) 37 _)∧Below w.heap.size w W∧W.ownsRow (w.heap.size+2) 5 1 _ _ _) ⟨⟨hq1,hq2⟩,hbl,hq4⟩ ?_
   rintro W ⟨⟨hb,hf⟩,hB',hrow⟩
   clear e0 e1 e2 e3 e4 e5 e6 e7 e8 e9 e10 f0 f1
   obtain⟨e0,e1,e2,e3,e4,e5,e6,e7,e8,e9,e10⟩:=hb.word
   obtain⟨f0,f1⟩:=hf.pair
   exact bodyPost_ret (v:=rwV x.data.toList R (.slice va R.bytes.length vc)) (by simp[results,Tryz.results57,go_sem,rwV,wv,fv,e0,e1,e2,e3,e4,e5,e6,e7,e8,e9,e10,f0,f1]) rfl ⟨_,rfl,row_mono hrow (by omega),hB'⟩
  have hd':digB c=false:=by simpa using hd
  rw[if_neg hd] at hR
  rw[hd'] at HD
  clear hd hd'
  by_cases h34:c=34
  ·subst h34
   rw[if_pos rfl] at hR
   subst hR
   have H:Hid _:=fun w=>readT_any x w hx k0
   generalize rdText x.data.toList=R at *
   go_enter Tryz.func57,Tryz.ntmps57
   go_wp2_with (first | (go_at_call 62;refine (HG.out _).mono ?_;rintro e w' ⟨rfl,rfl⟩) | (go_at_call 109;refine (HS.out _).mono ?_;rintro e w' ⟨rfl,rfl⟩) | (go_at_call 110;refine (HD.out _).mono ?_;rintro e w' ⟨rfl,rfl⟩) | (go_at_call 112;refine (H.out _).mono ?_))
   rintro e w1 ⟨v,rfl,hrow,hb1⟩
   have hW:=(wb_word _).after hb1
   have hF:=(wb_fault _).after hb1
   have hB:=below_of (wb_below _) hb1
   have hrow0:=hrow
   rw[wb_size] at hrow0
   clear hrow hb1 H
   obtain⟨va,vc,rfl⟩:=row_slice hrow0
   have l1:=hW.lt
   have l2:=hF.lt
   obtain⟨e0,e1,e2,e3,e4,e5,e6,e7,e8,e9,e10⟩:=hW.word
   obtain⟨f0,f1⟩:=hF.pair
   have z1:=hW.frozen
   have z2:=hF.frozen
   simp only[rwV,wv,fv]
   go_wp2
   have hb13:=both13 hW hF (by omega) (.int .i64 R.kind) (.string ⟨(x.data.toList.take R.len).toArray⟩) (.slice va R.bytes.length vc) (.int .u64 R.set.a) (.int .u64 R.set.b) (.int .u64 R.set.c) (.int .u64 R.set.d) (.int .i64 R.n) (.int .i64 0) (.int .i64 0) (.int .i64 0) (.int .i64 R.fat) (.int .i64 R.code)
   have hbl:=below2 (below11 hB (Nat.le_refl _) (.int .i64 R.kind) (.string ⟨(x.data.toList.take R.len).toArray⟩) (.slice va R.bytes.length vc) (.int .u64 R.set.a) (.int .u64 R.set.b) (.int .u64 R.set.c) (.int .u64 R.set.d) (.int .i64 R.n) (.int .i64 0) (.int .i64 0) (.int .i64 0)) (Nat.le_succ _) (.int .i64 R.fat) (.int .i64 R.code)
   have hq1:=hb13.1
   have hq2:=hb13.2
   have hq4:=row2 (row11 hrow0 (show w.heap.size<w.heap.size+2 by omega) (.int .i64 R.kind) (.string ⟨(x.data.toList.take R.len).toArray⟩) (.slice va R.bytes.length vc) (.int .u64 R.set.a) (.int .u64 R.set.b) (.int .u64 R.set.c) (.int .u64 R.set.d) (.int .i64 R.n) (.int .i64 0) (.int .i64 0) (.int .i64 0)) (show w.heap.size+1<w.heap.size+2 by omega) (.int .i64 R.fat) (.int .i64 R.code)
   refine gen (fun W=>(Blk W w.heap.size 104 _∧Blk W (w.heap.size+1) 37 _)∧Below w.heap.size w W∧W.ownsRow (w.heap.size+2) 5 1 _ _ _) ⟨⟨hq1,hq2⟩,hbl,hq4⟩ ?_
   rintro W ⟨⟨hb,hf⟩,hB',hrow⟩
   clear e0 e1 e2 e3 e4 e5 e6 e7 e8 e9 e10 f0 f1
   obtain⟨e0,e1,e2,e3,e4,e5,e6,e7,e8,e9,e10⟩:=hb.word
   obtain⟨f0,f1⟩:=hf.pair
   exact bodyPost_ret (v:=rwV x.data.toList R (.slice va R.bytes.length vc)) (by simp[results,Tryz.results57,go_sem,rwV,wv,fv,e0,e1,e2,e3,e4,e5,e6,e7,e8,e9,e10,f0,f1]) rfl ⟨_,rfl,row_mono hrow (by omega),hB'⟩
  have h34b:((c:Int)==34)=false:=by simp;omega
  rw[if_neg h34] at hR
  by_cases h91:c=91
  ·subst h91
   rw[if_pos rfl] at hR
   subst hR
   have H:Hid _:=fun w=>readS_any x w hx k0
   generalize rdSet x.data.toList=R at *
   go_enter Tryz.func57,Tryz.ntmps57
   go_wp2_with (first | (go_at_call 62;refine (HG.out _).mono ?_;rintro e w' ⟨rfl,rfl⟩) | (go_at_call 109;refine (HS.out _).mono ?_;rintro e w' ⟨rfl,rfl⟩) | (go_at_call 110;refine (HD.out _).mono ?_;rintro e w' ⟨rfl,rfl⟩) | (go_at_call 113;refine (H.out _).mono ?_))
   rintro e w1 ⟨v,rfl,hrow,hb1⟩
   have hW:=(wb_word _).after hb1
   have hF:=(wb_fault _).after hb1
   have hB:=below_of (wb_below _) hb1
   have hrow0:=hrow
   rw[wb_size] at hrow0
   clear hrow hb1 H
   obtain⟨va,vc,rfl⟩:=row_slice hrow0
   have l1:=hW.lt
   have l2:=hF.lt
   obtain⟨e0,e1,e2,e3,e4,e5,e6,e7,e8,e9,e10⟩:=hW.word
   obtain⟨f0,f1⟩:=hF.pair
   have z1:=hW.frozen
   have z2:=hF.frozen
   simp only[rwV,wv,fv]
   go_wp2
   have hb13:=both13 hW hF (by omega) (.int .i64 R.kind) (.string ⟨(x.data.toList.take R.len).toArray⟩) (.slice va R.bytes.length vc) (.int .u64 R.set.a) (.int .u64 R.set.b) (.int .u64 R.set.c) (.int .u64 R.set.d) (.int .i64 R.n) (.int .i64 0) (.int .i64 0) (.int .i64 0) (.int .i64 R.fat) (.int .i64 R.code)
   have hbl:=below2 (below11 hB (Nat.le_refl _) (.int .i64 R.kind) (.string ⟨(x.data.toList.take R.len).toArray⟩) (.slice va R.bytes.length vc) (.int .u64 R.set.a) (.int .u64 R.set.b) (.int .u64 R.set.c) (.int .u64 R.set.d) (.int .i64 R.n) (.int .i64 0) (.int .i64 0) (.int .i64 0)) (Nat.le_succ _) (.int .i64 R.fat) (.int .i64 R.code)
   have hq1:=hb13.1
   have hq2:=hb13.2
   have hq4:=row2 (row11 hrow0 (show w.heap.size<w.heap.size+2 by omega) (.int .i64 R.kind) (.string ⟨(x.data.toList.take R.len).toArray⟩) (.slice va R.bytes.length vc) (.int .u64 R.set.a) (.int .u64 R.set.b) (.int .u64 R.set.c) (.int .u64 R.set.d) (.int .i64 R.n) (.int .i64 0) (.int .i64 0) (.int .i64 0)) (show w.heap.size+1<w.heap.size+2 by omega) (.int .i64 R.fat) (.int .i64 R.code)
   refine gen (fun W=>(Blk W w.heap.size 104 _∧Blk W (w.heap.size+1) 37 _)∧Below w.heap.size w W∧W.ownsRow (w.heap.size+2) 5 1 _ _ _) ⟨⟨hq1,hq2⟩,hbl,hq4⟩ ?_
   rintro W ⟨⟨hb,hf⟩,hB',hrow⟩
   clear e0 e1 e2 e3 e4 e5 e6 e7 e8 e9 e10 f0 f1
   obtain⟨e0,e1,e2,e3,e4,e5,e6,e7,e8,e9,e10⟩:=hb.word
   obtain⟨f0,f1⟩:=hf.pair
   exact bodyPost_ret (v:=rwV x.data.toList R (.slice va R.bytes.length vc)) (by simp[results,Tryz.results57,go_sem,rwV,wv,fv,e0,e1,e2,e3,e4,e5,e6,e7,e8,e9,e10,f0,f1]) rfl ⟨_,rfl,row_mono hrow (by omega),hB'⟩
  have h91b:((c:Int)==91)=false:=by simp;omega
  rw[if_neg h91] at hR
  clear h34 h91
  have HI:Hid (∀w,Calls Tryz.prog 114 #[.string ⟨#[61,124,46,59,62,63,42,43,123,125,40,41,95,47,44,45]⟩,.int .u8 c] w fun e w'=>e=.returned (.int .i64 (Lib.indexByte [61,124,46,59,62,63,42,43,123,125,40,41,95,47,44,45] c.toUInt8))∧w'=w):=fun w=>idx_any _ c w
  unfold signB at hR
  generalize Lib.indexByte [61,124,46,59,62,63,42,43,123,125,40,41,95,47,44,45] c.toUInt8=i at *
  by_cases hi:0≤i
  ·rw[if_pos (by simpa using hi)] at hR
   have HN:Hid _:=fun w=>newWord_any 6 (x.extract 0 1) w (by simp;omega)
   have HX:Hid _:=extract_pre x 1
   have k1:(1:Int)≤x.size:=by omega
   go_enter Tryz.func57,Tryz.ntmps57
   go_wp2_with (first | (go_at_call 62;refine (HG.out _).mono ?_;rintro e w' ⟨rfl,rfl⟩) | (go_at_call 109;refine (HS.out _).mono ?_;rintro e w' ⟨rfl,rfl⟩) | (go_at_call 110;refine (HD.out _).mono ?_;rintro e w' ⟨rfl,rfl⟩) | (go_at_call 114;refine (HI.out _).mono ?_;rintro e w' ⟨rfl,rfl⟩) | (go_at_call 115;refine (HN.out _).mono ?_))
   rintro e w1 ⟨rfl,hb1⟩
   have hW:=(wb_word _).after hb1
   have hF:=(wb_fault _).after hb1
   have hB:=below_of (wb_below _) hb1
   clear hb1 HN
   have l1:=hW.lt
   have l2:=hF.lt
   obtain⟨e0,e1,e2,e3,e4,e5,e6,e7,e8,e9,e10⟩:=hW.word
   obtain⟨f0,f1⟩:=hF.pair
   have z1:=hW.frozen
   have z2:=hF.frozen
   simp only[wv,St.zero]
   go_wp2
   have hb13:=both13 hW hF (by omega) (.int .i64 6) (.string (x.extract 0 1)) (.slice none 0 0) (.int .u64 0) (.int .u64 0) (.int .u64 0) (.int .u64 0) (.int .i64 0) (.int .i64 0) (.int .i64 0) (.int .i64 0) (.int .i64 0) (.int .i64 0)
   have hbl:=below2 (below11 hB (Nat.le_refl _) (.int .i64 6) (.string (x.extract 0 1)) (.slice none 0 0) (.int .u64 0) (.int .u64 0) (.int .u64 0) (.int .u64 0) (.int .i64 0) (.int .i64 0) (.int .i64 0) (.int .i64 0)) (Nat.le_succ _) (.int .i64 0) (.int .i64 0)
   have hq1:=hb13.1
   have hq2:=hb13.2
   refine gen (fun W=>(Blk W w.heap.size 104 _∧Blk W (w.heap.size+1) 37 _)∧Below w.heap.size w W) ⟨⟨hq1,hq2⟩,hbl⟩ ?_
   rintro W ⟨⟨hb,hf⟩,hB'⟩
   clear e0 e1 e2 e3 e4 e5 e6 e7 e8 e9 e10 f0 f1
   obtain⟨e0,e1,e2,e3,e4,e5,e6,e7,e8,e9,e10⟩:=hb.word
   obtain⟨f0,f1⟩:=hf.pair
   exact bodyPost_ret (v:=rwV x.data.toList R (.slice none 0 0)) (by rw[←hR];simp[results,Tryz.results57,go_sem,rwV,wv,fv,St.zero,e0,e1,e2,e3,e4,e5,e6,e7,e8,e9,e10,f0,f1,HX.out,RW.plain]) rfl ⟨_,rfl,by rw[←hR];exact World.ownsRow_nil _ _ _ _,hB'⟩
  ·rw[if_neg (by simpa using hi)] at hR
   have hi':i<0:=by omega
   clear hi
   go_enter Tryz.func57,Tryz.ntmps57
   go_wp2_with (first | (go_at_call 62;refine (HG.out _).mono ?_;rintro e w' ⟨rfl,rfl⟩) | (go_at_call 109;refine (HS.out _).mono ?_;rintro e w' ⟨rfl,rfl⟩) | (go_at_call 110;refine (HD.out _).mono ?_;rintro e w' ⟨rfl,rfl⟩) | (go_at_call 114;refine (HI.out _).mono ?_;rintro e w' ⟨rfl,rfl⟩))
   refine gen (fun W=>(Blk W _ 104 _∧Blk W _ 37 _)∧Below _ _ W) ⟨⟨(Blk.new _ 104 _).alloc _,Blk.new _ 37 _⟩,((Below.refl _ _).alloc (Nat.le_refl _) _).alloc (by simp) _⟩ ?_
   rintro W ⟨⟨hb,hf⟩,hB'⟩
   rw[World.size_alloc] at hf
   obtain⟨e0,e1,e2,e3,e4,e5,e6,e7,e8,e9,e10⟩:=hb.word
   obtain⟨f0,f1⟩:=hf.pair
   exact bodyPost_ret (v:=rwV x.data.toList R (.slice none 0 0)) (by rw[←hR];simp[results,Tryz.results57,go_sem,rwV,wv,fv,St.zero,RW.fault,e0,e1,e2,e3,e4,e5,e6,e7,e8,e9,e10,f0,f1]) rfl ⟨_,rfl,by rw[←hR];exact World.ownsRow_nil _ _ _ _,hB'⟩
theorem grown_drew {w W:World} {r:Option Nat} (h:w.grownBy W r):w.grownBy W.drew r:=⟨h.os,h.tape,h.output,h.size,h.block⟩
theorem pass_any (x:ByteArray) (b p ln bg:Nat) (k:Nat) (t:ByteArray) (va:Option Addr) (vn vc:Nat) (s:St) (n:Nat) (w:World) (hp:p+t.size≤65536) (hbg:bg≤p) (hb:Sc w b x p ln bg) :
  Calls Tryz.prog 58 #[.pointer (some ⟨b,0,none⟩),wv k t (.slice va vn vc) s n 0 0 0] w fun e w'=>e=.returned (wv k t (.slice va vn vc) s n p ln (p-bg+1))∧Sc w' b x (p+t.size) ln bg∧w.grownBy w' (some b):=by
 have e0:=Blk.cell hb 0 (v:=.string x) rfl
 have e1:=Blk.cell hb 1 (v:=.int .i64 (p:Int)) rfl
 have e2:=Blk.cell hb 2 (v:=.int .i64 (ln:Int)) rfl
 have e3:=Blk.cell hb 3 (v:=.int .i64 (bg:Int)) rfl
 have z:=Blk.frozen hb
 have hl:=Blk.lt hb
 have hpi:(p:Int)+t.size≤65536:=by omega
 have hbi:(bg:Int)≤p:=by omega
 have hl1:b≠w.heap.size:=by omega
 unfold wv
 go_enter Tryz.func58,Tryz.ntmps58
 go_wp2
 go_region
 all_goals go_wp2
 go_region
 all_goals go_wp2
 have hcol:(p:Int)-bg+1=((p-bg+1:Nat):Int):=by omega
 refine bodyPost_ret (v:=.agg #[.int .i64 (k:Int),.string t,.slice va vn vc,.int .u64 s.a,.int .u64 s.b,.int .u64 s.c,.int .u64 s.d,.int .i64 (n:Int),.int .i64 (p:Int),.int .i64 (ln:Int),.int .i64 ((p:Int)-bg+1)]) (by simp[results,Tryz.results58,go_sem]) rfl ⟨by rw[hcol],?_,?_⟩
 ·exact (Blk.alloc (Blk.alloc (Blk.set hb 1 (.int .i64 ((p:Int)+t.size))) _) _)
 ·exact grown_drew (grown_drew (grown_trans (grown_trans (grownBy_setCell w b 1 _) (World.grownBy_alloc _ _ _)) (World.grownBy_alloc _ _ _)))
def wcell (d:Wd) (v:Value):List Value:=[.int .i64 d.kind,.string ⟨d.text.toArray⟩,v,.int .u64 d.set.a,.int .u64 d.set.b,.int .u64 d.set.c,.int .u64 d.set.d,.int .i64 d.n,.int .i64 d.fro,.int .i64 d.line,.int .i64 d.col]
def wcells (L:List (Wd×Value)):List Value:=L.flatMap fun q=>wcell q.1 q.2
theorem wcells_snoc (L:List (Wd×Value)) (d:Wd) (v:Value):wcells (L++[(d,v)])=wcells L++wcell d v:=by simp[wcells]
structure Words (W:World) (base:Nat) (lv:Value) (L:List (Wd×Value)):Prop where
 row:W.ownsRow base 104 11 lv L.length (wcells L)
 bytes:∀q∈L,W.ownsRow base 5 1 q.2 q.1.bytes.length (bytesV q.1.bytes)
theorem Words.nil (W:World) (base:Nat):Words W base (.slice none 0 0) []:=⟨World.ownsRow_nil _ _ _ _,fun _ h=>by cases h⟩
section
variable {W W':World} {base:Nat} {lv:Value} {L:List (Wd×Value)}
theorem Words.after (h:Words W base lv L) (hb:Below W.heap.size W W'):Words W' base lv L:=⟨row_below h.row hb,fun q hq=>row_below (h.bytes q hq) hb⟩
theorem Words.alloc (h:Words W base lv L) (o:Obj):Words (W.alloc o) base lv L:=⟨h.row.alloc o,fun q hq=>(h.bytes q hq).alloc o⟩
theorem row_kept_lt {e:TypeId} {size:Nat} {v:Value} {n:Nat} {xs:List Value} {b:Nat} (h:W.ownsRow base e size v n xs) (hg:W.grownBy W' (some b)) (hb:b<base):W'.ownsRow base e size v n xs:=by
 refine h.kept hg ?_
 cases hv:v.ownBlock with
 | none=>exact .inl rfl
 | some g=>right;intro e;have:=(h.lt g hv).1;simp at e;omega
theorem Words.kept {b:Nat} (h:Words W base lv L) (hg:W.grownBy W' (some b)) (hb:b<base):Words W' base lv L:=⟨row_kept_lt h.row hg hb,fun q hq=>row_kept_lt (h.bytes q hq) hg hb⟩
theorem Words.mono {base':Nat} (h:Words W base lv L) (hb:base'≤base):Words W base' lv L:=⟨row_mono h.row hb,fun q hq=>row_mono (h.bytes q hq) hb⟩
theorem row_ne {b1 b2:Nat} {e1 e2:TypeId} {s1 s2:Nat} {v1 v2:Value} {n1 n2:Nat} {x1 x2:List Value} (h1:W.ownsRow b1 e1 s1 v1 n1 x1) (h2:W.ownsRow b2 e2 s2 v2 n2 x2) (hne:e1≠e2):v1.ownBlock=none∨v1.ownBlock≠v2.ownBlock:=by
 rcases h1.2 with ⟨rfl,_⟩ | ⟨g,cap,cur,rfl,_,hg,_⟩
 ·exact .inl rfl
 ·right
  rcases h2.2 with ⟨rfl,_⟩ | ⟨g',cap',cur',rfl,_,hg',_⟩
  ·simp[Value.ownBlock]
  ·simp only[Value.ownBlock]
   intro e
   obtain rfl:g=g':=by simpa using e
   have:=hg.symm.trans hg'
   simp at this
   exact hne this.2
theorem Words.push {d:Wd} {v lv':Value} {tmp:Obj} (h:Words W base lv L) (hv:W.ownsRow base 5 1 v d.bytes.length (bytesV d.bytes)) (hrow:W'.ownsRow base 104 11 lv' (L.length+1) (wcells L++wcell d v)) (hg:(W.alloc tmp).grownBy W' lv.ownBlock):Words W' base lv' (L++[(d,v)]):=by
 refine⟨?_,?_⟩
 ·rw[wcells_snoc,List.length_append];exact hrow
 ·intro q hq
  have hq':W.ownsRow base 5 1 q.2 q.1.bytes.length (bytesV q.1.bytes):=by
   rcases List.mem_append.1 hq with hq | hq
   ·exact h.bytes q hq
   ·simp at hq;subst hq;exact hv
  exact (hq'.alloc tmp).kept hg (row_ne (hq'.alloc tmp) (h.row.alloc tmp) (by decide))
end
theorem lspan_pos (p:Nat→Bool) (c:UInt8) (l:List UInt8) (h:p c.toNat=true):1≤lspan p (c::l):=by simp[lspan,h]
theorem quo_pos:∀(f:Nat) (l:List UInt8) (k:Nat) (acc:List Nat),(quo f l k acc).code=0→k<(quo f l k acc).fin
 | 0,l,k,acc,h=>by simp[quo] at h
 | f+1,[],k,acc,h=>by simp[quo] at h
 | f+1,c::l,k,acc,h=>by
  unfold quo at h ⊢
  split at h
  ·rename_i h1;rw[if_pos h1];simp only;omega
  ·rename_i h1
   rw[if_neg h1]
   split at h
   ·rename_i h2
    rw[if_pos h2]
    split at h
    ·simp at h
    ·rename_i h3
     rw[if_neg h3]
     have h4:=quo_pos f _ _ _ h
     omega
   ·rename_i h2
    rw[if_neg h2]
    split at h
    ·rename_i h3
     rw[if_pos h3]
     have h4:=quo_pos f _ _ _ h
     omega
    ·simp at h
theorem rdw_len (r:List UInt8) (h:(rdw r).code=0):(rdw r).len≤r.length∧((rdw r).kind≠7→1≤(rdw r).len)∧((rdw r).kind=7↔r=[]):=by
 cases r with
 | nil=>exact⟨Nat.le_refl _,fun h=>absurd rfl h,by simp[rdw,RW.plain]⟩
 | cons c l=>
  rw[rdw_cons] at h ⊢
  have key:∀q:RW,q.code=0→q.len≤(c::l).length→1≤q.len→q.kind≠7→q.len≤(c::l).length∧(q.kind≠7→1≤q.len)∧(q.kind=7↔c::l=[]):=fun q _ h1 h2 h3=>⟨h1,fun _=>h2,⟨fun e=>absurd e h3,fun e=>by cases e⟩⟩
  by_cases hg:great c.toNat=true
  ·rw[if_pos hg] at h ⊢
   have ha:alnum c.toNat=true:=by unfold alnum;rw[hg];rfl
   unfold rdLet at h ⊢
   split at h
   ·simp[RW.fault] at h
   ·rename_i h1;rw[if_neg h1];exact key _ rfl (lspan_le _ _) (lspan_pos _ _ _ ha) (by simp[RW.plain])
  rw[if_neg hg] at h ⊢
  by_cases hs:small c.toNat=true
  ·rw[if_pos hs] at h ⊢
   have ha:alnum c.toNat=true:=by unfold alnum;rw[hs];simp
   unfold rdLet at h ⊢
   split at h
   ·simp[RW.fault] at h
   ·rename_i h1;rw[if_neg h1];exact key _ rfl (lspan_le _ _) (lspan_pos _ _ _ ha) (by simp[RW.plain])
  rw[if_neg hs] at h ⊢
  by_cases hd:digB c.toNat=true
  ·rw[if_pos hd] at h ⊢
   unfold rdNum at h ⊢
   split at h
   ·simp[RW.fault] at h
   ·rename_i h1;rw[if_neg h1];exact key _ rfl (lspan_le _ _) (lspan_pos _ _ _ hd) (by simp)
  rw[if_neg hd] at h ⊢
  by_cases h34:c.toNat=34
  ·rw[if_pos h34] at h ⊢
   unfold rdText at h ⊢
   split at h
   ·rename_i h1
    rw[if_pos h1]
    have h2:=quo_fin _ _ _ _ h1
    have h3:=quo_pos _ _ _ _ h1
    refine key _ rfl ?_ ?_ (by simp)
    ·show (quo _ _ _ _).fin≤_
     simp only[List.drop_succ_cons,List.drop_zero,List.length_cons] at *;omega
    ·show 1≤(quo _ _ _ _).fin
     simp only[List.drop_succ_cons,List.drop_zero,List.length_cons] at *;omega
   ·rename_i h1;rw[if_neg h1];exact absurd h h1
  rw[if_neg h34] at h ⊢
  by_cases h91:c.toNat=91
  ·rw[if_pos h91] at h ⊢
   unfold rdSet at h ⊢
   split at h
   ·simp[RW.fault] at h
   ·rename_i h1
    rw[if_neg h1]
    split at h
    ·rename_i h2
     rw[if_pos h2]
     have h3:=clo_le ((c::l).drop 1) 1
     refine key _ rfl ?_ ?_ (by simp)
     ·simp only[List.drop_succ_cons,List.drop_zero,List.length_cons] at *;omega
     ·simp only;omega
    ·rename_i h2;exact absurd h h2
  rw[if_neg h91] at h ⊢
  by_cases hsg:signB c.toNat=true
  ·rw[if_pos hsg] at h ⊢
   exact key _ rfl (by simp[RW.plain]) (by simp[RW.plain]) (by simp[RW.plain])
  ·rw[if_neg hsg] at h;simp[RW.fault] at h
theorem sgn_fat (x:ByteArray) (i:Nat):(sgn x i).2.2.1≤x.size:=by
 by_cases h:(sgn x i).2.2.2=0
 ·rw[((sgn_ok x i).2 h).2.2];exact Nat.zero_le _
 ·exact (sgn_bad x i h).1
theorem itm_fat (x:ByteArray) (i:Nat) (hi:i≤x.size):(itm x i).2.2.1≤x.size:=by
 have h1:=sgn_fat x i
 have h2:=sgn_fat x ((sgn x i).2.1+1)
 have h3:=(sgn_ok x i).2
 unfold itm
 repeat' split
 all_goals (simp only;omega)
theorem items_fat (x:ByteArray):∀(m i:Nat) (s:St),i≤x.size→(items x m i s).2.2.1≤x.size
 | 0,i,s,h=>by simp[items]
 | m+1,i,s,h=>by
  unfold items
  have h1:=itm_fat x i h
  have h2:=(itm_ok x i).2
  repeat' split
  ·simp only;omega
  ·simp only;omega
  ·simp only;omega
  ·rename_i h3
   exact items_fat x m _ _ (h2 (by omega)).2.1
theorem prs_fat (x:ByteArray):(prs x).2.1≤x.size:=by
 have key:∀tr i,i≤x.size→(prsB x tr (items x (x.size+1) i St.zero)).2.1≤x.size:=by
  intro tr i hi
  have h:=items_fat x (x.size+1) i St.zero hi
  unfold prsB
  split
  ·exact h
  ·split
   ·simp only;omega
   ·exact Nat.zero_le _
 unfold prs
 split
 ·exact Nat.zero_le _
 ·split
  ·exact Nat.zero_le _
  ·rename_i h0
   split
   ·exact key true 2 (by omega)
   ·exact key false 1 (by omega)
theorem quo_fat:∀(f:Nat) (l:List UInt8) (k:Nat) (acc:List Nat),(quo f l k acc).fat≤k+l.length
 | 0,l,k,acc=>by simp[quo]
 | f+1,[],k,acc=>by simp[quo]
 | f+1,c::l,k,acc=>by
  have h5:(rdql (c::l)).2≤(c::l).length:=rdq_le ⟨(c::l).toArray⟩
  have h1:=quo_fat f ((c::l).drop (rdql (c::l)).2) (k+(rdql (c::l)).2) (acc++[(rdql (c::l)).1])
  have h2:=quo_fat f l (k+1) (acc++[c.toNat])
  rw[List.length_drop] at h1
  simp only[List.length_cons] at *
  unfold quo
  repeat' split
  all_goals (first | (simp only;omega) | omega)
theorem rdw_fat (r:List UInt8):(rdw r).fat≤r.length:=by
 cases r with
 | nil=>exact Nat.le_refl _
 | cons c l=>
  rw[rdw_cons]
  split
  ·unfold rdLet;split<;>exact Nat.zero_le _
  ·split
   ·unfold rdLet;split<;>exact Nat.zero_le _
   ·split
    ·unfold rdNum;split<;>exact Nat.zero_le _
    ·split
     ·unfold rdText
      split
      ·exact Nat.zero_le _
      ·have:=quo_fat (c::l).length l 1 []
       show (quo _ _ _ _).fat≤_
       simp only[List.drop_succ_cons,List.drop_zero,List.length_cons] at *;omega
     ·split
      ·unfold rdSet
       have h3:=clo_le ((c::l).drop 1) 1
       split
       ·exact Nat.zero_le _
       ·split
        ·exact Nat.zero_le _
        ·have h4:=prs_fat ⟨((c::l).take (clo ((c::l).drop 1) 1)).toArray⟩
         have h5:(⟨((c::l).take (clo ((c::l).drop 1) 1)).toArray⟩:ByteArray).size=((c::l).take (clo ((c::l).drop 1) 1)).length:=rfl
         rw[h5,List.length_take] at h4
         show (prs _).2.1≤_
         omega
      ·split<;>exact Nat.zero_le _
theorem info35:(Tryz.prog.info? 104).map (fun i=>(i.zero,i.size,i.bytes))=some (some (.agg #[.int .i64 0,.string ⟨#[]⟩,.slice none 0 0,.int .u64 0,.int .u64 0,.int .u64 0,.int .u64 0,.int .i64 0,.int .i64 0,.int .i64 0,.int .i64 0]),11,112):=by kernel_rfl
theorem eleven_new (w:World) (t:TypeId) (x0 x1 x2 x3 x4 x5 x6 x7 x8 x9 x10:Value):∀j u,[x0,x1,x2,x3,x4,x5,x6,x7,x8,x9,x10][j]?=some u→(w.alloc (.cells #[x0,x1,x2,x3,x4,x5,x6,x7,x8,x9,x10] t)).cell? ((⟨w.heap.size,0,none⟩:Addr).add j)=some u:=by
 intro j u hj
 have hb:=Blk.new w t #[x0,x1,x2,x3,x4,x5,x6,x7,x8,x9,x10]
 have:=hb.cell j (v:=u) (by simpa using hj)
 have e:(⟨w.heap.size,0,none⟩:Addr).add j=⟨w.heap.size,j,none⟩:=by
  unfold Addr.add;split<;>simp_all
 rw[e];exact this
def Scans (w:World) (S:List Wd×Nat×Nat) (e:Ending) (w':World):Prop:=
 ∃lv L,e=.returned (.tuple #[lv,fv S.2.1 S.2.2])∧L.map (·.1)=S.1∧Words w' w.heap.size lv L∧Below w.heap.size w w'
theorem scansV_eq {S:List Wd×Nat×Nat} {ws:List Wd} {b c:Nat} (h:S=(ws,b,c)) (v:Value):Ending.returned (.tuple #[v,.agg #[.int .i64 (b:Int),.int .i64 (c:Int)]])=.returned (.tuple #[v,fv S.2.1 S.2.2]):=by rw[h];rfl
abbrev zw (x:ByteArray) (w:World):World:=(w.alloc (.cells #[.int .i64 0,.int .i64 0] 37)).alloc (.cells #[.string x,.int .i64 0,.int .i64 1,.int .i64 0] 102)
theorem Words.put2 {W:World} {base c:Nat} {lv:Value} {L:List (Wd×Value)} (h:Words W base lv L) (hc:c<base) (u0 u1:Value):Words ((W.setCell ⟨c,0,none⟩ u0).setCell ⟨c,1,none⟩ u1) base lv L:=
 (h.kept (grownBy_setCell W c 0 u0) hc).kept (grownBy_setCell _ c 1 u1) hc
theorem scan_any (x:ByteArray) (w:World):Calls Tryz.prog 20 #[.string x] w (Scans w (scan x.data.toList)):=by
 obtain⟨i0,hi,hz0,hz1,hz2⟩:=info_parts info35
 obtain⟨S,hS⟩:∃S,scan x.data.toList=S:=⟨_,rfl⟩
 rw[hS]
 unfold scan at hS
 by_cases h1:65536<x.size
 ·rw[if_pos (by rw[list_len];exact h1)] at hS
  go_enter Tryz.func20,Tryz.ntmps20
  go_wp2
  exact bodyPost_ret (v:=.tuple #[.slice none 0 0,.agg #[.int .i64 ((0:Nat):Int),.int .i64 ((2:Nat):Int)]]) (by simp[results,Tryz.results20,go_sem]) rfl ⟨_,[],scansV_eq hS.symm _,by rw[←hS];rfl,Words.nil _ _,(Below.refl _ _).alloc (Nat.le_refl _) _⟩
 rw[if_neg (by rw[list_len];exact h1),list_len] at hS
 have hx:x.size≤65536:=by omega
 have hxi:(x.size:Int)≤65536:=by omega
 have hF0:Blk (zw x w) w.heap.size 37 #[.int .i64 0,.int .i64 0]:=(Blk.new w 37 _).alloc _
 have hC0:Sc (zw x w) (w.heap.size+1) x 0 1 0:=by
  have:=Blk.new (w.alloc (.cells #[.int .i64 0,.int .i64 0] 37)) 102 #[.string x,.int .i64 0,.int .i64 1,.int .i64 0]
  rw[World.size_alloc] at this;exact this
 have hB0:Below w.heap.size w (zw x w):=((Below.refl _ _).alloc (Nat.le_refl _) _).alloc (by simp) _
 clear h1
 go_enter Tryz.func20,Tryz.ntmps20
 go_wp2
 go_loopw[5] (fun lv wr=>∃(f p ln bg:Nat) (L:List (Wd×Value)),p≤x.size∧ln≤p+1∧bg≤p∧L.length≤p∧x.size<p+f∧scn f (x.data.toList.drop p) p ln bg (L.map (·.1))=S∧Sc wr (w.heap.size+1) x p ln bg∧Blk wr w.heap.size 37 #[.int .i64 0,.int .i64 0]∧Words wr (w.heap.size+2) lv L∧Below w.heap.size w wr) (fun _ wr=>x.size+1-scAt wr (w.heap.size+1))
 case atStart=>exact⟨x.size+1,0,1,0,[],Nat.zero_le _,by omega,by omega,by simp,by omega,hS,hC0,hF0,Words.nil _ _,hB0⟩
 case round=>
  clear hS hC0 hF0 hB0
  obtain⟨f,p,ln,bg,L,hp,hln,hbg,hLp,hf,hS,hC,hF,hWs,hB⟩:=hrel
  have hmeas:=hC.pos
  have HM:=hHi hmeas
  clear hmeas
  have HK:=hU (skip_any x (w.heap.size+1) p ln bg wr hx hp hln hbg hC)
  have lF:=hF.lt
  have hbs:w.heap.size+2≤wr.heap.size:=Blk.lt hC
  go_wp2_with (go_at_call 56;refine hMo HK ?_)
  rintro e w1 ⟨rfl,p',ln',bg',hsk,hpp,hp',hln',hbg',hC1,hg1,hz⟩
  have hF1:=hF.kept hg1 (by simp)
  have hW1:=hWs.kept hg1 (Nat.lt_succ_self _)
  have hB1:=hB.grown hg1 hB.size (fun k hk=>by simp at hk;omega)
  obtain⟨f,rfl⟩:∃f',f=f'+1:=⟨f-1,by omega⟩
  simp only[scn,hsk] at hS
  clear hsk HK hC hF hWs hB hg1
  have HS:=hHi hS
  clear hS
  have HR:Hid _:=fun w=>readW_any (x.extract p' x.size) w (by simp;omega)
  rw[extract_post] at HR
  have hlen:=rdw_len (x.data.toList.drop p')
  have hfat:=rdw_fat (x.data.toList.drop p')
  have hdl:(x.data.toList.drop p').length=x.size-p':=by rw[List.length_drop,list_len]
  rw[hdl] at hlen hfat
  have HDN:Hid ((x.data.toList.drop p'=[]↔p'=x.size)):=by
   constructor
   ·intro h;rw[h] at hdl;simp at hdl;omega
   ·intro h;exact drop_end x p' (by omega)
  have HTL:=hHi hdl
  clear hdl
  have e1:=Blk.cell hC1 1 (v:=.int .i64 (p':Int)) rfl
  have z1:=Blk.frozen hC1
  have l1:=Blk.lt hC1
  have hp'i:(p':Int)≤x.size:=by omega
  have hbs1:w.heap.size+2≤w1.heap.size:=l1
  clear hz
  generalize hq:rdw (x.data.toList.drop p')=q at *
  clear hq
  go_wp2_with (go_at_call 57;refine (HR.out _).mono ?_)
  rintro e w2 ⟨v,rfl,hrow,hb2⟩
  have hC2:Sc w2 (w.heap.size+1) x p' ln' bg':=Blk.after hC1 hb2
  have hF2:=hF1.after hb2
  have hW2:=hW1.after hb2
  have hB2:=below_of hB1 hb2
  have hrow2:=row_mono hrow hbs1
  rw[extract_post]
  obtain⟨va,vc,rfl⟩:=row_slice hrow2
  clear hrow hb2 HR hC1 hF1 hW1 hB1 e1 z1
  have e1:=Blk.cell hC2 1 (v:=.int .i64 (p':Int)) rfl
  obtain⟨f0,f1⟩:=(show Blk w2 w.heap.size 37 #[.int .i64 0,.int .i64 0] from hF2).pair
  have z1:=Blk.frozen hC2
  have z2:=hF2.frozen
  have l2:=Blk.lt hC2
  have l3:=hF2.lt
  simp only[rwV,wv,fv]
  by_cases hcd:q.code=0
  ·obtain⟨hl1,hl2,hl3⟩:=hlen hcd
   rw[if_neg (by simpa using hcd)] at HS
   clear hlen
   obtain⟨kind,len,bs,st,nn,fat,code⟩:=q
   simp only at hcd
   subst hcd
   simp only at HS hl1 hl2 hl3 hfat hrow2
   replace hl3:=hl3.trans HDN.out
   have ht:(⟨((x.data.toList.drop p').take len).toArray⟩:ByteArray).size=len:=by
    show ((x.data.toList.drop p').take len).length=_
    rw[List.length_take,HTL.out];omega
   have hC3:Sc ((w2.alloc (.cells #[.int .i64 (kind:Int),.string ⟨((x.data.toList.drop p').take len).toArray⟩,.slice va bs.length vc,.int .u64 st.a,.int .u64 st.b,.int .u64 st.c,.int .u64 st.d,.int .i64 (nn:Int),.int .i64 0,.int .i64 0,.int .i64 0] 104)).alloc (.cells #[.int .i64 (fat:Int),.int .i64 0] 37)) (w.heap.size+1) x p' ln' bg':=Blk.alloc (Blk.alloc hC2 _) _
   have hF3:=(hF2.alloc (.cells #[.int .i64 (kind:Int),.string ⟨((x.data.toList.drop p').take len).toArray⟩,.slice va bs.length vc,.int .u64 st.a,.int .u64 st.b,.int .u64 st.c,.int .u64 st.d,.int .i64 (nn:Int),.int .i64 0,.int .i64 0,.int .i64 0] 104)).alloc (.cells #[.int .i64 (fat:Int),.int .i64 0] 37)
   have hW3:=(hW2.alloc (.cells #[.int .i64 (kind:Int),.string ⟨((x.data.toList.drop p').take len).toArray⟩,.slice va bs.length vc,.int .u64 st.a,.int .u64 st.b,.int .u64 st.c,.int .u64 st.d,.int .i64 (nn:Int),.int .i64 0,.int .i64 0,.int .i64 0] 104)).alloc (.cells #[.int .i64 (fat:Int),.int .i64 0] 37)
   have hr3:=(hrow2.alloc (.cells #[.int .i64 (kind:Int),.string ⟨((x.data.toList.drop p').take len).toArray⟩,.slice va bs.length vc,.int .u64 st.a,.int .u64 st.b,.int .u64 st.c,.int .u64 st.d,.int .i64 (nn:Int),.int .i64 0,.int .i64 0,.int .i64 0] 104)).alloc (.cells #[.int .i64 (fat:Int),.int .i64 0] 37)
   have hN3:=(Blk.new w2 104 #[.int .i64 (kind:Int),.string ⟨((x.data.toList.drop p').take len).toArray⟩,.slice va bs.length vc,.int .u64 st.a,.int .u64 st.b,.int .u64 st.c,.int .u64 st.d,.int .i64 (nn:Int),.int .i64 0,.int .i64 0,.int .i64 0]).alloc (.cells #[.int .i64 (fat:Int),.int .i64 0] 37)
   have hB3:=(hB2.alloc hB2.size (.cells #[.int .i64 (kind:Int),.string ⟨((x.data.toList.drop p').take len).toArray⟩,.slice va bs.length vc,.int .u64 st.a,.int .u64 st.b,.int .u64 st.c,.int .u64 st.d,.int .i64 (nn:Int),.int .i64 0,.int .i64 0,.int .i64 0] 104)).alloc (by have:=hB2.size;simp;omega) (.cells #[.int .i64 (fat:Int),.int .i64 0] 37)
   have HP:=hU (pass_any x (w.heap.size+1) p' ln' bg' kind ⟨((x.data.toList.drop p').take len).toArray⟩ va bs.length vc st nn _ (by rw[ht];omega) hbg' hC3)
   rw[ht] at HP
   simp only[wv] at HP
   clear ht
   have hgl:∀g,(Value.ownBlock u5)=some g→g<w2.heap.size:=fun g hg=>(hW2.row.lt g hg).2
   clear hC3 hC2 hF2 hW2 hrow2 hB2
   go_wp2_with (go_at_call 58;refine hMo HP ?_)
   rintro e w3 ⟨rfl,hC4,hg3⟩
   have hF4:=hF3.kept hg3 (by simp)
   have hW4:=hW3.kept hg3 (Nat.lt_succ_self _)
   have hr4:=row_kept_lt hr3 hg3 (Nat.lt_succ_self _)
   have hN4:=hN3.kept hg3 (by simp;omega)
   have hB4:=hB3.grown hg3 hB3.size (fun k hk=>by simp at hk;omega)
   have hbs4:w.heap.size+2≤w3.heap.size:=Blk.lt hC4
   have hln4:=hN4.lt
   clear hF3 hW3 hr3 hN3 hB3 hg3 HP f0 f1 z1 z2 e1
   go_wp2_with (at_builtin;refine wpList_append_own _ rfl _ _ 42 rfl (w.heap.size+2) 104 i0 (.agg #[.int .i64 0,.string ⟨#[]⟩,.slice none 0 0,.int .u64 0,.int .u64 0,.int .u64 0,.int .u64 0,.int .i64 0,.int .i64 0,.int .i64 0,.int .i64 0]) 11 112 Tryz.underlying42 hi hz0 hz1 hz2 rfl (by decide) _ _ _ rfl (hW4.row.alloc _) ⟨w3.heap.size,0,none⟩ 1 1 [.int .i64 (kind:Int),.string ⟨((x.data.toList.drop p').take len).toArray⟩,.slice va bs.length vc,.int .u64 st.a,.int .u64 st.b,.int .u64 st.c,.int .u64 st.d,.int .i64 (nn:Int),.int .i64 (p':Int),.int .i64 (ln':Int),.int .i64 ((p' - bg'+1:Nat):Int)] rfl rfl ?c1 ?c2 ?c3 ?c4 ?c5 ?_)
   case c1=>exact eleven_new _ _ _ _ _ _ _ _ _ _ _ _ _
   case c2=>intro u hu;simp at hu;rcases hu with rfl | rfl | rfl | rfl | rfl | rfl | rfl | rfl | rfl | rfl | rfl<;>rfl
   case c3=>unfold maxLen;omega
   case c4=>omega
   case c5=>simp;omega
   intro lv' w4 hown' hgrow _
   have hW5:Words w4 (w.heap.size+2) lv' (L++[(mkWd (x.data.toList.drop p') ⟨kind,len,bs,st,nn,fat,0⟩ p' ln' bg',.slice va bs.length vc)]):=hW4.push hr4 hown' hgrow
   have hC5:Sc w4 (w.heap.size+1) x (p'+len) ln' bg':=(Blk.alloc hC4 (.cells #[.int .i64 (kind:Int),.string ⟨((x.data.toList.drop p').take len).toArray⟩,.slice va bs.length vc,.int .u64 st.a,.int .u64 st.b,.int .u64 st.c,.int .u64 st.d,.int .i64 (nn:Int),.int .i64 (p':Int),.int .i64 (ln':Int),.int .i64 ((p' - bg'+1:Nat):Int)] 104)).kept hgrow (Blk.not_row hC4 (by decide) hW4.row)
   have hF5:=(hF4.alloc (.cells #[.int .i64 (kind:Int),.string ⟨((x.data.toList.drop p').take len).toArray⟩,.slice va bs.length vc,.int .u64 st.a,.int .u64 st.b,.int .u64 st.c,.int .u64 st.d,.int .i64 (nn:Int),.int .i64 (p':Int),.int .i64 (ln':Int),.int .i64 ((p' - bg'+1:Nat):Int)] 104)).kept hgrow (hF4.not_row (by decide) hW4.row)
   have hN5:=(hN4.alloc (.cells #[.int .i64 (kind:Int),.string ⟨((x.data.toList.drop p').take len).toArray⟩,.slice va bs.length vc,.int .u64 st.a,.int .u64 st.b,.int .u64 st.c,.int .u64 st.d,.int .i64 (nn:Int),.int .i64 (p':Int),.int .i64 (ln':Int),.int .i64 ((p' - bg'+1:Nat):Int)] 104)).kept hgrow (by intro e;have:=hgl _ e.symm;omega)
   have hB5:=(hB4.alloc hB4.size (.cells #[.int .i64 (kind:Int),.string ⟨((x.data.toList.drop p').take len).toArray⟩,.slice va bs.length vc,.int .u64 st.a,.int .u64 st.b,.int .u64 st.c,.int .u64 st.d,.int .i64 (nn:Int),.int .i64 (p':Int),.int .i64 (ln':Int),.int .i64 ((p' - bg'+1:Nat):Int)] 104)).grown hgrow (by have:=hB4.size;simp;omega) (fun j hj=>by have:=(hW4.row.lt j hj).1;omega)
   have n0:=hN5.cell 0 (v:=.int .i64 (kind:Int)) rfl
   have l5:=hF5.lt
   obtain⟨f0,f1⟩:=(show Blk w4 w.heap.size 37 #[.int .i64 0,.int .i64 0] from hF5).pair
   have z2:=hF5.frozen
   obtain⟨va',vc',rfl⟩:=row_slice hown'
   clear hC4 hF4 hN4 hB4 hr4 hgrow hown' hW4
   by_cases hk7:kind=7
   ·subst hk7
    rw[if_pos rfl] at HS
    go_wp2
    refine bodyPost_ret (v:=.tuple #[.slice va' (L.length+1) vc',.agg #[.int .i64 ((0:Nat):Int),.int .i64 ((0:Nat):Int)]]) (by simp[results,Tryz.results20,go_sem,f0,f1]) rfl ⟨_,_,scansV_eq HS.out.symm _,?_,(hW5.put2 (Nat.lt_add_of_pos_right (by decide)) _ _).mono (by omega),put2 hB5⟩
    rw[←HS.out];simp
   ·rw[if_neg hk7,List.drop_drop] at HS
    have hk7b:((kind:Int)==7)=false:=by simp;omega
    have h1:=hl2 hk7
    go_wp2
    go_roundw
    case rel=>exact⟨f,p'+len,ln',bg',_,by omega,by omega,by omega,by simp;omega,by omega,by rw[List.map_append];exact HS.out,hC5,hF5,hW5,hB5⟩
    case measure=>rw[hC5.pos,HM.out];omega
  ·rw[if_pos hcd] at HS
   have hcd':((q.code:Int) != 0)=true:=by simp;omega
   have hfi:(p':Int)+q.fat≤65536:=by omega
   clear hlen
   go_wp2
   go_region
   all_goals go_wp2
   have hB3:=(((put2 (u:=.int .i64 ((p':Int)+q.fat)) (v:=.int .i64 q.code) hB2).alloc (by have:=hB2.size;simp;omega) (.cells #[.int .i64 q.kind,.string ⟨((x.data.toList.drop p').take q.len).toArray⟩,.slice va q.bytes.length vc,.int .u64 q.set.a,.int .u64 q.set.b,.int .u64 q.set.c,.int .u64 q.set.d,.int .i64 q.n,.int .i64 0,.int .i64 0,.int .i64 0] 104)).alloc (by have:=hB2.size;simp;omega) (.cells #[.int .i64 q.fat,.int .i64 q.code] 37)).drew
   refine bodyPost_ret (v:=.tuple #[.slice none 0 0,.agg #[.int .i64 ((p'+q.fat:Nat):Int),.int .i64 q.code]]) (by simp[results,Tryz.results20,go_sem,f0,f1,l3]) rfl ⟨_,[],scansV_eq HS.out.symm _,by rw[←HS.out];rfl,Words.nil _ _,hB3⟩
end Go.Proofs.YtcpakcffiopfjaaGreatDoor
