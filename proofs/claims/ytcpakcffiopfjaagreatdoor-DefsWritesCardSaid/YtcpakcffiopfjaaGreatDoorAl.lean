/- Whether all elements of a list are right: defs.all. -/
import Derived.Test.YtcpakcffiopfjaaGreatDoorA0
import Derived.Deep.SlicePairs
namespace Go.Proofs.YtcpakcffiopfjaaGreatDoor
open Go.RowKit
set_option linter.unusedVariables false
set_option linter.unusedSimpArgs false
set_option maxRecDepth 100000
set_option maxHeartbeats 16000000
set_option linter.unusedVariables false
set_option linter.unusedSimpArgs false
set_option maxRecDepth 100000
set_option maxHeartbeats 16000000
theorem cell_new {w:World} {cs:Array Value} {t:TypeId} (j:Nat) {v:Value} (h:cs[j]?=some v):(w.alloc (.cells cs t)).cell? ⟨w.heap.size,j,none⟩=some v:=by
 rw[World.cell?_alloc_new];exact h
theorem below_tr {w W W':World} (h:Below w.heap.size w W) (h':Below W.heap.size W W'):Below w.heap.size w W':=h.trans (h'.mono h.size)
theorem any_take {α:Type} {q:α→Bool} {l:List α} {k:Nat} {x:α} (h:l[k]?=some x):(l.take (k+1)).any q=((l.take k).any q||q x):=by
 have h:=List.getElem?_eq_some_iff.1 h
 rw[List.take_succ_eq_append_getElem h.1,h.2,List.any_append]
 simp
theorem any_mem {α:Type} {q:α→Bool} {l:List α} {k:Nat} {x:α} (h:l[k]?=some x) (hq:q x=true):l.any q=true:=List.any_eq_true.2 ⟨x,List.mem_of_getElem? h,hq⟩
theorem idx_sym (Q:Sy→Bool) (P:Nat) (l:List Sy) (a:Option Addr) (c:Nat) (w:World) (hlen:l.length≤140737488355328) (hr:Row w w.heap.size 8 SyV a l) (HK0:∀x∈l,x.set.ok→∀W,Below w.heap.size w W→Calls Tryz.prog 133 #[.agg #[.int .i64 x.kind,.string x.text,.int .u64 x.set.a,.int .u64 x.set.b,.int .u64 x.set.c,.int .u64 x.set.d,.string x.name,.string x.sep],.pointer (some ⟨P,0,none⟩)] W fun e W'=>e=.returned (.bool (Q x))∧Below W.heap.size W W') :
  Calls Tryz.prog 176 #[.slice a l.length c,.func (.func 133) #[] #[.pointer (some ⟨P,0,none⟩)]] w fun e w'=>(∃i:Int,e=.returned (.int .i64 i)∧-1≤i∧(0≤i↔l.any Q=true))∧Below w.heap.size w w':=by
 have HR:=hHi hr
 have HK:=hHi HK0
 clear hr HK0
 go_enter Tryz.func176,Tryz.ntmps176
 go_wp2
 go_loopw[5,8] (fun _ iv W=>∃k:Nat,k≤l.length∧iv=.int .i64 k∧(l.take k).any Q=false∧Below w.heap.size w W) (fun _ iv _=>l.length-(intOf iv).toNat)
 case atStart=>exact⟨0,Nat.zero_le _,rfl,rfl,Below.refl _ _⟩
 case round=>
  obtain⟨k,hk,rfl,hh,hB⟩:=hrel
  have HH:=hHi hh
  clear hh
  by_cases hlt:k<l.length
  ·obtain⟨x,hx⟩:∃x,l[k]?=some x:=⟨l[k],by simp[hlt]⟩
   have hr:=HR.out
   obtain⟨b,o,us,hab,hblt,⟨hfact,rfl⟩,hc⟩:=hr k x hx
   subst hab
   have hq_:=hcb hB hblt hc
   have c0:=hq_ 0 _ rfl
   have c1:=hq_ 1 _ rfl
   have c2:=hq_ 2 _ rfl
   have c3:=hq_ 3 _ rfl
   have c4:=hq_ 4 _ rfl
   have c5:=hq_ 5 _ rfl
   have c6:=hq_ 6 _ rfl
   have c7:=hq_ 7 _ rfl
   clear hq_
   rw[Nat.add_zero] at c0
   have hltI:(k:Int)<l.length:=by omega
   have HC:Hid _:=HK.out x (List.mem_of_getElem? hx) hfact wr hB
   have HX:=hHi hx
   clear hr hx hc
   cases h3:Q x with
   | true=>
    rw[h3] at HC
    have HMM:Hid _:=any_mem HX.out h3
    clear h3
    go_wp2_with fail
    refine Calls.mono HC.out ?_
    rintro e w6 ⟨rfl,hb6⟩
    have HB6:Hid (Below w.heap.size w w6):=below_tr hB hb6
    clear hb6 c0 c1 c2 c3 c4 c5 c6 c7
    go_wp2
    go_ret
    exact⟨⟨(k:Int),rfl,by omega,by rw[HMM.out];simp⟩,HB6.out⟩
   | false=>
    rw[h3] at HC
    have HE:Hid ((l.take (k+1)).any Q=false):=by show _=_;rw[any_take HX.out,h3,HH.out];rfl
    clear h3
    go_wp2_with fail
    refine Calls.mono HC.out ?_
    rintro e w6 ⟨rfl,hb6⟩
    have HB6:Hid (Below w.heap.size w w6):=below_tr hB hb6
    clear hb6 c0 c1 c2 c3 c4 c5 c6 c7
    go_wp2
    go_roundw
    case rel=>exact⟨k+1,by omega,by go_num,HE.out,HB6.out⟩
    case measure=>simp[intOf];omega
  ·obtain rfl:k=l.length:=by omega
   rw[List.take_length] at HH
   go_wp2
   go_ret
   exact⟨⟨-1,rfl,by omega,by rw[HH.out];simp⟩,hB⟩
theorem con_sym (Q:Sy→Bool) (P:Nat) (l:List Sy) (a:Option Addr) (c:Nat) (w:World) (hlen:l.length≤140737488355328) (hr:Row w w.heap.size 8 SyV a l) (HK0:∀x∈l,x.set.ok→∀W,Below w.heap.size w W→Calls Tryz.prog 133 #[.agg #[.int .i64 x.kind,.string x.text,.int .u64 x.set.a,.int .u64 x.set.b,.int .u64 x.set.c,.int .u64 x.set.d,.string x.name,.string x.sep],.pointer (some ⟨P,0,none⟩)] W fun e W'=>e=.returned (.bool (Q x))∧Below W.heap.size W W') :
  Calls Tryz.prog 132 #[.slice a l.length c,.func (.func 133) #[] #[.pointer (some ⟨P,0,none⟩)]] w fun e w'=>e=.returned (.bool (l.any Q))∧Below w.heap.size w w':=by
 have HC:=hU (idx_sym Q P l a c w hlen hr HK0)
 clear hr HK0
 go_enter Tryz.func132,Tryz.ntmps132
 go_wp2_with (go_at_call 176;refine hMo HC ?_)
 rintro e w6 ⟨⟨i,rfl,h1,h2⟩,hb6⟩
 have hd:decide (0≤i)=l.any Q:=by
  by_cases hi:0≤i
  ·rw[decide_eq_true hi,h2.1 hi]
  ·rw[decide_eq_false hi]
   cases h:l.any Q
   ·rfl
   ·exact absurd (h2.2 h) hi
 have HD:=hHi hd
 clear hd h2
 go_wp2
 go_ret
 exact⟨by rw[HD.out];rfl,hb6⟩
theorem all_sym (q:Sy→Bool) (l:List Sy) (lv:Value) (w:World) (hl:Sl w w.heap.size 8 SyV l lv) (HK0:∀x∈l,x.set.ok→∀W,Below w.heap.size w W→Calls Tryz.prog 82 #[.agg #[.int .i64 x.kind,.string x.text,.int .u64 x.set.a,.int .u64 x.set.b,.int .u64 x.set.c,.int .u64 x.set.d,.string x.name,.string x.sep]] W fun e W'=>e=.returned (.bool (q x))∧Below W.heap.size W W') :
  Calls Tryz.prog 81 #[lv,.func (.func 82) #[] #[]] w fun e w'=>e=.returned (.bool (l.all q))∧Below w.heap.size w w':=by
 obtain⟨a,c,rfl,hcap,hlen,hr⟩:=hl
 obtain⟨w1,hw1⟩:∃w1,w.alloc (.cells #[.func (.func 82) #[] #[]] 138)=w1:=⟨_,rfl⟩
 have b1:Below w.heap.size w w1:=by rw[←hw1];exact (Below.refl _ _).alloc (Nat.le_refl _) _
 have s1:w1.heap.size=w.heap.size+1:=by rw[←hw1];simp
 have p1:w1.cell? ⟨w.heap.size,0,none⟩=some (.func (.func 82) #[] #[]):=by rw[←hw1];exact cell_new 0 rfl
 have HCC:Hid _:=fun (_:Unit)=>con_sym (fun x=>!q x) w.heap.size l a c w1 hlen (hr.keep b1 b1.size (fun x vs _ h=>h)) (fun x hx hok W hW=>by
  have pW:=(hW.cell (p:=⟨w.heap.size,0,none⟩) (by show w.heap.size<_;omega)).trans p1
  obtain⟨W1,hW1⟩:∃W1,W.alloc (.cells #[.int .i64 x.kind,.string x.text,.int .u64 x.set.a,.int .u64 x.set.b,.int .u64 x.set.c,.int .u64 x.set.d,.string x.name,.string x.sep] 134)=W1:=⟨_,rfl⟩
  have bb:Below W.heap.size W W1:=by rw[←hW1];exact (Below.refl _ _).alloc (Nat.le_refl _) _
  have hsW:w.heap.size<W.heap.size:=by have:=hW.size;omega
  have pW1:=(bb.cell (p:=⟨w.heap.size,0,none⟩) hsW).trans pW
  have HC1:Hid _:=HK0 x hx hok W1 ((b1.trans (hW.mono (by omega))).trans (bb.mono (by have:=hW.size;omega)))
  have t0:W1.cell? ⟨W.heap.size,0,none⟩=some (.int .i64 x.kind):=by rw[←hW1];exact cell_new 0 rfl
  have t1:W1.cell? ⟨W.heap.size,1,none⟩=some (.string x.text):=by rw[←hW1];exact cell_new 1 rfl
  have t2:W1.cell? ⟨W.heap.size,2,none⟩=some (.int .u64 x.set.a):=by rw[←hW1];exact cell_new 2 rfl
  have t3:W1.cell? ⟨W.heap.size,3,none⟩=some (.int .u64 x.set.b):=by rw[←hW1];exact cell_new 3 rfl
  have t4:W1.cell? ⟨W.heap.size,4,none⟩=some (.int .u64 x.set.c):=by rw[←hW1];exact cell_new 4 rfl
  have t5:W1.cell? ⟨W.heap.size,5,none⟩=some (.int .u64 x.set.d):=by rw[←hW1];exact cell_new 5 rfl
  have t6:W1.cell? ⟨W.heap.size,6,none⟩=some (.string x.name):=by rw[←hW1];exact cell_new 6 rfl
  have t7:W1.cell? ⟨W.heap.size,7,none⟩=some (.string x.sep):=by rw[←hW1];exact cell_new 7 rfl
  have HBB:=hHi bb
  clear pW bb HK0 hW
  go_enter Tryz.func133,Tryz.ntmps133
  go_wp2_with fail
  refine Calls.mono HC1.out ?_
  rintro e w6 ⟨rfl,hb6⟩
  have HB6:Hid _:=below_tr HBB.out hb6
  clear hb6
  go_wp2
  go_ret
  exact⟨rfl,HB6.out⟩)
 have HW1:=hHi b1
 have HAL:Hid ((!l.any (fun x=>!q x))=l.all q):=by show _=_;rw[List.all_eq_not_any_not]
 clear p1 b1 HK0 hr
 go_enter Tryz.func81,Tryz.ntmps81
 go_wp2_with (go_at_call 132;refine hMo HCC ?_)
 rintro e w6 ⟨rfl,hb6⟩
 have HB6:Hid _:=below_tr HW1.out hb6
 clear hb6
 go_wp2
 go_ret
 exact⟨by rw[HAL.out];rfl,HB6.out⟩
theorem idx_prod (Q:Pr→Bool) (P:Nat) (l:List Pr) (a:Option Addr) (c:Nat) (w:World) (hlen:l.length≤140737488355328) (hr:Row w w.heap.size 5 (PrV w w.heap.size) a l) (HK0:∀x∈l,∀v,∀W,Below w.heap.size w W→Sl W W.heap.size 8 SyV x.syms v→Calls Tryz.prog 79 #[.agg #[.bool x.lex,.string x.sort,.string x.cons,.bool x.bracket,v],.pointer (some ⟨P,0,none⟩)] W fun e W'=>e=.returned (.bool (Q x))∧Below W.heap.size W W') :
  Calls Tryz.prog 131 #[.slice a l.length c,.func (.func 79) #[] #[.pointer (some ⟨P,0,none⟩)]] w fun e w'=>(∃i:Int,e=.returned (.int .i64 i)∧-1≤i∧(0≤i↔l.any Q=true))∧Below w.heap.size w w':=by
 have HR:=hHi hr
 have HK:=hHi HK0
 clear hr HK0
 go_enter Tryz.func131,Tryz.ntmps131
 go_wp2
 go_loopw[5,8] (fun _ iv W=>∃k:Nat,k≤l.length∧iv=.int .i64 k∧(l.take k).any Q=false∧Below w.heap.size w W) (fun _ iv _=>l.length-(intOf iv).toNat)
 case atStart=>exact⟨0,Nat.zero_le _,rfl,rfl,Below.refl _ _⟩
 case round=>
  obtain⟨k,hk,rfl,hh,hB⟩:=hrel
  have HH:=hHi hh
  clear hh
  by_cases hlt:k<l.length
  ·obtain⟨x,hx⟩:∃x,l[k]?=some x:=⟨l[k],by simp[hlt]⟩
   have hr:=HR.out
   obtain⟨b,o,us,hab,hblt,⟨v,rfl,hfact⟩,hc⟩:=hr k x hx
   subst hab
   have hq_:=hcb hB hblt hc
   have c0:=hq_ 0 _ rfl
   have c1:=hq_ 1 _ rfl
   have c2:=hq_ 2 _ rfl
   have c3:=hq_ 3 _ rfl
   have c4:=hq_ 4 _ rfl
   clear hq_
   rw[Nat.add_zero] at c0
   have hltI:(k:Int)<l.length:=by omega
   have HC:Hid _:=HK.out x (List.mem_of_getElem? hx) v wr hB (hfact.keep hB hB.size (fun _ _ _ h=>h))
   have HX:=hHi hx
   clear hr hx hc
   cases h3:Q x with
   | true=>
    rw[h3] at HC
    have HMM:Hid _:=any_mem HX.out h3
    clear h3
    go_wp2_with fail
    refine Calls.mono HC.out ?_
    rintro e w6 ⟨rfl,hb6⟩
    have HB6:Hid (Below w.heap.size w w6):=below_tr hB hb6
    clear hb6 c0 c1 c2 c3 c4
    go_wp2
    go_ret
    exact⟨⟨(k:Int),rfl,by omega,by rw[HMM.out];simp⟩,HB6.out⟩
   | false=>
    rw[h3] at HC
    have HE:Hid ((l.take (k+1)).any Q=false):=by show _=_;rw[any_take HX.out,h3,HH.out];rfl
    clear h3
    go_wp2_with fail
    refine Calls.mono HC.out ?_
    rintro e w6 ⟨rfl,hb6⟩
    have HB6:Hid (Below w.heap.size w w6):=below_tr hB hb6
    clear hb6 c0 c1 c2 c3 c4
    go_wp2
    go_roundw
    case rel=>exact⟨k+1,by omega,by go_num,HE.out,HB6.out⟩
    case measure=>simp[intOf];omega
  ·obtain rfl:k=l.length:=by omega
   rw[List.take_length] at HH
   go_wp2
   go_ret
   exact⟨⟨-1,rfl,by omega,by rw[HH.out];simp⟩,hB⟩
theorem con_prod (Q:Pr→Bool) (P:Nat) (l:List Pr) (a:Option Addr) (c:Nat) (w:World) (hlen:l.length≤140737488355328) (hr:Row w w.heap.size 5 (PrV w w.heap.size) a l) (HK0:∀x∈l,∀v,∀W,Below w.heap.size w W→Sl W W.heap.size 8 SyV x.syms v→Calls Tryz.prog 79 #[.agg #[.bool x.lex,.string x.sort,.string x.cons,.bool x.bracket,v],.pointer (some ⟨P,0,none⟩)] W fun e W'=>e=.returned (.bool (Q x))∧Below W.heap.size W W') :
  Calls Tryz.prog 78 #[.slice a l.length c,.func (.func 79) #[] #[.pointer (some ⟨P,0,none⟩)]] w fun e w'=>e=.returned (.bool (l.any Q))∧Below w.heap.size w w':=by
 have HC:=hU (idx_prod Q P l a c w hlen hr HK0)
 clear hr HK0
 go_enter Tryz.func78,Tryz.ntmps78
 go_wp2_with (go_at_call 131;refine hMo HC ?_)
 rintro e w6 ⟨⟨i,rfl,h1,h2⟩,hb6⟩
 have hd:decide (0≤i)=l.any Q:=by
  by_cases hi:0≤i
  ·rw[decide_eq_true hi,h2.1 hi]
  ·rw[decide_eq_false hi]
   cases h:l.any Q
   ·rfl
   ·exact absurd (h2.2 h) hi
 have HD:=hHi hd
 clear hd h2
 go_wp2
 go_ret
 exact⟨by rw[HD.out];rfl,hb6⟩
theorem all_prod (q:Pr→Bool) (l:List Pr) (lv:Value) (w:World) (hl:Sl w w.heap.size 5 (PrV w w.heap.size) l lv) (HK0:∀x∈l,∀v,∀W,Below w.heap.size w W→Sl W W.heap.size 8 SyV x.syms v→Calls Tryz.prog 33 #[.agg #[.bool x.lex,.string x.sort,.string x.cons,.bool x.bracket,v]] W fun e W'=>e=.returned (.bool (q x))∧Below W.heap.size W W') :
  Calls Tryz.prog 32 #[lv,.func (.func 33) #[] #[]] w fun e w'=>e=.returned (.bool (l.all q))∧Below w.heap.size w w':=by
 obtain⟨a,c,rfl,hcap,hlen,hr⟩:=hl
 obtain⟨w1,hw1⟩:∃w1,w.alloc (.cells #[.func (.func 33) #[] #[]] 78)=w1:=⟨_,rfl⟩
 have b1:Below w.heap.size w w1:=by rw[←hw1];exact (Below.refl _ _).alloc (Nat.le_refl _) _
 have s1:w1.heap.size=w.heap.size+1:=by rw[←hw1];simp
 have p1:w1.cell? ⟨w.heap.size,0,none⟩=some (.func (.func 33) #[] #[]):=by rw[←hw1];exact cell_new 0 rfl
 have HCC:Hid _:=fun (_:Unit)=>con_prod (fun x=>!q x) w.heap.size l a c w1 hlen (hr.keep b1 b1.size (fun x vs _ h=>h.keep b1 b1.size)) (fun x hx v W hW hf=>by
  have pW:=(hW.cell (p:=⟨w.heap.size,0,none⟩) (by show w.heap.size<_;omega)).trans p1
  obtain⟨W1,hW1⟩:∃W1,W.alloc (.cells #[.bool x.lex,.string x.sort,.string x.cons,.bool x.bracket,v] 57)=W1:=⟨_,rfl⟩
  have bb:Below W.heap.size W W1:=by rw[←hW1];exact (Below.refl _ _).alloc (Nat.le_refl _) _
  have hsW:w.heap.size<W.heap.size:=by have:=hW.size;omega
  have pW1:=(bb.cell (p:=⟨w.heap.size,0,none⟩) hsW).trans pW
  have HC1:Hid _:=HK0 x hx v W1 ((b1.trans (hW.mono (by omega))).trans (bb.mono (by have:=hW.size;omega))) (hf.keep bb bb.size (fun _ _ _ h=>h))
  have t0:W1.cell? ⟨W.heap.size,0,none⟩=some (.bool x.lex):=by rw[←hW1];exact cell_new 0 rfl
  have t1:W1.cell? ⟨W.heap.size,1,none⟩=some (.string x.sort):=by rw[←hW1];exact cell_new 1 rfl
  have t2:W1.cell? ⟨W.heap.size,2,none⟩=some (.string x.cons):=by rw[←hW1];exact cell_new 2 rfl
  have t3:W1.cell? ⟨W.heap.size,3,none⟩=some (.bool x.bracket):=by rw[←hW1];exact cell_new 3 rfl
  have t4:W1.cell? ⟨W.heap.size,4,none⟩=some (v):=by rw[←hW1];exact cell_new 4 rfl
  have HBB:=hHi bb
  clear pW bb HK0 hW
  go_enter Tryz.func79,Tryz.ntmps79
  go_wp2_with fail
  refine Calls.mono HC1.out ?_
  rintro e w6 ⟨rfl,hb6⟩
  have HB6:Hid _:=below_tr HBB.out hb6
  clear hb6
  go_wp2
  go_ret
  exact⟨rfl,HB6.out⟩)
 have HW1:=hHi b1
 have HAL:Hid ((!l.any (fun x=>!q x))=l.all q):=by show _=_;rw[List.all_eq_not_any_not]
 clear p1 b1 HK0 hr
 go_enter Tryz.func32,Tryz.ntmps32
 go_wp2_with (go_at_call 78;refine hMo HCC ?_)
 rintro e w6 ⟨rfl,hb6⟩
 have HB6:Hid _:=below_tr HW1.out hb6
 clear hb6
 go_wp2
 go_ret
 exact⟨by rw[HAL.out];rfl,HB6.out⟩
theorem idx_str (Q:ByteArray→Bool) (P:Nat) (l:List ByteArray) (a:Option Addr) (c:Nat) (w:World) (hlen:l.length≤140737488355328) (hr:Row w w.heap.size 1 StrV a l) (HK0:∀x∈l,∀W,Below w.heap.size w W→Calls Tryz.prog 179 #[.string x,.pointer (some ⟨P,0,none⟩)] W fun e W'=>e=.returned (.bool (Q x))∧Below W.heap.size W W') :
  Calls Tryz.prog 196 #[.slice a l.length c,.func (.func 179) #[] #[.pointer (some ⟨P,0,none⟩)]] w fun e w'=>(∃i:Int,e=.returned (.int .i64 i)∧-1≤i∧(0≤i↔l.any Q=true))∧Below w.heap.size w w':=by
 have HR:=hHi hr
 have HK:=hHi HK0
 clear hr HK0
 go_enter Tryz.func196,Tryz.ntmps196
 go_wp2
 go_loopw[5,8] (fun _ iv W=>∃k:Nat,k≤l.length∧iv=.int .i64 k∧(l.take k).any Q=false∧Below w.heap.size w W) (fun _ iv _=>l.length-(intOf iv).toNat)
 case atStart=>exact⟨0,Nat.zero_le _,rfl,rfl,Below.refl _ _⟩
 case round=>
  obtain⟨k,hk,rfl,hh,hB⟩:=hrel
  have HH:=hHi hh
  clear hh
  by_cases hlt:k<l.length
  ·obtain⟨x,hx⟩:∃x,l[k]?=some x:=⟨l[k],by simp[hlt]⟩
   have hr:=HR.out
   obtain⟨b,o,us,hab,hblt,hus,hc⟩:=hr k x hx
   have hus:us=[.string x]:=hus
   subst hus
   subst hab
   have c0:=(hB.cell (p:=⟨b,o+k*1+0,none⟩) hblt).trans (hc 0 _ rfl)
   rw[Nat.mul_one,Nat.add_zero] at c0
   have hltI:(k:Int)<l.length:=by omega
   have HC:Hid _:=HK.out x (List.mem_of_getElem? hx) wr hB
   have HX:=hHi hx
   clear hr hx hc
   cases h3:Q x with
   | true=>
    rw[h3] at HC
    have HMM:Hid _:=any_mem HX.out h3
    clear h3
    go_wp2_with fail
    refine Calls.mono HC.out ?_
    rintro e w6 ⟨rfl,hb6⟩
    have HB6:Hid (Below w.heap.size w w6):=below_tr hB hb6
    clear hb6 c0
    go_wp2
    go_ret
    exact⟨⟨(k:Int),rfl,by omega,by rw[HMM.out];simp⟩,HB6.out⟩
   | false=>
    rw[h3] at HC
    have HE:Hid ((l.take (k+1)).any Q=false):=by show _=_;rw[any_take HX.out,h3,HH.out];rfl
    clear h3
    go_wp2_with fail
    refine Calls.mono HC.out ?_
    rintro e w6 ⟨rfl,hb6⟩
    have HB6:Hid (Below w.heap.size w w6):=below_tr hB hb6
    clear hb6 c0
    go_wp2
    go_roundw
    case rel=>exact⟨k+1,by omega,by go_num,HE.out,HB6.out⟩
    case measure=>simp[intOf];omega
  ·obtain rfl:k=l.length:=by omega
   rw[List.take_length] at HH
   go_wp2
   go_ret
   exact⟨⟨-1,rfl,by omega,by rw[HH.out];simp⟩,hB⟩
theorem con_str (Q:ByteArray→Bool) (P:Nat) (l:List ByteArray) (a:Option Addr) (c:Nat) (w:World) (hlen:l.length≤140737488355328) (hr:Row w w.heap.size 1 StrV a l) (HK0:∀x∈l,∀W,Below w.heap.size w W→Calls Tryz.prog 179 #[.string x,.pointer (some ⟨P,0,none⟩)] W fun e W'=>e=.returned (.bool (Q x))∧Below W.heap.size W W') :
  Calls Tryz.prog 178 #[.slice a l.length c,.func (.func 179) #[] #[.pointer (some ⟨P,0,none⟩)]] w fun e w'=>e=.returned (.bool (l.any Q))∧Below w.heap.size w w':=by
 have HC:=hU (idx_str Q P l a c w hlen hr HK0)
 clear hr HK0
 go_enter Tryz.func178,Tryz.ntmps178
 go_wp2_with (go_at_call 196;refine hMo HC ?_)
 rintro e w6 ⟨⟨i,rfl,h1,h2⟩,hb6⟩
 have hd:decide (0≤i)=l.any Q:=by
  by_cases hi:0≤i
  ·rw[decide_eq_true hi,h2.1 hi]
  ·rw[decide_eq_false hi]
   cases h:l.any Q
   ·rfl
   ·exact absurd (h2.2 h) hi
 have HD:=hHi hd
 clear hd h2
 go_wp2
 go_ret
 exact⟨by rw[HD.out];rfl,hb6⟩
theorem all_str (q:ByteArray→Bool) (l:List ByteArray) (lv:Value) (w:World) (hl:Sl w w.heap.size 1 StrV l lv) (HK0:∀x∈l,∀W,Below w.heap.size w W→Calls Tryz.prog 22 #[.string x] W fun e W'=>e=.returned (.bool (q x))∧Below W.heap.size W W') :
  Calls Tryz.prog 138 #[lv,.func (.func 22) #[] #[]] w fun e w'=>e=.returned (.bool (l.all q))∧Below w.heap.size w w':=by
 obtain⟨a,c,rfl,hcap,hlen,hr⟩:=hl
 obtain⟨w1,hw1⟩:∃w1,w.alloc (.cells #[.func (.func 22) #[] #[]] 46)=w1:=⟨_,rfl⟩
 have b1:Below w.heap.size w w1:=by rw[←hw1];exact (Below.refl _ _).alloc (Nat.le_refl _) _
 have s1:w1.heap.size=w.heap.size+1:=by rw[←hw1];simp
 have p1:w1.cell? ⟨w.heap.size,0,none⟩=some (.func (.func 22) #[] #[]):=by rw[←hw1];exact cell_new 0 rfl
 have HCC:Hid _:=fun (_:Unit)=>con_str (fun x=>!q x) w.heap.size l a c w1 hlen (hr.keep b1 b1.size (fun x vs _ h=>h)) (fun x hx  W hW=>by
  have pW:=(hW.cell (p:=⟨w.heap.size,0,none⟩) (by show w.heap.size<_;omega)).trans p1
  have hsW:w.heap.size<W.heap.size:=by have:=hW.size;omega
  have HC1:Hid _:=HK0 x hx W (b1.trans (hW.mono (by omega)))
  clear HK0 hW
  go_enter Tryz.func179,Tryz.ntmps179
  go_wp2_with fail
  refine Calls.mono HC1.out ?_
  rintro e w6 ⟨rfl,hb6⟩
  have HB6:=hHi hb6
  clear hb6
  go_wp2
  go_ret
  exact⟨rfl,HB6.out⟩)
 have HW1:=hHi b1
 have HAL:Hid ((!l.any (fun x=>!q x))=l.all q):=by show _=_;rw[List.all_eq_not_any_not]
 clear p1 b1 HK0 hr
 go_enter Tryz.func138,Tryz.ntmps138
 go_wp2_with (go_at_call 178;refine hMo HCC ?_)
 rintro e w6 ⟨rfl,hb6⟩
 have HB6:Hid _:=below_tr HW1.out hb6
 clear hb6
 go_wp2
 go_ret
 exact⟨by rw[HAL.out];rfl,HB6.out⟩
theorem idx_group (Q:Gr→Bool) (P:Nat) (l:List Gr) (a:Option Addr) (c:Nat) (w:World) (hlen:l.length≤140737488355328) (hr:Row w w.heap.size 2 (GrV w w.heap.size) a l) (HK0:∀x∈l,∀v,∀W,Below w.heap.size w W→Sl W W.heap.size 1 StrV x.cons v→Calls Tryz.prog 137 #[.agg #[.int .i64 x.assoc,v],.pointer (some ⟨P,0,none⟩)] W fun e W'=>e=.returned (.bool (Q x))∧Below W.heap.size W W') :
  Calls Tryz.prog 177 #[.slice a l.length c,.func (.func 137) #[] #[.pointer (some ⟨P,0,none⟩)]] w fun e w'=>(∃i:Int,e=.returned (.int .i64 i)∧-1≤i∧(0≤i↔l.any Q=true))∧Below w.heap.size w w':=by
 have HR:=hHi hr
 have HK:=hHi HK0
 clear hr HK0
 go_enter Tryz.func177,Tryz.ntmps177
 go_wp2
 go_loopw[5,8] (fun _ iv W=>∃k:Nat,k≤l.length∧iv=.int .i64 k∧(l.take k).any Q=false∧Below w.heap.size w W) (fun _ iv _=>l.length-(intOf iv).toNat)
 case atStart=>exact⟨0,Nat.zero_le _,rfl,rfl,Below.refl _ _⟩
 case round=>
  obtain⟨k,hk,rfl,hh,hB⟩:=hrel
  have HH:=hHi hh
  clear hh
  by_cases hlt:k<l.length
  ·obtain⟨x,hx⟩:∃x,l[k]?=some x:=⟨l[k],by simp[hlt]⟩
   have hr:=HR.out
   obtain⟨b,o,us,hab,hblt,⟨v,rfl,hfact⟩,hc⟩:=hr k x hx
   subst hab
   have hq_:=hcb hB hblt hc
   have c0:=hq_ 0 _ rfl
   have c1:=hq_ 1 _ rfl
   clear hq_
   rw[Nat.add_zero] at c0
   have hltI:(k:Int)<l.length:=by omega
   have HC:Hid _:=HK.out x (List.mem_of_getElem? hx) v wr hB (hfact.keep hB hB.size (fun _ _ _ h=>h))
   have HX:=hHi hx
   clear hr hx hc
   cases h3:Q x with
   | true=>
    rw[h3] at HC
    have HMM:Hid _:=any_mem HX.out h3
    clear h3
    go_wp2_with fail
    refine Calls.mono HC.out ?_
    rintro e w6 ⟨rfl,hb6⟩
    have HB6:Hid (Below w.heap.size w w6):=below_tr hB hb6
    clear hb6 c0 c1
    go_wp2
    go_ret
    exact⟨⟨(k:Int),rfl,by omega,by rw[HMM.out];simp⟩,HB6.out⟩
   | false=>
    rw[h3] at HC
    have HE:Hid ((l.take (k+1)).any Q=false):=by show _=_;rw[any_take HX.out,h3,HH.out];rfl
    clear h3
    go_wp2_with fail
    refine Calls.mono HC.out ?_
    rintro e w6 ⟨rfl,hb6⟩
    have HB6:Hid (Below w.heap.size w w6):=below_tr hB hb6
    clear hb6 c0 c1
    go_wp2
    go_roundw
    case rel=>exact⟨k+1,by omega,by go_num,HE.out,HB6.out⟩
    case measure=>simp[intOf];omega
  ·obtain rfl:k=l.length:=by omega
   rw[List.take_length] at HH
   go_wp2
   go_ret
   exact⟨⟨-1,rfl,by omega,by rw[HH.out];simp⟩,hB⟩
theorem con_group (Q:Gr→Bool) (P:Nat) (l:List Gr) (a:Option Addr) (c:Nat) (w:World) (hlen:l.length≤140737488355328) (hr:Row w w.heap.size 2 (GrV w w.heap.size) a l) (HK0:∀x∈l,∀v,∀W,Below w.heap.size w W→Sl W W.heap.size 1 StrV x.cons v→Calls Tryz.prog 137 #[.agg #[.int .i64 x.assoc,v],.pointer (some ⟨P,0,none⟩)] W fun e W'=>e=.returned (.bool (Q x))∧Below W.heap.size W W') :
  Calls Tryz.prog 136 #[.slice a l.length c,.func (.func 137) #[] #[.pointer (some ⟨P,0,none⟩)]] w fun e w'=>e=.returned (.bool (l.any Q))∧Below w.heap.size w w':=by
 have HC:=hU (idx_group Q P l a c w hlen hr HK0)
 clear hr HK0
 go_enter Tryz.func136,Tryz.ntmps136
 go_wp2_with (go_at_call 177;refine hMo HC ?_)
 rintro e w6 ⟨⟨i,rfl,h1,h2⟩,hb6⟩
 have hd:decide (0≤i)=l.any Q:=by
  by_cases hi:0≤i
  ·rw[decide_eq_true hi,h2.1 hi]
  ·rw[decide_eq_false hi]
   cases h:l.any Q
   ·rfl
   ·exact absurd (h2.2 h) hi
 have HD:=hHi hd
 clear hd h2
 go_wp2
 go_ret
 exact⟨by rw[HD.out];rfl,hb6⟩
theorem all_group (q:Gr→Bool) (l:List Gr) (lv:Value) (w:World) (hl:Sl w w.heap.size 2 (GrV w w.heap.size) l lv) (HK0:∀x∈l,∀v,∀W,Below w.heap.size w W→Sl W W.heap.size 1 StrV x.cons v→Calls Tryz.prog 86 #[.agg #[.int .i64 x.assoc,v]] W fun e W'=>e=.returned (.bool (q x))∧Below W.heap.size W W') :
  Calls Tryz.prog 85 #[lv,.func (.func 86) #[] #[]] w fun e w'=>e=.returned (.bool (l.all q))∧Below w.heap.size w w':=by
 obtain⟨a,c,rfl,hcap,hlen,hr⟩:=hl
 obtain⟨w1,hw1⟩:∃w1,w.alloc (.cells #[.func (.func 86) #[] #[]] 140)=w1:=⟨_,rfl⟩
 have b1:Below w.heap.size w w1:=by rw[←hw1];exact (Below.refl _ _).alloc (Nat.le_refl _) _
 have s1:w1.heap.size=w.heap.size+1:=by rw[←hw1];simp
 have p1:w1.cell? ⟨w.heap.size,0,none⟩=some (.func (.func 86) #[] #[]):=by rw[←hw1];exact cell_new 0 rfl
 have HCC:Hid _:=fun (_:Unit)=>con_group (fun x=>!q x) w.heap.size l a c w1 hlen (hr.keep b1 b1.size (fun x vs _ h=>h.keep b1 b1.size)) (fun x hx v W hW hf=>by
  have pW:=(hW.cell (p:=⟨w.heap.size,0,none⟩) (by show w.heap.size<_;omega)).trans p1
  obtain⟨W1,hW1⟩:∃W1,W.alloc (.cells #[.int .i64 x.assoc,v] 61)=W1:=⟨_,rfl⟩
  have bb:Below W.heap.size W W1:=by rw[←hW1];exact (Below.refl _ _).alloc (Nat.le_refl _) _
  have hsW:w.heap.size<W.heap.size:=by have:=hW.size;omega
  have pW1:=(bb.cell (p:=⟨w.heap.size,0,none⟩) hsW).trans pW
  have HC1:Hid _:=HK0 x hx v W1 ((b1.trans (hW.mono (by omega))).trans (bb.mono (by have:=hW.size;omega))) (hf.keep bb bb.size (fun _ _ _ h=>h))
  have t0:W1.cell? ⟨W.heap.size,0,none⟩=some (.int .i64 x.assoc):=by rw[←hW1];exact cell_new 0 rfl
  have t1:W1.cell? ⟨W.heap.size,1,none⟩=some (v):=by rw[←hW1];exact cell_new 1 rfl
  have HBB:=hHi bb
  clear pW bb HK0 hW
  go_enter Tryz.func137,Tryz.ntmps137
  go_wp2_with fail
  refine Calls.mono HC1.out ?_
  rintro e w6 ⟨rfl,hb6⟩
  have HB6:Hid _:=below_tr HBB.out hb6
  clear hb6
  go_wp2
  go_ret
  exact⟨rfl,HB6.out⟩)
 have HW1:=hHi b1
 have HAL:Hid ((!l.any (fun x=>!q x))=l.all q):=by show _=_;rw[List.all_eq_not_any_not]
 clear p1 b1 HK0 hr
 go_enter Tryz.func85,Tryz.ntmps85
 go_wp2_with (go_at_call 136;refine hMo HCC ?_)
 rintro e w6 ⟨rfl,hb6⟩
 have HB6:Hid _:=below_tr HW1.out hb6
 clear hb6
 go_wp2
 go_ret
 exact⟨by rw[HAL.out];rfl,HB6.out⟩
theorem idx_chain (Q:(List Gr)→Bool) (P:Nat) (l:List (List Gr)) (a:Option Addr) (c:Nat) (w:World) (hlen:l.length≤140737488355328) (hr:Row w w.heap.size 1 (ChV w w.heap.size) a l) (HK0:∀x∈l,∀v,∀W,Below w.heap.size w W→Sl W W.heap.size 2 (GrV W W.heap.size) x v→Calls Tryz.prog 84 #[v,.pointer (some ⟨P,0,none⟩)] W fun e W'=>e=.returned (.bool (Q x))∧Below W.heap.size W W') :
  Calls Tryz.prog 135 #[.slice a l.length c,.func (.func 84) #[] #[.pointer (some ⟨P,0,none⟩)]] w fun e w'=>(∃i:Int,e=.returned (.int .i64 i)∧-1≤i∧(0≤i↔l.any Q=true))∧Below w.heap.size w w':=by
 have HR:=hHi hr
 have HK:=hHi HK0
 clear hr HK0
 go_enter Tryz.func135,Tryz.ntmps135
 go_wp2
 go_loopw[5,8] (fun _ iv W=>∃k:Nat,k≤l.length∧iv=.int .i64 k∧(l.take k).any Q=false∧Below w.heap.size w W) (fun _ iv _=>l.length-(intOf iv).toNat)
 case atStart=>exact⟨0,Nat.zero_le _,rfl,rfl,Below.refl _ _⟩
 case round=>
  obtain⟨k,hk,rfl,hh,hB⟩:=hrel
  have HH:=hHi hh
  clear hh
  by_cases hlt:k<l.length
  ·obtain⟨x,hx⟩:∃x,l[k]?=some x:=⟨l[k],by simp[hlt]⟩
   have hr:=HR.out
   obtain⟨b,o,us,hab,hblt,⟨v,rfl,hfact⟩,hc⟩:=hr k x hx
   subst hab
   have c0:=(hB.cell (p:=⟨b,o+k*1+0,none⟩) hblt).trans (hc 0 _ rfl)
   rw[Nat.mul_one,Nat.add_zero] at c0
   have hltI:(k:Int)<l.length:=by omega
   have HC:Hid _:=HK.out x (List.mem_of_getElem? hx) v wr hB (hfact.keep hB hB.size (fun _ _ _ h=>h.keep hB hB.size))
   have HX:=hHi hx
   clear hr hx hc
   cases h3:Q x with
   | true=>
    rw[h3] at HC
    have HMM:Hid _:=any_mem HX.out h3
    clear h3
    go_wp2_with fail
    refine Calls.mono HC.out ?_
    rintro e w6 ⟨rfl,hb6⟩
    have HB6:Hid (Below w.heap.size w w6):=below_tr hB hb6
    clear hb6 c0
    go_wp2
    go_ret
    exact⟨⟨(k:Int),rfl,by omega,by rw[HMM.out];simp⟩,HB6.out⟩
   | false=>
    rw[h3] at HC
    have HE:Hid ((l.take (k+1)).any Q=false):=by show _=_;rw[any_take HX.out,h3,HH.out];rfl
    clear h3
    go_wp2_with fail
    refine Calls.mono HC.out ?_
    rintro e w6 ⟨rfl,hb6⟩
    have HB6:Hid (Below w.heap.size w w6):=below_tr hB hb6
    clear hb6 c0
    go_wp2
    go_roundw
    case rel=>exact⟨k+1,by omega,by go_num,HE.out,HB6.out⟩
    case measure=>simp[intOf];omega
  ·obtain rfl:k=l.length:=by omega
   rw[List.take_length] at HH
   go_wp2
   go_ret
   exact⟨⟨-1,rfl,by omega,by rw[HH.out];simp⟩,hB⟩
theorem con_chain (Q:(List Gr)→Bool) (P:Nat) (l:List (List Gr)) (a:Option Addr) (c:Nat) (w:World) (hlen:l.length≤140737488355328) (hr:Row w w.heap.size 1 (ChV w w.heap.size) a l) (HK0:∀x∈l,∀v,∀W,Below w.heap.size w W→Sl W W.heap.size 2 (GrV W W.heap.size) x v→Calls Tryz.prog 84 #[v,.pointer (some ⟨P,0,none⟩)] W fun e W'=>e=.returned (.bool (Q x))∧Below W.heap.size W W') :
  Calls Tryz.prog 83 #[.slice a l.length c,.func (.func 84) #[] #[.pointer (some ⟨P,0,none⟩)]] w fun e w'=>e=.returned (.bool (l.any Q))∧Below w.heap.size w w':=by
 have HC:=hU (idx_chain Q P l a c w hlen hr HK0)
 clear hr HK0
 go_enter Tryz.func83,Tryz.ntmps83
 go_wp2_with (go_at_call 135;refine hMo HC ?_)
 rintro e w6 ⟨⟨i,rfl,h1,h2⟩,hb6⟩
 have hd:decide (0≤i)=l.any Q:=by
  by_cases hi:0≤i
  ·rw[decide_eq_true hi,h2.1 hi]
  ·rw[decide_eq_false hi]
   cases h:l.any Q
   ·rfl
   ·exact absurd (h2.2 h) hi
 have HD:=hHi hd
 clear hd h2
 go_wp2
 go_ret
 exact⟨by rw[HD.out];rfl,hb6⟩
theorem all_chain (q:(List Gr)→Bool) (l:List (List Gr)) (lv:Value) (w:World) (hl:Sl w w.heap.size 1 (ChV w w.heap.size) l lv) (HK0:∀x∈l,∀v,∀W,Below w.heap.size w W→Sl W W.heap.size 2 (GrV W W.heap.size) x v→Calls Tryz.prog 35 #[v] W fun e W'=>e=.returned (.bool (q x))∧Below W.heap.size W W') :
  Calls Tryz.prog 34 #[lv,.func (.func 35) #[] #[]] w fun e w'=>e=.returned (.bool (l.all q))∧Below w.heap.size w w':=by
 obtain⟨a,c,rfl,hcap,hlen,hr⟩:=hl
 obtain⟨w1,hw1⟩:∃w1,w.alloc (.cells #[.func (.func 35) #[] #[]] 80)=w1:=⟨_,rfl⟩
 have b1:Below w.heap.size w w1:=by rw[←hw1];exact (Below.refl _ _).alloc (Nat.le_refl _) _
 have s1:w1.heap.size=w.heap.size+1:=by rw[←hw1];simp
 have p1:w1.cell? ⟨w.heap.size,0,none⟩=some (.func (.func 35) #[] #[]):=by rw[←hw1];exact cell_new 0 rfl
 have HCC:Hid _:=fun (_:Unit)=>con_chain (fun x=>!q x) w.heap.size l a c w1 hlen (hr.keep b1 b1.size (fun x vs _ h=>h.keep b1 b1.size)) (fun x hx v W hW hf=>by
  have pW:=(hW.cell (p:=⟨w.heap.size,0,none⟩) (by show w.heap.size<_;omega)).trans p1
  have hsW:w.heap.size<W.heap.size:=by have:=hW.size;omega
  have HC1:Hid _:=HK0 x hx v W (b1.trans (hW.mono (by omega))) hf
  clear HK0 hW
  go_enter Tryz.func84,Tryz.ntmps84
  go_wp2_with fail
  refine Calls.mono HC1.out ?_
  rintro e w6 ⟨rfl,hb6⟩
  have HB6:=hHi hb6
  clear hb6
  go_wp2
  go_ret
  exact⟨rfl,HB6.out⟩)
 have HW1:=hHi b1
 have HAL:Hid ((!l.any (fun x=>!q x))=l.all q):=by show _=_;rw[List.all_eq_not_any_not]
 clear p1 b1 HK0 hr
 go_enter Tryz.func34,Tryz.ntmps34
 go_wp2_with (go_at_call 83;refine hMo HCC ?_)
 rintro e w6 ⟨rfl,hb6⟩
 have HB6:Hid _:=below_tr HW1.out hb6
 clear hb6
 go_wp2
 go_ret
 exact⟨by rw[HAL.out];rfl,HB6.out⟩
theorem idx_follow (Q:Fo→Bool) (P:Nat) (l:List Fo) (a:Option Addr) (c:Nat) (w:World) (hlen:l.length≤140737488355328) (hr:Row w w.heap.size 5 FoV a l) (HK0:∀x∈l,x.set.ok→∀W,Below w.heap.size w W→Calls Tryz.prog 88 #[.agg #[.string x.sort,.int .u64 x.set.a,.int .u64 x.set.b,.int .u64 x.set.c,.int .u64 x.set.d],.pointer (some ⟨P,0,none⟩)] W fun e W'=>e=.returned (.bool (Q x))∧Below W.heap.size W W') :
  Calls Tryz.prog 139 #[.slice a l.length c,.func (.func 88) #[] #[.pointer (some ⟨P,0,none⟩)]] w fun e w'=>(∃i:Int,e=.returned (.int .i64 i)∧-1≤i∧(0≤i↔l.any Q=true))∧Below w.heap.size w w':=by
 have HR:=hHi hr
 have HK:=hHi HK0
 clear hr HK0
 go_enter Tryz.func139,Tryz.ntmps139
 go_wp2
 go_loopw[5,8] (fun _ iv W=>∃k:Nat,k≤l.length∧iv=.int .i64 k∧(l.take k).any Q=false∧Below w.heap.size w W) (fun _ iv _=>l.length-(intOf iv).toNat)
 case atStart=>exact⟨0,Nat.zero_le _,rfl,rfl,Below.refl _ _⟩
 case round=>
  obtain⟨k,hk,rfl,hh,hB⟩:=hrel
  have HH:=hHi hh
  clear hh
  by_cases hlt:k<l.length
  ·obtain⟨x,hx⟩:∃x,l[k]?=some x:=⟨l[k],by simp[hlt]⟩
   have hr:=HR.out
   obtain⟨b,o,us,hab,hblt,⟨hfact,rfl⟩,hc⟩:=hr k x hx
   subst hab
   have hq_:=hcb hB hblt hc
   have c0:=hq_ 0 _ rfl
   have c1:=hq_ 1 _ rfl
   have c2:=hq_ 2 _ rfl
   have c3:=hq_ 3 _ rfl
   have c4:=hq_ 4 _ rfl
   clear hq_
   rw[Nat.add_zero] at c0
   have hltI:(k:Int)<l.length:=by omega
   have HC:Hid _:=HK.out x (List.mem_of_getElem? hx) hfact wr hB
   have HX:=hHi hx
   clear hr hx hc
   cases h3:Q x with
   | true=>
    rw[h3] at HC
    have HMM:Hid _:=any_mem HX.out h3
    clear h3
    go_wp2_with fail
    refine Calls.mono HC.out ?_
    rintro e w6 ⟨rfl,hb6⟩
    have HB6:Hid (Below w.heap.size w w6):=below_tr hB hb6
    clear hb6 c0 c1 c2 c3 c4
    go_wp2
    go_ret
    exact⟨⟨(k:Int),rfl,by omega,by rw[HMM.out];simp⟩,HB6.out⟩
   | false=>
    rw[h3] at HC
    have HE:Hid ((l.take (k+1)).any Q=false):=by show _=_;rw[any_take HX.out,h3,HH.out];rfl
    clear h3
    go_wp2_with fail
    refine Calls.mono HC.out ?_
    rintro e w6 ⟨rfl,hb6⟩
    have HB6:Hid (Below w.heap.size w w6):=below_tr hB hb6
    clear hb6 c0 c1 c2 c3 c4
    go_wp2
    go_roundw
    case rel=>exact⟨k+1,by omega,by go_num,HE.out,HB6.out⟩
    case measure=>simp[intOf];omega
  ·obtain rfl:k=l.length:=by omega
   rw[List.take_length] at HH
   go_wp2
   go_ret
   exact⟨⟨-1,rfl,by omega,by rw[HH.out];simp⟩,hB⟩
theorem con_follow (Q:Fo→Bool) (P:Nat) (l:List Fo) (a:Option Addr) (c:Nat) (w:World) (hlen:l.length≤140737488355328) (hr:Row w w.heap.size 5 FoV a l) (HK0:∀x∈l,x.set.ok→∀W,Below w.heap.size w W→Calls Tryz.prog 88 #[.agg #[.string x.sort,.int .u64 x.set.a,.int .u64 x.set.b,.int .u64 x.set.c,.int .u64 x.set.d],.pointer (some ⟨P,0,none⟩)] W fun e W'=>e=.returned (.bool (Q x))∧Below W.heap.size W W') :
  Calls Tryz.prog 87 #[.slice a l.length c,.func (.func 88) #[] #[.pointer (some ⟨P,0,none⟩)]] w fun e w'=>e=.returned (.bool (l.any Q))∧Below w.heap.size w w':=by
 have HC:=hU (idx_follow Q P l a c w hlen hr HK0)
 clear hr HK0
 go_enter Tryz.func87,Tryz.ntmps87
 go_wp2_with (go_at_call 139;refine hMo HC ?_)
 rintro e w6 ⟨⟨i,rfl,h1,h2⟩,hb6⟩
 have hd:decide (0≤i)=l.any Q:=by
  by_cases hi:0≤i
  ·rw[decide_eq_true hi,h2.1 hi]
  ·rw[decide_eq_false hi]
   cases h:l.any Q
   ·rfl
   ·exact absurd (h2.2 h) hi
 have HD:=hHi hd
 clear hd h2
 go_wp2
 go_ret
 exact⟨by rw[HD.out];rfl,hb6⟩
theorem all_follow (q:Fo→Bool) (l:List Fo) (lv:Value) (w:World) (hl:Sl w w.heap.size 5 FoV l lv) (HK0:∀x∈l,x.set.ok→∀W,Below w.heap.size w W→Calls Tryz.prog 37 #[.agg #[.string x.sort,.int .u64 x.set.a,.int .u64 x.set.b,.int .u64 x.set.c,.int .u64 x.set.d]] W fun e W'=>e=.returned (.bool (q x))∧Below W.heap.size W W') :
  Calls Tryz.prog 36 #[lv,.func (.func 37) #[] #[]] w fun e w'=>e=.returned (.bool (l.all q))∧Below w.heap.size w w':=by
 obtain⟨a,c,rfl,hcap,hlen,hr⟩:=hl
 obtain⟨w1,hw1⟩:∃w1,w.alloc (.cells #[.func (.func 37) #[] #[]] 82)=w1:=⟨_,rfl⟩
 have b1:Below w.heap.size w w1:=by rw[←hw1];exact (Below.refl _ _).alloc (Nat.le_refl _) _
 have s1:w1.heap.size=w.heap.size+1:=by rw[←hw1];simp
 have p1:w1.cell? ⟨w.heap.size,0,none⟩=some (.func (.func 37) #[] #[]):=by rw[←hw1];exact cell_new 0 rfl
 have HCC:Hid _:=fun (_:Unit)=>con_follow (fun x=>!q x) w.heap.size l a c w1 hlen (hr.keep b1 b1.size (fun x vs _ h=>h)) (fun x hx hok W hW=>by
  have pW:=(hW.cell (p:=⟨w.heap.size,0,none⟩) (by show w.heap.size<_;omega)).trans p1
  obtain⟨W1,hW1⟩:∃W1,W.alloc (.cells #[.string x.sort,.int .u64 x.set.a,.int .u64 x.set.b,.int .u64 x.set.c,.int .u64 x.set.d] 52)=W1:=⟨_,rfl⟩
  have bb:Below W.heap.size W W1:=by rw[←hW1];exact (Below.refl _ _).alloc (Nat.le_refl _) _
  have hsW:w.heap.size<W.heap.size:=by have:=hW.size;omega
  have pW1:=(bb.cell (p:=⟨w.heap.size,0,none⟩) hsW).trans pW
  have HC1:Hid _:=HK0 x hx hok W1 ((b1.trans (hW.mono (by omega))).trans (bb.mono (by have:=hW.size;omega)))
  have t0:W1.cell? ⟨W.heap.size,0,none⟩=some (.string x.sort):=by rw[←hW1];exact cell_new 0 rfl
  have t1:W1.cell? ⟨W.heap.size,1,none⟩=some (.int .u64 x.set.a):=by rw[←hW1];exact cell_new 1 rfl
  have t2:W1.cell? ⟨W.heap.size,2,none⟩=some (.int .u64 x.set.b):=by rw[←hW1];exact cell_new 2 rfl
  have t3:W1.cell? ⟨W.heap.size,3,none⟩=some (.int .u64 x.set.c):=by rw[←hW1];exact cell_new 3 rfl
  have t4:W1.cell? ⟨W.heap.size,4,none⟩=some (.int .u64 x.set.d):=by rw[←hW1];exact cell_new 4 rfl
  have HBB:=hHi bb
  clear pW bb HK0 hW
  go_enter Tryz.func88,Tryz.ntmps88
  go_wp2_with fail
  refine Calls.mono HC1.out ?_
  rintro e w6 ⟨rfl,hb6⟩
  have HB6:Hid _:=below_tr HBB.out hb6
  clear hb6
  go_wp2
  go_ret
  exact⟨rfl,HB6.out⟩)
 have HW1:=hHi b1
 have HAL:Hid ((!l.any (fun x=>!q x))=l.all q):=by show _=_;rw[List.all_eq_not_any_not]
 clear p1 b1 HK0 hr
 go_enter Tryz.func36,Tryz.ntmps36
 go_wp2_with (go_at_call 87;refine hMo HCC ?_)
 rintro e w6 ⟨rfl,hb6⟩
 have HB6:Hid _:=below_tr HW1.out hb6
 clear hb6
 go_wp2
 go_ret
 exact⟨by rw[HAL.out];rfl,HB6.out⟩
theorem idx_reject (Q:Re→Bool) (P:Nat) (l:List Re) (a:Option Addr) (c:Nat) (w:World) (hlen:l.length≤140737488355328) (hr:Row w w.heap.size 2 ReV a l) (HK0:∀x∈l,∀W,Below w.heap.size w W→Calls Tryz.prog 90 #[.agg #[.string x.sort,.string x.by'],.pointer (some ⟨P,0,none⟩)] W fun e W'=>e=.returned (.bool (Q x))∧Below W.heap.size W W') :
  Calls Tryz.prog 140 #[.slice a l.length c,.func (.func 90) #[] #[.pointer (some ⟨P,0,none⟩)]] w fun e w'=>(∃i:Int,e=.returned (.int .i64 i)∧-1≤i∧(0≤i↔l.any Q=true))∧Below w.heap.size w w':=by
 have HR:=hHi hr
 have HK:=hHi HK0
 clear hr HK0
 go_enter Tryz.func140,Tryz.ntmps140
 go_wp2
 go_loopw[5,8] (fun _ iv W=>∃k:Nat,k≤l.length∧iv=.int .i64 k∧(l.take k).any Q=false∧Below w.heap.size w W) (fun _ iv _=>l.length-(intOf iv).toNat)
 case atStart=>exact⟨0,Nat.zero_le _,rfl,rfl,Below.refl _ _⟩
 case round=>
  obtain⟨k,hk,rfl,hh,hB⟩:=hrel
  have HH:=hHi hh
  clear hh
  by_cases hlt:k<l.length
  ·obtain⟨x,hx⟩:∃x,l[k]?=some x:=⟨l[k],by simp[hlt]⟩
   have hr:=HR.out
   obtain⟨b,o,us,hab,hblt,hus,hc⟩:=hr k x hx
   have hus:us=[.string x.sort,.string x.by']:=hus
   subst hus
   subst hab
   have hq_:=hcb hB hblt hc
   have c0:=hq_ 0 _ rfl
   have c1:=hq_ 1 _ rfl
   clear hq_
   rw[Nat.add_zero] at c0
   have hltI:(k:Int)<l.length:=by omega
   have HC:Hid _:=HK.out x (List.mem_of_getElem? hx) wr hB
   have HX:=hHi hx
   clear hr hx hc
   cases h3:Q x with
   | true=>
    rw[h3] at HC
    have HMM:Hid _:=any_mem HX.out h3
    clear h3
    go_wp2_with fail
    refine Calls.mono HC.out ?_
    rintro e w6 ⟨rfl,hb6⟩
    have HB6:Hid (Below w.heap.size w w6):=below_tr hB hb6
    clear hb6 c0 c1
    go_wp2
    go_ret
    exact⟨⟨(k:Int),rfl,by omega,by rw[HMM.out];simp⟩,HB6.out⟩
   | false=>
    rw[h3] at HC
    have HE:Hid ((l.take (k+1)).any Q=false):=by show _=_;rw[any_take HX.out,h3,HH.out];rfl
    clear h3
    go_wp2_with fail
    refine Calls.mono HC.out ?_
    rintro e w6 ⟨rfl,hb6⟩
    have HB6:Hid (Below w.heap.size w w6):=below_tr hB hb6
    clear hb6 c0 c1
    go_wp2
    go_roundw
    case rel=>exact⟨k+1,by omega,by go_num,HE.out,HB6.out⟩
    case measure=>simp[intOf];omega
  ·obtain rfl:k=l.length:=by omega
   rw[List.take_length] at HH
   go_wp2
   go_ret
   exact⟨⟨-1,rfl,by omega,by rw[HH.out];simp⟩,hB⟩
theorem con_reject (Q:Re→Bool) (P:Nat) (l:List Re) (a:Option Addr) (c:Nat) (w:World) (hlen:l.length≤140737488355328) (hr:Row w w.heap.size 2 ReV a l) (HK0:∀x∈l,∀W,Below w.heap.size w W→Calls Tryz.prog 90 #[.agg #[.string x.sort,.string x.by'],.pointer (some ⟨P,0,none⟩)] W fun e W'=>e=.returned (.bool (Q x))∧Below W.heap.size W W') :
  Calls Tryz.prog 89 #[.slice a l.length c,.func (.func 90) #[] #[.pointer (some ⟨P,0,none⟩)]] w fun e w'=>e=.returned (.bool (l.any Q))∧Below w.heap.size w w':=by
 have HC:=hU (idx_reject Q P l a c w hlen hr HK0)
 clear hr HK0
 go_enter Tryz.func89,Tryz.ntmps89
 go_wp2_with (go_at_call 140;refine hMo HC ?_)
 rintro e w6 ⟨⟨i,rfl,h1,h2⟩,hb6⟩
 have hd:decide (0≤i)=l.any Q:=by
  by_cases hi:0≤i
  ·rw[decide_eq_true hi,h2.1 hi]
  ·rw[decide_eq_false hi]
   cases h:l.any Q
   ·rfl
   ·exact absurd (h2.2 h) hi
 have HD:=hHi hd
 clear hd h2
 go_wp2
 go_ret
 exact⟨by rw[HD.out];rfl,hb6⟩
theorem all_reject (q:Re→Bool) (l:List Re) (lv:Value) (w:World) (hl:Sl w w.heap.size 2 ReV l lv) (HK0:∀x∈l,∀W,Below w.heap.size w W→Calls Tryz.prog 39 #[.agg #[.string x.sort,.string x.by']] W fun e W'=>e=.returned (.bool (q x))∧Below W.heap.size W W') :
  Calls Tryz.prog 38 #[lv,.func (.func 39) #[] #[]] w fun e w'=>e=.returned (.bool (l.all q))∧Below w.heap.size w w':=by
 obtain⟨a,c,rfl,hcap,hlen,hr⟩:=hl
 obtain⟨w1,hw1⟩:∃w1,w.alloc (.cells #[.func (.func 39) #[] #[]] 84)=w1:=⟨_,rfl⟩
 have b1:Below w.heap.size w w1:=by rw[←hw1];exact (Below.refl _ _).alloc (Nat.le_refl _) _
 have s1:w1.heap.size=w.heap.size+1:=by rw[←hw1];simp
 have p1:w1.cell? ⟨w.heap.size,0,none⟩=some (.func (.func 39) #[] #[]):=by rw[←hw1];exact cell_new 0 rfl
 have HCC:Hid _:=fun (_:Unit)=>con_reject (fun x=>!q x) w.heap.size l a c w1 hlen (hr.keep b1 b1.size (fun x vs _ h=>h)) (fun x hx  W hW=>by
  have pW:=(hW.cell (p:=⟨w.heap.size,0,none⟩) (by show w.heap.size<_;omega)).trans p1
  obtain⟨W1,hW1⟩:∃W1,W.alloc (.cells #[.string x.sort,.string x.by'] 73)=W1:=⟨_,rfl⟩
  have bb:Below W.heap.size W W1:=by rw[←hW1];exact (Below.refl _ _).alloc (Nat.le_refl _) _
  have hsW:w.heap.size<W.heap.size:=by have:=hW.size;omega
  have pW1:=(bb.cell (p:=⟨w.heap.size,0,none⟩) hsW).trans pW
  have HC1:Hid _:=HK0 x hx W1 ((b1.trans (hW.mono (by omega))).trans (bb.mono (by have:=hW.size;omega)))
  have t0:W1.cell? ⟨W.heap.size,0,none⟩=some (.string x.sort):=by rw[←hW1];exact cell_new 0 rfl
  have t1:W1.cell? ⟨W.heap.size,1,none⟩=some (.string x.by'):=by rw[←hW1];exact cell_new 1 rfl
  have HBB:=hHi bb
  clear pW bb HK0 hW
  go_enter Tryz.func90,Tryz.ntmps90
  go_wp2_with fail
  refine Calls.mono HC1.out ?_
  rintro e w6 ⟨rfl,hb6⟩
  have HB6:Hid _:=below_tr HBB.out hb6
  clear hb6
  go_wp2
  go_ret
  exact⟨rfl,HB6.out⟩)
 have HW1:=hHi b1
 have HAL:Hid ((!l.any (fun x=>!q x))=l.all q):=by show _=_;rw[List.all_eq_not_any_not]
 clear p1 b1 HK0 hr
 go_enter Tryz.func38,Tryz.ntmps38
 go_wp2_with (go_at_call 89;refine hMo HCC ?_)
 rintro e w6 ⟨rfl,hb6⟩
 have HB6:Hid _:=below_tr HW1.out hb6
 clear hb6
 go_wp2
 go_ret
 exact⟨by rw[HAL.out];rfl,HB6.out⟩
theorem idx_box (f:Nat) (Q:Bo→Bool) (P:Nat) (l:List Bo) (a:Option Addr) (c:Nat) (w:World) (hlen:l.length≤140737488355328) (hr:Row w w.heap.size 2 (BoV w w.heap.size f) a l) (HK0:∀x∈l,∀v,∀W,Below w.heap.size w W→Sl W W.heap.size 4 (ItV W W.heap.size f) x.items v→Calls Tryz.prog 92 #[.agg #[.string x.cons,v],.pointer (some ⟨P,0,none⟩)] W fun e W'=>e=.returned (.bool (Q x))∧Below W.heap.size W W') :
  Calls Tryz.prog 141 #[.slice a l.length c,.func (.func 92) #[] #[.pointer (some ⟨P,0,none⟩)]] w fun e w'=>(∃i:Int,e=.returned (.int .i64 i)∧-1≤i∧(0≤i↔l.any Q=true))∧Below w.heap.size w w':=by
 have HR:=hHi hr
 have HK:=hHi HK0
 clear hr HK0
 go_enter Tryz.func141,Tryz.ntmps141
 go_wp2
 go_loopw[5,8] (fun _ iv W=>∃k:Nat,k≤l.length∧iv=.int .i64 k∧(l.take k).any Q=false∧Below w.heap.size w W) (fun _ iv _=>l.length-(intOf iv).toNat)
 case atStart=>exact⟨0,Nat.zero_le _,rfl,rfl,Below.refl _ _⟩
 case round=>
  obtain⟨k,hk,rfl,hh,hB⟩:=hrel
  have HH:=hHi hh
  clear hh
  by_cases hlt:k<l.length
  ·obtain⟨x,hx⟩:∃x,l[k]?=some x:=⟨l[k],by simp[hlt]⟩
   have hr:=HR.out
   obtain⟨b,o,us,hab,hblt,⟨v,rfl,hfact⟩,hc⟩:=hr k x hx
   subst hab
   have hq_:=hcb hB hblt hc
   have c0:=hq_ 0 _ rfl
   have c1:=hq_ 1 _ rfl
   clear hq_
   rw[Nat.add_zero] at c0
   have hltI:(k:Int)<l.length:=by omega
   have HC:Hid _:=HK.out x (List.mem_of_getElem? hx) v wr hB (hfact.keep hB hB.size (fun _ _ _ h=>h.keep hB hB.size))
   have HX:=hHi hx
   clear hr hx hc
   cases h3:Q x with
   | true=>
    rw[h3] at HC
    have HMM:Hid _:=any_mem HX.out h3
    clear h3
    go_wp2_with fail
    refine Calls.mono HC.out ?_
    rintro e w6 ⟨rfl,hb6⟩
    have HB6:Hid (Below w.heap.size w w6):=below_tr hB hb6
    clear hb6 c0 c1
    go_wp2
    go_ret
    exact⟨⟨(k:Int),rfl,by omega,by rw[HMM.out];simp⟩,HB6.out⟩
   | false=>
    rw[h3] at HC
    have HE:Hid ((l.take (k+1)).any Q=false):=by show _=_;rw[any_take HX.out,h3,HH.out];rfl
    clear h3
    go_wp2_with fail
    refine Calls.mono HC.out ?_
    rintro e w6 ⟨rfl,hb6⟩
    have HB6:Hid (Below w.heap.size w w6):=below_tr hB hb6
    clear hb6 c0 c1
    go_wp2
    go_roundw
    case rel=>exact⟨k+1,by omega,by go_num,HE.out,HB6.out⟩
    case measure=>simp[intOf];omega
  ·obtain rfl:k=l.length:=by omega
   rw[List.take_length] at HH
   go_wp2
   go_ret
   exact⟨⟨-1,rfl,by omega,by rw[HH.out];simp⟩,hB⟩
theorem con_box (f:Nat) (Q:Bo→Bool) (P:Nat) (l:List Bo) (a:Option Addr) (c:Nat) (w:World) (hlen:l.length≤140737488355328) (hr:Row w w.heap.size 2 (BoV w w.heap.size f) a l) (HK0:∀x∈l,∀v,∀W,Below w.heap.size w W→Sl W W.heap.size 4 (ItV W W.heap.size f) x.items v→Calls Tryz.prog 92 #[.agg #[.string x.cons,v],.pointer (some ⟨P,0,none⟩)] W fun e W'=>e=.returned (.bool (Q x))∧Below W.heap.size W W') :
  Calls Tryz.prog 91 #[.slice a l.length c,.func (.func 92) #[] #[.pointer (some ⟨P,0,none⟩)]] w fun e w'=>e=.returned (.bool (l.any Q))∧Below w.heap.size w w':=by
 have HC:=hU (idx_box f Q P l a c w hlen hr HK0)
 clear hr HK0
 go_enter Tryz.func91,Tryz.ntmps91
 go_wp2_with (go_at_call 141;refine hMo HC ?_)
 rintro e w6 ⟨⟨i,rfl,h1,h2⟩,hb6⟩
 have hd:decide (0≤i)=l.any Q:=by
  by_cases hi:0≤i
  ·rw[decide_eq_true hi,h2.1 hi]
  ·rw[decide_eq_false hi]
   cases h:l.any Q
   ·rfl
   ·exact absurd (h2.2 h) hi
 have HD:=hHi hd
 clear hd h2
 go_wp2
 go_ret
 exact⟨by rw[HD.out];rfl,hb6⟩
theorem all_box (f:Nat) (q:Bo→Bool) (l:List Bo) (lv:Value) (w:World) (hl:Sl w w.heap.size 2 (BoV w w.heap.size f) l lv) (HK0:∀x∈l,∀v,∀W,Below w.heap.size w W→Sl W W.heap.size 4 (ItV W W.heap.size f) x.items v→Calls Tryz.prog 41 #[.agg #[.string x.cons,v]] W fun e W'=>e=.returned (.bool (q x))∧Below W.heap.size W W') :
  Calls Tryz.prog 40 #[lv,.func (.func 41) #[] #[]] w fun e w'=>e=.returned (.bool (l.all q))∧Below w.heap.size w w':=by
 obtain⟨a,c,rfl,hcap,hlen,hr⟩:=hl
 obtain⟨w1,hw1⟩:∃w1,w.alloc (.cells #[.func (.func 41) #[] #[]] 86)=w1:=⟨_,rfl⟩
 have b1:Below w.heap.size w w1:=by rw[←hw1];exact (Below.refl _ _).alloc (Nat.le_refl _) _
 have s1:w1.heap.size=w.heap.size+1:=by rw[←hw1];simp
 have p1:w1.cell? ⟨w.heap.size,0,none⟩=some (.func (.func 41) #[] #[]):=by rw[←hw1];exact cell_new 0 rfl
 have HCC:Hid _:=fun (_:Unit)=>con_box f (fun x=>!q x) w.heap.size l a c w1 hlen (hr.keep b1 b1.size (fun x vs _ h=>h.keep b1 b1.size)) (fun x hx v W hW hf=>by
  have pW:=(hW.cell (p:=⟨w.heap.size,0,none⟩) (by show w.heap.size<_;omega)).trans p1
  obtain⟨W1,hW1⟩:∃W1,W.alloc (.cells #[.string x.cons,v] 64)=W1:=⟨_,rfl⟩
  have bb:Below W.heap.size W W1:=by rw[←hW1];exact (Below.refl _ _).alloc (Nat.le_refl _) _
  have hsW:w.heap.size<W.heap.size:=by have:=hW.size;omega
  have pW1:=(bb.cell (p:=⟨w.heap.size,0,none⟩) hsW).trans pW
  have HC1:Hid _:=HK0 x hx v W1 ((b1.trans (hW.mono (by omega))).trans (bb.mono (by have:=hW.size;omega))) (hf.keep bb bb.size (fun _ _ _ h=>h.keep bb bb.size))
  have t0:W1.cell? ⟨W.heap.size,0,none⟩=some (.string x.cons):=by rw[←hW1];exact cell_new 0 rfl
  have t1:W1.cell? ⟨W.heap.size,1,none⟩=some (v):=by rw[←hW1];exact cell_new 1 rfl
  have HBB:=hHi bb
  clear pW bb HK0 hW
  go_enter Tryz.func92,Tryz.ntmps92
  go_wp2_with fail
  refine Calls.mono HC1.out ?_
  rintro e w6 ⟨rfl,hb6⟩
  have HB6:Hid _:=below_tr HBB.out hb6
  clear hb6
  go_wp2
  go_ret
  exact⟨rfl,HB6.out⟩)
 have HW1:=hHi b1
 have HAL:Hid ((!l.any (fun x=>!q x))=l.all q):=by show _=_;rw[List.all_eq_not_any_not]
 clear p1 b1 HK0 hr
 go_enter Tryz.func40,Tryz.ntmps40
 go_wp2_with (go_at_call 91;refine hMo HCC ?_)
 rintro e w6 ⟨rfl,hb6⟩
 have HB6:Hid _:=below_tr HW1.out hb6
 clear hb6
 go_wp2
 go_ret
 exact⟨by rw[HAL.out];rfl,HB6.out⟩
end Go.Proofs.YtcpakcffiopfjaaGreatDoor
