/- Whether all elements of a list are right: defs.all. -/
import Derived.Test.YtilpgpcgcpedjaaGreatA0
import Derived.Deep.SlicePairs
namespace Go.Proofs.YtilpgpcgcpedjaaGreat
open Go.RowKit
set_option linter.unusedVariables false
set_option linter.unusedSimpArgs false
set_option maxRecDepth 100000
set_option maxHeartbeats 16000000
set_option linter.unusedVariables false
set_option linter.unusedSimpArgs false
set_option maxRecDepth 100000
set_option maxHeartbeats 16000000
theorem cell_new {w:World} {cs:Array Value} {t:TypeId} (j:Nat) {v:Value} (h:cs[j]?=some v):(w.alloc (.cells cs t)).cell? ⟨w.heap.size,j,none⟩=some v:=by
 rw[World.cell?_alloc_new];exact h
theorem below_tr {w W W':World} (h:Below w.heap.size w W) (h':Below W.heap.size W W'):Below w.heap.size w W':=h.trans (h'.mono h.size)
theorem any_take {α:Type} {q:α→Bool} {l:List α} {k:Nat} {x:α} (h:l[k]?=some x):(l.take (k+1)).any q=((l.take k).any q||q x):=by
 have h:=List.getElem?_eq_some_iff.1 h
 rw[List.take_succ_eq_append_getElem h.1,h.2,List.any_append]
 simp
theorem any_mem {α:Type} {q:α→Bool} {l:List α} {k:Nat} {x:α} (h:l[k]?=some x) (hq:q x=true):l.any q=true:=List.any_eq_true.2 ⟨x,List.mem_of_getElem? h,hq⟩
theorem idx_sym (Q:Sy→Bool) (P:Nat) (l:List Sy) (a:Option Addr) (c:Nat) (w:World) (hlen:l.length≤140737488355328) (hr:Row w w.heap.size 8 SyV a l) (HK0:∀x∈l,x.set.ok→∀W,Below w.heap.size w W→Calls Tryz.prog 148 #[.agg #[.int .i64 x.kind,.string x.text,.int .u64 x.set.a,.int .u64 x.set.b,.int .u64 x.set.c,.int .u64 x.set.d,.string x.name,.string x.sep],.pointer (some ⟨P,0,none⟩)] W fun e W'=>e=.returned (.bool (Q x))∧Below W.heap.size W W') :
  Calls Tryz.prog 131 #[.slice a l.length c,.func (.func 148) #[] #[.pointer (some ⟨P,0,none⟩)]] w fun e w'=>(∃i:Int,e=.returned (.int .i64 i)∧-1≤i∧(0≤i↔l.any Q=true))∧Below w.heap.size w w':=by
 have HR:=hHi hr
 have HK:=hHi HK0
 clear hr HK0
 go_enter Tryz.func131,Tryz.ntmps131
 go_wp2
 go_loopw[5,8] (fun _ iv W=>∃k:Nat,k≤l.length∧iv=.int .i64 k∧(l.take k).any Q=false∧Below w.heap.size w W) (fun _ iv _=>l.length-(intOf iv).toNat)
 case atStart=>exact⟨0,Nat.zero_le _,rfl,rfl,Below.refl _ _⟩
 case round=>
  obtain⟨k,hk,rfl,hh,hB⟩:=hrel
  have HH:=hHi hh
  clear hh
  by_cases hlt:k<l.length
  ·obtain⟨x,hx⟩:∃x,l[k]?=some x:=⟨l[k],by simp[hlt]⟩
   have hr:=HR.out
   obtain⟨b,o,us,hab,hblt,⟨hfact,rfl⟩,hc⟩:=hr k x hx
   subst hab
   have hq_:=hcb hB hblt hc
   have c0:=hq_ 0 _ rfl
   have c1:=hq_ 1 _ rfl
   have c2:=hq_ 2 _ rfl
   have c3:=hq_ 3 _ rfl
   have c4:=hq_ 4 _ rfl
   have c5:=hq_ 5 _ rfl
   have c6:=hq_ 6 _ rfl
   have c7:=hq_ 7 _ rfl
   clear hq_
   rw[Nat.add_zero] at c0
   have hltI:(k:Int)<l.length:=by omega
   have HC:Hid _:=HK.out x (List.mem_of_getElem? hx) hfact wr hB
   have HX:=hHi hx
   clear hr hx hc
   cases h3:Q x with
   | true=>
    rw[h3] at HC
    have HMM:Hid _:=any_mem HX.out h3
    clear h3
    go_wp2_with fail
    refine Calls.mono HC.out ?_
    rintro e w6 ⟨rfl,hb6⟩
    have HB6:Hid (Below w.heap.size w w6):=below_tr hB hb6
    clear hb6 c0 c1 c2 c3 c4 c5 c6 c7
    go_wp2
    go_ret
    exact⟨⟨(k:Int),rfl,by omega,by rw[HMM.out];simp⟩,HB6.out⟩
   | false=>
    rw[h3] at HC
    have HE:Hid ((l.take (k+1)).any Q=false):=by show _=_;rw[any_take HX.out,h3,HH.out];rfl
    clear h3
    go_wp2_with fail
    refine Calls.mono HC.out ?_
    rintro e w6 ⟨rfl,hb6⟩
    have HB6:Hid (Below w.heap.size w w6):=below_tr hB hb6
    clear hb6 c0 c1 c2 c3 c4 c5 c6 c7
    go_wp2
    go_roundw
    case rel=>exact⟨k+1,by omega,by go_num,HE.out,HB6.out⟩
    case measure=>simp[intOf];omega
  ·obtain rfl:k=l.length:=by omega
   rw[List.take_length] at HH
   go_wp2
   go_ret
   exact⟨⟨-1,rfl,by omega,by rw[HH.out];simp⟩,hB⟩
theorem con_sym (Q:Sy→Bool) (P:Nat) (l:List Sy) (a:Option Addr) (c:Nat) (w:World) (hlen:l.length≤140737488355328) (hr:Row w w.heap.size 8 SyV a l) (HK0:∀x∈l,x.set.ok→∀W,Below w.heap.size w W→Calls Tryz.prog 148 #[.agg #[.int .i64 x.kind,.string x.text,.int .u64 x.set.a,.int .u64 x.set.b,.int .u64 x.set.c,.int .u64 x.set.d,.string x.name,.string x.sep],.pointer (some ⟨P,0,none⟩)] W fun e W'=>e=.returned (.bool (Q x))∧Below W.heap.size W W') :
  Calls Tryz.prog 88 #[.slice a l.length c,.func (.func 148) #[] #[.pointer (some ⟨P,0,none⟩)]] w fun e w'=>e=.returned (.bool (l.any Q))∧Below w.heap.size w w':=by
 have HC:=hU (idx_sym Q P l a c w hlen hr HK0)
 clear hr HK0
 go_enter Tryz.func88,Tryz.ntmps88
 go_wp2_with (go_at_call 131;refine hMo HC ?_)
 rintro e w6 ⟨⟨i,rfl,h1,h2⟩,hb6⟩
 have hd:decide (0≤i)=l.any Q:=by
  by_cases hi:0≤i
  ·rw[decide_eq_true hi,h2.1 hi]
  ·rw[decide_eq_false hi]
   cases h:l.any Q
   ·rfl
   ·exact absurd (h2.2 h) hi
 have HD:=hHi hd
 clear hd h2
 go_wp2
 go_ret
 exact⟨by rw[HD.out];rfl,hb6⟩
theorem all_sym (q:Sy→Bool) (l:List Sy) (lv:Value) (w:World) (hl:Sl w w.heap.size 8 SyV l lv) (HK0:∀x∈l,x.set.ok→∀W,Below w.heap.size w W→Calls Tryz.prog 115 #[.agg #[.int .i64 x.kind,.string x.text,.int .u64 x.set.a,.int .u64 x.set.b,.int .u64 x.set.c,.int .u64 x.set.d,.string x.name,.string x.sep]] W fun e W'=>e=.returned (.bool (q x))∧Below W.heap.size W W') :
  Calls Tryz.prog 114 #[lv,.func (.func 115) #[] #[]] w fun e w'=>e=.returned (.bool (l.all q))∧Below w.heap.size w w':=by
 obtain⟨a,c,rfl,hcap,hlen,hr⟩:=hl
 obtain⟨w1,hw1⟩:∃w1,w.alloc (.cells #[.func (.func 115) #[] #[]] 112)=w1:=⟨_,rfl⟩
 have b1:Below w.heap.size w w1:=by rw[←hw1];exact (Below.refl _ _).alloc (Nat.le_refl _) _
 have s1:w1.heap.size=w.heap.size+1:=by rw[←hw1];simp
 have p1:w1.cell? ⟨w.heap.size,0,none⟩=some (.func (.func 115) #[] #[]):=by rw[←hw1];exact cell_new 0 rfl
 have HCC:Hid _:=fun (_:Unit)=>con_sym (fun x=>!q x) w.heap.size l a c w1 hlen (hr.keep b1 b1.size (fun x vs _ h=>h)) (fun x hx hok W hW=>by
  have pW:=(hW.cell (p:=⟨w.heap.size,0,none⟩) (by show w.heap.size<_;omega)).trans p1
  obtain⟨W1,hW1⟩:∃W1,W.alloc (.cells #[.int .i64 x.kind,.string x.text,.int .u64 x.set.a,.int .u64 x.set.b,.int .u64 x.set.c,.int .u64 x.set.d,.string x.name,.string x.sep] 62)=W1:=⟨_,rfl⟩
  have bb:Below W.heap.size W W1:=by rw[←hW1];exact (Below.refl _ _).alloc (Nat.le_refl _) _
  have hsW:w.heap.size<W.heap.size:=by have:=hW.size;omega
  have pW1:=(bb.cell (p:=⟨w.heap.size,0,none⟩) hsW).trans pW
  have HC1:Hid _:=HK0 x hx hok W1 ((b1.trans (hW.mono (by omega))).trans (bb.mono (by have:=hW.size;omega)))
  have t0:W1.cell? ⟨W.heap.size,0,none⟩=some (.int .i64 x.kind):=by rw[←hW1];exact cell_new 0 rfl
  have t1:W1.cell? ⟨W.heap.size,1,none⟩=some (.string x.text):=by rw[←hW1];exact cell_new 1 rfl
  have t2:W1.cell? ⟨W.heap.size,2,none⟩=some (.int .u64 x.set.a):=by rw[←hW1];exact cell_new 2 rfl
  have t3:W1.cell? ⟨W.heap.size,3,none⟩=some (.int .u64 x.set.b):=by rw[←hW1];exact cell_new 3 rfl
  have t4:W1.cell? ⟨W.heap.size,4,none⟩=some (.int .u64 x.set.c):=by rw[←hW1];exact cell_new 4 rfl
  have t5:W1.cell? ⟨W.heap.size,5,none⟩=some (.int .u64 x.set.d):=by rw[←hW1];exact cell_new 5 rfl
  have t6:W1.cell? ⟨W.heap.size,6,none⟩=some (.string x.name):=by rw[←hW1];exact cell_new 6 rfl
  have t7:W1.cell? ⟨W.heap.size,7,none⟩=some (.string x.sep):=by rw[←hW1];exact cell_new 7 rfl
  have HBB:=hHi bb
  clear pW bb HK0 hW
  go_enter Tryz.func148,Tryz.ntmps148
  go_wp2_with fail
  refine Calls.mono HC1.out ?_
  rintro e w6 ⟨rfl,hb6⟩
  have HB6:Hid _:=below_tr HBB.out hb6
  clear hb6
  go_wp2
  go_ret
  exact⟨rfl,HB6.out⟩)
 have HW1:=hHi b1
 have HAL:Hid ((!l.any (fun x=>!q x))=l.all q):=by show _=_;rw[List.all_eq_not_any_not]
 clear p1 b1 HK0 hr
 go_enter Tryz.func114,Tryz.ntmps114
 go_wp2_with (go_at_call 88;refine hMo HCC ?_)
 rintro e w6 ⟨rfl,hb6⟩
 have HB6:Hid _:=below_tr HW1.out hb6
 clear hb6
 go_wp2
 go_ret
 exact⟨by rw[HAL.out];rfl,HB6.out⟩
theorem idx_prod (Q:Pr→Bool) (P:Nat) (l:List Pr) (a:Option Addr) (c:Nat) (w:World) (hlen:l.length≤140737488355328) (hr:Row w w.heap.size 5 (PrV w w.heap.size) a l) (HK0:∀x∈l,∀v,∀W,Below w.heap.size w W→Sl W W.heap.size 8 SyV x.syms v→Calls Tryz.prog 112 #[.agg #[.bool x.lex,.string x.sort,.string x.cons,.bool x.bracket,v],.pointer (some ⟨P,0,none⟩)] W fun e W'=>e=.returned (.bool (Q x))∧Below W.heap.size W W') :
  Calls Tryz.prog 147 #[.slice a l.length c,.func (.func 112) #[] #[.pointer (some ⟨P,0,none⟩)]] w fun e w'=>(∃i:Int,e=.returned (.int .i64 i)∧-1≤i∧(0≤i↔l.any Q=true))∧Below w.heap.size w w':=by
 have HR:=hHi hr
 have HK:=hHi HK0
 clear hr HK0
 go_enter Tryz.func147,Tryz.ntmps147
 go_wp2
 go_loopw[5,8] (fun _ iv W=>∃k:Nat,k≤l.length∧iv=.int .i64 k∧(l.take k).any Q=false∧Below w.heap.size w W) (fun _ iv _=>l.length-(intOf iv).toNat)
 case atStart=>exact⟨0,Nat.zero_le _,rfl,rfl,Below.refl _ _⟩
 case round=>
  obtain⟨k,hk,rfl,hh,hB⟩:=hrel
  have HH:=hHi hh
  clear hh
  by_cases hlt:k<l.length
  ·obtain⟨x,hx⟩:∃x,l[k]?=some x:=⟨l[k],by simp[hlt]⟩
   have hr:=HR.out
   obtain⟨b,o,us,hab,hblt,⟨v,rfl,hfact⟩,hc⟩:=hr k x hx
   subst hab
   have hq_:=hcb hB hblt hc
   have c0:=hq_ 0 _ rfl
   have c1:=hq_ 1 _ rfl
   have c2:=hq_ 2 _ rfl
   have c3:=hq_ 3 _ rfl
   have c4:=hq_ 4 _ rfl
   clear hq_
   rw[Nat.add_zero] at c0
   have hltI:(k:Int)<l.length:=by omega
   have HC:Hid _:=HK.out x (List.mem_of_getElem? hx) v wr hB (hfact.keep hB hB.size (fun _ _ _ h=>h))
   have HX:=hHi hx
   clear hr hx hc
   cases h3:Q x with
   | true=>
    rw[h3] at HC
    have HMM:Hid _:=any_mem HX.out h3
    clear h3
    go_wp2_with fail
    refine Calls.mono HC.out ?_
    rintro e w6 ⟨rfl,hb6⟩
    have HB6:Hid (Below w.heap.size w w6):=below_tr hB hb6
    clear hb6 c0 c1 c2 c3 c4
    go_wp2
    go_ret
    exact⟨⟨(k:Int),rfl,by omega,by rw[HMM.out];simp⟩,HB6.out⟩
   | false=>
    rw[h3] at HC
    have HE:Hid ((l.take (k+1)).any Q=false):=by show _=_;rw[any_take HX.out,h3,HH.out];rfl
    clear h3
    go_wp2_with fail
    refine Calls.mono HC.out ?_
    rintro e w6 ⟨rfl,hb6⟩
    have HB6:Hid (Below w.heap.size w w6):=below_tr hB hb6
    clear hb6 c0 c1 c2 c3 c4
    go_wp2
    go_roundw
    case rel=>exact⟨k+1,by omega,by go_num,HE.out,HB6.out⟩
    case measure=>simp[intOf];omega
  ·obtain rfl:k=l.length:=by omega
   rw[List.take_length] at HH
   go_wp2
   go_ret
   exact⟨⟨-1,rfl,by omega,by rw[HH.out];simp⟩,hB⟩
theorem con_prod (Q:Pr→Bool) (P:Nat) (l:List Pr) (a:Option Addr) (c:Nat) (w:World) (hlen:l.length≤140737488355328) (hr:Row w w.heap.size 5 (PrV w w.heap.size) a l) (HK0:∀x∈l,∀v,∀W,Below w.heap.size w W→Sl W W.heap.size 8 SyV x.syms v→Calls Tryz.prog 112 #[.agg #[.bool x.lex,.string x.sort,.string x.cons,.bool x.bracket,v],.pointer (some ⟨P,0,none⟩)] W fun e W'=>e=.returned (.bool (Q x))∧Below W.heap.size W W') :
  Calls Tryz.prog 111 #[.slice a l.length c,.func (.func 112) #[] #[.pointer (some ⟨P,0,none⟩)]] w fun e w'=>e=.returned (.bool (l.any Q))∧Below w.heap.size w w':=by
 have HC:=hU (idx_prod Q P l a c w hlen hr HK0)
 clear hr HK0
 go_enter Tryz.func111,Tryz.ntmps111
 go_wp2_with (go_at_call 147;refine hMo HC ?_)
 rintro e w6 ⟨⟨i,rfl,h1,h2⟩,hb6⟩
 have hd:decide (0≤i)=l.any Q:=by
  by_cases hi:0≤i
  ·rw[decide_eq_true hi,h2.1 hi]
  ·rw[decide_eq_false hi]
   cases h:l.any Q
   ·rfl
   ·exact absurd (h2.2 h) hi
 have HD:=hHi hd
 clear hd h2
 go_wp2
 go_ret
 exact⟨by rw[HD.out];rfl,hb6⟩
theorem all_prod (q:Pr→Bool) (l:List Pr) (lv:Value) (w:World) (hl:Sl w w.heap.size 5 (PrV w w.heap.size) l lv) (HK0:∀x∈l,∀v,∀W,Below w.heap.size w W→Sl W W.heap.size 8 SyV x.syms v→Calls Tryz.prog 71 #[.agg #[.bool x.lex,.string x.sort,.string x.cons,.bool x.bracket,v]] W fun e W'=>e=.returned (.bool (q x))∧Below W.heap.size W W') :
  Calls Tryz.prog 70 #[lv,.func (.func 71) #[] #[]] w fun e w'=>e=.returned (.bool (l.all q))∧Below w.heap.size w w':=by
 obtain⟨a,c,rfl,hcap,hlen,hr⟩:=hl
 obtain⟨w1,hw1⟩:∃w1,w.alloc (.cells #[.func (.func 71) #[] #[]] 48)=w1:=⟨_,rfl⟩
 have b1:Below w.heap.size w w1:=by rw[←hw1];exact (Below.refl _ _).alloc (Nat.le_refl _) _
 have s1:w1.heap.size=w.heap.size+1:=by rw[←hw1];simp
 have p1:w1.cell? ⟨w.heap.size,0,none⟩=some (.func (.func 71) #[] #[]):=by rw[←hw1];exact cell_new 0 rfl
 have HCC:Hid _:=fun (_:Unit)=>con_prod (fun x=>!q x) w.heap.size l a c w1 hlen (hr.keep b1 b1.size (fun x vs _ h=>h.keep b1 b1.size)) (fun x hx v W hW hf=>by
  have pW:=(hW.cell (p:=⟨w.heap.size,0,none⟩) (by show w.heap.size<_;omega)).trans p1
  obtain⟨W1,hW1⟩:∃W1,W.alloc (.cells #[.bool x.lex,.string x.sort,.string x.cons,.bool x.bracket,v] 44)=W1:=⟨_,rfl⟩
  have bb:Below W.heap.size W W1:=by rw[←hW1];exact (Below.refl _ _).alloc (Nat.le_refl _) _
  have hsW:w.heap.size<W.heap.size:=by have:=hW.size;omega
  have pW1:=(bb.cell (p:=⟨w.heap.size,0,none⟩) hsW).trans pW
  have HC1:Hid _:=HK0 x hx v W1 ((b1.trans (hW.mono (by omega))).trans (bb.mono (by have:=hW.size;omega))) (hf.keep bb bb.size (fun _ _ _ h=>h))
  have t0:W1.cell? ⟨W.heap.size,0,none⟩=some (.bool x.lex):=by rw[←hW1];exact cell_new 0 rfl
  have t1:W1.cell? ⟨W.heap.size,1,none⟩=some (.string x.sort):=by rw[←hW1];exact cell_new 1 rfl
  have t2:W1.cell? ⟨W.heap.size,2,none⟩=some (.string x.cons):=by rw[←hW1];exact cell_new 2 rfl
  have t3:W1.cell? ⟨W.heap.size,3,none⟩=some (.bool x.bracket):=by rw[←hW1];exact cell_new 3 rfl
  have t4:W1.cell? ⟨W.heap.size,4,none⟩=some (v):=by rw[←hW1];exact cell_new 4 rfl
  have HBB:=hHi bb
  clear pW bb HK0 hW
  go_enter Tryz.func112,Tryz.ntmps112
  go_wp2_with fail
  refine Calls.mono HC1.out ?_
  rintro e w6 ⟨rfl,hb6⟩
  have HB6:Hid _:=below_tr HBB.out hb6
  clear hb6
  go_wp2
  go_ret
  exact⟨rfl,HB6.out⟩)
 have HW1:=hHi b1
 have HAL:Hid ((!l.any (fun x=>!q x))=l.all q):=by show _=_;rw[List.all_eq_not_any_not]
 clear p1 b1 HK0 hr
 go_enter Tryz.func70,Tryz.ntmps70
 go_wp2_with (go_at_call 111;refine hMo HCC ?_)
 rintro e w6 ⟨rfl,hb6⟩
 have HB6:Hid _:=below_tr HW1.out hb6
 clear hb6
 go_wp2
 go_ret
 exact⟨by rw[HAL.out];rfl,HB6.out⟩
theorem idx_str (Q:ByteArray→Bool) (P:Nat) (l:List ByteArray) (a:Option Addr) (c:Nat) (w:World) (hlen:l.length≤140737488355328) (hr:Row w w.heap.size 1 StrV a l) (HK0:∀x∈l,∀W,Below w.heap.size w W→Calls Tryz.prog 166 #[.string x,.pointer (some ⟨P,0,none⟩)] W fun e W'=>e=.returned (.bool (Q x))∧Below W.heap.size W W') :
  Calls Tryz.prog 172 #[.slice a l.length c,.func (.func 166) #[] #[.pointer (some ⟨P,0,none⟩)]] w fun e w'=>(∃i:Int,e=.returned (.int .i64 i)∧-1≤i∧(0≤i↔l.any Q=true))∧Below w.heap.size w w':=by
 have HR:=hHi hr
 have HK:=hHi HK0
 clear hr HK0
 go_enter Tryz.func172,Tryz.ntmps172
 go_wp2
 go_loopw[5,8] (fun _ iv W=>∃k:Nat,k≤l.length∧iv=.int .i64 k∧(l.take k).any Q=false∧Below w.heap.size w W) (fun _ iv _=>l.length-(intOf iv).toNat)
 case atStart=>exact⟨0,Nat.zero_le _,rfl,rfl,Below.refl _ _⟩
 case round=>
  obtain⟨k,hk,rfl,hh,hB⟩:=hrel
  have HH:=hHi hh
  clear hh
  by_cases hlt:k<l.length
  ·obtain⟨x,hx⟩:∃x,l[k]?=some x:=⟨l[k],by simp[hlt]⟩
   have hr:=HR.out
   obtain⟨b,o,us,hab,hblt,hus,hc⟩:=hr k x hx
   have hus:us=[.string x]:=hus
   subst hus
   subst hab
   have c0:=(hB.cell (p:=⟨b,o+k*1+0,none⟩) hblt).trans (hc 0 _ rfl)
   rw[Nat.mul_one,Nat.add_zero] at c0
   have hltI:(k:Int)<l.length:=by omega
   have HC:Hid _:=HK.out x (List.mem_of_getElem? hx) wr hB
   have HX:=hHi hx
   clear hr hx hc
   cases h3:Q x with
   | true=>
    rw[h3] at HC
    have HMM:Hid _:=any_mem HX.out h3
    clear h3
    go_wp2_with fail
    refine Calls.mono HC.out ?_
    rintro e w6 ⟨rfl,hb6⟩
    have HB6:Hid (Below w.heap.size w w6):=below_tr hB hb6
    clear hb6 c0
    go_wp2
    go_ret
    exact⟨⟨(k:Int),rfl,by omega,by rw[HMM.out];simp⟩,HB6.out⟩
   | false=>
    rw[h3] at HC
    have HE:Hid ((l.take (k+1)).any Q=false):=by show _=_;rw[any_take HX.out,h3,HH.out];rfl
    clear h3
    go_wp2_with fail
    refine Calls.mono HC.out ?_
    rintro e w6 ⟨rfl,hb6⟩
    have HB6:Hid (Below w.heap.size w w6):=below_tr hB hb6
    clear hb6 c0
    go_wp2
    go_roundw
    case rel=>exact⟨k+1,by omega,by go_num,HE.out,HB6.out⟩
    case measure=>simp[intOf];omega
  ·obtain rfl:k=l.length:=by omega
   rw[List.take_length] at HH
   go_wp2
   go_ret
   exact⟨⟨-1,rfl,by omega,by rw[HH.out];simp⟩,hB⟩
theorem con_str (Q:ByteArray→Bool) (P:Nat) (l:List ByteArray) (a:Option Addr) (c:Nat) (w:World) (hlen:l.length≤140737488355328) (hr:Row w w.heap.size 1 StrV a l) (HK0:∀x∈l,∀W,Below w.heap.size w W→Calls Tryz.prog 166 #[.string x,.pointer (some ⟨P,0,none⟩)] W fun e W'=>e=.returned (.bool (Q x))∧Below W.heap.size W W') :
  Calls Tryz.prog 165 #[.slice a l.length c,.func (.func 166) #[] #[.pointer (some ⟨P,0,none⟩)]] w fun e w'=>e=.returned (.bool (l.any Q))∧Below w.heap.size w w':=by
 have HC:=hU (idx_str Q P l a c w hlen hr HK0)
 clear hr HK0
 go_enter Tryz.func165,Tryz.ntmps165
 go_wp2_with (go_at_call 172;refine hMo HC ?_)
 rintro e w6 ⟨⟨i,rfl,h1,h2⟩,hb6⟩
 have hd:decide (0≤i)=l.any Q:=by
  by_cases hi:0≤i
  ·rw[decide_eq_true hi,h2.1 hi]
  ·rw[decide_eq_false hi]
   cases h:l.any Q
   ·rfl
   ·exact absurd (h2.2 h) hi
 have HD:=hHi hd
 clear hd h2
 go_wp2
 go_ret
 exact⟨by rw[HD.out];rfl,hb6⟩
theorem all_str (q:ByteArray→Bool) (l:List ByteArray) (lv:Value) (w:World) (hl:Sl w w.heap.size 1 StrV l lv) (HK0:∀x∈l,∀W,Below w.heap.size w W→Calls Tryz.prog 76 #[.string x] W fun e W'=>e=.returned (.bool (q x))∧Below W.heap.size W W') :
  Calls Tryz.prog 153 #[lv,.func (.func 76) #[] #[]] w fun e w'=>e=.returned (.bool (l.all q))∧Below w.heap.size w w':=by
 obtain⟨a,c,rfl,hcap,hlen,hr⟩:=hl
 obtain⟨w1,hw1⟩:∃w1,w.alloc (.cells #[.func (.func 76) #[] #[]] 86)=w1:=⟨_,rfl⟩
 have b1:Below w.heap.size w w1:=by rw[←hw1];exact (Below.refl _ _).alloc (Nat.le_refl _) _
 have s1:w1.heap.size=w.heap.size+1:=by rw[←hw1];simp
 have p1:w1.cell? ⟨w.heap.size,0,none⟩=some (.func (.func 76) #[] #[]):=by rw[←hw1];exact cell_new 0 rfl
 have HCC:Hid _:=fun (_:Unit)=>con_str (fun x=>!q x) w.heap.size l a c w1 hlen (hr.keep b1 b1.size (fun x vs _ h=>h)) (fun x hx  W hW=>by
  have pW:=(hW.cell (p:=⟨w.heap.size,0,none⟩) (by show w.heap.size<_;omega)).trans p1
  have hsW:w.heap.size<W.heap.size:=by have:=hW.size;omega
  have HC1:Hid _:=HK0 x hx W (b1.trans (hW.mono (by omega)))
  clear HK0 hW
  go_enter Tryz.func166,Tryz.ntmps166
  go_wp2_with fail
  refine Calls.mono HC1.out ?_
  rintro e w6 ⟨rfl,hb6⟩
  have HB6:=hHi hb6
  clear hb6
  go_wp2
  go_ret
  exact⟨rfl,HB6.out⟩)
 have HW1:=hHi b1
 have HAL:Hid ((!l.any (fun x=>!q x))=l.all q):=by show _=_;rw[List.all_eq_not_any_not]
 clear p1 b1 HK0 hr
 go_enter Tryz.func153,Tryz.ntmps153
 go_wp2_with (go_at_call 165;refine hMo HCC ?_)
 rintro e w6 ⟨rfl,hb6⟩
 have HB6:Hid _:=below_tr HW1.out hb6
 clear hb6
 go_wp2
 go_ret
 exact⟨by rw[HAL.out];rfl,HB6.out⟩
theorem idx_group (Q:Gr→Bool) (P:Nat) (l:List Gr) (a:Option Addr) (c:Nat) (w:World) (hlen:l.length≤140737488355328) (hr:Row w w.heap.size 2 (GrV w w.heap.size) a l) (HK0:∀x∈l,∀v,∀W,Below w.heap.size w W→Sl W W.heap.size 1 StrV x.cons v→Calls Tryz.prog 152 #[.agg #[.int .i64 x.assoc,v],.pointer (some ⟨P,0,none⟩)] W fun e W'=>e=.returned (.bool (Q x))∧Below W.heap.size W W') :
  Calls Tryz.prog 164 #[.slice a l.length c,.func (.func 152) #[] #[.pointer (some ⟨P,0,none⟩)]] w fun e w'=>(∃i:Int,e=.returned (.int .i64 i)∧-1≤i∧(0≤i↔l.any Q=true))∧Below w.heap.size w w':=by
 have HR:=hHi hr
 have HK:=hHi HK0
 clear hr HK0
 go_enter Tryz.func164,Tryz.ntmps164
 go_wp2
 go_loopw[5,8] (fun _ iv W=>∃k:Nat,k≤l.length∧iv=.int .i64 k∧(l.take k).any Q=false∧Below w.heap.size w W) (fun _ iv _=>l.length-(intOf iv).toNat)
 case atStart=>exact⟨0,Nat.zero_le _,rfl,rfl,Below.refl _ _⟩
 case round=>
  obtain⟨k,hk,rfl,hh,hB⟩:=hrel
  have HH:=hHi hh
  clear hh
  by_cases hlt:k<l.length
  ·obtain⟨x,hx⟩:∃x,l[k]?=some x:=⟨l[k],by simp[hlt]⟩
   have hr:=HR.out
   obtain⟨b,o,us,hab,hblt,⟨v,rfl,hfact⟩,hc⟩:=hr k x hx
   subst hab
   have hq_:=hcb hB hblt hc
   have c0:=hq_ 0 _ rfl
   have c1:=hq_ 1 _ rfl
   clear hq_
   rw[Nat.add_zero] at c0
   have hltI:(k:Int)<l.length:=by omega
   have HC:Hid _:=HK.out x (List.mem_of_getElem? hx) v wr hB (hfact.keep hB hB.size (fun _ _ _ h=>h))
   have HX:=hHi hx
   clear hr hx hc
   cases h3:Q x with
   | true=>
    rw[h3] at HC
    have HMM:Hid _:=any_mem HX.out h3
    clear h3
    go_wp2_with fail
    refine Calls.mono HC.out ?_
    rintro e w6 ⟨rfl,hb6⟩
    have HB6:Hid (Below w.heap.size w w6):=below_tr hB hb6
    clear hb6 c0 c1
    go_wp2
    go_ret
    exact⟨⟨(k:Int),rfl,by omega,by rw[HMM.out];simp⟩,HB6.out⟩
   | false=>
    rw[h3] at HC
    have HE:Hid ((l.take (k+1)).any Q=false):=by show _=_;rw[any_take HX.out,h3,HH.out];rfl
    clear h3
    go_wp2_with fail
    refine Calls.mono HC.out ?_
    rintro e w6 ⟨rfl,hb6⟩
    have HB6:Hid (Below w.heap.size w w6):=below_tr hB hb6
    clear hb6 c0 c1
    go_wp2
    go_roundw
    case rel=>exact⟨k+1,by omega,by go_num,HE.out,HB6.out⟩
    case measure=>simp[intOf];omega
  ·obtain rfl:k=l.length:=by omega
   rw[List.take_length] at HH
   go_wp2
   go_ret
   exact⟨⟨-1,rfl,by omega,by rw[HH.out];simp⟩,hB⟩
theorem con_group (Q:Gr→Bool) (P:Nat) (l:List Gr) (a:Option Addr) (c:Nat) (w:World) (hlen:l.length≤140737488355328) (hr:Row w w.heap.size 2 (GrV w w.heap.size) a l) (HK0:∀x∈l,∀v,∀W,Below w.heap.size w W→Sl W W.heap.size 1 StrV x.cons v→Calls Tryz.prog 152 #[.agg #[.int .i64 x.assoc,v],.pointer (some ⟨P,0,none⟩)] W fun e W'=>e=.returned (.bool (Q x))∧Below W.heap.size W W') :
  Calls Tryz.prog 151 #[.slice a l.length c,.func (.func 152) #[] #[.pointer (some ⟨P,0,none⟩)]] w fun e w'=>e=.returned (.bool (l.any Q))∧Below w.heap.size w w':=by
 have HC:=hU (idx_group Q P l a c w hlen hr HK0)
 clear hr HK0
 go_enter Tryz.func151,Tryz.ntmps151
 go_wp2_with (go_at_call 164;refine hMo HC ?_)
 rintro e w6 ⟨⟨i,rfl,h1,h2⟩,hb6⟩
 have hd:decide (0≤i)=l.any Q:=by
  by_cases hi:0≤i
  ·rw[decide_eq_true hi,h2.1 hi]
  ·rw[decide_eq_false hi]
   cases h:l.any Q
   ·rfl
   ·exact absurd (h2.2 h) hi
 have HD:=hHi hd
 clear hd h2
 go_wp2
 go_ret
 exact⟨by rw[HD.out];rfl,hb6⟩
theorem all_group (q:Gr→Bool) (l:List Gr) (lv:Value) (w:World) (hl:Sl w w.heap.size 2 (GrV w w.heap.size) l lv) (HK0:∀x∈l,∀v,∀W,Below w.heap.size w W→Sl W W.heap.size 1 StrV x.cons v→Calls Tryz.prog 119 #[.agg #[.int .i64 x.assoc,v]] W fun e W'=>e=.returned (.bool (q x))∧Below W.heap.size W W') :
  Calls Tryz.prog 118 #[lv,.func (.func 119) #[] #[]] w fun e w'=>e=.returned (.bool (l.all q))∧Below w.heap.size w w':=by
 obtain⟨a,c,rfl,hcap,hlen,hr⟩:=hl
 obtain⟨w1,hw1⟩:∃w1,w.alloc (.cells #[.func (.func 119) #[] #[]] 118)=w1:=⟨_,rfl⟩
 have b1:Below w.heap.size w w1:=by rw[←hw1];exact (Below.refl _ _).alloc (Nat.le_refl _) _
 have s1:w1.heap.size=w.heap.size+1:=by rw[←hw1];simp
 have p1:w1.cell? ⟨w.heap.size,0,none⟩=some (.func (.func 119) #[] #[]):=by rw[←hw1];exact cell_new 0 rfl
 have HCC:Hid _:=fun (_:Unit)=>con_group (fun x=>!q x) w.heap.size l a c w1 hlen (hr.keep b1 b1.size (fun x vs _ h=>h.keep b1 b1.size)) (fun x hx v W hW hf=>by
  have pW:=(hW.cell (p:=⟨w.heap.size,0,none⟩) (by show w.heap.size<_;omega)).trans p1
  obtain⟨W1,hW1⟩:∃W1,W.alloc (.cells #[.int .i64 x.assoc,v] 68)=W1:=⟨_,rfl⟩
  have bb:Below W.heap.size W W1:=by rw[←hW1];exact (Below.refl _ _).alloc (Nat.le_refl _) _
  have hsW:w.heap.size<W.heap.size:=by have:=hW.size;omega
  have pW1:=(bb.cell (p:=⟨w.heap.size,0,none⟩) hsW).trans pW
  have HC1:Hid _:=HK0 x hx v W1 ((b1.trans (hW.mono (by omega))).trans (bb.mono (by have:=hW.size;omega))) (hf.keep bb bb.size (fun _ _ _ h=>h))
  have t0:W1.cell? ⟨W.heap.size,0,none⟩=some (.int .i64 x.assoc):=by rw[←hW1];exact cell_new 0 rfl
  have t1:W1.cell? ⟨W.heap.size,1,none⟩=some (v):=by rw[←hW1];exact cell_new 1 rfl
  have HBB:=hHi bb
  clear pW bb HK0 hW
  go_enter Tryz.func152,Tryz.ntmps152
  go_wp2_with fail
  refine Calls.mono HC1.out ?_
  rintro e w6 ⟨rfl,hb6⟩
  have HB6:Hid _:=below_tr HBB.out hb6
  clear hb6
  go_wp2
  go_ret
  exact⟨rfl,HB6.out⟩)
 have HW1:=hHi b1
 have HAL:Hid ((!l.any (fun x=>!q x))=l.all q):=by show _=_;rw[List.all_eq_not_any_not]
 clear p1 b1 HK0 hr
 go_enter Tryz.func118,Tryz.ntmps118
 go_wp2_with (go_at_call 151;refine hMo HCC ?_)
 rintro e w6 ⟨rfl,hb6⟩
 have HB6:Hid _:=below_tr HW1.out hb6
 clear hb6
 go_wp2
 go_ret
 exact⟨by rw[HAL.out];rfl,HB6.out⟩
theorem idx_chain (Q:(List Gr)→Bool) (P:Nat) (l:List (List Gr)) (a:Option Addr) (c:Nat) (w:World) (hlen:l.length≤140737488355328) (hr:Row w w.heap.size 1 (ChV w w.heap.size) a l) (HK0:∀x∈l,∀v,∀W,Below w.heap.size w W→Sl W W.heap.size 2 (GrV W W.heap.size) x v→Calls Tryz.prog 117 #[v,.pointer (some ⟨P,0,none⟩)] W fun e W'=>e=.returned (.bool (Q x))∧Below W.heap.size W W') :
  Calls Tryz.prog 150 #[.slice a l.length c,.func (.func 117) #[] #[.pointer (some ⟨P,0,none⟩)]] w fun e w'=>(∃i:Int,e=.returned (.int .i64 i)∧-1≤i∧(0≤i↔l.any Q=true))∧Below w.heap.size w w':=by
 have HR:=hHi hr
 have HK:=hHi HK0
 clear hr HK0
 go_enter Tryz.func150,Tryz.ntmps150
 go_wp2
 go_loopw[5,8] (fun _ iv W=>∃k:Nat,k≤l.length∧iv=.int .i64 k∧(l.take k).any Q=false∧Below w.heap.size w W) (fun _ iv _=>l.length-(intOf iv).toNat)
 case atStart=>exact⟨0,Nat.zero_le _,rfl,rfl,Below.refl _ _⟩
 case round=>
  obtain⟨k,hk,rfl,hh,hB⟩:=hrel
  have HH:=hHi hh
  clear hh
  by_cases hlt:k<l.length
  ·obtain⟨x,hx⟩:∃x,l[k]?=some x:=⟨l[k],by simp[hlt]⟩
   have hr:=HR.out
   obtain⟨b,o,us,hab,hblt,⟨v,rfl,hfact⟩,hc⟩:=hr k x hx
   subst hab
   have c0:=(hB.cell (p:=⟨b,o+k*1+0,none⟩) hblt).trans (hc 0 _ rfl)
   rw[Nat.mul_one,Nat.add_zero] at c0
   have hltI:(k:Int)<l.length:=by omega
   have HC:Hid _:=HK.out x (List.mem_of_getElem? hx) v wr hB (hfact.keep hB hB.size (fun _ _ _ h=>h.keep hB hB.size))
   have HX:=hHi hx
   clear hr hx hc
   cases h3:Q x with
   | true=>
    rw[h3] at HC
    have HMM:Hid _:=any_mem HX.out h3
    clear h3
    go_wp2_with fail
    refine Calls.mono HC.out ?_
    rintro e w6 ⟨rfl,hb6⟩
    have HB6:Hid (Below w.heap.size w w6):=below_tr hB hb6
    clear hb6 c0
    go_wp2
    go_ret
    exact⟨⟨(k:Int),rfl,by omega,by rw[HMM.out];simp⟩,HB6.out⟩
   | false=>
    rw[h3] at HC
    have HE:Hid ((l.take (k+1)).any Q=false):=by show _=_;rw[any_take HX.out,h3,HH.out];rfl
    clear h3
    go_wp2_with fail
    refine Calls.mono HC.out ?_
    rintro e w6 ⟨rfl,hb6⟩
    have HB6:Hid (Below w.heap.size w w6):=below_tr hB hb6
    clear hb6 c0
    go_wp2
    go_roundw
    case rel=>exact⟨k+1,by omega,by go_num,HE.out,HB6.out⟩
    case measure=>simp[intOf];omega
  ·obtain rfl:k=l.length:=by omega
   rw[List.take_length] at HH
   go_wp2
   go_ret
   exact⟨⟨-1,rfl,by omega,by rw[HH.out];simp⟩,hB⟩
theorem con_chain (Q:(List Gr)→Bool) (P:Nat) (l:List (List Gr)) (a:Option Addr) (c:Nat) (w:World) (hlen:l.length≤140737488355328) (hr:Row w w.heap.size 1 (ChV w w.heap.size) a l) (HK0:∀x∈l,∀v,∀W,Below w.heap.size w W→Sl W W.heap.size 2 (GrV W W.heap.size) x v→Calls Tryz.prog 117 #[v,.pointer (some ⟨P,0,none⟩)] W fun e W'=>e=.returned (.bool (Q x))∧Below W.heap.size W W') :
  Calls Tryz.prog 116 #[.slice a l.length c,.func (.func 117) #[] #[.pointer (some ⟨P,0,none⟩)]] w fun e w'=>e=.returned (.bool (l.any Q))∧Below w.heap.size w w':=by
 have HC:=hU (idx_chain Q P l a c w hlen hr HK0)
 clear hr HK0
 go_enter Tryz.func116,Tryz.ntmps116
 go_wp2_with (go_at_call 150;refine hMo HC ?_)
 rintro e w6 ⟨⟨i,rfl,h1,h2⟩,hb6⟩
 have hd:decide (0≤i)=l.any Q:=by
  by_cases hi:0≤i
  ·rw[decide_eq_true hi,h2.1 hi]
  ·rw[decide_eq_false hi]
   cases h:l.any Q
   ·rfl
   ·exact absurd (h2.2 h) hi
 have HD:=hHi hd
 clear hd h2
 go_wp2
 go_ret
 exact⟨by rw[HD.out];rfl,hb6⟩
theorem all_chain (q:(List Gr)→Bool) (l:List (List Gr)) (lv:Value) (w:World) (hl:Sl w w.heap.size 1 (ChV w w.heap.size) l lv) (HK0:∀x∈l,∀v,∀W,Below w.heap.size w W→Sl W W.heap.size 2 (GrV W W.heap.size) x v→Calls Tryz.prog 73 #[v] W fun e W'=>e=.returned (.bool (q x))∧Below W.heap.size W W') :
  Calls Tryz.prog 72 #[lv,.func (.func 73) #[] #[]] w fun e w'=>e=.returned (.bool (l.all q))∧Below w.heap.size w w':=by
 obtain⟨a,c,rfl,hcap,hlen,hr⟩:=hl
 obtain⟨w1,hw1⟩:∃w1,w.alloc (.cells #[.func (.func 73) #[] #[]] 101)=w1:=⟨_,rfl⟩
 have b1:Below w.heap.size w w1:=by rw[←hw1];exact (Below.refl _ _).alloc (Nat.le_refl _) _
 have s1:w1.heap.size=w.heap.size+1:=by rw[←hw1];simp
 have p1:w1.cell? ⟨w.heap.size,0,none⟩=some (.func (.func 73) #[] #[]):=by rw[←hw1];exact cell_new 0 rfl
 have HCC:Hid _:=fun (_:Unit)=>con_chain (fun x=>!q x) w.heap.size l a c w1 hlen (hr.keep b1 b1.size (fun x vs _ h=>h.keep b1 b1.size)) (fun x hx v W hW hf=>by
  have pW:=(hW.cell (p:=⟨w.heap.size,0,none⟩) (by show w.heap.size<_;omega)).trans p1
  have hsW:w.heap.size<W.heap.size:=by have:=hW.size;omega
  have HC1:Hid _:=HK0 x hx v W (b1.trans (hW.mono (by omega))) hf
  clear HK0 hW
  go_enter Tryz.func117,Tryz.ntmps117
  go_wp2_with fail
  refine Calls.mono HC1.out ?_
  rintro e w6 ⟨rfl,hb6⟩
  have HB6:=hHi hb6
  clear hb6
  go_wp2
  go_ret
  exact⟨rfl,HB6.out⟩)
 have HW1:=hHi b1
 have HAL:Hid ((!l.any (fun x=>!q x))=l.all q):=by show _=_;rw[List.all_eq_not_any_not]
 clear p1 b1 HK0 hr
 go_enter Tryz.func72,Tryz.ntmps72
 go_wp2_with (go_at_call 116;refine hMo HCC ?_)
 rintro e w6 ⟨rfl,hb6⟩
 have HB6:Hid _:=below_tr HW1.out hb6
 clear hb6
 go_wp2
 go_ret
 exact⟨by rw[HAL.out];rfl,HB6.out⟩
theorem idx_follow (Q:Fo→Bool) (P:Nat) (l:List Fo) (a:Option Addr) (c:Nat) (w:World) (hlen:l.length≤140737488355328) (hr:Row w w.heap.size 5 FoV a l) (HK0:∀x∈l,x.set.ok→∀W,Below w.heap.size w W→Calls Tryz.prog 121 #[.agg #[.string x.sort,.int .u64 x.set.a,.int .u64 x.set.b,.int .u64 x.set.c,.int .u64 x.set.d],.pointer (some ⟨P,0,none⟩)] W fun e W'=>e=.returned (.bool (Q x))∧Below W.heap.size W W') :
  Calls Tryz.prog 154 #[.slice a l.length c,.func (.func 121) #[] #[.pointer (some ⟨P,0,none⟩)]] w fun e w'=>(∃i:Int,e=.returned (.int .i64 i)∧-1≤i∧(0≤i↔l.any Q=true))∧Below w.heap.size w w':=by
 have HR:=hHi hr
 have HK:=hHi HK0
 clear hr HK0
 go_enter Tryz.func154,Tryz.ntmps154
 go_wp2
 go_loopw[5,8] (fun _ iv W=>∃k:Nat,k≤l.length∧iv=.int .i64 k∧(l.take k).any Q=false∧Below w.heap.size w W) (fun _ iv _=>l.length-(intOf iv).toNat)
 case atStart=>exact⟨0,Nat.zero_le _,rfl,rfl,Below.refl _ _⟩
 case round=>
  obtain⟨k,hk,rfl,hh,hB⟩:=hrel
  have HH:=hHi hh
  clear hh
  by_cases hlt:k<l.length
  ·obtain⟨x,hx⟩:∃x,l[k]?=some x:=⟨l[k],by simp[hlt]⟩
   have hr:=HR.out
   obtain⟨b,o,us,hab,hblt,⟨hfact,rfl⟩,hc⟩:=hr k x hx
   subst hab
   have hq_:=hcb hB hblt hc
   have c0:=hq_ 0 _ rfl
   have c1:=hq_ 1 _ rfl
   have c2:=hq_ 2 _ rfl
   have c3:=hq_ 3 _ rfl
   have c4:=hq_ 4 _ rfl
   clear hq_
   rw[Nat.add_zero] at c0
   have hltI:(k:Int)<l.length:=by omega
   have HC:Hid _:=HK.out x (List.mem_of_getElem? hx) hfact wr hB
   have HX:=hHi hx
   clear hr hx hc
   cases h3:Q x with
   | true=>
    rw[h3] at HC
    have HMM:Hid _:=any_mem HX.out h3
    clear h3
    go_wp2_with fail
    refine Calls.mono HC.out ?_
    rintro e w6 ⟨rfl,hb6⟩
    have HB6:Hid (Below w.heap.size w w6):=below_tr hB hb6
    clear hb6 c0 c1 c2 c3 c4
    go_wp2
    go_ret
    exact⟨⟨(k:Int),rfl,by omega,by rw[HMM.out];simp⟩,HB6.out⟩
   | false=>
    rw[h3] at HC
    have HE:Hid ((l.take (k+1)).any Q=false):=by show _=_;rw[any_take HX.out,h3,HH.out];rfl
    clear h3
    go_wp2_with fail
    refine Calls.mono HC.out ?_
    rintro e w6 ⟨rfl,hb6⟩
    have HB6:Hid (Below w.heap.size w w6):=below_tr hB hb6
    clear hb6 c0 c1 c2 c3 c4
    go_wp2
    go_roundw
    case rel=>exact⟨k+1,by omega,by go_num,HE.out,HB6.out⟩
    case measure=>simp[intOf];omega
  ·obtain rfl:k=l.length:=by omega
   rw[List.take_length] at HH
   go_wp2
   go_ret
   exact⟨⟨-1,rfl,by omega,by rw[HH.out];simp⟩,hB⟩
theorem con_follow (Q:Fo→Bool) (P:Nat) (l:List Fo) (a:Option Addr) (c:Nat) (w:World) (hlen:l.length≤140737488355328) (hr:Row w w.heap.size 5 FoV a l) (HK0:∀x∈l,x.set.ok→∀W,Below w.heap.size w W→Calls Tryz.prog 121 #[.agg #[.string x.sort,.int .u64 x.set.a,.int .u64 x.set.b,.int .u64 x.set.c,.int .u64 x.set.d],.pointer (some ⟨P,0,none⟩)] W fun e W'=>e=.returned (.bool (Q x))∧Below W.heap.size W W') :
  Calls Tryz.prog 120 #[.slice a l.length c,.func (.func 121) #[] #[.pointer (some ⟨P,0,none⟩)]] w fun e w'=>e=.returned (.bool (l.any Q))∧Below w.heap.size w w':=by
 have HC:=hU (idx_follow Q P l a c w hlen hr HK0)
 clear hr HK0
 go_enter Tryz.func120,Tryz.ntmps120
 go_wp2_with (go_at_call 154;refine hMo HC ?_)
 rintro e w6 ⟨⟨i,rfl,h1,h2⟩,hb6⟩
 have hd:decide (0≤i)=l.any Q:=by
  by_cases hi:0≤i
  ·rw[decide_eq_true hi,h2.1 hi]
  ·rw[decide_eq_false hi]
   cases h:l.any Q
   ·rfl
   ·exact absurd (h2.2 h) hi
 have HD:=hHi hd
 clear hd h2
 go_wp2
 go_ret
 exact⟨by rw[HD.out];rfl,hb6⟩
theorem all_follow (q:Fo→Bool) (l:List Fo) (lv:Value) (w:World) (hl:Sl w w.heap.size 5 FoV l lv) (HK0:∀x∈l,x.set.ok→∀W,Below w.heap.size w W→Calls Tryz.prog 75 #[.agg #[.string x.sort,.int .u64 x.set.a,.int .u64 x.set.b,.int .u64 x.set.c,.int .u64 x.set.d]] W fun e W'=>e=.returned (.bool (q x))∧Below W.heap.size W W') :
  Calls Tryz.prog 74 #[lv,.func (.func 75) #[] #[]] w fun e w'=>e=.returned (.bool (l.all q))∧Below w.heap.size w w':=by
 obtain⟨a,c,rfl,hcap,hlen,hr⟩:=hl
 obtain⟨w1,hw1⟩:∃w1,w.alloc (.cells #[.func (.func 75) #[] #[]] 103)=w1:=⟨_,rfl⟩
 have b1:Below w.heap.size w w1:=by rw[←hw1];exact (Below.refl _ _).alloc (Nat.le_refl _) _
 have s1:w1.heap.size=w.heap.size+1:=by rw[←hw1];simp
 have p1:w1.cell? ⟨w.heap.size,0,none⟩=some (.func (.func 75) #[] #[]):=by rw[←hw1];exact cell_new 0 rfl
 have HCC:Hid _:=fun (_:Unit)=>con_follow (fun x=>!q x) w.heap.size l a c w1 hlen (hr.keep b1 b1.size (fun x vs _ h=>h)) (fun x hx hok W hW=>by
  have pW:=(hW.cell (p:=⟨w.heap.size,0,none⟩) (by show w.heap.size<_;omega)).trans p1
  obtain⟨W1,hW1⟩:∃W1,W.alloc (.cells #[.string x.sort,.int .u64 x.set.a,.int .u64 x.set.b,.int .u64 x.set.c,.int .u64 x.set.d] 54)=W1:=⟨_,rfl⟩
  have bb:Below W.heap.size W W1:=by rw[←hW1];exact (Below.refl _ _).alloc (Nat.le_refl _) _
  have hsW:w.heap.size<W.heap.size:=by have:=hW.size;omega
  have pW1:=(bb.cell (p:=⟨w.heap.size,0,none⟩) hsW).trans pW
  have HC1:Hid _:=HK0 x hx hok W1 ((b1.trans (hW.mono (by omega))).trans (bb.mono (by have:=hW.size;omega)))
  have t0:W1.cell? ⟨W.heap.size,0,none⟩=some (.string x.sort):=by rw[←hW1];exact cell_new 0 rfl
  have t1:W1.cell? ⟨W.heap.size,1,none⟩=some (.int .u64 x.set.a):=by rw[←hW1];exact cell_new 1 rfl
  have t2:W1.cell? ⟨W.heap.size,2,none⟩=some (.int .u64 x.set.b):=by rw[←hW1];exact cell_new 2 rfl
  have t3:W1.cell? ⟨W.heap.size,3,none⟩=some (.int .u64 x.set.c):=by rw[←hW1];exact cell_new 3 rfl
  have t4:W1.cell? ⟨W.heap.size,4,none⟩=some (.int .u64 x.set.d):=by rw[←hW1];exact cell_new 4 rfl
  have HBB:=hHi bb
  clear pW bb HK0 hW
  go_enter Tryz.func121,Tryz.ntmps121
  go_wp2_with fail
  refine Calls.mono HC1.out ?_
  rintro e w6 ⟨rfl,hb6⟩
  have HB6:Hid _:=below_tr HBB.out hb6
  clear hb6
  go_wp2
  go_ret
  exact⟨rfl,HB6.out⟩)
 have HW1:=hHi b1
 have HAL:Hid ((!l.any (fun x=>!q x))=l.all q):=by show _=_;rw[List.all_eq_not_any_not]
 clear p1 b1 HK0 hr
 go_enter Tryz.func74,Tryz.ntmps74
 go_wp2_with (go_at_call 120;refine hMo HCC ?_)
 rintro e w6 ⟨rfl,hb6⟩
 have HB6:Hid _:=below_tr HW1.out hb6
 clear hb6
 go_wp2
 go_ret
 exact⟨by rw[HAL.out];rfl,HB6.out⟩
theorem idx_reject (Q:Re→Bool) (P:Nat) (l:List Re) (a:Option Addr) (c:Nat) (w:World) (hlen:l.length≤140737488355328) (hr:Row w w.heap.size 2 ReV a l) (HK0:∀x∈l,∀W,Below w.heap.size w W→Calls Tryz.prog 125 #[.agg #[.string x.sort,.string x.by'],.pointer (some ⟨P,0,none⟩)] W fun e W'=>e=.returned (.bool (Q x))∧Below W.heap.size W W') :
  Calls Tryz.prog 156 #[.slice a l.length c,.func (.func 125) #[] #[.pointer (some ⟨P,0,none⟩)]] w fun e w'=>(∃i:Int,e=.returned (.int .i64 i)∧-1≤i∧(0≤i↔l.any Q=true))∧Below w.heap.size w w':=by
 have HR:=hHi hr
 have HK:=hHi HK0
 clear hr HK0
 go_enter Tryz.func156,Tryz.ntmps156
 go_wp2
 go_loopw[5,8] (fun _ iv W=>∃k:Nat,k≤l.length∧iv=.int .i64 k∧(l.take k).any Q=false∧Below w.heap.size w W) (fun _ iv _=>l.length-(intOf iv).toNat)
 case atStart=>exact⟨0,Nat.zero_le _,rfl,rfl,Below.refl _ _⟩
 case round=>
  obtain⟨k,hk,rfl,hh,hB⟩:=hrel
  have HH:=hHi hh
  clear hh
  by_cases hlt:k<l.length
  ·obtain⟨x,hx⟩:∃x,l[k]?=some x:=⟨l[k],by simp[hlt]⟩
   have hr:=HR.out
   obtain⟨b,o,us,hab,hblt,hus,hc⟩:=hr k x hx
   have hus:us=[.string x.sort,.string x.by']:=hus
   subst hus
   subst hab
   have hq_:=hcb hB hblt hc
   have c0:=hq_ 0 _ rfl
   have c1:=hq_ 1 _ rfl
   clear hq_
   rw[Nat.add_zero] at c0
   have hltI:(k:Int)<l.length:=by omega
   have HC:Hid _:=HK.out x (List.mem_of_getElem? hx) wr hB
   have HX:=hHi hx
   clear hr hx hc
   cases h3:Q x with
   | true=>
    rw[h3] at HC
    have HMM:Hid _:=any_mem HX.out h3
    clear h3
    go_wp2_with fail
    refine Calls.mono HC.out ?_
    rintro e w6 ⟨rfl,hb6⟩
    have HB6:Hid (Below w.heap.size w w6):=below_tr hB hb6
    clear hb6 c0 c1
    go_wp2
    go_ret
    exact⟨⟨(k:Int),rfl,by omega,by rw[HMM.out];simp⟩,HB6.out⟩
   | false=>
    rw[h3] at HC
    have HE:Hid ((l.take (k+1)).any Q=false):=by show _=_;rw[any_take HX.out,h3,HH.out];rfl
    clear h3
    go_wp2_with fail
    refine Calls.mono HC.out ?_
    rintro e w6 ⟨rfl,hb6⟩
    have HB6:Hid (Below w.heap.size w w6):=below_tr hB hb6
    clear hb6 c0 c1
    go_wp2
    go_roundw
    case rel=>exact⟨k+1,by omega,by go_num,HE.out,HB6.out⟩
    case measure=>simp[intOf];omega
  ·obtain rfl:k=l.length:=by omega
   rw[List.take_length] at HH
   go_wp2
   go_ret
   exact⟨⟨-1,rfl,by omega,by rw[HH.out];simp⟩,hB⟩
theorem con_reject (Q:Re→Bool) (P:Nat) (l:List Re) (a:Option Addr) (c:Nat) (w:World) (hlen:l.length≤140737488355328) (hr:Row w w.heap.size 2 ReV a l) (HK0:∀x∈l,∀W,Below w.heap.size w W→Calls Tryz.prog 125 #[.agg #[.string x.sort,.string x.by'],.pointer (some ⟨P,0,none⟩)] W fun e W'=>e=.returned (.bool (Q x))∧Below W.heap.size W W') :
  Calls Tryz.prog 124 #[.slice a l.length c,.func (.func 125) #[] #[.pointer (some ⟨P,0,none⟩)]] w fun e w'=>e=.returned (.bool (l.any Q))∧Below w.heap.size w w':=by
 have HC:=hU (idx_reject Q P l a c w hlen hr HK0)
 clear hr HK0
 go_enter Tryz.func124,Tryz.ntmps124
 go_wp2_with (go_at_call 156;refine hMo HC ?_)
 rintro e w6 ⟨⟨i,rfl,h1,h2⟩,hb6⟩
 have hd:decide (0≤i)=l.any Q:=by
  by_cases hi:0≤i
  ·rw[decide_eq_true hi,h2.1 hi]
  ·rw[decide_eq_false hi]
   cases h:l.any Q
   ·rfl
   ·exact absurd (h2.2 h) hi
 have HD:=hHi hd
 clear hd h2
 go_wp2
 go_ret
 exact⟨by rw[HD.out];rfl,hb6⟩
theorem all_reject (q:Re→Bool) (l:List Re) (lv:Value) (w:World) (hl:Sl w w.heap.size 2 ReV l lv) (HK0:∀x∈l,∀W,Below w.heap.size w W→Calls Tryz.prog 78 #[.agg #[.string x.sort,.string x.by']] W fun e W'=>e=.returned (.bool (q x))∧Below W.heap.size W W') :
  Calls Tryz.prog 77 #[lv,.func (.func 78) #[] #[]] w fun e w'=>e=.returned (.bool (l.all q))∧Below w.heap.size w w':=by
 obtain⟨a,c,rfl,hcap,hlen,hr⟩:=hl
 obtain⟨w1,hw1⟩:∃w1,w.alloc (.cells #[.func (.func 78) #[] #[]] 105)=w1:=⟨_,rfl⟩
 have b1:Below w.heap.size w w1:=by rw[←hw1];exact (Below.refl _ _).alloc (Nat.le_refl _) _
 have s1:w1.heap.size=w.heap.size+1:=by rw[←hw1];simp
 have p1:w1.cell? ⟨w.heap.size,0,none⟩=some (.func (.func 78) #[] #[]):=by rw[←hw1];exact cell_new 0 rfl
 have HCC:Hid _:=fun (_:Unit)=>con_reject (fun x=>!q x) w.heap.size l a c w1 hlen (hr.keep b1 b1.size (fun x vs _ h=>h)) (fun x hx  W hW=>by
  have pW:=(hW.cell (p:=⟨w.heap.size,0,none⟩) (by show w.heap.size<_;omega)).trans p1
  obtain⟨W1,hW1⟩:∃W1,W.alloc (.cells #[.string x.sort,.string x.by'] 56)=W1:=⟨_,rfl⟩
  have bb:Below W.heap.size W W1:=by rw[←hW1];exact (Below.refl _ _).alloc (Nat.le_refl _) _
  have hsW:w.heap.size<W.heap.size:=by have:=hW.size;omega
  have pW1:=(bb.cell (p:=⟨w.heap.size,0,none⟩) hsW).trans pW
  have HC1:Hid _:=HK0 x hx W1 ((b1.trans (hW.mono (by omega))).trans (bb.mono (by have:=hW.size;omega)))
  have t0:W1.cell? ⟨W.heap.size,0,none⟩=some (.string x.sort):=by rw[←hW1];exact cell_new 0 rfl
  have t1:W1.cell? ⟨W.heap.size,1,none⟩=some (.string x.by'):=by rw[←hW1];exact cell_new 1 rfl
  have HBB:=hHi bb
  clear pW bb HK0 hW
  go_enter Tryz.func125,Tryz.ntmps125
  go_wp2_with fail
  refine Calls.mono HC1.out ?_
  rintro e w6 ⟨rfl,hb6⟩
  have HB6:Hid _:=below_tr HBB.out hb6
  clear hb6
  go_wp2
  go_ret
  exact⟨rfl,HB6.out⟩)
 have HW1:=hHi b1
 have HAL:Hid ((!l.any (fun x=>!q x))=l.all q):=by show _=_;rw[List.all_eq_not_any_not]
 clear p1 b1 HK0 hr
 go_enter Tryz.func77,Tryz.ntmps77
 go_wp2_with (go_at_call 124;refine hMo HCC ?_)
 rintro e w6 ⟨rfl,hb6⟩
 have HB6:Hid _:=below_tr HW1.out hb6
 clear hb6
 go_wp2
 go_ret
 exact⟨by rw[HAL.out];rfl,HB6.out⟩
theorem idx_box (f:Nat) (Q:Bo→Bool) (P:Nat) (l:List Bo) (a:Option Addr) (c:Nat) (w:World) (hlen:l.length≤140737488355328) (hr:Row w w.heap.size 2 (BoV w w.heap.size f) a l) (HK0:∀x∈l,∀v,∀W,Below w.heap.size w W→Sl W W.heap.size 4 (ItV W W.heap.size f) x.items v→Calls Tryz.prog 127 #[.agg #[.string x.cons,v],.pointer (some ⟨P,0,none⟩)] W fun e W'=>e=.returned (.bool (Q x))∧Below W.heap.size W W') :
  Calls Tryz.prog 157 #[.slice a l.length c,.func (.func 127) #[] #[.pointer (some ⟨P,0,none⟩)]] w fun e w'=>(∃i:Int,e=.returned (.int .i64 i)∧-1≤i∧(0≤i↔l.any Q=true))∧Below w.heap.size w w':=by
 have HR:=hHi hr
 have HK:=hHi HK0
 clear hr HK0
 go_enter Tryz.func157,Tryz.ntmps157
 go_wp2
 go_loopw[5,8] (fun _ iv W=>∃k:Nat,k≤l.length∧iv=.int .i64 k∧(l.take k).any Q=false∧Below w.heap.size w W) (fun _ iv _=>l.length-(intOf iv).toNat)
 case atStart=>exact⟨0,Nat.zero_le _,rfl,rfl,Below.refl _ _⟩
 case round=>
  obtain⟨k,hk,rfl,hh,hB⟩:=hrel
  have HH:=hHi hh
  clear hh
  by_cases hlt:k<l.length
  ·obtain⟨x,hx⟩:∃x,l[k]?=some x:=⟨l[k],by simp[hlt]⟩
   have hr:=HR.out
   obtain⟨b,o,us,hab,hblt,⟨v,rfl,hfact⟩,hc⟩:=hr k x hx
   subst hab
   have hq_:=hcb hB hblt hc
   have c0:=hq_ 0 _ rfl
   have c1:=hq_ 1 _ rfl
   clear hq_
   rw[Nat.add_zero] at c0
   have hltI:(k:Int)<l.length:=by omega
   have HC:Hid _:=HK.out x (List.mem_of_getElem? hx) v wr hB (hfact.keep hB hB.size (fun _ _ _ h=>h.keep hB hB.size))
   have HX:=hHi hx
   clear hr hx hc
   cases h3:Q x with
   | true=>
    rw[h3] at HC
    have HMM:Hid _:=any_mem HX.out h3
    clear h3
    go_wp2_with fail
    refine Calls.mono HC.out ?_
    rintro e w6 ⟨rfl,hb6⟩
    have HB6:Hid (Below w.heap.size w w6):=below_tr hB hb6
    clear hb6 c0 c1
    go_wp2
    go_ret
    exact⟨⟨(k:Int),rfl,by omega,by rw[HMM.out];simp⟩,HB6.out⟩
   | false=>
    rw[h3] at HC
    have HE:Hid ((l.take (k+1)).any Q=false):=by show _=_;rw[any_take HX.out,h3,HH.out];rfl
    clear h3
    go_wp2_with fail
    refine Calls.mono HC.out ?_
    rintro e w6 ⟨rfl,hb6⟩
    have HB6:Hid (Below w.heap.size w w6):=below_tr hB hb6
    clear hb6 c0 c1
    go_wp2
    go_roundw
    case rel=>exact⟨k+1,by omega,by go_num,HE.out,HB6.out⟩
    case measure=>simp[intOf];omega
  ·obtain rfl:k=l.length:=by omega
   rw[List.take_length] at HH
   go_wp2
   go_ret
   exact⟨⟨-1,rfl,by omega,by rw[HH.out];simp⟩,hB⟩
theorem con_box (f:Nat) (Q:Bo→Bool) (P:Nat) (l:List Bo) (a:Option Addr) (c:Nat) (w:World) (hlen:l.length≤140737488355328) (hr:Row w w.heap.size 2 (BoV w w.heap.size f) a l) (HK0:∀x∈l,∀v,∀W,Below w.heap.size w W→Sl W W.heap.size 4 (ItV W W.heap.size f) x.items v→Calls Tryz.prog 127 #[.agg #[.string x.cons,v],.pointer (some ⟨P,0,none⟩)] W fun e W'=>e=.returned (.bool (Q x))∧Below W.heap.size W W') :
  Calls Tryz.prog 126 #[.slice a l.length c,.func (.func 127) #[] #[.pointer (some ⟨P,0,none⟩)]] w fun e w'=>e=.returned (.bool (l.any Q))∧Below w.heap.size w w':=by
 have HC:=hU (idx_box f Q P l a c w hlen hr HK0)
 clear hr HK0
 go_enter Tryz.func126,Tryz.ntmps126
 go_wp2_with (go_at_call 157;refine hMo HC ?_)
 rintro e w6 ⟨⟨i,rfl,h1,h2⟩,hb6⟩
 have hd:decide (0≤i)=l.any Q:=by
  by_cases hi:0≤i
  ·rw[decide_eq_true hi,h2.1 hi]
  ·rw[decide_eq_false hi]
   cases h:l.any Q
   ·rfl
   ·exact absurd (h2.2 h) hi
 have HD:=hHi hd
 clear hd h2
 go_wp2
 go_ret
 exact⟨by rw[HD.out];rfl,hb6⟩
theorem all_box (f:Nat) (q:Bo→Bool) (l:List Bo) (lv:Value) (w:World) (hl:Sl w w.heap.size 2 (BoV w w.heap.size f) l lv) (HK0:∀x∈l,∀v,∀W,Below w.heap.size w W→Sl W W.heap.size 4 (ItV W W.heap.size f) x.items v→Calls Tryz.prog 80 #[.agg #[.string x.cons,v]] W fun e W'=>e=.returned (.bool (q x))∧Below W.heap.size W W') :
  Calls Tryz.prog 79 #[lv,.func (.func 80) #[] #[]] w fun e w'=>e=.returned (.bool (l.all q))∧Below w.heap.size w w':=by
 obtain⟨a,c,rfl,hcap,hlen,hr⟩:=hl
 obtain⟨w1,hw1⟩:∃w1,w.alloc (.cells #[.func (.func 80) #[] #[]] 107)=w1:=⟨_,rfl⟩
 have b1:Below w.heap.size w w1:=by rw[←hw1];exact (Below.refl _ _).alloc (Nat.le_refl _) _
 have s1:w1.heap.size=w.heap.size+1:=by rw[←hw1];simp
 have p1:w1.cell? ⟨w.heap.size,0,none⟩=some (.func (.func 80) #[] #[]):=by rw[←hw1];exact cell_new 0 rfl
 have HCC:Hid _:=fun (_:Unit)=>con_box f (fun x=>!q x) w.heap.size l a c w1 hlen (hr.keep b1 b1.size (fun x vs _ h=>h.keep b1 b1.size)) (fun x hx v W hW hf=>by
  have pW:=(hW.cell (p:=⟨w.heap.size,0,none⟩) (by show w.heap.size<_;omega)).trans p1
  obtain⟨W1,hW1⟩:∃W1,W.alloc (.cells #[.string x.cons,v] 59)=W1:=⟨_,rfl⟩
  have bb:Below W.heap.size W W1:=by rw[←hW1];exact (Below.refl _ _).alloc (Nat.le_refl _) _
  have hsW:w.heap.size<W.heap.size:=by have:=hW.size;omega
  have pW1:=(bb.cell (p:=⟨w.heap.size,0,none⟩) hsW).trans pW
  have HC1:Hid _:=HK0 x hx v W1 ((b1.trans (hW.mono (by omega))).trans (bb.mono (by have:=hW.size;omega))) (hf.keep bb bb.size (fun _ _ _ h=>h.keep bb bb.size))
  have t0:W1.cell? ⟨W.heap.size,0,none⟩=some (.string x.cons):=by rw[←hW1];exact cell_new 0 rfl
  have t1:W1.cell? ⟨W.heap.size,1,none⟩=some (v):=by rw[←hW1];exact cell_new 1 rfl
  have HBB:=hHi bb
  clear pW bb HK0 hW
  go_enter Tryz.func127,Tryz.ntmps127
  go_wp2_with fail
  refine Calls.mono HC1.out ?_
  rintro e w6 ⟨rfl,hb6⟩
  have HB6:Hid _:=below_tr HBB.out hb6
  clear hb6
  go_wp2
  go_ret
  exact⟨rfl,HB6.out⟩)
 have HW1:=hHi b1
 have HAL:Hid ((!l.any (fun x=>!q x))=l.all q):=by show _=_;rw[List.all_eq_not_any_not]
 clear p1 b1 HK0 hr
 go_enter Tryz.func79,Tryz.ntmps79
 go_wp2_with (go_at_call 126;refine hMo HCC ?_)
 rintro e w6 ⟨rfl,hb6⟩
 have HB6:Hid _:=below_tr HW1.out hb6
 clear hb6
 go_wp2
 go_ret
 exact⟨by rw[HAL.out];rfl,HB6.out⟩
end Go.Proofs.YtilpgpcgcpedjaaGreat
