/- Join, at the words of a text. A text says the same put together with single blanks; plain. Only the words of a text count: the law's walk. -/
import Derived.Test.YtcpakcffiopfjaaGreatDoorA6
import Derived.Test.YtcpakcffiopfjaaGreatDoorC1
import Derived.Test.YtcpakcffiopfjaaGreatDoorA7
import Derived.Test.YtcpakcffiopfjaaGreatDoorA4
import Derived.Test.YtcpakcffiopfjaaGreatDoorA0
import Derived.Test.YtcpakcffiopfjaaGreatDoorE1
import Derived.Test.YtcpakcffiopfjaaGreatDoorG2
import Derived.Test.YtcpakcffiopfjaaGreatDoorA1
namespace Go.Proofs.YtcpakcffiopfjaaGreatDoor
open Go.RowKit
set_option linter.unusedVariables false
set_option linter.unusedSimpArgs false
set_option maxRecDepth 100000
set_option maxHeartbeats 16000000
theorem wcells_get:∀(L:List (Wd×Value)) (i j:Nat) (q:Wd×Value),L[i]?=some q→j<11→(wcells L)[i*11+j]?=(wcell q.1 q.2)[j]?
 | [],i,j,q,h,hj=>by simp at h
 | a::L,0,j,q,h,hj=>by
  simp at h;subst h
  have e:wcells (a::L)=wcell a.1 a.2++wcells L:=by simp[wcells]
  rw[e,Nat.zero_mul,Nat.zero_add,List.getElem?_append_left (by simpa [wcell] using hj)]
 | a::L,i+1,j,q,h,hj=>by
  have h':L[i]?=some q:=by simpa using h
  have e:wcells (a::L)=wcell a.1 a.2++wcells L:=by simp[wcells]
  have hl:(wcell a.1 a.2).length=11:=rfl
  rw[e,List.getElem?_append_right (by rw[hl];omega),hl,show (i+1)*11+j-11=i*11+j by omega]
  exact wcells_get L i j q h' hj
theorem Words.cell {W:World} {base:Nat} {lv:Value} {L:List (Wd×Value)} (h:Words W base lv L) {i:Nat} {q:Wd×Value} (hq:L[i]?=some q) :
  ∃g cap,lv=.slice (some ⟨g,0,none⟩) L.length cap∧g<W.heap.size∧∀j,j<11→W.cell? ⟨g,i*11+j,none⟩=(wcell q.1 q.2)[j]?:=by
 have hi:i<L.length:=(List.getElem?_eq_some_iff.1 hq).1
 rcases h.row.2 with ⟨_,h0⟩ | ⟨g,cap,cur,hv,_⟩
 ·omega
 ·subst hv
  refine⟨g,cap,rfl,(h.row.lt g rfl).2,fun j hj=>?_⟩
  rw[h.row.cellAt (i*11+j) (by omega),wcells_get L i j q hq hj]
theorem joinT_snoc:∀(ts:List (List UInt8)) (t:List UInt8),ts≠[]→joinT (ts++[t])=joinT ts++32::t
 | [],t,h=>absurd rfl h
 | [u],t,_=>by simp[joinT]
 | u::v::ts,t,_=>by
  have:=joinT_snoc (v::ts) t (by simp)
  simp only[List.cons_append,joinT] at *
  rw[this,List.append_assoc,List.cons_append]
theorem sum_take_le (f:Wd×Value→Nat):∀(l:List (Wd×Value)) (k:Nat),((l.take k).map f).sum≤(l.map f).sum
 | [],k=>by simp
 | a::l,0=>by simp
 | a::l,k+1=>by
  have:=sum_take_le f l k
  simp only[List.take_succ_cons,List.map_cons,List.sum_cons];omega
theorem le_sum (f:Wd×Value→Nat):∀(l:List (Wd×Value)) (q:Wd×Value),q∈l→f q≤(l.map f).sum
 | a::l,q,h=>by
  simp only[List.map_cons,List.sum_cons]
  rcases List.mem_cons.1 h with rfl | h
  ·omega
  ·have:=le_sum f l q h;omega
theorem BL.lt {B b:Nat} {l:List UInt8} {w:World} (h:BL B b l w):b<w.heap.size:=by
 rcases h with ⟨_,v,hbk,_⟩ | ⟨_,v,hbk,_⟩<;>exact heap_lt hbk
def jn (Lu:List (Wd×Value)) (k:Nat):List UInt8:=joinT ((Lu.take k).map fun q=>q.1.text)
theorem jn_len (Lu:List (Wd×Value)) (k:Nat) (h1:(Lu.map fun q=>q.1.text.length).sum≤20000) (h2:Lu.length≤20000):(jn Lu k).length≤40000:=by
 have a:=join_len ((Lu.take k).map fun q=>q.1.text)
 have b:=sum_take_le (fun q=>q.1.text.length) Lu k
 rw[List.map_map,List.length_map,List.length_take] at a
 have e:((fun t:List UInt8=>t.length) ∘ fun q:Wd×Value=>q.1.text)=fun q=>q.1.text.length:=rfl
 rw[e] at a
 unfold jn;omega
theorem jn_first {Lu:List (Wd×Value)} {q:Wd×Value} (h:Lu[0]?=some q):jn Lu 1=q.1.text:=by
 cases Lu with
 | nil=>simp at h
 | cons a l=>simp at h;subst h;simp[jn,joinT]
theorem jn_next {Lu:List (Wd×Value)} {k:Nat} {q:Wd×Value} (h:Lu[k]?=some q) (hk:k≠0):jn Lu (k+1)=jn Lu k++[32]++q.1.text:=by
 have hl:k<Lu.length:=(List.getElem?_eq_some_iff.1 h).1
 have hq:Lu[k]=q:=(List.getElem?_eq_some_iff.1 h).2
 unfold jn
 rw[List.take_succ_eq_append_getElem hl,hq,List.map_append,List.map_cons,List.map_nil,joinT_snoc _ _ (by
  intro e
  have:=congrArg List.length e
  rw[List.length_map,List.length_take,List.length_nil] at this;omega)]
 simp
theorem join_any (Lu:List (Wd×Value)) (qe:Wd×Value) (lv:Value) (base:Nat) (w:World) (h:Words w base lv (Lu++[qe])) (hk:∀q∈Lu,q.1.kind≠7∧q.1.text≠[]) (he:qe.1.kind=7) (h1:(Lu.map fun q=>q.1.text.length).sum≤20000) (h2:Lu.length≤20000) :
  Calls Tryz.prog 21 #[lv] w fun e w'=>e=.returned (.string ⟨(joinT (Lu.map fun q=>q.1.text)).toArray⟩)∧Below w.heap.size w w':=by
 have b0:BL w.heap.size w.heap.size [] (w.alloc (.cells #[.pointer none,.slice none 0 0] 110)):=Lib.fresh_isBuilder 110 5 w
 have hB0:Below w.heap.size w (w.alloc (.cells #[.pointer none,.slice none 0 0] 110)):=(Below.refl _ _).alloc (Nat.le_refl _) _
 have hr:=h.row
 rw[List.length_append,List.length_singleton] at hr
 obtain⟨g,lc,rfl⟩:=ownsRow_succ hr
 clear hr
 have h2i:(Lu.length:Int)≤20000:=by omega
 go_enter Tryz.func21,Tryz.ntmps21
 go_wp2
 go_loopw[4,9] (fun fl i W=>∃k:Nat,k≤Lu.length+1∧i=.int .i64 k∧(k≤Lu.length→fl=.bool (decide (k=0)))∧(∃bb,fl=.bool bb)∧BL w.heap.size w.heap.size (jn Lu k) W∧Below w.heap.size w W) (fun _ i _=>Lu.length+1-(intOf i).toNat)
 case atStart=>exact⟨0,Nat.zero_le _,rfl,fun _=>rfl,⟨true,rfl⟩,by simpa [jn,joinT] using b0,hB0⟩
 case round=>
  clear b0 hB0
  obtain⟨k,hk1,rfl,hfl,⟨bb,rfl⟩,hb,hB⟩:=hrel
  by_cases hlt:k<Lu.length+1
  ·have hlt':(k:Int)<(Lu.length:Int)+1:=by omega
   obtain⟨q,hq⟩:∃q,(Lu++[qe])[k]?=some q:=⟨_,List.getElem?_eq_getElem (by simpa using hlt)⟩
   obtain⟨g',cap',e',hg,hc⟩:=(h.after hB).cell hq
   rw[List.length_append,List.length_singleton] at e'
   cases e'
   have hrow:=(h.after hB).bytes q (List.mem_of_getElem? hq)
   obtain⟨va,vc,hv⟩:=row_slice hrow
   have c0:=hc 0 (by decide)
   have c1:=hc 1 (by decide)
   have c2:=hc 2 (by decide)
   have c3:=hc 3 (by decide)
   have c4:=hc 4 (by decide)
   have c5:=hc 5 (by decide)
   have c6:=hc 6 (by decide)
   have c7:=hc 7 (by decide)
   have c8:=hc 8 (by decide)
   have c9:=hc 9 (by decide)
   have c10:=hc 10 (by decide)
   simp only[wcell,List.getElem?_cons_zero,List.getElem?_cons_succ,Nat.add_zero,hv] at c0 c1 c2 c3 c4 c5 c6 c7 c8 c9 c10
   clear hc hrow
   have hsz:=hB.size
   have hjl:=jn_len Lu k h1 h2
   have hbl:=hb.lt
   by_cases hkl:k<Lu.length
   ·have hq':Lu[k]?=some q:=by rw[List.getElem?_append_left hkl] at hq;exact hq
    obtain⟨hk7,htx⟩:=hk q (List.mem_of_getElem? hq')
    have hk7b:((q.1.kind:Int)==7)=false:=beq_eq_false_iff_ne.2 (by omega)
    have htl:0<q.1.text.length:=List.length_pos_iff.2 htx
    have htm:=le_sum (fun q=>q.1.text.length) Lu q (List.mem_of_getElem? hq')
    have hfb:=hfl (by omega)
    simp only[Value.bool.injEq] at hfb
    subst hfb
    have HT1:Hid (k≠0→jn Lu (k+1)=jn Lu k++[32]++q.1.text):=fun hk0=>jn_next hq' hk0
    have HT0:Hid (k=0→jn Lu (k+1)=q.1.text∧jn Lu k=[]):=fun hk0=>by subst hk0;exact⟨jn_first hq',rfl⟩
    have hA:Below wr.heap.size wr (wr.alloc (.cells #[.int .i64 q.1.kind,.string ⟨q.1.text.toArray⟩,.slice va q.1.bytes.length vc,.int .u64 q.1.set.a,.int .u64 q.1.set.b,.int .u64 q.1.set.c,.int .u64 q.1.set.d,.int .i64 q.1.n,.int .i64 q.1.fro,.int .i64 q.1.line,.int .i64 q.1.col] 104)):=(Below.refl _ _).alloc (Nat.le_refl _) _
    have hbA:=hb.below hA
    have hBA:=hB.alloc hsz (.cells #[.int .i64 q.1.kind,.string ⟨q.1.text.toArray⟩,.slice va q.1.bytes.length vc,.int .u64 q.1.set.a,.int .u64 q.1.set.b,.int .u64 q.1.set.c,.int .u64 q.1.set.d,.int .i64 q.1.n,.int .i64 q.1.fro,.int .i64 q.1.line,.int .i64 q.1.col] 104)
    have hN:=Blk.new wr 104 #[.int .i64 q.1.kind,.string ⟨q.1.text.toArray⟩,.slice va q.1.bytes.length vc,.int .u64 q.1.set.a,.int .u64 q.1.set.b,.int .u64 q.1.set.c,.int .u64 q.1.set.d,.int .i64 q.1.n,.int .i64 q.1.fro,.int .i64 q.1.line,.int .i64 q.1.col]
    clear hq hq' hk h hfl htx hb
    by_cases hk0:k=0
    ·obtain⟨t1,t2⟩:=HT0.out hk0
     rw[t2] at hbA
     subst hk0
     have HW:=hU (wstr_any w.heap.size w.heap.size [] q.1.text _ htl hbA (by simp;omega) hBA.size)
     clear HT0 HT1 t2 hjl
     go_wp2_with (go_at_call 60;refine hMo HW ?_)
     rintro e w2 ⟨rfl,hb2,hB2,-⟩
     go_wp2
     go_roundw
     case rel=>exact⟨1,by omega,rfl,fun _=>rfl,⟨false,rfl⟩,by rw[t1];exact hb2,hBA.trans hB2⟩
     case measure=>simp[intOf]
    ·have t1:=HT1.out hk0
     have hd:decide (k=0)=false:=by simpa using hk0
     rw[hd]
     have HWB:=hU (wbyte_any w.heap.size w.heap.size (jn Lu k) 32 _ (by omega) hbA (by omega) hBA.size)
     clear HT0 HT1 hd
     go_wp2_with (go_at_call 59;refine hMo HWB ?_)
     rintro e w2 ⟨rfl,hb2,hB2,hK2⟩
     have hN2:Blk w2 wr.heap.size 104 _:=hK2 wr.heap.size _ hN (by simp;omega) (by intro c fz e;cases e)
     have n1:=hN2.cell 1 (v:=.string ⟨q.1.text.toArray⟩) rfl
     have ln:=hN2.lt
     have hB3:=hBA.trans hB2
     have HW:=hU (wstr_any w.heap.size w.heap.size _ q.1.text w2 htl hb2 (by rw[List.length_append,List.length_singleton];omega) hB3.size)
     go_wp2_with (go_at_call 60;refine hMo HW ?_)
     rintro e w4 ⟨rfl,hb4,hB4,-⟩
     go_wp2
     go_roundw
     case rel=>exact⟨k+1,by omega,by go_num,fun _=>by simp,⟨false,rfl⟩,by rw[t1];exact hb4,hB3.trans hB4⟩
     case measure=>simp[intOf];omega
   ·obtain rfl:k=Lu.length:=by omega
    have hqe:q=qe:=by
     rw[List.getElem?_append_right (Nat.le_refl _)] at hq;simpa using hq.symm
    subst hqe
    rw[he] at c0
    have hA:Below wr.heap.size wr (wr.alloc (.cells #[.int .i64 ((7:Nat):Int),.string ⟨q.1.text.toArray⟩,.slice va q.1.bytes.length vc,.int .u64 q.1.set.a,.int .u64 q.1.set.b,.int .u64 q.1.set.c,.int .u64 q.1.set.d,.int .i64 q.1.n,.int .i64 q.1.fro,.int .i64 q.1.line,.int .i64 q.1.col] 104)):=(Below.refl _ _).alloc (Nat.le_refl _) _
    have hbA:=hb.below hA
    have hBA:=hB.alloc hsz (.cells #[.int .i64 ((7:Nat):Int),.string ⟨q.1.text.toArray⟩,.slice va q.1.bytes.length vc,.int .u64 q.1.set.a,.int .u64 q.1.set.b,.int .u64 q.1.set.c,.int .u64 q.1.set.d,.int .i64 q.1.n,.int .i64 q.1.fro,.int .i64 q.1.line,.int .i64 q.1.col] 104)
    have HJ:Hid (jn Lu (Lu.length+1)=jn Lu Lu.length):=by
     show _=_
     unfold jn;rw[List.take_of_length_le (by omega),List.take_length]
    clear hk1 hlt hkl hfl hk h hq
    go_wp2
    go_roundw
    case rel=>exact⟨Lu.length+1,by omega,by go_num,fun h=>by omega,⟨_,rfl⟩,by rw[HJ.out];exact hbA,hBA⟩
    case measure=>simp[intOf]
  ·obtain rfl:k=Lu.length+1:=by omega
   have HS:=hU (string_whole w.heap.size w.heap.size _ wr hb hB.size)
   have HJ:Hid (jn Lu (Lu.length+1)=joinT (Lu.map fun q=>q.1.text)):=by
    show _=_
    unfold jn;rw[List.take_of_length_le (by omega)]
   clear hk1 hlt hfl
   go_wp2_with (go_at_call 61;refine hMo HS ?_)
   rintro e w2 ⟨rfl,hB2⟩
   go_wp2
   go_ret
   exact⟨ret_str (by rw[HJ.out]),hB.trans hB2⟩
theorem rdr_stmts:∀(f:Nat) (d:Df),Rdr (stmtsR f d)
 | 0,d=>Rdr.congr (f:=fun _=>PR.bad 0 0) (fun _=>rfl) (Rdr.bad (fun _=>0) 0)
 | f+1,d=>by
  have h:Rdr (fun L=>if kdP 7 (cw (wd L))=true then PR.ok d L else (stmtR d L).bind fun d L=>(wantR [59] L).bind fun _ L=>stmtsR f d L):=
   Rdr.ite (kdP 7) (Rdr.ok d) (Rdr.bind (rdr_stmt d) (fun d1=>Rdr.bind (rdr_want (by simp)) (fun _=>rdr_stmts f d1)))
  refine Rdr.congr (fun L=>?_) h
  rw[stmtsR]
  by_cases hk:(wd L).kind=7
  ·rw[if_pos hk,if_pos ((kd_iff _ _).2 hk)]
  ·rw[if_neg hk,if_neg (fun e=>hk ((kd_iff _ _).1 e))]
theorem par_blanks (l:List UInt8) (hl:l.length≤20000) (h0:(scan l).2.2=0) {ws:List Wd} {we:Wd} (e:(scan l).1=ws++[we]):PR.same (parR l) (parR (joinT (ws.map (·.text)))):=by
 obtain⟨us,ve,e1,_,_,_,_,_,_,e8,e9⟩:=words_again l hl h0
 obtain rfl:ws=us:=by
  have:=e.symm.trans e1
  exact (List.append_inj' this rfl).1
 have hk:(scan (joinT (ws.map (·.text)))).2.2=0:=by rw[e8]
 unfold parR
 rw[if_pos h0,if_pos hk]
 have hn:(scan (joinT (ws.map (·.text)))).1.length=(scan l).1.length:=by
  have:=congrArg List.length e9
  simpa using this
 rw[hn]
 exact (rdr_stmts _ _).inv _ _ e9.symm
theorem defsBlanks_walk (x:ByteArray) (w:World) (hz:x.size≤maxLen) (hTab:Tab w.heap.size w) :
  Calls Tryz.prog 7 #[.string x] w fun e w'=>e=.returned (.bool true)∧Below w.heap.size w w':=by
 unfold maxLen at hz
 have HTB:Hid (Tab w.heap.size w):=hTab
 have HAL:Hid (∀W,Below w.heap.size w W→Calls Tryz.prog 11 #[] W fun e w'=>e=.returned (.bool true)∧Below W.heap.size W w'):=fun W h=>alive_any W (HTB.out.nx h)
 have HSE:Hid (∀W,Calls Tryz.prog 15 #[.agg #[.string ⟨#[]⟩,.string ⟨#[]⟩,.slice none 0 0,.slice none 0 0,.slice none 0 0,.slice none 0 0,.slice none 0 0],.agg #[.string ⟨#[]⟩,.string ⟨#[]⟩,.slice none 0 0,.slice none 0 0,.slice none 0 0,.slice none 0 0,.slice none 0 0]] W fun e w'=>e=.returned (.bool true)∧Below W.heap.size W w'):=fun W=>by
  have:=rsame_two (da_none W) (da_none W)
  rw[eqD_self] at this
  exact this
 clear hTab
 by_cases h1:20000<x.size
 ·have h1':(20000:Int)<x.size:=by omega
  go_enter Tryz.func7,Tryz.ntmps7
  go_wp2_with fail
  refine (HAL.out w (Below.refl _ _)).mono ?_
  rintro e w1 ⟨rfl,hb⟩
  go_wp2
  go_ret
  exact⟨rfl,hb⟩
 have h1':(x.size:Int)≤20000:=by omega
 have hxl:x.data.toList.length≤20000:=by rw[list_len];omega
 have HS:Hid (∀W,Calls Tryz.prog 20 #[.string x] W (Scans W (scan x.data.toList))):=fun W=>scan_any x W
 have HWA:Hid _:=words_again x.data.toList hxl
 have HPB:Hid (∀(h0:(scan x.data.toList).2.2=0) {ws:List Wd} {we:Wd},(scan x.data.toList).1=ws++[we]→PR.same (parR x.data.toList) (parR (joinT (ws.map (·.text))))):=fun h0 _ _ e=>par_blanks _ hxl h0 e
 have HPF:Hid (¬(scan x.data.toList).2.2=0→parR x.data.toList=.bad (scan x.data.toList).2.1 (scan x.data.toList).2.2):=fun h=>by show _=_;rw[parR,if_neg h]
 have HP1:Hid (∀W,Calls Tryz.prog 19 #[.string x] W fun e w'=>PDf W (parR x.data.toList) e w'):=fun W=>dparse_any x W
 generalize scan x.data.toList=S at *
 generalize parR x.data.toList=R at *
 obtain⟨ws,fa,fc⟩:=S
 clear hxl
 go_enter Tryz.func7,Tryz.ntmps7
 go_wp2_with fail
 refine (HS.out _).mono ?_
 rintro e w1 ⟨lv,L,rfl,hL,hW,hb⟩
 have HBw1:Hid (Below w.heap.size w w1):=hb
 clear hb HS
 have hL:L.map (·.1)=ws:=hL
 try dsimp only[fv]
 by_cases hfc:fc=0
 case neg=>
  obtain rfl:R=.bad fa fc:=HPF.out hfc
  have x1:((fc:Int) != 0)=true:=by simp;omega
  obtain⟨v1,hv1⟩:∃v1,w1.alloc (.cells #[.int .i64 (fa:Int),.int .i64 (fc:Int)] 37)=v1:=⟨_,rfl⟩
  have hb12:Below w1.heap.size w1 v1:=by rw[←hv1];exact (Below.refl _ _).alloc (Nat.le_refl _) _
  have HBv1:=hHi (below_tr HBw1.out hb12)
  have HKs:Hid (Blk v1 w1.heap.size 37 #[.int .i64 (fa:Int),.int .i64 (fc:Int)]):=by show Blk _ _ _ _;rw[←hv1];exact Blk.new w1 37 _
  have d0:=HKs.out.cell 0 rfl
  have d1:=HKs.out.cell 1 rfl
  clear hb12 hfc hW hL HWA HPB HPF
  go_wp2_with fail
  refine (HP1.out _).mono ?_
  rintro e v2 ⟨rfl,hb⟩
  have HBv2:=hHi (below_tr HBv1.out hb)
  have HKs2:=kA HKs (hHi hb)
  clear hb d0 d1 hv1
  go_wp2_with fail
  obtain⟨v3,hv3⟩:∃v3,((v2.alloc (.cells #[.string ⟨#[]⟩,.string ⟨#[]⟩,.slice none 0 0,.slice none 0 0,.slice none 0 0,.slice none 0 0,.slice none 0 0] 28)).alloc (.cells #[.int .i64 (fa:Int),.int .i64 (fc:Int)] 37))=v3:=⟨_,rfl⟩
  have hb23:Below v2.heap.size v2 v3:=by rw[←hv3];exact ((Below.refl _ _).alloc (Nat.le_refl _) _).alloc (by simp) _
  have HBv3:=hHi (below_tr HBv2.out hb23)
  have HKt3:Hid (Blk v3 (v2.heap.size+1) 37 #[.int .i64 (fa:Int),.int .i64 (fc:Int)]):=by
   show Blk _ _ _ _
   rw[←hv3]
   have:=Blk.new (v2.alloc (.cells #[.string ⟨#[]⟩,.string ⟨#[]⟩,.slice none 0 0,.slice none 0 0,.slice none 0 0,.slice none 0 0,.slice none 0 0] 28)) 37 #[.int .i64 (fa:Int),.int .i64 (fc:Int)]
   simpa using this
  have HKs3:=kA HKs2 (hHi hb23)
  rw[hv3]
  clear hb23 hv3
  refine (HAL.out v3 HBv3.out).mono ?_
  rintro e v4 ⟨rfl,hb⟩
  have HBv4:=hHi (below_tr HBv3.out hb)
  have hKs4:=Blk.after HKs3.out hb
  have hKt4:=Blk.after HKt3.out hb
  have d0:=hKs4.cell 0 rfl
  have d1:=hKs4.cell 1 rfl
  have d2:=hKt4.cell 0 rfl
  have d3:=hKt4.cell 1 rfl
  clear hb hKs4 hKt4
  go_wp2
  go_ret
  exact⟨by simp,HBv4.out⟩
 subst hfc
 obtain⟨us,we,e1,e2,e3,e4,e5,e6,e7,e8,e9⟩:=HWA.out rfl
 replace e1:ws=us++[we]:=e1
 replace e2:fa=0:=e2
 subst e2
 obtain⟨Lu,qe,rfl⟩:∃Lu qe,L=Lu++[qe]:=by
  rcases List.eq_nil_or_concat L with rfl | ⟨Lu,qe,h⟩
  ·rw[e1] at hL;simp at hL
  ·exact⟨Lu,qe,by rw[h,List.concat_eq_append]⟩
 have hLu:Lu.map (·.1)=us∧qe.1=we:=by
  rw[e1,List.map_append,List.map_cons,List.map_nil] at hL
  have:=List.append_inj' hL rfl
  exact⟨this.1,by simpa using this.2⟩
 obtain⟨hLu,hqe⟩:=hLu
 have ht:Lu.map (fun q=>q.1.text)=us.map (·.text):=by rw[←hLu,List.map_map];rfl
 have HW1:Hid (Words w1 w.heap.size lv (Lu++[qe])):=hW
 obtain⟨z,hzz⟩:∃z:ByteArray,(⟨(joinT (us.map (·.text))).toArray⟩:ByteArray)=z:=⟨_,rfl⟩
 have HJ:Hid (∀W,Words W w.heap.size lv (Lu++[qe])→Calls Tryz.prog 21 #[lv] W fun e w'=>e=.returned (.string z)∧Below W.heap.size W w'):=fun W h=>by
  have hj:=join_any Lu qe lv w.heap.size W h (fun q hq=>e4 q.1 (by rw[←hLu];exact List.mem_map_of_mem hq)) (by rw[hqe];exact e3) (by rw[←hLu,List.map_map] at e6;exact e6) (by rw[←hLu,List.length_map] at e7;exact e7)
  rw[ht,hzz] at hj
  exact hj
 have hsm:PR.same R (parR (joinT (us.map (·.text)))):=HPB.out rfl e1
 have HZ:Hid (∀W,Calls Tryz.prog 19 #[.string z] W fun e w'=>PDf W (parR (joinT (us.map (·.text)))) e w'):=fun W=>by
  have:=dparse_any z W
  rw[show z.data.toList=joinT (us.map (·.text)) by rw[←hzz]] at this
  exact this
 generalize parR (joinT (us.map (·.text)))=Q at hsm HZ
 clear hL hW e1 e3 e4 e5 e6 e7 e8 e9 hLu hqe ht hzz HWA HPB HPF
 revert hsm
 cases R with
 | bad q c=>
  cases Q with
  | ok d M=>exact fun hsm=>absurd hsm (by unfold PR.same;exact id)
  | bad r c2=>
   intro hsm
   obtain rfl:c=c2:=hsm
   have HPX:Hid (∀W,Calls Tryz.prog 19 #[.string x] W fun e w'=>PDf W (.bad q c) e w'):=HP1.out
   have HPZ:Hid (∀W,Calls Tryz.prog 19 #[.string z] W fun e w'=>PDf W (.bad r c) e w'):=HZ.out
   clear HP1 HZ
   go_wp2_with fail
   obtain⟨wb,hwb⟩:∃wb,w1.alloc (.cells #[.int .i64 0,.int .i64 0] 37)=wb:=⟨_,rfl⟩
   have hbb:Below w1.heap.size w1 wb:=by rw[←hwb];exact (Below.refl _ _).alloc (Nat.le_refl _) _
   have HBwb:=hHi (below_tr HBw1.out hbb)
   have HWb:Hid (Words wb w.heap.size lv (Lu++[qe])):=Words.after HW1.out hbb
   rw[hwb]
   clear hbb hwb
   refine (HPX.out _).mono ?_
   rintro e w2 ⟨rfl,hb⟩
   have HBw2:=hHi (below_tr HBwb.out hb)
   have HW2:Hid (Words w2 w.heap.size lv (Lu++[qe])):=Words.after HWb.out hb
   clear hb
   go_wp2_with fail
   obtain⟨w3,hw3⟩:∃w3,((w2.alloc (.cells #[.string ⟨#[]⟩,.string ⟨#[]⟩,.slice none 0 0,.slice none 0 0,.slice none 0 0,.slice none 0 0,.slice none 0 0] 28)).alloc (.cells #[.int .i64 (q:Int),.int .i64 (c:Int)] 37))=w3:=⟨_,rfl⟩
   have hbw3:Below w2.heap.size w2 w3:=by rw[←hw3];exact ((Below.refl _ _).alloc (Nat.le_refl _) _).alloc (by simp) _
   have HBw3:=hHi (below_tr HBw2.out hbw3)
   have HKd3:Hid (Blk w3 w2.heap.size 28 #[.string ⟨#[]⟩,.string ⟨#[]⟩,.slice none 0 0,.slice none 0 0,.slice none 0 0,.slice none 0 0,.slice none 0 0]):=by show Blk _ _ _ _;rw[←hw3];exact (Blk.new w2 28 _).alloc _
   have HKf3:Hid (Blk w3 (w2.heap.size+1) 37 #[.int .i64 (q:Int),.int .i64 (c:Int)]):=by
    show Blk _ _ _ _
    rw[←hw3]
    have:=Blk.new (w2.alloc (.cells #[.string ⟨#[]⟩,.string ⟨#[]⟩,.slice none 0 0,.slice none 0 0,.slice none 0 0,.slice none 0 0,.slice none 0 0] 28)) 37 #[.int .i64 (q:Int),.int .i64 (c:Int)]
    simpa using this
   have HNw3:=hHi hbw3
   rw[hw3]
   clear hbw3 hw3
   refine (HJ.out w3 (Words.after HW2.out HNw3.out)).mono ?_
   rintro e w4 ⟨rfl,hb⟩
   have HBw4:=hHi (below_tr HBw3.out hb)
   have HKd4:=kA HKd3 (hHi hb)
   have HKf4:=kA HKf3 (hHi hb)
   have HN24:=hHi (below_tr HNw3.out hb)
   clear hb
   go_wp2_with fail
   refine (HPZ.out _).mono ?_
   rintro e w5 ⟨rfl,hb⟩
   have HBw5:=hHi (below_tr HBw4.out hb)
   have HKd5:=kA HKd4 (hHi hb)
   have HKf5:=kA HKf4 (hHi hb)
   have HN25:=hHi (below_tr HN24.out hb)
   clear hb
   go_wp2_with fail
   obtain⟨w6,hw6⟩:∃w6,((w5.alloc (.cells #[.string ⟨#[]⟩,.string ⟨#[]⟩,.slice none 0 0,.slice none 0 0,.slice none 0 0,.slice none 0 0,.slice none 0 0] 28)).alloc (.cells #[.int .i64 (r:Int),.int .i64 (c:Int)] 37))=w6:=⟨_,rfl⟩
   have hbw6:Below w5.heap.size w5 w6:=by rw[←hw6];exact ((Below.refl _ _).alloc (Nat.le_refl _) _).alloc (by simp) _
   have HBw6:=hHi (below_tr HBw5.out hbw6)
   have HKd6:Hid (Blk w6 w5.heap.size 28 #[.string ⟨#[]⟩,.string ⟨#[]⟩,.slice none 0 0,.slice none 0 0,.slice none 0 0,.slice none 0 0,.slice none 0 0]):=by show Blk _ _ _ _;rw[←hw6];exact (Blk.new w5 28 _).alloc _
   have HKf6:Hid (Blk w6 (w5.heap.size+1) 37 #[.int .i64 (r:Int),.int .i64 (c:Int)]):=by
    show Blk _ _ _ _
    rw[←hw6]
    have:=Blk.new (w5.alloc (.cells #[.string ⟨#[]⟩,.string ⟨#[]⟩,.slice none 0 0,.slice none 0 0,.slice none 0 0,.slice none 0 0,.slice none 0 0] 28)) 37 #[.int .i64 (r:Int),.int .i64 (c:Int)]
    simpa using this
   have HNw6:=hHi hbw6
   rw[hw6]
   clear hbw6 hw6
   have HKa6:=kA HKd5 HNw6
   have HKb6:=kA HKf5 HNw6
   refine (HAL.out w6 HBw6.out).mono ?_
   rintro e w7 ⟨rfl,hb⟩
   have HBw7:=hHi (below_tr HBw6.out hb)
   have HN57:=hHi (below_tr HNw6.out hb)
   have HKa7:=kA HKa6 (hHi hb)
   have HKb7:=kA HKb6 (hHi hb)
   have HKc7:=kA HKd6 (hHi hb)
   have HKe7:=kA HKf6 (hHi hb)
   clear hb
   have ca0:=HKa7.out.cell 0 rfl
   have ca1:=HKa7.out.cell 1 rfl
   have ca2:=HKa7.out.cell 2 rfl
   have ca3:=HKa7.out.cell 3 rfl
   have ca4:=HKa7.out.cell 4 rfl
   have ca5:=HKa7.out.cell 5 rfl
   have ca6:=HKa7.out.cell 6 rfl
   have cc0:=HKc7.out.cell 0 rfl
   have cc1:=HKc7.out.cell 1 rfl
   have cc2:=HKc7.out.cell 2 rfl
   have cc3:=HKc7.out.cell 3 rfl
   have cc4:=HKc7.out.cell 4 rfl
   have cc5:=HKc7.out.cell 5 rfl
   have cc6:=HKc7.out.cell 6 rfl
   go_wp2_with fail
   refine (HSE.out w7).mono ?_
   rintro e w8 ⟨rfl,hb⟩
   have HBw8:=hHi (below_tr HBw7.out hb)
   have hKb8:=Blk.after HKb7.out hb
   have hKe8:=Blk.after HKe7.out hb
   clear ca0 ca1 ca2 ca3 ca4 ca5 ca6 cc0 cc1 cc2 cc3 cc4 cc5 cc6
   have cb0:=hKb8.cell 0 rfl
   have cb1:=hKb8.cell 1 rfl
   have ce0:=hKe8.cell 0 rfl
   have ce1:=hKe8.cell 1 rfl
   clear hb hKb8 hKe8
   go_wp2
   go_ret
   exact⟨by simp,HBw8.out⟩
 | ok d M=>
  cases Q with
  | bad r c2=>exact fun hsm=>absurd hsm (by unfold PR.same;exact id)
  | ok d2 M2=>
   intro hsm
   obtain⟨rfl,_⟩:d=d2∧M.map cw=M2.map cw:=hsm
   have HPX:Hid (∀W,Calls Tryz.prog 19 #[.string x] W fun e w'=>(∃v2 v3 v4 v5 v6,e=.returned (.tuple #[.agg #[.string d.start,.string d.layout,v2,v3,v4,v5,v6],.agg #[.int .i64 0,.int .i64 0]])∧DA w' d [.string d.start,.string d.layout,v2,v3,v4,v5,v6])∧Below W.heap.size W w'):=HP1.out
   have HPZ:Hid (∀W,Calls Tryz.prog 19 #[.string z] W fun e w'=>(∃v2 v3 v4 v5 v6,e=.returned (.tuple #[.agg #[.string d.start,.string d.layout,v2,v3,v4,v5,v6],.agg #[.int .i64 0,.int .i64 0]])∧DA w' d [.string d.start,.string d.layout,v2,v3,v4,v5,v6])∧Below W.heap.size W w'):=HZ.out
   have HSD:Hid (∀(us vs:List Value) W,DA W d us→DA W d vs→Calls Tryz.prog 15 #[.agg ⟨us⟩,.agg ⟨vs⟩] W fun e w'=>e=.returned (.bool true)∧Below W.heap.size W w'):=fun us vs W h k=>by
    have:=rsame_two h k
    rw[eqD_self] at this
    exact this
   clear HP1 HZ
   generalize d.start=t0 at *
   generalize d.layout=t1 at *
   go_wp2_with fail
   obtain⟨wb,hwb⟩:∃wb,w1.alloc (.cells #[.int .i64 0,.int .i64 0] 37)=wb:=⟨_,rfl⟩
   have hbb:Below w1.heap.size w1 wb:=by rw[←hwb];exact (Below.refl _ _).alloc (Nat.le_refl _) _
   have HBwb:=hHi (below_tr HBw1.out hbb)
   have HWb:Hid (Words wb w.heap.size lv (Lu++[qe])):=Words.after HW1.out hbb
   rw[hwb]
   clear hbb hwb
   refine (HPX.out _).mono ?_
   rintro e w2 ⟨⟨y2,y3,y4,y5,y6,rfl,hda⟩,hb⟩
   obtain⟨⟨yp2,yn2,yq2,rfl⟩,⟨yp3,yn3,yq3,rfl⟩,⟨yp4,yn4,yq4,rfl⟩,⟨yp5,yn5,yq5,rfl⟩,⟨yp6,yn6,yq6,rfl⟩⟩:=da_slices hda
   have HDY:=hHi hda
   clear hda
   have HBw2:=hHi (below_tr HBwb.out hb)
   have HW2:Hid (Words w2 w.heap.size lv (Lu++[qe])):=Words.after HWb.out hb
   clear hb
   go_wp2_with fail
   obtain⟨w3,hw3⟩:∃w3,((w2.alloc (.cells #[.string t0,.string t1,.slice yp2 yn2 yq2,.slice yp3 yn3 yq3,.slice yp4 yn4 yq4,.slice yp5 yn5 yq5,.slice yp6 yn6 yq6] 28)).alloc (.cells #[.int .i64 0,.int .i64 0] 37))=w3:=⟨_,rfl⟩
   have hbw3:Below w2.heap.size w2 w3:=by rw[←hw3];exact ((Below.refl _ _).alloc (Nat.le_refl _) _).alloc (by simp) _
   have HBw3:=hHi (below_tr HBw2.out hbw3)
   have HKd3:Hid (Blk w3 w2.heap.size 28 #[.string t0,.string t1,.slice yp2 yn2 yq2,.slice yp3 yn3 yq3,.slice yp4 yn4 yq4,.slice yp5 yn5 yq5,.slice yp6 yn6 yq6]):=by show Blk _ _ _ _;rw[←hw3];exact (Blk.new w2 28 _).alloc _
   have HKf3:Hid (Blk w3 (w2.heap.size+1) 37 #[.int .i64 0,.int .i64 0]):=by
    show Blk _ _ _ _
    rw[←hw3]
    have:=Blk.new (w2.alloc (.cells #[.string t0,.string t1,.slice yp2 yn2 yq2,.slice yp3 yn3 yq3,.slice yp4 yn4 yq4,.slice yp5 yn5 yq5,.slice yp6 yn6 yq6] 28)) 37 #[.int .i64 0,.int .i64 0]
    simpa using this
   have HNw3:=hHi hbw3
   rw[hw3]
   clear hbw3 hw3
   refine (HJ.out w3 (Words.after HW2.out HNw3.out)).mono ?_
   rintro e w4 ⟨rfl,hb⟩
   have HBw4:=hHi (below_tr HBw3.out hb)
   have HKd4:=kA HKd3 (hHi hb)
   have HKf4:=kA HKf3 (hHi hb)
   have HN24:=hHi (below_tr HNw3.out hb)
   clear hb
   go_wp2_with fail
   refine (HPZ.out _).mono ?_
   rintro e w5 ⟨⟨z2,z3,z4,z5,z6,rfl,hdz⟩,hb⟩
   obtain⟨⟨zp2,zn2,zq2,rfl⟩,⟨zp3,zn3,zq3,rfl⟩,⟨zp4,zn4,zq4,rfl⟩,⟨zp5,zn5,zq5,rfl⟩,⟨zp6,zn6,zq6,rfl⟩⟩:=da_slices hdz
   have HDZ:=hHi hdz
   clear hdz
   have HBw5:=hHi (below_tr HBw4.out hb)
   have HKd5:=kA HKd4 (hHi hb)
   have HKf5:=kA HKf4 (hHi hb)
   have HN25:=hHi (below_tr HN24.out hb)
   clear hb
   go_wp2_with fail
   obtain⟨w6,hw6⟩:∃w6,((w5.alloc (.cells #[.string t0,.string t1,.slice zp2 zn2 zq2,.slice zp3 zn3 zq3,.slice zp4 zn4 zq4,.slice zp5 zn5 zq5,.slice zp6 zn6 zq6] 28)).alloc (.cells #[.int .i64 0,.int .i64 0] 37))=w6:=⟨_,rfl⟩
   have hbw6:Below w5.heap.size w5 w6:=by rw[←hw6];exact ((Below.refl _ _).alloc (Nat.le_refl _) _).alloc (by simp) _
   have HBw6:=hHi (below_tr HBw5.out hbw6)
   have HKd6:Hid (Blk w6 w5.heap.size 28 #[.string t0,.string t1,.slice zp2 zn2 zq2,.slice zp3 zn3 zq3,.slice zp4 zn4 zq4,.slice zp5 zn5 zq5,.slice zp6 zn6 zq6]):=by show Blk _ _ _ _;rw[←hw6];exact (Blk.new w5 28 _).alloc _
   have HKf6:Hid (Blk w6 (w5.heap.size+1) 37 #[.int .i64 0,.int .i64 0]):=by
    show Blk _ _ _ _
    rw[←hw6]
    have:=Blk.new (w5.alloc (.cells #[.string t0,.string t1,.slice zp2 zn2 zq2,.slice zp3 zn3 zq3,.slice zp4 zn4 zq4,.slice zp5 zn5 zq5,.slice zp6 zn6 zq6] 28)) 37 #[.int .i64 0,.int .i64 0]
    simpa using this
   have HNw6:=hHi hbw6
   rw[hw6]
   clear hbw6 hw6
   have HKa6:=kA HKd5 HNw6
   have HKb6:=kA HKf5 HNw6
   refine (HAL.out w6 HBw6.out).mono ?_
   rintro e w7 ⟨rfl,hb⟩
   have HBw7:=hHi (below_tr HBw6.out hb)
   have HN57:=hHi (below_tr HNw6.out hb)
   have HKa7:=kA HKa6 (hHi hb)
   have HKb7:=kA HKb6 (hHi hb)
   have HKc7:=kA HKd6 (hHi hb)
   have HKe7:=kA HKf6 (hHi hb)
   clear hb
   have ca0:=HKa7.out.cell 0 rfl
   have ca1:=HKa7.out.cell 1 rfl
   have ca2:=HKa7.out.cell 2 rfl
   have ca3:=HKa7.out.cell 3 rfl
   have ca4:=HKa7.out.cell 4 rfl
   have ca5:=HKa7.out.cell 5 rfl
   have ca6:=HKa7.out.cell 6 rfl
   have cc0:=HKc7.out.cell 0 rfl
   have cc1:=HKc7.out.cell 1 rfl
   have cc2:=HKc7.out.cell 2 rfl
   have cc3:=HKc7.out.cell 3 rfl
   have cc4:=HKc7.out.cell 4 rfl
   have cc5:=HKc7.out.cell 5 rfl
   have cc6:=HKc7.out.cell 6 rfl
   go_wp2_with fail
   refine (HSD.out _ _ w7 (HDY.out.nx (below_tr HN25.out HN57.out)) (HDZ.out.nx HN57.out)).mono ?_
   rintro e w8 ⟨rfl,hb⟩
   have HBw8:=hHi (below_tr HBw7.out hb)
   have hKb8:=Blk.after HKb7.out hb
   have hKe8:=Blk.after HKe7.out hb
   clear ca0 ca1 ca2 ca3 ca4 ca5 ca6 cc0 cc1 cc2 cc3 cc4 cc5 cc6
   have cb0:=hKb8.cell 0 rfl
   have cb1:=hKb8.cell 1 rfl
   have ce0:=hKe8.cell 0 rfl
   have ce1:=hKe8.cell 1 rfl
   clear hb hKb8 hKe8
   go_wp2
   go_ret
   exact⟨by simp,HBw8.out⟩
end Go.Proofs.YtcpakcffiopfjaaGreatDoor
