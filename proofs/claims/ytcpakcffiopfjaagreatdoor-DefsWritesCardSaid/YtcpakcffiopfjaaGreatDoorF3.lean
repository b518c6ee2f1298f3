/- The writer: symbols. The writer: productions. -/
import Derived.Test.YtcpakcffiopfjaaGreatDoorF2
import Derived.Test.YtcpakcffiopfjaaGreatDoorA7
import Derived.Test.YtcpakcffiopfjaaGreatDoorLg
import Derived.Deep.RegionHeld3
import Derived.Test.YtcpakcffiopfjaaGreatDoorA1
namespace Go.Proofs.YtcpakcffiopfjaaGreatDoor
open Go.RowKit
set_option linter.unusedVariables false
set_option linter.unusedSimpArgs false
set_option maxRecDepth 100000
set_option maxHeartbeats 16000000
set_option linter.unusedVariables false
set_option linter.unusedSimpArgs false
set_option maxRecDepth 100000
set_option maxHeartbeats 16000000
theorem nm_size {s:ByteArray} (h:nm s=true):s.size≤32:=by
 unfold nm nameB whole at h
 simp only[Bool.and_eq_true,decide_eq_true_eq] at h
 have:=h.2.1
 rwa [list_len] at this
theorem nmN_size {s:ByteArray} (h:nmN s=true):s.size≤32:=by
 unfold nmN at h
 rw[Bool.or_eq_true] at h
 rcases h with h | h
 ·rw[em_iff.1 h];decide
 ·exact nm_size h
theorem sym_small {x:Sy} (h:symB x=true):x.text.size≤32∧x.name.size≤32∧x.sep.size≤32:=by
 have an:∀ {p q:Bool},(p&&q)=true→p=true∧q=true:=fun h=>by simpa using h
 have of:oftenB x=true→x.text.size≤32∧x.name.size≤32∧x.sep.size≤32:=fun h=>by
  unfold oftenB at h
  split at h
  ·have e:=eqS_iff.1 h
   rw[e];exact⟨size_nil,size_nil,size_nil⟩
  ·obtain⟨h1,h3⟩:=an h
   obtain⟨h1,h2⟩:=an h1
   have e:=eqS_iff.1 h1
   have e1:x.text=⟨#[]⟩:=by rw[e]
   exact⟨by rw[e1];decide,nm_size h2,by simpa using h3⟩
 unfold symB at h
 split at h
 ·obtain⟨h1,h2⟩:=an h
  have e:=eqS_iff.1 h1
  have e1:x.name=⟨#[]⟩:=by rw[e]
  have e2:x.sep=⟨#[]⟩:=by rw[e]
  exact⟨by simpa using h2,by rw[e1];decide,by rw[e2];decide⟩
 split at h
 ·have e:=eqS_iff.1 h
  rw[e];exact⟨size_nil,size_nil,size_nil⟩
 split at h
 ·obtain⟨h1,h2⟩:=an h
  have e:=eqS_iff.1 h1
  have e1:x.text=⟨#[]⟩:=by rw[e]
  have e2:x.sep=⟨#[]⟩:=by rw[e]
  exact⟨by rw[e1];decide,nm_size h2,by rw[e2];decide⟩
 split at h
 ·exact of (an h).2
 split at h
 ·exact of h
 split at h
 ·exact of h
 ·cases h
def txs (ts:List Tk):List (List UInt8):=ts.map fun x=>x.2.1
theorem txs_app (a b:List Tk):txs (a++b)=txs a++txs b:=by unfold txs;rw[List.map_append]
theorem quo_size {s:ByteArray} (h:s.size≤32):(strB (quoteL (bysN s))).size≤4000:=by
 have:=quoteL_len (bysN s) (bysN_lt s)
 rw[bysN_len] at this
 rw[strB_size];omega
theorem prt_size (s:St):(strB (printL s)).size≤4000:=by
 have:=print_len s
 rw[strB_size];omega
theorem max_bd {n a b:Nat} (h:n≤max a 69537) (ha:a≤b) (hb:69537≤b):n≤b:=by omega
theorem putW_bd {st:List UInt8×List UInt8} {b:Nat} {ws:List (List UInt8)} (h:st.1.length≤b) (hw:∀s∈ws,s.length≤4000) (hb:69537≤b):(putW st ws).1.length≤b:=max_bd (putW_len ws st hw) h hb
theorem putW_bd1 {st:List UInt8×List UInt8} {b:Nat} {x0:List UInt8} (h:st.1.length≤b) (h0:x0.length≤4000) (hb:69537≤b):(putW st [x0]).1.length≤b:=putW_bd h (fun s hs=>by
 simp only[List.mem_cons,List.not_mem_nil,or_false] at hs
 subst hs<;>assumption) hb
theorem putW_bd2 {st:List UInt8×List UInt8} {b:Nat} {x0 x1:List UInt8} (h:st.1.length≤b) (h0:x0.length≤4000) (h1:x1.length≤4000) (hb:69537≤b):(putW st [x0,x1]).1.length≤b:=putW_bd h (fun s hs=>by
 simp only[List.mem_cons,List.not_mem_nil,or_false] at hs
 rcases hs with rfl | rfl<;>assumption) hb
theorem putW_bd3 {st:List UInt8×List UInt8} {b:Nat} {x0 x1 x2:List UInt8} (h:st.1.length≤b) (h0:x0.length≤4000) (h1:x1.length≤4000) (h2:x2.length≤4000) (hb:69537≤b):(putW st [x0,x1,x2]).1.length≤b:=putW_bd h (fun s hs=>by
 simp only[List.mem_cons,List.not_mem_nil,or_false] at hs
 rcases hs with rfl | rfl | rfl<;>assumption) hb
theorem putW_bd4 {st:List UInt8×List UInt8} {b:Nat} {x0 x1 x2 x3:List UInt8} (h:st.1.length≤b) (h0:x0.length≤4000) (h1:x1.length≤4000) (h2:x2.length≤4000) (h3:x3.length≤4000) (hb:69537≤b):(putW st [x0,x1,x2,x3]).1.length≤b:=putW_bd h (fun s hs=>by
 simp only[List.mem_cons,List.not_mem_nil,or_false] at hs
 rcases hs with rfl | rfl | rfl | rfl<;>assumption) hb
theorem symK_txs (x:Sy) (st:List UInt8×List UInt8):putW st (txs (symK x))=if x.kind=1 then putW st [quoteL (bysN x.text)] else putW (putW st (if em x.sep then (if em x.name then [printL x.set] else [x.name.data.toList]) else [[123],x.name.data.toList,quoteL (bysN x.sep),[125]])) (txs (oftK x.kind)):=by
 unfold symK
 split
 ·rfl
 ·rw[txs_app,putW_app]
  split
  ·split<;>rfl
  ·rfl
theorem wsym_any (B:Nat) (t l:List UInt8) (x:Sy) (w:World) (hW:Wr w B t l) (hx:symB x=true) (hok:x.set.ok) (ht:t.length≤8000000) :
  Calls Tryz.prog 121 #[.pointer (some ⟨B,0,none⟩),.agg #[.int .i64 x.kind,.string x.text,.int .u64 x.set.a,.int .u64 x.set.b,.int .u64 x.set.c,.int .u64 x.set.d,.string x.name,.string x.sep]] w (WP B w (putW (t,l) (txs (symK x)))):=by
 obtain⟨st1,st2,st3⟩:=sym_small hx
 have HSM:Hid (x.text.size≤32∧x.name.size≤32∧x.sep.size≤32):=⟨st1,st2,st3⟩
 have HOK:Hid (x.set.ok):=hok
 have HGL:Hid _:=symK_txs x (t,l)
 clear hx hok st1 st2 st3
 have HW0:Hid (Wr w B t l):=hW
 have HF0:Hid (FrW w w B):=FrW.refl _ _
 have HL0:Hid (t.length≤8000000):=ht
 clear hW ht
 obtain⟨a1,ha1⟩:∃qW,w.alloc (.cells #[.int .i64 x.kind,.string x.text,.int .u64 x.set.a,.int .u64 x.set.b,.int .u64 x.set.c,.int .u64 x.set.d,.string x.name,.string x.sep] 134)=qW:=⟨_,rfl⟩
 have HN1:=kB ha1
 have HXx:=kN ha1
 have HNEx:Hid (w.heap.size≠B):=by have:=HW0.out.lt;show _≠_;omega
 have HW1:=hHi (HW0.out.below HN1.out)
 have HF1:=hHi (HF0.out.tr (FrW.bel HN1.out))
 obtain⟨cx0_2,cx1_2,cx2_2,cx3_2,cx4_2,cx5_2,cx6_2,cx7_2⟩:=HXx.out.c8
 go_enter Tryz.func121,Tryz.ntmps121
 by_cases k1:x.kind=1
 case pos=>
  have HK1:=hHi k1
  have hk1:(x.kind==1)=true:=by simpa using k1
  clear k1
  have HP3:=hU (quoted_any x.text a1 (by have:=HSM.out.1;omega))
  go_wp2_with fail
  refine hMo HP3 ?_
  rintro e a3 ⟨rfl,hb⟩
  have HN3:Hid (Below a1.heap.size a1 a3):=hb
  clear hb
  have HW3:=hHi (HW1.out.below HN3.out)
  have HF3:=hHi (HF1.out.tr (FrW.bel HN3.out))
  have HXx_3:=kA HXx HN3
  have HP4:=hU (wput1 (strB (quoteL (bysN x.text))) HW3.out (by have:=HL0.out;omega) (quo_size HSM.out.1))
  go_wp2_with fail
  refine hMo HP4 ?_
  rintro e a4 ⟨rfl,hw,hf⟩
  obtain⟨s4,HS4,HL4,HW4,HN4,HF4⟩:=wnx9 HF3 (S:=putW (t,l) [(strB (quoteL (bysN x.text)):ByteArray).data.toList]) (n:=8000000) hw hf (putW_bd1 HL0.out (by rw[list_len];exact quo_size HSM.out.1) (by decide))
  clear hw hf
  have HXx_4:=kF HN4 HXx_3 HNEx
  have HQ:Hid ((strB (quoteL (bysN x.text))).data.toList=quoteL (bysN x.text)):=by show _=_;simp[strB]
  have cx0_5:=HXx_4.out.cell 0 rfl
  rw[HK1.out] at cx0_5
  go_wp2
  go_end0
  have hfin:putW (t,l) (txs (symK x))=s4:=by rw[HGL.out,if_pos HK1.out,←HQ.out];exact HS4.out
  show WP B w (putW (t,l) (txs (symK x))) _ _
  rw[hfin]
  exact⟨rfl,HW4.out,HF4.out⟩
 have HK1:=hHi k1
 have hk1:(x.kind==1)=false:=by simpa using k1
 clear k1
 by_cases hsp:x.sep.size=0
 case pos=>
  have HEM:Hid (em x.sep=true):=em_eq hsp
  have hie:x.sep.toList.isEmpty=true:=by rw[str_empty _ hsp,ByteArray.toList_eq];rfl
  clear hsp
  by_cases hnm:x.name.size=0
  case pos=>
   have HEN:Hid (em x.name=true):=em_eq hnm
   have hin:x.name.toList.isEmpty=true:=by rw[str_empty _ hnm,ByteArray.toList_eq];rfl
   clear hnm
   have HP3:=hU (print_any x.set HOK.out a1)
   go_wp2_with fail
   refine hMo HP3 ?_
   rintro e a3 ⟨rfl,hb⟩
   have HN3:Hid (Below a1.heap.size a1 a3):=hb
   clear hb
   have HW3:=hHi (HW1.out.below HN3.out)
   have HF3:=hHi (HF1.out.tr (FrW.bel HN3.out))
   have HXx_3:=kA HXx HN3
   have HP4:=hU (wput1 (strB (printL x.set)) HW3.out (by have:=HL0.out;omega) (prt_size x.set))
   go_wp2_with fail
   refine hMo HP4 ?_
   rintro e a4 ⟨rfl,hw,hf⟩
   obtain⟨s4,HS4,HL4,HW4,HN4,HF4⟩:=wnx9 HF3 (S:=putW (t,l) [(strB (printL x.set):ByteArray).data.toList]) (n:=8000000) hw hf (putW_bd1 HL0.out (by rw[list_len];exact prt_size x.set) (by decide))
   clear hw hf
   have HXx_4:=kF HN4 HXx_3 HNEx
   have HQ:Hid ((strB (printL x.set)).data.toList=printL x.set):=by show _=_;simp[strB]
   by_cases k4:x.kind=4
   case pos=>
    have HK4:=hHi k4
    have cx0_5:=HXx_4.out.cell 0 rfl
    rw[k4] at cx0_5
    clear k4
    have HP6:=hU (wput1 (⟨#[63]⟩) HW4.out (by have:=HL4.out;omega) (by decide))
    go_wp2_with fail
    refine hMo HP6 ?_
    rintro e a6 ⟨rfl,hw,hf⟩
    obtain⟨s6,HS6,HL6,HW6,HN6,HF6⟩:=wnx9 HF4 (S:=putW s4 [(⟨#[63]⟩:ByteArray).data.toList]) (n:=8000000) hw hf (putW_bd1 HL4.out (by rw[list_len];exact by decide) (by decide))
    clear hw hf
    have HXx_6:=kF HN6 HXx_4 HNEx
    go_wp2
    go_end0
    have hfin:putW (t,l) (txs (symK x))=s6:=by rw[HGL.out,if_neg HK1.out,if_pos HEM.out,if_pos HEN.out,←HQ.out,HS4.out];unfold oftK;rw[if_pos HK4.out];exact HS6.out
    show WP B w (putW (t,l) (txs (symK x))) _ _
    rw[hfin]
    exact⟨rfl,HW6.out,HF6.out⟩
   have HK4:=hHi k4
   have hk4:(x.kind==4)=false:=by simpa using k4
   clear k4
   by_cases k5:x.kind=5
   case pos=>
    have HK5:=hHi k5
    have cx0_5:=HXx_4.out.cell 0 rfl
    rw[k5] at cx0_5
    clear k5
    have HP6:=hU (wput1 (⟨#[42]⟩) HW4.out (by have:=HL4.out;omega) (by decide))
    go_wp2_with fail
    refine hMo HP6 ?_
    rintro e a6 ⟨rfl,hw,hf⟩
    obtain⟨s6,HS6,HL6,HW6,HN6,HF6⟩:=wnx9 HF4 (S:=putW s4 [(⟨#[42]⟩:ByteArray).data.toList]) (n:=8000000) hw hf (putW_bd1 HL4.out (by rw[list_len];exact by decide) (by decide))
    clear hw hf
    have HXx_6:=kF HN6 HXx_4 HNEx
    go_wp2
    go_end0
    have hfin:putW (t,l) (txs (symK x))=s6:=by rw[HGL.out,if_neg HK1.out,if_pos HEM.out,if_pos HEN.out,←HQ.out,HS4.out];unfold oftK;rw[if_neg HK4.out,if_pos HK5.out];exact HS6.out
    show WP B w (putW (t,l) (txs (symK x))) _ _
    rw[hfin]
    exact⟨rfl,HW6.out,HF6.out⟩
   have HK5:=hHi k5
   have hk5:(x.kind==5)=false:=by simpa using k5
   clear k5
   by_cases k6:x.kind=6
   case pos=>
    have HK6:=hHi k6
    have cx0_5:=HXx_4.out.cell 0 rfl
    rw[k6] at cx0_5
    clear k6
    have HP6:=hU (wput1 (⟨#[43]⟩) HW4.out (by have:=HL4.out;omega) (by decide))
    go_wp2_with fail
    refine hMo HP6 ?_
    rintro e a6 ⟨rfl,hw,hf⟩
    obtain⟨s6,HS6,HL6,HW6,HN6,HF6⟩:=wnx9 HF4 (S:=putW s4 [(⟨#[43]⟩:ByteArray).data.toList]) (n:=8000000) hw hf (putW_bd1 HL4.out (by rw[list_len];exact by decide) (by decide))
    clear hw hf
    have HXx_6:=kF HN6 HXx_4 HNEx
    go_wp2
    go_end0
    have hfin:putW (t,l) (txs (symK x))=s6:=by rw[HGL.out,if_neg HK1.out,if_pos HEM.out,if_pos HEN.out,←HQ.out,HS4.out];unfold oftK;rw[if_neg HK4.out,if_neg HK5.out,if_pos HK6.out];exact HS6.out
    show WP B w (putW (t,l) (txs (symK x))) _ _
    rw[hfin]
    exact⟨rfl,HW6.out,HF6.out⟩
   have HK6:=hHi k6
   have hk6:(x.kind==6)=false:=by simpa using k6
   clear k6
   have cx0_5:=HXx_4.out.cell 0 rfl
   go_wp2
   go_end0
   have hfin:putW (t,l) (txs (symK x))=s4:=by rw[HGL.out,if_neg HK1.out,if_pos HEM.out,if_pos HEN.out,←HQ.out,HS4.out];unfold oftK;rw[if_neg HK4.out,if_neg HK5.out,if_neg HK6.out];rfl
   show WP B w (putW (t,l) (txs (symK x))) _ _
   rw[hfin]
   exact⟨rfl,HW4.out,HF4.out⟩
  have HEN:Hid (em x.name=false):=em_ne hnm
  have hin:=ne_empty _ hnm
  clear hnm
  have HP3:=hU (wput1 (x.name) HW1.out (by have:=HL0.out;omega) (by have:=HSM.out.2.1;omega))
  go_wp2_with fail
  refine hMo HP3 ?_
  rintro e a3 ⟨rfl,hw,hf⟩
  obtain⟨s3,HS3,HL3,HW3,HN3,HF3⟩:=wnx9 HF1 (S:=putW (t,l) [(x.name:ByteArray).data.toList]) (n:=8000000) hw hf (putW_bd1 HL0.out (by rw[list_len];exact by have:=HSM.out.2.1;omega) (by decide))
  clear hw hf
  have HXx_3:=kF HN3 HXx HNEx
  by_cases k4:x.kind=4
  case pos=>
   have HK4:=hHi k4
   have cx0_4:=HXx_3.out.cell 0 rfl
   rw[k4] at cx0_4
   clear k4
   have HP5:=hU (wput1 (⟨#[63]⟩) HW3.out (by have:=HL3.out;omega) (by decide))
   go_wp2_with fail
   refine hMo HP5 ?_
   rintro e a5 ⟨rfl,hw,hf⟩
   obtain⟨s5,HS5,HL5,HW5,HN5,HF5⟩:=wnx9 HF3 (S:=putW s3 [(⟨#[63]⟩:ByteArray).data.toList]) (n:=8000000) hw hf (putW_bd1 HL3.out (by rw[list_len];exact by decide) (by decide))
   clear hw hf
   have HXx_5:=kF HN5 HXx_3 HNEx
   go_wp2
   go_end0
   have hfin:putW (t,l) (txs (symK x))=s5:=by rw[HGL.out,if_neg HK1.out,if_pos HEM.out,if_neg (by rw[HEN.out];simp),HS3.out];unfold oftK;rw[if_pos HK4.out];exact HS5.out
   show WP B w (putW (t,l) (txs (symK x))) _ _
   rw[hfin]
   exact⟨rfl,HW5.out,HF5.out⟩
  have HK4:=hHi k4
  have hk4:(x.kind==4)=false:=by simpa using k4
  clear k4
  by_cases k5:x.kind=5
  case pos=>
   have HK5:=hHi k5
   have cx0_4:=HXx_3.out.cell 0 rfl
   rw[k5] at cx0_4
   clear k5
   have HP5:=hU (wput1 (⟨#[42]⟩) HW3.out (by have:=HL3.out;omega) (by decide))
   go_wp2_with fail
   refine hMo HP5 ?_
   rintro e a5 ⟨rfl,hw,hf⟩
   obtain⟨s5,HS5,HL5,HW5,HN5,HF5⟩:=wnx9 HF3 (S:=putW s3 [(⟨#[42]⟩:ByteArray).data.toList]) (n:=8000000) hw hf (putW_bd1 HL3.out (by rw[list_len];exact by decide) (by decide))
   clear hw hf
   have HXx_5:=kF HN5 HXx_3 HNEx
   go_wp2
   go_end0
   have hfin:putW (t,l) (txs (symK x))=s5:=by rw[HGL.out,if_neg HK1.out,if_pos HEM.out,if_neg (by rw[HEN.out];simp),HS3.out];unfold oftK;rw[if_neg HK4.out,if_pos HK5.out];exact HS5.out
   show WP B w (putW (t,l) (txs (symK x))) _ _
   rw[hfin]
   exact⟨rfl,HW5.out,HF5.out⟩
  have HK5:=hHi k5
  have hk5:(x.kind==5)=false:=by simpa using k5
  clear k5
  by_cases k6:x.kind=6
  case pos=>
   have HK6:=hHi k6
   have cx0_4:=HXx_3.out.cell 0 rfl
   rw[k6] at cx0_4
   clear k6
   have HP5:=hU (wput1 (⟨#[43]⟩) HW3.out (by have:=HL3.out;omega) (by decide))
   go_wp2_with fail
   refine hMo HP5 ?_
   rintro e a5 ⟨rfl,hw,hf⟩
   obtain⟨s5,HS5,HL5,HW5,HN5,HF5⟩:=wnx9 HF3 (S:=putW s3 [(⟨#[43]⟩:ByteArray).data.toList]) (n:=8000000) hw hf (putW_bd1 HL3.out (by rw[list_len];exact by decide) (by decide))
   clear hw hf
   have HXx_5:=kF HN5 HXx_3 HNEx
   go_wp2
   go_end0
   have hfin:putW (t,l) (txs (symK x))=s5:=by rw[HGL.out,if_neg HK1.out,if_pos HEM.out,if_neg (by rw[HEN.out];simp),HS3.out];unfold oftK;rw[if_neg HK4.out,if_neg HK5.out,if_pos HK6.out];exact HS5.out
   show WP B w (putW (t,l) (txs (symK x))) _ _
   rw[hfin]
   exact⟨rfl,HW5.out,HF5.out⟩
  have HK6:=hHi k6
  have hk6:(x.kind==6)=false:=by simpa using k6
  clear k6
  have cx0_4:=HXx_3.out.cell 0 rfl
  go_wp2
  go_end0
  have hfin:putW (t,l) (txs (symK x))=s3:=by rw[HGL.out,if_neg HK1.out,if_pos HEM.out,if_neg (by rw[HEN.out];simp),HS3.out];unfold oftK;rw[if_neg HK4.out,if_neg HK5.out,if_neg HK6.out];rfl
  show WP B w (putW (t,l) (txs (symK x))) _ _
  rw[hfin]
  exact⟨rfl,HW3.out,HF3.out⟩
 have HEM:Hid (em x.sep=false):=em_ne hsp
 have hie:=ne_empty _ hsp
 clear hsp
 have HXd:Hid (Blk a1.drew w.heap.size 134 #[.int .i64 x.kind,.string x.text,.int .u64 x.set.a,.int .u64 x.set.b,.int .u64 x.set.c,.int .u64 x.set.d,.string x.name,.string x.sep]):=Blk.after HXx.out (below_dr _)
 have HWd:Hid (Wr a1.drew B t l):=HW1.out.below (below_dr _)
 have HFd:Hid (FrW w a1.drew B):=HF1.out.tr (FrW.bel (below_dr _))
 have HQ:Hid ((strB (quoteL (bysN x.sep))).data.toList=quoteL (bysN x.sep)):=by show _=_;simp[strB]
 have HQC:=hU (quoted_any x.sep a1.drew (by have:=HSM.out.2.2;omega))
 go_wp2
 refine wp_region_held_drew (S:=fun W=>W.cell? ⟨w.heap.size,0,none⟩=some (.int .i64 x.kind)∧W.cell? ⟨w.heap.size,6,none⟩=some (.string x.name)∧W.cell? ⟨w.heap.size,7,none⟩=some (.string x.sep)) (by kernel_rfl) ⟨Blk.cell (W:=a1.drew) HXd.out 0 rfl,Blk.cell (W:=a1.drew) HXd.out 6 rfl,Blk.cell (W:=a1.drew) HXd.out 7 rfl⟩ (fun hHeld=>?_)
 refine tk 0 rfl (by assumption) ?_
 refine tk 1 rfl (by assumption) ?_
 refine tk 2 rfl (by assumption) ?_
 refine tk 3 rfl (by assumption) ?_
 refine tk 4 rfl (by assumption) ?_
 refine rd1 5 rfl (fun K hK=>?_)
 go_simp
 refine hMo HQC ?_
 rintro e w3 ⟨rfl,hb⟩
 have HX3:=kA HXd (hHi hb)
 have HW3:Hid (Wr w3 B t l):=HWd.out.below hb
 have HF3:Hid (FrW w w3 B):=HFd.out.tr (FrW.bel hb)
 clear hb
 go_wp2_with fail
 refine hK.out _ _ ⟨Blk.cell HX3.out 0 rfl,Blk.cell HX3.out 6 rfl,Blk.cell HX3.out 7 rfl⟩ (fun hHeld=>?_)
 clear hK K
 refine rd1 6 rfl (fun K hK=>?_)
 have HX4:Hid (Blk (w3.alloc (.cells #[.string ⟨#[123]⟩,.string x.name,.string (strB (quoteL (bysN x.sep))),.string ⟨#[125]⟩] 9)) w.heap.size 134 #[.int .i64 x.kind,.string x.text,.int .u64 x.set.a,.int .u64 x.set.b,.int .u64 x.set.c,.int .u64 x.set.d,.string x.name,.string x.sep]):=Blk.alloc HX3.out _
 go_simp
 refine hK.out _ _ ⟨Blk.cell (W:=(w3.alloc (.cells #[.string ⟨#[123]⟩,.string x.name,.string (strB (quoteL (bysN x.sep))),.string ⟨#[125]⟩] 9))) HX4.out 0 rfl,Blk.cell (W:=(w3.alloc (.cells #[.string ⟨#[123]⟩,.string x.name,.string (strB (quoteL (bysN x.sep))),.string ⟨#[125]⟩] 9))) HX4.out 6 rfl,Blk.cell (W:=(w3.alloc (.cells #[.string ⟨#[123]⟩,.string x.name,.string (strB (quoteL (bysN x.sep))),.string ⟨#[125]⟩] 9))) HX4.out 7 rfl⟩ (fun hHeld=>?_)
 clear hK K
 refine rd1 7 rfl (fun K hK=>?_)
 have HP9:=hU (wput4 ⟨#[123]⟩ x.name (strB (quoteL (bysN x.sep))) ⟨#[125]⟩ HW3.out (by have:=HL0.out;omega) (by decide) (by have:=HSM.out.2.1;omega) (quo_size HSM.out.2.2) (by decide))
 go_simp
 refine hMo HP9 ?_
 rintro e w5 ⟨rfl,hw,hf⟩
 replace hw:Wr w5 B (putW (t,l) [[123],x.name.data.toList,(strB (quoteL (bysN x.sep))).data.toList,[125]]).1 (putW (t,l) [[123],x.name.data.toList,(strB (quoteL (bysN x.sep))).data.toList,[125]]).2:=hw
 have HX5:Hid (Blk w5 w.heap.size 134 #[.int .i64 x.kind,.string x.text,.int .u64 x.set.a,.int .u64 x.set.b,.int .u64 x.set.c,.int .u64 x.set.d,.string x.name,.string x.sep]):=FrW.blk (w:=w3) hf HX3.out HNEx.out (by decide)
 obtain⟨s9,hs9⟩:∃q,putW (t,l) [[123],x.name.data.toList,(strB (quoteL (bysN x.sep))).data.toList,[125]]=q:=⟨_,rfl⟩
 rw[hs9] at hw
 have HS9:Hid (putW (t,l) [[123],x.name.data.toList,(strB (quoteL (bysN x.sep))).data.toList,[125]]=s9):=hs9
 have HL9:Hid (s9.1.length≤8000000):=by rw[←hs9];exact putW_bd4 HL0.out (by decide) (by rw[list_len];have:=HSM.out.2.1;omega) (by rw[list_len];exact quo_size HSM.out.2.2) (by decide) (by decide)
 clear hs9
 have HW9:=hHi hw
 have HF9:=hHi (HF3.out.tr hf)
 clear hw hf
 go_wp2_with fail
 refine hK.out _ _ ⟨Blk.cell HX5.out 0 rfl,Blk.cell HX5.out 6 rfl,Blk.cell HX5.out 7 rfl⟩ (fun hHeld=>?_)
 clear hK K
 refine wpAnyH_done (by kernel_rfl) ?_ _
 clear hHeld
 by_cases k4:x.kind=4
 case pos=>
  have HK4:=hHi k4
  have cx0_23:=HX5.out.cell 0 rfl
  rw[k4] at cx0_23
  clear k4
  have HP24:=hU (wput1 (⟨#[63]⟩) HW9.out (by have:=HL9.out;omega) (by decide))
  go_wp2_with fail
  refine hMo HP24 ?_
  rintro e a24 ⟨rfl,hw,hf⟩
  obtain⟨s24,HS24,HL24,HW24,HN24,HF24⟩:=wnx9 HF9 (S:=putW s9 [(⟨#[63]⟩:ByteArray).data.toList]) (n:=8000000) hw hf (putW_bd1 HL9.out (by rw[list_len];exact by decide) (by decide))
  clear hw hf
  have HXx_24:=kF HN24 HX5 HNEx
  go_wp2
  go_end0
  have hfin:putW (t,l) (txs (symK x))=s24:=by rw[HGL.out,if_neg HK1.out,if_neg (by rw[HEM.out];simp),←HQ.out,HS9.out];unfold oftK;rw[if_pos HK4.out];exact HS24.out
  show WP B w (putW (t,l) (txs (symK x))) _ _
  rw[hfin]
  exact⟨rfl,HW24.out,HF24.out⟩
 have HK4:=hHi k4
 have hk4:(x.kind==4)=false:=by simpa using k4
 clear k4
 by_cases k5:x.kind=5
 case pos=>
  have HK5:=hHi k5
  have cx0_23:=HX5.out.cell 0 rfl
  rw[k5] at cx0_23
  clear k5
  have HP24:=hU (wput1 (⟨#[42]⟩) HW9.out (by have:=HL9.out;omega) (by decide))
  go_wp2_with fail
  refine hMo HP24 ?_
  rintro e a24 ⟨rfl,hw,hf⟩
  obtain⟨s24,HS24,HL24,HW24,HN24,HF24⟩:=wnx9 HF9 (S:=putW s9 [(⟨#[42]⟩:ByteArray).data.toList]) (n:=8000000) hw hf (putW_bd1 HL9.out (by rw[list_len];exact by decide) (by decide))
  clear hw hf
  have HXx_24:=kF HN24 HX5 HNEx
  go_wp2
  go_end0
  have hfin:putW (t,l) (txs (symK x))=s24:=by rw[HGL.out,if_neg HK1.out,if_neg (by rw[HEM.out];simp),←HQ.out,HS9.out];unfold oftK;rw[if_neg HK4.out,if_pos HK5.out];exact HS24.out
  show WP B w (putW (t,l) (txs (symK x))) _ _
  rw[hfin]
  exact⟨rfl,HW24.out,HF24.out⟩
 have HK5:=hHi k5
 have hk5:(x.kind==5)=false:=by simpa using k5
 clear k5
 by_cases k6:x.kind=6
 case pos=>
  have HK6:=hHi k6
  have cx0_23:=HX5.out.cell 0 rfl
  rw[k6] at cx0_23
  clear k6
  have HP24:=hU (wput1 (⟨#[43]⟩) HW9.out (by have:=HL9.out;omega) (by decide))
  go_wp2_with fail
  refine hMo HP24 ?_
  rintro e a24 ⟨rfl,hw,hf⟩
  obtain⟨s24,HS24,HL24,HW24,HN24,HF24⟩:=wnx9 HF9 (S:=putW s9 [(⟨#[43]⟩:ByteArray).data.toList]) (n:=8000000) hw hf (putW_bd1 HL9.out (by rw[list_len];exact by decide) (by decide))
  clear hw hf
  have HXx_24:=kF HN24 HX5 HNEx
  go_wp2
  go_end0
  have hfin:putW (t,l) (txs (symK x))=s24:=by rw[HGL.out,if_neg HK1.out,if_neg (by rw[HEM.out];simp),←HQ.out,HS9.out];unfold oftK;rw[if_neg HK4.out,if_neg HK5.out,if_pos HK6.out];exact HS24.out
  show WP B w (putW (t,l) (txs (symK x))) _ _
  rw[hfin]
  exact⟨rfl,HW24.out,HF24.out⟩
 have HK6:=hHi k6
 have hk6:(x.kind==6)=false:=by simpa using k6
 clear k6
 have cx0_23:=HX5.out.cell 0 rfl
 go_wp2
 go_end0
 have hfin:putW (t,l) (txs (symK x))=s9:=by rw[HGL.out,if_neg HK1.out,if_neg (by rw[HEM.out];simp),←HQ.out,HS9.out];unfold oftK;rw[if_neg HK4.out,if_neg HK5.out,if_neg HK6.out];rfl
 show WP B w (putW (t,l) (txs (symK x))) _ _
 rw[hfin]
 exact⟨rfl,HW9.out,HF9.out⟩
theorem FrW.below {w w':World} {B:Nat} (h:FrW w w' B) (hB:B≤w.heap.size):Below B w w':=⟨h.os,h.tape,h.output,h.size,fun b hb=>h.block b (Nat.lt_of_lt_of_le hb hB) (Nat.ne_of_lt hb) (.inr hb)⟩
theorem em_two' (x:ByteArray):(em x=true∧x.toList.isEmpty=true)∨(em x=false∧x.toList.isEmpty=false):=by
 by_cases h0:x.size=0
 ·exact .inl ⟨em_eq h0,by rw[str_empty _ h0,ByteArray.toList_eq];rfl⟩
 ·exact .inr ⟨em_ne h0,ne_empty _ h0⟩
theorem txs_drop {α:Type} {f:α→List Tk} {l:List α} {k:Nat} {x:α} (h:l[k]?=some x):txs ((l.drop k).flatMap f)=txs (f x)++txs ((l.drop (k+1)).flatMap f):=by
 have:=List.getElem?_eq_some_iff.1 h
 rw[List.drop_eq_getElem_cons this.1,this.2,List.flatMap_cons,txs_app]
theorem symK_small {x:Sy} (h:symB x=true):∀s∈txs (symK x),s.length≤4000:=by
 obtain⟨h1,h2,h3⟩:=sym_small h
 have q1:∀s:ByteArray,s.size≤32→(quoteL (bysN s)).length≤4000:=fun s hs=>by have:=quo_size hs;rw[strB_size] at this;exact this
 have q2:(printL x.set).length≤4000:=by have:=prt_size x.set;rw[strB_size] at this;exact this
 have q3:∀s:ByteArray,s.size≤32→s.data.toList.length≤4000:=fun s hs=>by rw[list_len];omega
 intro s hs
 unfold symK at hs
 split at hs
 ·simp[txs,quoT] at hs;subst hs;exact q1 _ h1
 ·rw[txs_app] at hs
  rcases List.mem_append.1 hs with hs | hs
  ·split at hs
   ·split at hs
    ·simp[txs,setT] at hs;subst hs;exact q2
    ·simp[txs,namT] at hs;subst hs;exact q3 _ h2
   ·simp only[txs,List.map_cons,List.map_nil,sgT,namT,quoT,List.mem_cons,List.not_mem_nil,or_false] at hs
    rcases hs with rfl | rfl | rfl | rfl
    ·decide
    ·exact q3 _ h2
    ·exact q1 _ h3
    ·decide
  ·unfold oftK at hs
   split at hs
   ·simp[txs,sgT] at hs;subst hs;decide
   ·split at hs
    ·simp[txs,sgT] at hs;subst hs;decide
    ·split at hs
     ·simp[txs,sgT] at hs;subst hs;decide
     ·simp[txs] at hs
theorem prodK_go {p:Pr} {st s1 s2 s3 s4 s5:List UInt8×List UInt8} (h1:putW st [if p.lex then [108,101,120] else [99,102],p.sort.data.toList]=s1) (h2:(if em p.cons then s1 else putW s1 [[46],p.cons.data.toList])=s2) (h3:putW s2 [[61]]=s3) (h4:putW s3 (txs (p.syms.flatMap symK))=s4) (h5:(if p.bracket then putW s4 [[98,114,97,99,107,101,116]] else s4)=s5):putW st (txs (prodK p))=s5:=by
 have e:txs (prodK p)=[if p.lex then [108,101,120] else [99,102],p.sort.data.toList]++(txs (consK p.cons)++([[61]]++(txs (p.syms.flatMap symK)++txs (if p.bracket then [keyT [98,114,97,99,107,101,116]] else [])))):=by
  unfold prodK
  rw[←txs_app,show ∀a b:List Tk,txs (keyT (if p.lex then [108,101,120] else [99,102])::namT p.sort::(a++sgT [61]::b))=[if p.lex then [108,101,120] else [99,102],p.sort.data.toList]++(txs a++([[61]]++txs b)) from fun a b=>by simp[txs,keyT,namT,sgT]]
 rw[e,putW_app,h1,putW_app]
 have e2:putW s1 (txs (consK p.cons))=s2:=by
  rw[←h2]
  unfold consK
  split
  ·rfl
  ·rfl
 rw[e2,putW_app,h3,putW_app,h4,←h5]
 split<;>rfl
theorem wprod_any (B:Nat) (t l:List UInt8) (p:Pr) (v:Value) (w:World) (hW:Wr w B t l) (hp:prodB p=true) (hs:Sl w B 8 SyV p.syms v) (ht:t.length≤7000000) :
  Calls Tryz.prog 68 #[.pointer (some ⟨B,0,none⟩),.agg #[.bool p.lex,.string p.sort,.string p.cons,.bool p.bracket,v]] w (WP B w (finW (putW (t,l) (txs (prodK p))))):=by
 unfold prodB at hp
 simp only[Bool.and_eq_true,List.all_eq_true] at hp
 obtain⟨⟨⟨⟨hs1,hc1⟩,_⟩,_⟩,hsy⟩:=hp
 have HSM:Hid (p.sort.size≤32∧p.cons.size≤32):=⟨nm_size hs1,nmN_size hc1⟩
 have HSY:Hid (∀x∈p.syms,symB x=true):=hsy
 obtain⟨a,c,rfl,hcc,hln,hr⟩:=hs
 have HR:=hHi hr
 obtain⟨n,hn⟩:∃n,p.syms.length=n:=⟨_,rfl⟩
 have HNN:Hid (p.syms.length=n):=hn
 rw[hn] at hcc hln ⊢
 have hz:=em_two' p.cons
 clear hs1 hc1 hsy hr hn
 have HW0:Hid (Wr w B t l):=hW
 have HF0:Hid (FrW w w B):=FrW.refl _ _
 have HL0:Hid (t.length≤7000000):=ht
 have HBS:Hid (B<w.heap.size):=hW.lt
 clear hW ht
 have HLE:Hid (∀k x,p.syms[k]?=some x→∀W,FrW w W B→∃b o,a=some ⟨b,o,none⟩∧x.set.ok∧W.cell? ⟨b,o+k*8,none⟩=some (.int .i64 x.kind)∧W.cell? ⟨b,o+k*8+1,none⟩=some (.string x.text)∧W.cell? ⟨b,o+k*8+2,none⟩=some (.int .u64 x.set.a)∧W.cell? ⟨b,o+k*8+3,none⟩=some (.int .u64 x.set.b)∧W.cell? ⟨b,o+k*8+4,none⟩=some (.int .u64 x.set.c)∧W.cell? ⟨b,o+k*8+5,none⟩=some (.int .u64 x.set.d)∧W.cell? ⟨b,o+k*8+6,none⟩=some (.string x.name)∧W.cell? ⟨b,o+k*8+7,none⟩=some (.string x.sep)):=fun k x hx W hf=>by
  obtain⟨b,o,us,hab,hblt,⟨hok,rfl⟩,hc⟩:=HR.out k x hx
  have hB:=hf.below (Nat.le_of_lt HBS.out)
  exact⟨b,o,hab,hok,(hB.cell (p:=⟨b,o+k*8+0,none⟩) hblt).trans (hc 0 _ rfl),(hB.cell (p:=⟨b,o+k*8+1,none⟩) hblt).trans (hc 1 _ rfl),(hB.cell (p:=⟨b,o+k*8+2,none⟩) hblt).trans (hc 2 _ rfl),(hB.cell (p:=⟨b,o+k*8+3,none⟩) hblt).trans (hc 3 _ rfl),(hB.cell (p:=⟨b,o+k*8+4,none⟩) hblt).trans (hc 4 _ rfl),(hB.cell (p:=⟨b,o+k*8+5,none⟩) hblt).trans (hc 5 _ rfl),(hB.cell (p:=⟨b,o+k*8+6,none⟩) hblt).trans (hc 6 _ rfl),(hB.cell (p:=⟨b,o+k*8+7,none⟩) hblt).trans (hc 7 _ rfl)⟩
 clear HR
 cases hlx:p.lex with
 | false=>
  have HLX:=hHi hlx
  clear hlx
  obtain⟨a1,ha1⟩:∃qW,w.alloc (.cells #[.bool false,.string p.sort,.string p.cons,.bool p.bracket,.slice a n c] 57)=qW:=⟨_,rfl⟩
  have HN1:=kB ha1
  have HXp:=kN ha1
  have HNEp:Hid (w.heap.size≠B):=by have:=HW0.out.lt;show _≠_;omega
  have HW1:=hHi (HW0.out.below HN1.out)
  have HF1:=hHi (HF0.out.tr (FrW.bel HN1.out))
  obtain⟨cp0_2,cp1_2,cp2_2,cp3_2,cp4_2⟩:=HXp.out.c5
  rcases hz with ⟨he,hi⟩ | ⟨he,hi⟩
  ·skip
   have HEM:=hHi he
   clear he
   go_enter Tryz.func68,Tryz.ntmps68
   have HP3:=hU (wput2 (⟨#[99,102]⟩) (p.sort) HW1.out (by have:=HL0.out;omega) (by decide) (by have:=HSM.out.1;omega))
   go_wp2_with fail
   refine hMo HP3 ?_
   rintro e a3 ⟨rfl,hw,hf⟩
   obtain⟨s3,HS3,HL3,HW3,HN3,HF3⟩:=wnx HF1 (S:=putW (t,l) [(⟨#[99,102]⟩:ByteArray).data.toList,(p.sort:ByteArray).data.toList]) hw hf (putW_bd2 HL0.out (by rw[list_len];exact by decide) (by rw[list_len];exact by have:=HSM.out.1;omega) (by decide))
   clear hw hf
   have HXp_3:=kF HN3 HXp HNEp
   obtain⟨cp0_4,cp1_4,cp2_4,cp3_4,cp4_4⟩:=HXp_3.out.c5
   have HP5:=hU (wput1 (⟨#[61]⟩) HW3.out (by have:=HL3.out;omega) (by decide))
   go_wp2_with fail
   refine hMo HP5 ?_
   rintro e a5 ⟨rfl,hw,hf⟩
   obtain⟨s5,HS5,HL5,HW5,HN5,HF5⟩:=wnx HF3 (S:=putW s3 [(⟨#[61]⟩:ByteArray).data.toList]) hw hf (putW_bd1 HL3.out (by rw[list_len];exact by decide) (by decide))
   clear hw hf
   have HXp_5:=kF HN5 HXp_3 HNEp
   obtain⟨cp0_6,cp1_6,cp2_6,cp3_6,cp4_6⟩:=HXp_5.out.c5
   go_wp2
   go_loopw[32] (fun iv W=>∃(k:Nat) (st:List UInt8×List UInt8),k≤n∧iv=.int .i64 k∧putW s5 (txs (p.syms.flatMap symK))=putW st (txs ((p.syms.drop k).flatMap symK))∧Wr W B st.1 st.2∧FrW w W B∧Blk W w.heap.size 57 #[.bool false,.string p.sort,.string p.cons,.bool p.bracket,.slice a n c]∧st.1.length≤7000000) (fun iv _=>n-(intOf iv).toNat)
   case atStart=>exact⟨0,s5,Nat.zero_le _,rfl,rfl,HW5.out,HF5.out,HXp_5.out,HL5.out⟩
   case round=>
    obtain⟨k,st,hk,rfl,he,hwr,hfr,hbp,hlen⟩:=hrel
    have HE:Hid (putW s5 (txs (p.syms.flatMap symK))=putW st (txs ((p.syms.drop k).flatMap symK))):=he
    have HW50:Hid (Wr wr B st.1 st.2):=hwr
    have HF50:Hid (FrW w wr B):=hfr
    have HL50:Hid (st.1.length≤7000000):=hlen
    have HXp_50:Hid (Blk wr w.heap.size 57 #[.bool false,.string p.sort,.string p.cons,.bool p.bracket,.slice a n c]):=hbp
    clear he hwr hfr hbp hlen
    by_cases hlt:k<n
    case pos=>
     obtain⟨x,hx⟩:∃x,p.syms[k]?=some x:=⟨p.syms[k]'(by rw[HNN.out];exact hlt),by simp⟩
     have HXX:=hHi hx
     obtain⟨b,o,hab,hok,e0,e1,e2,e3,e4,e5,e6,e7⟩:=HLE.out k x hx wr HF50.out
     subst hab
     have hltI:(k:Int)<n:=by omega
     have HOK:=hHi hok
     clear hx hok
     obtain⟨a51,ha51⟩:∃qW,wr.alloc (.cells #[.int .i64 x.kind,.string x.text,.int .u64 x.set.a,.int .u64 x.set.b,.int .u64 x.set.c,.int .u64 x.set.d,.string x.name,.string x.sep] 134)=qW:=⟨_,rfl⟩
     have HN51:=kB ha51
     have HXs:=kN ha51
     have HNEs:Hid (wr.heap.size≠B):=by have:=HW50.out.lt;show _≠_;omega
     have HW51:=hHi (HW50.out.below HN51.out)
     have HF51:=hHi (HF50.out.tr (FrW.bel HN51.out))
     have HXp_51:=kA HXp_50 HN51
     obtain⟨cs0_52,cs1_52,cs2_52,cs3_52,cs4_52,cs5_52,cs6_52,cs7_52⟩:=HXs.out.c8
     have HP53:=hU (wsym_any B st.1 st.2 x a51 HW51.out (HSY.out x (List.mem_of_getElem? HXX.out)) HOK.out (by have:=HL50.out;omega))
     go_wp2_with fail
     refine hMo HP53 ?_
     rintro e a53 ⟨rfl,hw,hf⟩
     obtain⟨s53,HS53,HL53,HW53,HN53,HF53⟩:=wnx HF51 (S:=putW st (txs (symK x))) hw hf (putW_bd HL50.out (symK_small (HSY.out x (List.mem_of_getElem? HXX.out))) (by decide))
     clear hw hf
     have HXp_53:=kF HN53 HXp_51 HNEp
     have HXs_53:=kF HN53 HXs HNEs
     clear e0 e1 e2 e3 e4 e5 e6 e7
     go_wp2
     go_roundw
     case rel=>exact⟨k+1,s53,by omega,by go_num,by rw[HE.out,txs_drop HXX.out,putW_app,HS53.out],HW53.out,HF53.out,HXp_53.out,HL53.out⟩
     case measure=>simp[intOf];omega
    obtain rfl:n=k:=by omega
    have HS99:Hid (putW s5 (txs (p.syms.flatMap symK))=st):=by
     show _=_
     rw[HE.out,List.drop_eq_nil_of_le (by rw[HNN.out];exact Nat.le_refl _)];rfl
    skip
    have cp3_61:=HXp_50.out.cell 3 rfl
    cases hbr:p.bracket with
    | false=>
     rw[hbr] at cp3_61
     have HBR:=hHi hbr
     clear hbr
     have HP62:=hU (end_any B st.1 st.2 wr HW50.out (by have:=HL50.out;omega))
     go_wp2_with fail
     refine hMo HP62 ?_
     rintro e a62 ⟨rfl,hw,hf⟩
     obtain⟨s62,HS62,HL62,HW62,HN62,HF62⟩:=wnx9 HF50 (S:=finW st) (n:=9000000) hw hf (Nat.le_trans (finW_len st) (by have h2:=HL50.out;omega))
     clear hw hf
     have HXp_62:=kF HN62 HXp_50 HNEp
     go_wp2
     go_end0
     have hfin:finW (putW (t,l) (txs (prodK p)))=s62:=by rw[prodK_go (s1:=s3) (s2:=s3) (s3:=s5) (s4:=st) (s5:=st) (by rw[HLX.out];exact HS3.out) (by rw[HEM.out];rfl) HS5.out HS99.out (by rw[HBR.out];rfl)];exact HS62.out
     show WP B w (finW (putW (t,l) (txs (prodK p)))) _ _
     rw[hfin]
     exact⟨rfl,HW62.out,HF62.out⟩
    | true=>
    rw[hbr] at cp3_61
    have HBR:=hHi hbr
    clear hbr
    have HP62:=hU (wput1 (⟨#[98,114,97,99,107,101,116]⟩) HW50.out (by have:=HL50.out;omega) (by decide))
    go_wp2_with fail
    refine hMo HP62 ?_
    rintro e a62 ⟨rfl,hw,hf⟩
    obtain⟨s62,HS62,HL62,HW62,HN62,HF62⟩:=wnx HF50 (S:=putW st [(⟨#[98,114,97,99,107,101,116]⟩:ByteArray).data.toList]) hw hf (putW_bd1 HL50.out (by rw[list_len];exact by decide) (by decide))
    clear hw hf
    have HXp_62:=kF HN62 HXp_50 HNEp
    have HP63:=hU (end_any B s62.1 s62.2 a62 HW62.out (by have:=HL62.out;omega))
    go_wp2_with fail
    refine hMo HP63 ?_
    rintro e a63 ⟨rfl,hw,hf⟩
    obtain⟨s63,HS63,HL63,HW63,HN63,HF63⟩:=wnx9 HF62 (S:=finW s62) (n:=9000000) hw hf (Nat.le_trans (finW_len s62) (by have h2:=HL62.out;omega))
    clear hw hf
    have HXp_63:=kF HN63 HXp_62 HNEp
    go_wp2
    go_end0
    have hfin:finW (putW (t,l) (txs (prodK p)))=s63:=by rw[prodK_go (s1:=s3) (s2:=s3) (s3:=s5) (s4:=st) (s5:=s62) (by rw[HLX.out];exact HS3.out) (by rw[HEM.out];rfl) HS5.out HS99.out (by rw[HBR.out];exact HS62.out)];exact HS63.out
    show WP B w (finW (putW (t,l) (txs (prodK p)))) _ _
    rw[hfin]
    exact⟨rfl,HW63.out,HF63.out⟩
  ·skip
   have HEM:=hHi he
   clear he
   go_enter Tryz.func68,Tryz.ntmps68
   have HP3:=hU (wput2 (⟨#[99,102]⟩) (p.sort) HW1.out (by have:=HL0.out;omega) (by decide) (by have:=HSM.out.1;omega))
   go_wp2_with fail
   refine hMo HP3 ?_
   rintro e a3 ⟨rfl,hw,hf⟩
   obtain⟨s3,HS3,HL3,HW3,HN3,HF3⟩:=wnx HF1 (S:=putW (t,l) [(⟨#[99,102]⟩:ByteArray).data.toList,(p.sort:ByteArray).data.toList]) hw hf (putW_bd2 HL0.out (by rw[list_len];exact by decide) (by rw[list_len];exact by have:=HSM.out.1;omega) (by decide))
   clear hw hf
   have HXp_3:=kF HN3 HXp HNEp
   obtain⟨cp0_4,cp1_4,cp2_4,cp3_4,cp4_4⟩:=HXp_3.out.c5
   have HP5:=hU (wput2 (⟨#[46]⟩) (p.cons) HW3.out (by have:=HL3.out;omega) (by decide) (by have:=HSM.out.2;omega))
   go_wp2_with fail
   refine hMo HP5 ?_
   rintro e a5 ⟨rfl,hw,hf⟩
   obtain⟨s5,HS5,HL5,HW5,HN5,HF5⟩:=wnx HF3 (S:=putW s3 [(⟨#[46]⟩:ByteArray).data.toList,(p.cons:ByteArray).data.toList]) hw hf (putW_bd2 HL3.out (by rw[list_len];exact by decide) (by rw[list_len];exact by have:=HSM.out.2;omega) (by decide))
   clear hw hf
   have HXp_5:=kF HN5 HXp_3 HNEp
   obtain⟨cp0_6,cp1_6,cp2_6,cp3_6,cp4_6⟩:=HXp_5.out.c5
   have HP7:=hU (wput1 (⟨#[61]⟩) HW5.out (by have:=HL5.out;omega) (by decide))
   go_wp2_with fail
   refine hMo HP7 ?_
   rintro e a7 ⟨rfl,hw,hf⟩
   obtain⟨s7,HS7,HL7,HW7,HN7,HF7⟩:=wnx HF5 (S:=putW s5 [(⟨#[61]⟩:ByteArray).data.toList]) hw hf (putW_bd1 HL5.out (by rw[list_len];exact by decide) (by decide))
   clear hw hf
   have HXp_7:=kF HN7 HXp_5 HNEp
   obtain⟨cp0_8,cp1_8,cp2_8,cp3_8,cp4_8⟩:=HXp_7.out.c5
   go_wp2
   go_loopw[32] (fun iv W=>∃(k:Nat) (st:List UInt8×List UInt8),k≤n∧iv=.int .i64 k∧putW s7 (txs (p.syms.flatMap symK))=putW st (txs ((p.syms.drop k).flatMap symK))∧Wr W B st.1 st.2∧FrW w W B∧Blk W w.heap.size 57 #[.bool false,.string p.sort,.string p.cons,.bool p.bracket,.slice a n c]∧st.1.length≤7000000) (fun iv _=>n-(intOf iv).toNat)
   case atStart=>exact⟨0,s7,Nat.zero_le _,rfl,rfl,HW7.out,HF7.out,HXp_7.out,HL7.out⟩
   case round=>
    obtain⟨k,st,hk,rfl,he,hwr,hfr,hbp,hlen⟩:=hrel
    have HE:Hid (putW s7 (txs (p.syms.flatMap symK))=putW st (txs ((p.syms.drop k).flatMap symK))):=he
    have HW50:Hid (Wr wr B st.1 st.2):=hwr
    have HF50:Hid (FrW w wr B):=hfr
    have HL50:Hid (st.1.length≤7000000):=hlen
    have HXp_50:Hid (Blk wr w.heap.size 57 #[.bool false,.string p.sort,.string p.cons,.bool p.bracket,.slice a n c]):=hbp
    clear he hwr hfr hbp hlen
    by_cases hlt:k<n
    case pos=>
     obtain⟨x,hx⟩:∃x,p.syms[k]?=some x:=⟨p.syms[k]'(by rw[HNN.out];exact hlt),by simp⟩
     have HXX:=hHi hx
     obtain⟨b,o,hab,hok,e0,e1,e2,e3,e4,e5,e6,e7⟩:=HLE.out k x hx wr HF50.out
     subst hab
     have hltI:(k:Int)<n:=by omega
     have HOK:=hHi hok
     clear hx hok
     obtain⟨a51,ha51⟩:∃qW,wr.alloc (.cells #[.int .i64 x.kind,.string x.text,.int .u64 x.set.a,.int .u64 x.set.b,.int .u64 x.set.c,.int .u64 x.set.d,.string x.name,.string x.sep] 134)=qW:=⟨_,rfl⟩
     have HN51:=kB ha51
     have HXs:=kN ha51
     have HNEs:Hid (wr.heap.size≠B):=by have:=HW50.out.lt;show _≠_;omega
     have HW51:=hHi (HW50.out.below HN51.out)
     have HF51:=hHi (HF50.out.tr (FrW.bel HN51.out))
     have HXp_51:=kA HXp_50 HN51
     obtain⟨cs0_52,cs1_52,cs2_52,cs3_52,cs4_52,cs5_52,cs6_52,cs7_52⟩:=HXs.out.c8
     have HP53:=hU (wsym_any B st.1 st.2 x a51 HW51.out (HSY.out x (List.mem_of_getElem? HXX.out)) HOK.out (by have:=HL50.out;omega))
     go_wp2_with fail
     refine hMo HP53 ?_
     rintro e a53 ⟨rfl,hw,hf⟩
     obtain⟨s53,HS53,HL53,HW53,HN53,HF53⟩:=wnx HF51 (S:=putW st (txs (symK x))) hw hf (putW_bd HL50.out (symK_small (HSY.out x (List.mem_of_getElem? HXX.out))) (by decide))
     clear hw hf
     have HXp_53:=kF HN53 HXp_51 HNEp
     have HXs_53:=kF HN53 HXs HNEs
     clear e0 e1 e2 e3 e4 e5 e6 e7
     go_wp2
     go_roundw
     case rel=>exact⟨k+1,s53,by omega,by go_num,by rw[HE.out,txs_drop HXX.out,putW_app,HS53.out],HW53.out,HF53.out,HXp_53.out,HL53.out⟩
     case measure=>simp[intOf];omega
    obtain rfl:n=k:=by omega
    have HS99:Hid (putW s7 (txs (p.syms.flatMap symK))=st):=by
     show _=_
     rw[HE.out,List.drop_eq_nil_of_le (by rw[HNN.out];exact Nat.le_refl _)];rfl
    skip
    have cp3_61:=HXp_50.out.cell 3 rfl
    cases hbr:p.bracket with
    | false=>
     rw[hbr] at cp3_61
     have HBR:=hHi hbr
     clear hbr
     have HP62:=hU (end_any B st.1 st.2 wr HW50.out (by have:=HL50.out;omega))
     go_wp2_with fail
     refine hMo HP62 ?_
     rintro e a62 ⟨rfl,hw,hf⟩
     obtain⟨s62,HS62,HL62,HW62,HN62,HF62⟩:=wnx9 HF50 (S:=finW st) (n:=9000000) hw hf (Nat.le_trans (finW_len st) (by have h2:=HL50.out;omega))
     clear hw hf
     have HXp_62:=kF HN62 HXp_50 HNEp
     go_wp2
     go_end0
     have hfin:finW (putW (t,l) (txs (prodK p)))=s62:=by rw[prodK_go (s1:=s3) (s2:=s5) (s3:=s7) (s4:=st) (s5:=st) (by rw[HLX.out];exact HS3.out) (by rw[HEM.out];exact HS5.out) HS7.out HS99.out (by rw[HBR.out];rfl)];exact HS62.out
     show WP B w (finW (putW (t,l) (txs (prodK p)))) _ _
     rw[hfin]
     exact⟨rfl,HW62.out,HF62.out⟩
    | true=>
    rw[hbr] at cp3_61
    have HBR:=hHi hbr
    clear hbr
    have HP62:=hU (wput1 (⟨#[98,114,97,99,107,101,116]⟩) HW50.out (by have:=HL50.out;omega) (by decide))
    go_wp2_with fail
    refine hMo HP62 ?_
    rintro e a62 ⟨rfl,hw,hf⟩
    obtain⟨s62,HS62,HL62,HW62,HN62,HF62⟩:=wnx HF50 (S:=putW st [(⟨#[98,114,97,99,107,101,116]⟩:ByteArray).data.toList]) hw hf (putW_bd1 HL50.out (by rw[list_len];exact by decide) (by decide))
    clear hw hf
    have HXp_62:=kF HN62 HXp_50 HNEp
    have HP63:=hU (end_any B s62.1 s62.2 a62 HW62.out (by have:=HL62.out;omega))
    go_wp2_with fail
    refine hMo HP63 ?_
    rintro e a63 ⟨rfl,hw,hf⟩
    obtain⟨s63,HS63,HL63,HW63,HN63,HF63⟩:=wnx9 HF62 (S:=finW s62) (n:=9000000) hw hf (Nat.le_trans (finW_len s62) (by have h2:=HL62.out;omega))
    clear hw hf
    have HXp_63:=kF HN63 HXp_62 HNEp
    go_wp2
    go_end0
    have hfin:finW (putW (t,l) (txs (prodK p)))=s63:=by rw[prodK_go (s1:=s3) (s2:=s5) (s3:=s7) (s4:=st) (s5:=s62) (by rw[HLX.out];exact HS3.out) (by rw[HEM.out];exact HS5.out) HS7.out HS99.out (by rw[HBR.out];exact HS62.out)];exact HS63.out
    show WP B w (finW (putW (t,l) (txs (prodK p)))) _ _
    rw[hfin]
    exact⟨rfl,HW63.out,HF63.out⟩
 | true=>
  have HLX:=hHi hlx
  clear hlx
  obtain⟨a1,ha1⟩:∃qW,w.alloc (.cells #[.bool true,.string p.sort,.string p.cons,.bool p.bracket,.slice a n c] 57)=qW:=⟨_,rfl⟩
  have HN1:=kB ha1
  have HXp:=kN ha1
  have HNEp:Hid (w.heap.size≠B):=by have:=HW0.out.lt;show _≠_;omega
  have HW1:=hHi (HW0.out.below HN1.out)
  have HF1:=hHi (HF0.out.tr (FrW.bel HN1.out))
  obtain⟨cp0_2,cp1_2,cp2_2,cp3_2,cp4_2⟩:=HXp.out.c5
  rcases hz with ⟨he,hi⟩ | ⟨he,hi⟩
  ·skip
   have HEM:=hHi he
   clear he
   go_enter Tryz.func68,Tryz.ntmps68
   have HP3:=hU (wput2 (⟨#[108,101,120]⟩) (p.sort) HW1.out (by have:=HL0.out;omega) (by decide) (by have:=HSM.out.1;omega))
   go_wp2_with fail
   refine hMo HP3 ?_
   rintro e a3 ⟨rfl,hw,hf⟩
   obtain⟨s3,HS3,HL3,HW3,HN3,HF3⟩:=wnx HF1 (S:=putW (t,l) [(⟨#[108,101,120]⟩:ByteArray).data.toList,(p.sort:ByteArray).data.toList]) hw hf (putW_bd2 HL0.out (by rw[list_len];exact by decide) (by rw[list_len];exact by have:=HSM.out.1;omega) (by decide))
   clear hw hf
   have HXp_3:=kF HN3 HXp HNEp
   obtain⟨cp0_4,cp1_4,cp2_4,cp3_4,cp4_4⟩:=HXp_3.out.c5
   have HP5:=hU (wput1 (⟨#[61]⟩) HW3.out (by have:=HL3.out;omega) (by decide))
   go_wp2_with fail
   refine hMo HP5 ?_
   rintro e a5 ⟨rfl,hw,hf⟩
   obtain⟨s5,HS5,HL5,HW5,HN5,HF5⟩:=wnx HF3 (S:=putW s3 [(⟨#[61]⟩:ByteArray).data.toList]) hw hf (putW_bd1 HL3.out (by rw[list_len];exact by decide) (by decide))
   clear hw hf
   have HXp_5:=kF HN5 HXp_3 HNEp
   obtain⟨cp0_6,cp1_6,cp2_6,cp3_6,cp4_6⟩:=HXp_5.out.c5
   go_wp2
   go_loopw[32] (fun iv W=>∃(k:Nat) (st:List UInt8×List UInt8),k≤n∧iv=.int .i64 k∧putW s5 (txs (p.syms.flatMap symK))=putW st (txs ((p.syms.drop k).flatMap symK))∧Wr W B st.1 st.2∧FrW w W B∧Blk W w.heap.size 57 #[.bool true,.string p.sort,.string p.cons,.bool p.bracket,.slice a n c]∧st.1.length≤7000000) (fun iv _=>n-(intOf iv).toNat)
   case atStart=>exact⟨0,s5,Nat.zero_le _,rfl,rfl,HW5.out,HF5.out,HXp_5.out,HL5.out⟩
   case round=>
    obtain⟨k,st,hk,rfl,he,hwr,hfr,hbp,hlen⟩:=hrel
    have HE:Hid (putW s5 (txs (p.syms.flatMap symK))=putW st (txs ((p.syms.drop k).flatMap symK))):=he
    have HW50:Hid (Wr wr B st.1 st.2):=hwr
    have HF50:Hid (FrW w wr B):=hfr
    have HL50:Hid (st.1.length≤7000000):=hlen
    have HXp_50:Hid (Blk wr w.heap.size 57 #[.bool true,.string p.sort,.string p.cons,.bool p.bracket,.slice a n c]):=hbp
    clear he hwr hfr hbp hlen
    by_cases hlt:k<n
    case pos=>
     obtain⟨x,hx⟩:∃x,p.syms[k]?=some x:=⟨p.syms[k]'(by rw[HNN.out];exact hlt),by simp⟩
     have HXX:=hHi hx
     obtain⟨b,o,hab,hok,e0,e1,e2,e3,e4,e5,e6,e7⟩:=HLE.out k x hx wr HF50.out
     subst hab
     have hltI:(k:Int)<n:=by omega
     have HOK:=hHi hok
     clear hx hok
     obtain⟨a51,ha51⟩:∃qW,wr.alloc (.cells #[.int .i64 x.kind,.string x.text,.int .u64 x.set.a,.int .u64 x.set.b,.int .u64 x.set.c,.int .u64 x.set.d,.string x.name,.string x.sep] 134)=qW:=⟨_,rfl⟩
     have HN51:=kB ha51
     have HXs:=kN ha51
     have HNEs:Hid (wr.heap.size≠B):=by have:=HW50.out.lt;show _≠_;omega
     have HW51:=hHi (HW50.out.below HN51.out)
     have HF51:=hHi (HF50.out.tr (FrW.bel HN51.out))
     have HXp_51:=kA HXp_50 HN51
     obtain⟨cs0_52,cs1_52,cs2_52,cs3_52,cs4_52,cs5_52,cs6_52,cs7_52⟩:=HXs.out.c8
     have HP53:=hU (wsym_any B st.1 st.2 x a51 HW51.out (HSY.out x (List.mem_of_getElem? HXX.out)) HOK.out (by have:=HL50.out;omega))
     go_wp2_with fail
     refine hMo HP53 ?_
     rintro e a53 ⟨rfl,hw,hf⟩
     obtain⟨s53,HS53,HL53,HW53,HN53,HF53⟩:=wnx HF51 (S:=putW st (txs (symK x))) hw hf (putW_bd HL50.out (symK_small (HSY.out x (List.mem_of_getElem? HXX.out))) (by decide))
     clear hw hf
     have HXp_53:=kF HN53 HXp_51 HNEp
     have HXs_53:=kF HN53 HXs HNEs
     clear e0 e1 e2 e3 e4 e5 e6 e7
     go_wp2
     go_roundw
     case rel=>exact⟨k+1,s53,by omega,by go_num,by rw[HE.out,txs_drop HXX.out,putW_app,HS53.out],HW53.out,HF53.out,HXp_53.out,HL53.out⟩
     case measure=>simp[intOf];omega
    obtain rfl:n=k:=by omega
    have HS99:Hid (putW s5 (txs (p.syms.flatMap symK))=st):=by
     show _=_
     rw[HE.out,List.drop_eq_nil_of_le (by rw[HNN.out];exact Nat.le_refl _)];rfl
    skip
    have cp3_61:=HXp_50.out.cell 3 rfl
    cases hbr:p.bracket with
    | false=>
     rw[hbr] at cp3_61
     have HBR:=hHi hbr
     clear hbr
     have HP62:=hU (end_any B st.1 st.2 wr HW50.out (by have:=HL50.out;omega))
     go_wp2_with fail
     refine hMo HP62 ?_
     rintro e a62 ⟨rfl,hw,hf⟩
     obtain⟨s62,HS62,HL62,HW62,HN62,HF62⟩:=wnx9 HF50 (S:=finW st) (n:=9000000) hw hf (Nat.le_trans (finW_len st) (by have h2:=HL50.out;omega))
     clear hw hf
     have HXp_62:=kF HN62 HXp_50 HNEp
     go_wp2
     go_end0
     have hfin:finW (putW (t,l) (txs (prodK p)))=s62:=by rw[prodK_go (s1:=s3) (s2:=s3) (s3:=s5) (s4:=st) (s5:=st) (by rw[HLX.out];exact HS3.out) (by rw[HEM.out];rfl) HS5.out HS99.out (by rw[HBR.out];rfl)];exact HS62.out
     show WP B w (finW (putW (t,l) (txs (prodK p)))) _ _
     rw[hfin]
     exact⟨rfl,HW62.out,HF62.out⟩
    | true=>
    rw[hbr] at cp3_61
    have HBR:=hHi hbr
    clear hbr
    have HP62:=hU (wput1 (⟨#[98,114,97,99,107,101,116]⟩) HW50.out (by have:=HL50.out;omega) (by decide))
    go_wp2_with fail
    refine hMo HP62 ?_
    rintro e a62 ⟨rfl,hw,hf⟩
    obtain⟨s62,HS62,HL62,HW62,HN62,HF62⟩:=wnx HF50 (S:=putW st [(⟨#[98,114,97,99,107,101,116]⟩:ByteArray).data.toList]) hw hf (putW_bd1 HL50.out (by rw[list_len];exact by decide) (by decide))
    clear hw hf
    have HXp_62:=kF HN62 HXp_50 HNEp
    have HP63:=hU (end_any B s62.1 s62.2 a62 HW62.out (by have:=HL62.out;omega))
    go_wp2_with fail
    refine hMo HP63 ?_
    rintro e a63 ⟨rfl,hw,hf⟩
    obtain⟨s63,HS63,HL63,HW63,HN63,HF63⟩:=wnx9 HF62 (S:=finW s62) (n:=9000000) hw hf (Nat.le_trans (finW_len s62) (by have h2:=HL62.out;omega))
    clear hw hf
    have HXp_63:=kF HN63 HXp_62 HNEp
    go_wp2
    go_end0
    have hfin:finW (putW (t,l) (txs (prodK p)))=s63:=by rw[prodK_go (s1:=s3) (s2:=s3) (s3:=s5) (s4:=st) (s5:=s62) (by rw[HLX.out];exact HS3.out) (by rw[HEM.out];rfl) HS5.out HS99.out (by rw[HBR.out];exact HS62.out)];exact HS63.out
    show WP B w (finW (putW (t,l) (txs (prodK p)))) _ _
    rw[hfin]
    exact⟨rfl,HW63.out,HF63.out⟩
  ·skip
   have HEM:=hHi he
   clear he
   go_enter Tryz.func68,Tryz.ntmps68
   have HP3:=hU (wput2 (⟨#[108,101,120]⟩) (p.sort) HW1.out (by have:=HL0.out;omega) (by decide) (by have:=HSM.out.1;omega))
   go_wp2_with fail
   refine hMo HP3 ?_
   rintro e a3 ⟨rfl,hw,hf⟩
   obtain⟨s3,HS3,HL3,HW3,HN3,HF3⟩:=wnx HF1 (S:=putW (t,l) [(⟨#[108,101,120]⟩:ByteArray).data.toList,(p.sort:ByteArray).data.toList]) hw hf (putW_bd2 HL0.out (by rw[list_len];exact by decide) (by rw[list_len];exact by have:=HSM.out.1;omega) (by decide))
   clear hw hf
   have HXp_3:=kF HN3 HXp HNEp
   obtain⟨cp0_4,cp1_4,cp2_4,cp3_4,cp4_4⟩:=HXp_3.out.c5
   have HP5:=hU (wput2 (⟨#[46]⟩) (p.cons) HW3.out (by have:=HL3.out;omega) (by decide) (by have:=HSM.out.2;omega))
   go_wp2_with fail
   refine hMo HP5 ?_
   rintro e a5 ⟨rfl,hw,hf⟩
   obtain⟨s5,HS5,HL5,HW5,HN5,HF5⟩:=wnx HF3 (S:=putW s3 [(⟨#[46]⟩:ByteArray).data.toList,(p.cons:ByteArray).data.toList]) hw hf (putW_bd2 HL3.out (by rw[list_len];exact by decide) (by rw[list_len];exact by have:=HSM.out.2;omega) (by decide))
   clear hw hf
   have HXp_5:=kF HN5 HXp_3 HNEp
   obtain⟨cp0_6,cp1_6,cp2_6,cp3_6,cp4_6⟩:=HXp_5.out.c5
   have HP7:=hU (wput1 (⟨#[61]⟩) HW5.out (by have:=HL5.out;omega) (by decide))
   go_wp2_with fail
   refine hMo HP7 ?_
   rintro e a7 ⟨rfl,hw,hf⟩
   obtain⟨s7,HS7,HL7,HW7,HN7,HF7⟩:=wnx HF5 (S:=putW s5 [(⟨#[61]⟩:ByteArray).data.toList]) hw hf (putW_bd1 HL5.out (by rw[list_len];exact by decide) (by decide))
   clear hw hf
   have HXp_7:=kF HN7 HXp_5 HNEp
   obtain⟨cp0_8,cp1_8,cp2_8,cp3_8,cp4_8⟩:=HXp_7.out.c5
   go_wp2
   go_loopw[32] (fun iv W=>∃(k:Nat) (st:List UInt8×List UInt8),k≤n∧iv=.int .i64 k∧putW s7 (txs (p.syms.flatMap symK))=putW st (txs ((p.syms.drop k).flatMap symK))∧Wr W B st.1 st.2∧FrW w W B∧Blk W w.heap.size 57 #[.bool true,.string p.sort,.string p.cons,.bool p.bracket,.slice a n c]∧st.1.length≤7000000) (fun iv _=>n-(intOf iv).toNat)
   case atStart=>exact⟨0,s7,Nat.zero_le _,rfl,rfl,HW7.out,HF7.out,HXp_7.out,HL7.out⟩
   case round=>
    obtain⟨k,st,hk,rfl,he,hwr,hfr,hbp,hlen⟩:=hrel
    have HE:Hid (putW s7 (txs (p.syms.flatMap symK))=putW st (txs ((p.syms.drop k).flatMap symK))):=he
    have HW50:Hid (Wr wr B st.1 st.2):=hwr
    have HF50:Hid (FrW w wr B):=hfr
    have HL50:Hid (st.1.length≤7000000):=hlen
    have HXp_50:Hid (Blk wr w.heap.size 57 #[.bool true,.string p.sort,.string p.cons,.bool p.bracket,.slice a n c]):=hbp
    clear he hwr hfr hbp hlen
    by_cases hlt:k<n
    case pos=>
     obtain⟨x,hx⟩:∃x,p.syms[k]?=some x:=⟨p.syms[k]'(by rw[HNN.out];exact hlt),by simp⟩
     have HXX:=hHi hx
     obtain⟨b,o,hab,hok,e0,e1,e2,e3,e4,e5,e6,e7⟩:=HLE.out k x hx wr HF50.out
     subst hab
     have hltI:(k:Int)<n:=by omega
     have HOK:=hHi hok
     clear hx hok
     obtain⟨a51,ha51⟩:∃qW,wr.alloc (.cells #[.int .i64 x.kind,.string x.text,.int .u64 x.set.a,.int .u64 x.set.b,.int .u64 x.set.c,.int .u64 x.set.d,.string x.name,.string x.sep] 134)=qW:=⟨_,rfl⟩
     have HN51:=kB ha51
     have HXs:=kN ha51
     have HNEs:Hid (wr.heap.size≠B):=by have:=HW50.out.lt;show _≠_;omega
     have HW51:=hHi (HW50.out.below HN51.out)
     have HF51:=hHi (HF50.out.tr (FrW.bel HN51.out))
     have HXp_51:=kA HXp_50 HN51
     obtain⟨cs0_52,cs1_52,cs2_52,cs3_52,cs4_52,cs5_52,cs6_52,cs7_52⟩:=HXs.out.c8
     have HP53:=hU (wsym_any B st.1 st.2 x a51 HW51.out (HSY.out x (List.mem_of_getElem? HXX.out)) HOK.out (by have:=HL50.out;omega))
     go_wp2_with fail
     refine hMo HP53 ?_
     rintro e a53 ⟨rfl,hw,hf⟩
     obtain⟨s53,HS53,HL53,HW53,HN53,HF53⟩:=wnx HF51 (S:=putW st (txs (symK x))) hw hf (putW_bd HL50.out (symK_small (HSY.out x (List.mem_of_getElem? HXX.out))) (by decide))
     clear hw hf
     have HXp_53:=kF HN53 HXp_51 HNEp
     have HXs_53:=kF HN53 HXs HNEs
     clear e0 e1 e2 e3 e4 e5 e6 e7
     go_wp2
     go_roundw
     case rel=>exact⟨k+1,s53,by omega,by go_num,by rw[HE.out,txs_drop HXX.out,putW_app,HS53.out],HW53.out,HF53.out,HXp_53.out,HL53.out⟩
     case measure=>simp[intOf];omega
    obtain rfl:n=k:=by omega
    have HS99:Hid (putW s7 (txs (p.syms.flatMap symK))=st):=by
     show _=_
     rw[HE.out,List.drop_eq_nil_of_le (by rw[HNN.out];exact Nat.le_refl _)];rfl
    skip
    have cp3_61:=HXp_50.out.cell 3 rfl
    cases hbr:p.bracket with
    | false=>
     rw[hbr] at cp3_61
     have HBR:=hHi hbr
     clear hbr
     have HP62:=hU (end_any B st.1 st.2 wr HW50.out (by have:=HL50.out;omega))
     go_wp2_with fail
     refine hMo HP62 ?_
     rintro e a62 ⟨rfl,hw,hf⟩
     obtain⟨s62,HS62,HL62,HW62,HN62,HF62⟩:=wnx9 HF50 (S:=finW st) (n:=9000000) hw hf (Nat.le_trans (finW_len st) (by have h2:=HL50.out;omega))
     clear hw hf
     have HXp_62:=kF HN62 HXp_50 HNEp
     go_wp2
     go_end0
     have hfin:finW (putW (t,l) (txs (prodK p)))=s62:=by rw[prodK_go (s1:=s3) (s2:=s5) (s3:=s7) (s4:=st) (s5:=st) (by rw[HLX.out];exact HS3.out) (by rw[HEM.out];exact HS5.out) HS7.out HS99.out (by rw[HBR.out];rfl)];exact HS62.out
     show WP B w (finW (putW (t,l) (txs (prodK p)))) _ _
     rw[hfin]
     exact⟨rfl,HW62.out,HF62.out⟩
    | true=>
    rw[hbr] at cp3_61
    have HBR:=hHi hbr
    clear hbr
    have HP62:=hU (wput1 (⟨#[98,114,97,99,107,101,116]⟩) HW50.out (by have:=HL50.out;omega) (by decide))
    go_wp2_with fail
    refine hMo HP62 ?_
    rintro e a62 ⟨rfl,hw,hf⟩
    obtain⟨s62,HS62,HL62,HW62,HN62,HF62⟩:=wnx HF50 (S:=putW st [(⟨#[98,114,97,99,107,101,116]⟩:ByteArray).data.toList]) hw hf (putW_bd1 HL50.out (by rw[list_len];exact by decide) (by decide))
    clear hw hf
    have HXp_62:=kF HN62 HXp_50 HNEp
    have HP63:=hU (end_any B s62.1 s62.2 a62 HW62.out (by have:=HL62.out;omega))
    go_wp2_with fail
    refine hMo HP63 ?_
    rintro e a63 ⟨rfl,hw,hf⟩
    obtain⟨s63,HS63,HL63,HW63,HN63,HF63⟩:=wnx9 HF62 (S:=finW s62) (n:=9000000) hw hf (Nat.le_trans (finW_len s62) (by have h2:=HL62.out;omega))
    clear hw hf
    have HXp_63:=kF HN63 HXp_62 HNEp
    go_wp2
    go_end0
    have hfin:finW (putW (t,l) (txs (prodK p)))=s63:=by rw[prodK_go (s1:=s3) (s2:=s5) (s3:=s7) (s4:=st) (s5:=s62) (by rw[HLX.out];exact HS3.out) (by rw[HEM.out];exact HS5.out) HS7.out HS99.out (by rw[HBR.out];exact HS62.out)];exact HS63.out
    show WP B w (finW (putW (t,l) (txs (prodK p)))) _ _
    rw[hfin]
    exact⟨rfl,HW63.out,HF63.out⟩
end Go.Proofs.YtcpakcffiopfjaaGreatDoor
