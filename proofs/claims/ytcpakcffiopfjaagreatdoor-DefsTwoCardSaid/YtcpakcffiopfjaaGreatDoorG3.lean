/- Join, at the words of a text. A text says the same put together with single blanks; plain. Only the words of a text count: the law's walk. -/
import Derived.Test.YtcpakcffiopfjaaGreatDoorA6
import Derived.Test.YtcpakcffiopfjaaGreatDoorC1
import Derived.Test.YtcpakcffiopfjaaGreatDoorA7
import Derived.Test.YtcpakcffiopfjaaGreatDoorA4
import Derived.Test.YtcpakcffiopfjaaGreatDoorA0
import Derived.Test.YtcpakcffiopfjaaGreatDoorE1
import Derived.Test.YtcpakcffiopfjaaGreatDoorG2
import Derived.Test.YtcpakcffiopfjaaGreatDoorA1
namespace Go.Proofs.YtcpakcffiopfjaaGreatDoor
open Go.RowKit
set_option linter.unusedVariables false
set_option linter.unusedSimpArgs false
set_option maxRecDepth 100000
set_option maxHeartbeats 16000000
theorem wcells_get:∀(L:List (Wd×Value)) (i j:Nat) (q:Wd×Value),L[i]?=some q→j<11→(wcells L)[i*11+j]?=(wcell q.1 q.2)[j]?
 | [],i,j,q,h,hj=>by simp at h
 | a::L,0,j,q,h,hj=>by
  simp at h;subst h
  have e:wcells (a::L)=wcell a.1 a.2++wcells L:=by simp[wcells]
  rw[e,Nat.zero_mul,Nat.zero_add,List.getElem?_append_left (by simpa [wcell] using hj)]
 | a::L,i+1,j,q,h,hj=>by
  have h':L[i]?=some q:=by simpa using h
  have e:wcells (a::L)=wcell a.1 a.2++wcells L:=by simp[wcells]
  have hl:(wcell a.1 a.2).length=11:=rfl
  rw[e,List.getElem?_append_right (by rw[hl];omega),hl,show (i+1)*11+j-11=i*11+j by omega]
  exact wcells_get L i j q h' hj
theorem Words.cell {W:World} {base:Nat} {lv:Value} {L:List (Wd×Value)} (h:Words W base lv L) {i:Nat} {q:Wd×Value} (hq:L[i]?=some q) :
  ∃g cap,lv=.slice (some ⟨g,0,none⟩) L.length cap∧g<W.heap.size∧∀j,j<11→W.cell? ⟨g,i*11+j,none⟩=(wcell q.1 q.2)[j]?:=by
 have hi:i<L.length:=(List.getElem?_eq_some_iff.1 hq).1
 rcases h.row.2 with ⟨_,h0⟩ | ⟨g,cap,cur,hv,_⟩
 ·omega
 ·subst hv
  refine⟨g,cap,rfl,(h.row.lt g rfl).2,fun j hj=>?_⟩
  rw[h.row.cellAt (i*11+j) (by omega),wcells_get L i j q hq hj]
theorem BL.lt {B b:Nat} {l:List UInt8} {w:World} (h:BL B b l w):b<w.heap.size:=by
 rcases h with ⟨_,v,hbk,_⟩ | ⟨_,v,hbk,_⟩<;>exact heap_lt hbk
theorem rdr_stmts:∀(f:Nat) (d:Df),Rdr (stmtsR f d)
 | 0,d=>Rdr.congr (f:=fun _=>PR.bad 0 0) (fun _=>rfl) (Rdr.bad (fun _=>0) 0)
 | f+1,d=>by
  have h:Rdr (fun L=>if kdP 7 (cw (wd L))=true then PR.ok d L else (stmtR d L).bind fun d L=>(wantR [59] L).bind fun _ L=>stmtsR f d L):=
   Rdr.ite (kdP 7) (Rdr.ok d) (Rdr.bind (rdr_stmt d) (fun d1=>Rdr.bind (rdr_want (by simp)) (fun _=>rdr_stmts f d1)))
  refine Rdr.congr (fun L=>?_) h
  rw[stmtsR]
  by_cases hk:(wd L).kind=7
  ·rw[if_pos hk,if_pos ((kd_iff _ _).2 hk)]
  ·rw[if_neg hk,if_neg (fun e=>hk ((kd_iff _ _).1 e))]
end Go.Proofs.YtcpakcffiopfjaaGreatDoor
