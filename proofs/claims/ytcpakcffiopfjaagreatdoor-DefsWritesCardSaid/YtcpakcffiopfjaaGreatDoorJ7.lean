/- The document's own text of a chain. -/
import Derived.Test.YtcpakcffiopfjaaGreatDoorJ4
namespace Go.Proofs.YtcpakcffiopfjaaGreatDoor
open Go.RowKit
set_option linter.unusedVariables false
set_option linter.unusedSimpArgs false
set_option maxRecDepth 100000
set_option maxHeartbeats 16000000
set_option linter.unusedVariables false
set_option linter.unusedSimpArgs false
set_option maxRecDepth 100000
set_option maxHeartbeats 16000000
def rasT (a:Int):List UInt8:=if a=1 then [32,108,101,102,116] else if a=2 then [32,114,105,103,104,116] else if a=3 then [32,110,111,110] else []
def rnsT (l:List ByteArray):List UInt8:=l.flatMap fun s=>32::s.data.toList
def rgrpT (g:Gr):List UInt8:=rasT g.assoc++rnsT g.cons
def rchS:Bool→List Gr→List UInt8
 | _,[]=>[]
 | b,g::l=>(if b then [] else [32,62])++(rgrpT g++rchS false l)
def rchainT (c:List Gr):List UInt8:=[112,114,105,111]++rchS true c
theorem rasT_le (a:Int):(rasT a).length≤6:=by unfold rasT;split<;>(try split)<;>(try split)<;>simp
theorem rnsT_le:∀{l:List ByteArray},(∀s∈l,nm s=true)→(rnsT l).length≤33*l.length
 | [],_=>by simp[rnsT]
 | s::l,h=>by
  have i:=rnsT_le (l:=l) (fun x hx=>h x (List.mem_cons_of_mem _ hx))
  have q:=nm_size (h s (by simp))
  unfold rnsT at i ⊢
  rw[List.flatMap_cons,List.length_append,List.length_cons,List.length_cons,list_len]
  omega
theorem rgrpT_le {g:Gr} (h:groupB g=true):(rgrpT g).length≤600:=by
 unfold groupB btw at h
 simp only[Bool.and_eq_true,List.all_eq_true,decide_eq_true_eq] at h
 have i:=rnsT_le h.2
 have j:=rasT_le g.assoc
 unfold rgrpT
 rw[List.length_append]
 omega
theorem rchS_le:∀(l:List Gr) (b:Bool),(∀g∈l,groupB g=true)→(rchS b l).length≤602*l.length
 | [],_,_=>by simp[rchS]
 | g::l,b,h=>by
  have i:=rchS_le l false (fun x hx=>h x (List.mem_cons_of_mem _ hx))
  have q:=rgrpT_le (h g (by simp))
  rw[rchS,List.length_append,List.length_append,List.length_cons]
  have:(if b=true then ([]:List UInt8) else [32,62]).length≤2:=by split<;>simp
  omega
theorem rchainT_le {c:List Gr} (h:chainB c=true):(rchainT c).length≤10000:=by
 unfold chainB btw at h
 simp only[Bool.and_eq_true,List.all_eq_true,decide_eq_true_eq] at h
 have i:=rchS_le c true h.2
 unfold rchainT
 rw[List.length_append]
 simp only[List.length_cons,List.length_nil]
 omega
theorem rch_step {c:List Gr} {k:Nat} {g:Gr} (h:c[k]?=some g):rchS (decide (k=0)) (c.drop k)=(if k=0 then [] else [32,62])++(rasT g.assoc++(rnsT g.cons++rchS (decide (k+1=0)) (c.drop (k+1)))):=by
 have e:=List.getElem?_eq_some_iff.1 h
 rw[List.drop_eq_getElem_cons e.1,e.2,rchS,decide_eq_false (show ¬k+1=0 by omega)]
 unfold rgrpT
 by_cases hk:k=0
 ·rw[if_pos hk,decide_eq_true hk,if_pos rfl,List.append_assoc]
 ·rw[if_neg hk,decide_eq_false hk,if_neg (by decide),List.append_assoc]
theorem rns_step {l:List ByteArray} {j:Nat} {s:ByteArray} (h:l[j]?=some s):rnsT (l.drop j)=32::(s.data.toList++rnsT (l.drop (j+1))):=by
 have e:=List.getElem?_eq_some_iff.1 h
 unfold rnsT
 rw[List.drop_eq_getElem_cons e.1,e.2,List.flatMap_cons]
 rfl
theorem rchain_text (c:List Gr) (v:Value) (w:World) (hc:chainB c=true) (h:Sl w w.heap.size 2 (GrV w w.heap.size) c v):Calls Tryz.prog 74 #[v] w fun e w'=>e=.returned (.string (strB (rchainT c)))∧w'=w:=by
 have HL:Hid ((rchainT c).length≤10000):=rchainT_le hc
 have HD:Hid (rchainT c=[112,114,105,111]++rchS true c):=rfl
 obtain⟨a,cc,rfl,hcc,hln,hr⟩:=h
 have HR:=hHi hr
 obtain⟨n,hn⟩:∃n,c.length=n:=⟨_,rfl⟩
 have HNN:=hHi hn
 rw[hn] at hcc hln ⊢
 clear hr hn hc
 generalize rchainT c=R at *
 have HLR:Hid (∀{D E:List UInt8},D++E=R→D.length≤10000):=fun {D E} h=>by have q:=HL.out;rw[←h,List.length_append] at q;omega
 go_enter Tryz.func74,Tryz.ntmps74
 go_wp2
 go_loopw[3,4,5] (fun sv iv jv W=>∃(k:Nat) (B:List UInt8),k≤n∧iv=.int .i64 k∧sv=.string (strB B)∧B++rchS (decide (k=0)) (c.drop k)=R∧W=w) (fun _ iv _ _=>n-(intOf iv).toNat)
 case atStart=>exact⟨0,[112,114,105,111],Nat.zero_le _,rfl,rfl,HD.out.symm,rfl⟩
 case round=>
  obtain⟨k,B,hk,rfl,rfl,hB,rfl⟩:=hrel
  have HB:=hHi hB
  clear hB
  by_cases hlt:k<n
  case neg=>
   obtain rfl:k=n:=by omega
   have HE:Hid (B=R):=by
    have q:=HB.out
    rw[List.drop_of_length_le (by rw[HNN.out];exact Nat.le_refl _)] at q
    cases decide (k=0)<;>(rw[rchS,List.append_nil] at q;exact q)
   go_wp2
   go_ret
   exact⟨by rw[HE.out];rfl,rfl⟩
  obtain⟨g,hg⟩:∃g,c[k]?=some g:=⟨c[k]'(by rw[HNN.out];exact hlt),by simp⟩
  obtain⟨b,o,us,hab,hblt,⟨v2,rfl,a2,c2,rfl,hc2,hl2,hr2⟩,hc⟩:=HR.out k g hg
  subst hab
  have e0:wr.cell? ⟨b,o+k*2,none⟩=some (.int .i64 g.assoc):=hc 0 _ rfl
  have e1:=hc 1 _ rfl
  have hltI:(k:Int)<n:=by omega
  have HST:=hHi (rch_step hg)
  have HR2:=hHi hr2
  obtain⟨m,hm⟩:∃m,g.cons.length=m:=⟨_,rfl⟩
  have HMM:=hHi hm
  rw[hm] at e1 hc2 hl2
  have HLS:Hid (∀j y,g.cons[j]?=some y→∃b o,a2=some ⟨b,o,none⟩∧wr.cell? ⟨b,o+j,none⟩=some (.string y)):=fun j y hy=>by
   obtain⟨b,o,us,hab,hblt,rfl,hc⟩:=HR2.out j y hy
   exact⟨b,o,hab,by simpa using hc 0 _ rfl⟩
  clear hg hc hr2 hm
  obtain⟨Z,hZ⟩:∃q,rchS (decide (k+1=0)) (c.drop (k+1))=q:=⟨_,rfl⟩
  have HZZ:=hHi hZ
  rw[hZ] at HST
  clear hZ
  generalize g.assoc=ay at *
  have HB1:Hid (B++((if k=0 then [] else [32,62])++(rasT ay++(rnsT g.cons++Z)))=R):=by have q:=HB.out;rw[HST.out] at q;exact q
  clear HB HST
  by_cases hk0:k=0
  have HC:Hid (B++(rasT ay++(rnsT g.cons++Z))=R):=by have q:=HB1.out;rw[if_pos hk0,List.nil_append] at q;exact q
  have hkI:¬(k:Int)>0:=by omega
  clear HB1 hk0
  rcases (by omega:ay=1∨ay=2∨ay=3∨(ay≠1∧ay≠2∧ay≠3)) with ha1 | ha1 | ha1 | ha1
  have HA:=hHi ha1
  obtain⟨E,hE⟩:∃q,B++[32,108,101,102,116]=q:=⟨_,rfl⟩
  have HE:Hid (E++(rnsT g.cons++Z)=R):=by
   have q:=HC.out
   rw[show rasT ay=[32,108,101,102,116] from by rw[HA.out];rfl,←List.append_assoc,hE] at q
   exact q
  have ct1:∀W,(Op.stringOp .add (strB B) ⟨#[32,108,101,102,116]⟩).run Tryz.prog W=.ok (.string (strB E)) W:=fun W=>str_add (b:=[32,108,101,102,116]) (by have:=HLR.out HC.out;simp;omega) hE W
  have hq1:(ay==1)=true:=by rw[ha1];rfl
  clear hE ha1 HC
  focus
   go_wp2
  rotate_left
  have HA:=hHi ha1
  obtain⟨E,hE⟩:∃q,B++[32,114,105,103,104,116]=q:=⟨_,rfl⟩
  have HE:Hid (E++(rnsT g.cons++Z)=R):=by
   have q:=HC.out
   rw[show rasT ay=[32,114,105,103,104,116] from by rw[HA.out];rfl,←List.append_assoc,hE] at q
   exact q
  have ct1:∀W,(Op.stringOp .add (strB B) ⟨#[32,114,105,103,104,116]⟩).run Tryz.prog W=.ok (.string (strB E)) W:=fun W=>str_add (b:=[32,114,105,103,104,116]) (by have:=HLR.out HC.out;simp;omega) hE W
  have hq1:(ay==1)=false:=by rw[ha1];rfl
  have hq2:(ay==2)=true:=by rw[ha1];rfl
  clear hE ha1 HC
  focus
   go_wp2
  rotate_left
  have HA:=hHi ha1
  obtain⟨E,hE⟩:∃q,B++[32,110,111,110]=q:=⟨_,rfl⟩
  have HE:Hid (E++(rnsT g.cons++Z)=R):=by
   have q:=HC.out
   rw[show rasT ay=[32,110,111,110] from by rw[HA.out];rfl,←List.append_assoc,hE] at q
   exact q
  have ct1:∀W,(Op.stringOp .add (strB B) ⟨#[32,110,111,110]⟩).run Tryz.prog W=.ok (.string (strB E)) W:=fun W=>str_add (b:=[32,110,111,110]) (by have:=HLR.out HC.out;simp;omega) hE W
  have hq1:(ay==1)=false:=by rw[ha1];rfl
  have hq2:(ay==2)=false:=by rw[ha1];rfl
  have hq3:(ay==3)=true:=by rw[ha1];rfl
  clear hE ha1 HC
  focus
   go_wp2
  rotate_left
  have HA:=hHi ha1
  have HE:Hid (B++(rnsT g.cons++Z)=R):=by
   have q:=HC.out
   rw[show rasT ay=[] from by unfold rasT;rw[if_neg HA.out.1,if_neg HA.out.2.1,if_neg HA.out.2.2],List.nil_append] at q
   exact q
  have hq1:(ay==1)=false:=by simpa using ha1.1
  have hq2:(ay==2)=false:=by simpa using ha1.2.1
  have hq3:(ay==3)=false:=by simpa using ha1.2.2
  clear ha1 HC
  focus
   go_wp2
  rotate_left
  have hkI:(k:Int)>0:=by omega
  obtain⟨C,hC⟩:∃q,B++[32,62]=q:=⟨_,rfl⟩
  have HC:Hid (C++(rasT ay++(rnsT g.cons++Z))=R):=by have q:=HB1.out;rw[if_neg hk0,←List.append_assoc,hC] at q;exact q
  have ct0:∀W,(Op.stringOp .add (strB B) ⟨#[32,62]⟩).run Tryz.prog W=.ok (.string (strB C)) W:=fun W=>str_add (b:=[32,62]) (by have:=HLR.out HB1.out;simp;omega) hC W
  clear HB1 hk0 hC
  rcases (by omega:ay=1∨ay=2∨ay=3∨(ay≠1∧ay≠2∧ay≠3)) with ha1 | ha1 | ha1 | ha1
  have HA:=hHi ha1
  obtain⟨E,hE⟩:∃q,C++[32,108,101,102,116]=q:=⟨_,rfl⟩
  have HE:Hid (E++(rnsT g.cons++Z)=R):=by
   have q:=HC.out
   rw[show rasT ay=[32,108,101,102,116] from by rw[HA.out];rfl,←List.append_assoc,hE] at q
   exact q
  have ct1:∀W,(Op.stringOp .add (strB C) ⟨#[32,108,101,102,116]⟩).run Tryz.prog W=.ok (.string (strB E)) W:=fun W=>str_add (b:=[32,108,101,102,116]) (by have:=HLR.out HC.out;simp;omega) hE W
  have hq1:(ay==1)=true:=by rw[ha1];rfl
  clear hE ha1 HC
  focus
   go_wp2
  rotate_left
  have HA:=hHi ha1
  obtain⟨E,hE⟩:∃q,C++[32,114,105,103,104,116]=q:=⟨_,rfl⟩
  have HE:Hid (E++(rnsT g.cons++Z)=R):=by
   have q:=HC.out
   rw[show rasT ay=[32,114,105,103,104,116] from by rw[HA.out];rfl,←List.append_assoc,hE] at q
   exact q
  have ct1:∀W,(Op.stringOp .add (strB C) ⟨#[32,114,105,103,104,116]⟩).run Tryz.prog W=.ok (.string (strB E)) W:=fun W=>str_add (b:=[32,114,105,103,104,116]) (by have:=HLR.out HC.out;simp;omega) hE W
  have hq1:(ay==1)=false:=by rw[ha1];rfl
  have hq2:(ay==2)=true:=by rw[ha1];rfl
  clear hE ha1 HC
  focus
   go_wp2
  rotate_left
  have HA:=hHi ha1
  obtain⟨E,hE⟩:∃q,C++[32,110,111,110]=q:=⟨_,rfl⟩
  have HE:Hid (E++(rnsT g.cons++Z)=R):=by
   have q:=HC.out
   rw[show rasT ay=[32,110,111,110] from by rw[HA.out];rfl,←List.append_assoc,hE] at q
   exact q
  have ct1:∀W,(Op.stringOp .add (strB C) ⟨#[32,110,111,110]⟩).run Tryz.prog W=.ok (.string (strB E)) W:=fun W=>str_add (b:=[32,110,111,110]) (by have:=HLR.out HC.out;simp;omega) hE W
  have hq1:(ay==1)=false:=by rw[ha1];rfl
  have hq2:(ay==2)=false:=by rw[ha1];rfl
  have hq3:(ay==3)=true:=by rw[ha1];rfl
  clear hE ha1 HC
  focus
   go_wp2
  rotate_left
  have HA:=hHi ha1
  have HE:Hid (C++(rnsT g.cons++Z)=R):=by
   have q:=HC.out
   rw[show rasT ay=[] from by unfold rasT;rw[if_neg HA.out.1,if_neg HA.out.2.1,if_neg HA.out.2.2],List.nil_append] at q
   exact q
  have hq1:(ay==1)=false:=by simpa using ha1.1
  have hq2:(ay==2)=false:=by simpa using ha1.2.1
  have hq3:(ay==3)=false:=by simpa using ha1.2.2
  clear ha1 HC
  focus
   go_wp2
  rotate_left
  all_goals
   go_loop [3,5] (fun sv jv=>∃(j:Nat) (D:List UInt8),j≤m∧jv=.int .i64 j∧sv=.string (strB D)∧D++(rnsT (g.cons.drop j)++Z)=R) (fun _ jv=>m-(intOf jv).toNat)
   case atStart=>exact⟨0,_,Nat.zero_le _,rfl,rfl,HE.out⟩
   case round=>
    obtain⟨j,D,hj,rfl,rfl,hjj⟩:=hrel
    have HJ:=hHi hjj
    clear hjj
    by_cases hlj:j<m
    case neg=>
     obtain rfl:j=m:=by omega
     have HJ2:Hid (D++Z=R):=by
      have q:=HJ.out
      rw[List.drop_of_length_le (by rw[HMM.out];exact Nat.le_refl _)] at q
      exact q
     go_wp2
     go_roundw
     case rel=>exact⟨k+1,D,by omega,by go_num,rfl,by rw[HZZ.out];exact HJ2.out,by first | rfl | trivial⟩
     case measure=>simp[intOf];omega
    obtain⟨y,hy⟩:∃y,g.cons[j]?=some y:=⟨g.cons[j]'(by rw[HMM.out];exact hlj),by simp⟩
    obtain⟨b2,o2,hab2,f0⟩:=HLS.out j y hy
    subst hab2
    have hljI:(j:Int)<m:=by omega
    have HY:Hid _:=rns_step hy
    obtain⟨y',hy'⟩:∃q,y.data.toList=q:=⟨_,rfl⟩
    have hyy:y=strB y':=by rw[←hy',strB_self]
    obtain⟨F,hF⟩:∃q,D++[32]=q:=⟨_,rfl⟩
    obtain⟨G,hG⟩:∃q,F++y'=q:=⟨_,rfl⟩
    have HG:Hid (G++(rnsT (g.cons.drop (j+1))++Z)=R):=by
     have q:=HJ.out
     rw[HY.out,hy'] at q
     show _=_
     rw[←hG,←hF,←q]
     simp
    have ct2:∀W,(Op.stringOp .add (strB D) ⟨#[32]⟩).run Tryz.prog W=.ok (.string (strB F)) W:=fun W=>str_add (b:=[32]) (by have:=HLR.out HJ.out;simp;omega) hF W
    have ct3:∀W,(Op.stringOp .add (strB F) (strB y')).run Tryz.prog W=.ok (.string (strB G)) W:=fun W=>str_add (by have q:=HLR.out HG.out;rw[←hG,List.length_append] at q;omega) hG W
    subst hyy
    clear hy HY hy' hF hG
    go_wp2
    go_round
    case rel=>exact⟨j+1,G,by omega,by go_num,rfl,HG.out⟩
    case measure=>simp[intOf];omega
end Go.Proofs.YtcpakcffiopfjaaGreatDoor
