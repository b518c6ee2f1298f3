/- The document's Print, for every definition of few lists. -/
import Derived.Test.YtcpakcffiopfjaaGreatDoorJa
import Derived.Test.YtcpakcffiopfjaaGreatDoorH4
namespace Go.Proofs.YtcpakcffiopfjaaGreatDoor
open Go.RowKit
set_option linter.unusedVariables false
set_option linter.unusedSimpArgs false
set_option maxRecDepth 100000
set_option maxHeartbeats 16000000
set_option linter.unusedVariables false
set_option linter.unusedSimpArgs false
set_option maxRecDepth 100000
set_option maxHeartbeats 40000000
def jlnT (l:List (List UInt8)):List UInt8:=l.flatMap fun l=>l++[59,10]
theorem join_step {l:List (List UInt8)} {k:Nat} {x:List UInt8} (h:l[k]?=some x):jlnT (l.take (k+1))=(jlnT (l.take k)++x)++[59,10]:=by
 have e:=List.getElem?_eq_some_iff.1 h
 unfold jlnT
 rw[List.take_succ_eq_append_getElem e.1,e.2,List.flatMap_append,List.flatMap_singleton,List.append_assoc]
theorem join_le (l:List (List UInt8)) (k:Nat):(jlnT (l.take k)).length≤(jlnT l).length:=by
 have e:jlnT l=jlnT (l.take k)++jlnT (l.drop k):=by unfold jlnT;rw[←List.flatMap_append,List.take_append_drop]
 rw[e,List.length_append]
 omega
theorem rsta_n (k:List UInt8) (s:ByteArray):(rstaT k s).length≤1:=by unfold rstaT;split<;>simp
theorem rlines_n {d:Df} (h:RightD d) (hf:Few d):(rlinesT d).length≤1000000:=by
 have a:=rsta_n [115,116,97,114,116,32] d.start
 have b:=rsta_n [108,97,121,111,117,116,32] d.layout
 have c:=h.n
 have h1:=hf.c
 have h2:=hf.f
 have h3:=hf.r
 have h4:=hf.b
 unfold rlinesT
 simp only[List.length_append,List.length_map]
 omega
theorem rprint_d (d:Df) (vs:List Value) (w:World) (hd:DA w d vs) (hf:Few d):
  Calls Tryz.prog 14 #[.agg ⟨vs⟩] w fun e w'=>e=.returned (.tuple #[.string (strB (prtD d).1),.int .i64 ((prtD d).2:Int)])∧Below w.heap.size w w':=by
 obtain⟨f,v2,v3,v4,v5,v6,rfl,h2,h3,h4,h5,h6⟩:=hd.at'
 obtain⟨a2,p2,rfl,_⟩:=h2
 obtain⟨a3,p3,rfl,_⟩:=h3
 obtain⟨a4,p4,rfl,_⟩:=h4
 obtain⟨a5,p5,rfl,_⟩:=h5
 obtain⟨a6,p6,rfl,_⟩:=h6
 have HR:Hid (∀W,Below w.heap.size w W→Calls Tryz.prog 17 #[.agg #[.string d.start,.string d.layout,.slice a2 d.prods.length p2,.slice a3 d.chains.length p3,.slice a4 d.follows.length p4,.slice a5 d.rejects.length p5,.slice a6 d.boxes.length p6]] W fun e w'=>e=.returned (.bool (rightB d))∧Below W.heap.size W w'):=fun W hb=>rright_da (hd.nx hb)
 have HLN:Hid (RightD d→∀W,Below w.heap.size w W→Calls Tryz.prog 27 #[.agg #[.string d.start,.string d.layout,.slice a2 d.prods.length p2,.slice a3 d.chains.length p3,.slice a4 d.follows.length p4,.slice a5 d.rejects.length p5,.slice a6 d.boxes.length p6]] W fun e w'=>∃va vc,e=.returned (.slice va (rlinesT d).length vc)∧w'.ownsRow (W.heap.size+1) 9 1 (.slice va (rlinesT d).length vc) (rlinesT d).length (lcells (rlinesT d))∧Below W.heap.size W w'):=fun h W hb=>rlines_any d _ W (hd.nx hb) h hf
 obtain⟨n2,hn2⟩:∃N,d.prods.length=N:=⟨_,rfl⟩
 obtain⟨n3,hn3⟩:∃N,d.chains.length=N:=⟨_,rfl⟩
 obtain⟨n4,hn4⟩:∃N,d.follows.length=N:=⟨_,rfl⟩
 obtain⟨n5,hn5⟩:∃N,d.rejects.length=N:=⟨_,rfl⟩
 obtain⟨n6,hn6⟩:∃N,d.boxes.length=N:=⟨_,rfl⟩
 rw[hn2,hn3,hn4,hn5,hn6] at HR HLN ⊢
 have HFW:=hHi hf
 clear hd hf hn2 hn3 hn4 hn5 hn6
 obtain⟨w1,hw1⟩:∃qW,w.alloc (.cells #[.string d.start,.string d.layout,.slice a2 n2 p2,.slice a3 n3 p3,.slice a4 n4 p4,.slice a5 n5 p5,.slice a6 n6 p6] 28)=qW:=⟨_,rfl⟩
 have HB1:=kB hw1
 have HX1:=kN hw1
 obtain⟨d0,d1,d2,d3,d4,d5,d6⟩:=HX1.out.c7
 show Calls Tryz.prog 14 #[.agg #[.string d.start,.string d.layout,.slice a2 n2 p2,.slice a3 n3 p3,.slice a4 n4 p4,.slice a5 n5 p5,.slice a6 n6 p6]] w _
 go_enter Tryz.func14,Tryz.ntmps14
 go_wp2_with fail
 refine (HR.out w1 HB1.out).mono ?_
 rintro e w2 ⟨rfl,hb⟩
 have HX2:=kA HX1 (hHi hb)
 have HB2:=hHi (below_tr HB1.out hb)
 clear hb d0 d1 d2 d3 d4 d5 d6
 cases hrt:rightB d with
 | false=>
  have HP:Hid (prtD d=([],3)):=by show _=_;unfold prtD;rw[hrt];rfl
  go_wp2
  go_ret2
  exact⟨by rw[HP.out];rfl,HB2.out⟩
 | true=>
  have hR:=(right_iff d).1 hrt
  have HP:=hHi (prt_rtext hR)
  have HLE:Hid (∀x∈rlinesT d,x.length≤1000000):=rlines_le hR
  have hNB:=rlines_n hR HFW.out
  have HL2:=hU (HLN.out hR w2 HB2.out)
  have HTX:Hid (rtext d=jlnT (rlinesT d)):=rfl
  obtain⟨d0,d1,d2,d3,d4,d5,d6⟩:=HX2.out.c7
  clear hR hrt HLN HR
  generalize rtext d=TX at *
  generalize rlinesT d=RT at *
  go_wp2_with fail
  refine hMo HL2 ?_
  rintro e w3 ⟨va,vc,rfl,hrow,hb⟩
  have HB3:=hHi (below_tr HB2.out hb)
  have HC:Hid (∀j x,RT[j]?=some x→∃g,va=some ⟨g,0,none⟩∧w3.cell? ⟨g,j,none⟩=some (.string (strB x))):=fun j x hj=>by
   have e:lcells RT=RT.flatMap (fun s=>[Value.string (strB s)]):=by unfold lcells;rw[List.map_eq_flatMap]
   rw[e] at hrow
   obtain⟨g,cap,e,_,_,hcl⟩:=own_rows (cf:=fun s=>[Value.string (strB s)]) (fun _=>rfl) hrow hj
   cases e
   exact⟨g,rfl,by simpa using hcl 0 _ rfl⟩
  clear hb hrow d0 d1 d2 d3 d4 d5 d6 HL2 HX1 HX2 hw1
  obtain⟨N,hN⟩:∃N,RT.length=N:=⟨_,rfl⟩
  have HN:=hHi hN
  rw[hN] at hNB ⊢
  clear hN
  go_wp2
  go_loop [5,6] (fun tv iv=>∃(k s:Nat),k≤N∧iv=.int .i64 k∧tv=.int .i64 s∧s=(jlnT (RT.take k)).length∧s≤65536) (fun _ iv=>N-(intOf iv).toNat)
  case atStart=>exact⟨0,0,Nat.zero_le _,rfl,rfl,rfl,by omega⟩
  case round=>
   obtain⟨k,s,hk,rfl,rfl,hs,hs2⟩:=hrel
   have HS:=hHi hs
   clear hs
   by_cases hlt:k<N
   case pos=>
    obtain⟨x,hx⟩:∃x,RT[k]?=some x:=⟨RT[k]'(by rw[HN.out];exact hlt),by simp⟩
    obtain⟨g,rfl,e0⟩:=HC.out k x hx
    have hltI:(k:Int)<N:=by omega
    obtain⟨bx,hbx⟩:∃q,strB x=q:=⟨_,rfl⟩
    have hxl:bx.size≤1000000:=by rw[←hbx,strB_size];exact HLE.out x (List.mem_of_getElem? hx)
    have HST:Hid (s+bx.size+2=(jlnT (RT.take (k+1))).length):=by show _=_;rw[join_step hx,List.length_append,List.length_append,←HS.out,←hbx,strB_size];rfl
    rw[hbx] at e0
    obtain⟨m,hm⟩:∃q,bx.size=q:=⟨_,rfl⟩
    rw[hm] at hxl HST
    clear hx hbx
    by_cases hgt:65536<s+m+2
    case pos=>
     have hgtI:(s:Int)+m+2>65536:=by omega
     have HQ:Hid (prtD d=([],2)):=by
      show _=_
      have h1:=join_le RT (k+1)
      rw[HP.out,if_pos (by rw[HTX.out];have:=HST.out;omega)]
     clear hgt
     go_wp2
     go_ret2
     exact⟨by rw[HQ.out];rfl,HB3.out⟩
    have hgtI:¬(s:Int)+m+2>65536:=by omega
    go_wp2
    go_round
    case rel=>exact⟨k+1,s+m+2,by omega,by go_num,by go_num,HST.out,by omega⟩
    case measure=>simp[intOf];omega
   obtain rfl:k=N:=by omega
   have HAL:Hid (jlnT RT=jlnT RT∧(jlnT RT).length≤65536):=by
    refine⟨rfl,?_⟩
    have h1:=HS.out
    rw[List.take_of_length_le (by rw[HN.out];exact Nat.le_refl _)] at h1
    omega
   have HQ:Hid (prtD d=(jlnT RT,0)):=by show _=_;rw[HP.out,HTX.out,if_neg (by have:=HAL.out.2;omega)]
   go_wp2
   go_loop [7,8] (fun sv iv=>∃(j:Nat) (B:List UInt8),j≤k∧iv=.int .i64 j∧sv=.string (strB B)∧B=jlnT (RT.take j)) (fun _ iv=>k-(intOf iv).toNat)
   case atStart=>exact⟨0,[],Nat.zero_le _,rfl,rfl,rfl⟩
   case round=>
    obtain⟨j,B,hj,rfl,rfl,hB⟩:=hrel
    have HB:=hHi hB
    have lB:B.length≤65536:=by have h1:=join_le RT j;have:=HAL.out.2;rw[hB];omega
    clear hB
    by_cases hlj:j<k
    case pos=>
     obtain⟨x,hx⟩:∃x,RT[j]?=some x:=⟨RT[j]'(by rw[HN.out];exact hlj),by simp⟩
     obtain⟨g,rfl,e0⟩:=HC.out j x hx
     have hljI:(j:Int)<k:=by omega
     have hxl:=HLE.out x (List.mem_of_getElem? hx)
     obtain⟨C,hC⟩:∃q,B++x=q:=⟨_,rfl⟩
     obtain⟨D,hD⟩:∃q,C++[59,10]=q:=⟨_,rfl⟩
     have HST:Hid (D=jlnT (RT.take (j+1))):=by show _=_;rw[join_step hx,←HB.out,hC,hD]
     have lC:=ap_le hC lB hxl
     have ct1:∀W,(Op.stringOp .add (strB B) (strB x)).run Tryz.prog W=.ok (.string (strB C)) W:=fun W=>str_add (by omega) hC W
     have ct2:∀W,(Op.stringOp .add (strB C) ⟨#[59,10]⟩).run Tryz.prog W=.ok (.string (strB D)) W:=fun W=>str_add (b:=[59,10]) (by simp;omega) hD W
     clear hx hC hD
     go_wp2
     go_round
     case rel=>exact⟨j+1,D,by omega,by go_num,rfl,HST.out⟩
     case measure=>simp[intOf];omega
    obtain rfl:j=k:=by omega
    have HE:Hid (B=jlnT RT):=by show _=_;rw[HB.out,List.take_of_length_le (by rw[HN.out];exact Nat.le_refl _)]
    go_wp2
    go_ret2
    exact⟨by rw[HQ.out,HE.out];rfl,HB3.out⟩
end Go.Proofs.YtcpakcffiopfjaaGreatDoor
