/- The document's own text of a box's items. -/
import Derived.Test.YtcpakcffiopfjaaGreatDoorJ7
namespace Go.Proofs.YtcpakcffiopfjaaGreatDoor
open Go.RowKit
set_option linter.unusedVariables false
set_option linter.unusedSimpArgs false
set_option maxRecDepth 100000
set_option maxHeartbeats 16000000
set_option linter.unusedVariables false
set_option linter.unusedSimpArgs false
set_option maxRecDepth 100000
set_option maxHeartbeats 16000000
mutual
noncomputable def ritT:It→List UInt8
 | .mk k t n l=>if k=1 then [32]++quoteL (bysN t) else if k=2 then [32]++Lib.decDigits n.toNat else if k=3 then [32,95] else if k=4 then [32,47] else if k=5 then [32,110,101,115,116,32]++(Lib.decDigits n.toNat++([32,40]++(ritsT l++[32,41]))) else if k=6 then [32,103,114,111,117,112,32,40]++(ritsT l++[32,41]) else []
noncomputable def ritsT:List It→List UInt8
 | []=>[]
 | i::l=>ritT i++ritsT l
end
theorem ritT_eq (x:It):ritT x=if x.kind=1 then [32]++quoteL (bysN x.text) else if x.kind=2 then [32]++Lib.decDigits x.n.toNat else if x.kind=3 then [32,95] else if x.kind=4 then [32,47] else if x.kind=5 then [32,110,101,115,116,32]++(Lib.decDigits x.n.toNat++([32,40]++(ritsT x.items++[32,41]))) else if x.kind=6 then [32,103,114,111,117,112,32,40]++(ritsT x.items++[32,41]) else []:=by
 cases x;rw[ritT];rfl
theorem itemB_of {x:It} (h:itemB x=true):(x.kind=1∧x.text.size≤32)∨(x.kind=2∧numB x.n=true)∨x.kind=3∨x.kind=4∨(x.kind=5∧numB x.n=true)∨x.kind=6:=by
 unfold itemB at h
 split at h
 ·rename_i hk
  simp only[Bool.and_eq_true,decide_eq_true_eq] at h
  exact .inl ⟨hk,h.1.1⟩
 split at h
 ·rename_i hk
  simp only[Bool.and_eq_true] at h
  exact .inr (.inl ⟨hk,h.1.2⟩)
 split at h
 ·rename_i hk;exact .inr (.inr (.inl hk))
 split at h
 ·rename_i hk;exact .inr (.inr (.inr (.inl hk)))
 split at h
 ·rename_i hk
  simp only[Bool.and_eq_true] at h
  exact .inr (.inr (.inr (.inr (.inl ⟨hk,h.2⟩))))
 split at h
 ·rename_i hk;exact .inr (.inr (.inr (.inr (.inr hk))))
 ·cases h
theorem dec_le {n:Int} (h:numB n=true):(Lib.decDigits n.toNat).length≤4000:=by have:=dec_size h;rw[strB_size] at this;exact this
theorem rit_one {x:It} (h:itemB x=true):(ritT x).length≤4020+(ritsT x.items).length:=by
 rw[ritT_eq]
 rcases itemB_of h with ⟨k,q⟩ | ⟨k,q⟩ | k | k | ⟨k,q⟩ | k<;>rw[k]
 ·have:=quo_le q
  simp only[if_pos,List.length_append,List.length_cons,List.length_nil]
  omega
 ·have:=dec_le q
  simp
  omega
 ·simp
  omega
 ·simp
  omega
 ·have:=dec_le q
  simp
  omega
 ·simp
  omega
mutual
theorem ritT_le:∀(c:Nat) (i:It),(itR c i).2=true→(ritT i).length+5000*c≤5000*(itR c i).1
 | c,.mk k t n l,h=>by
  rw[itR] at h ⊢
  split at h
  ·rename_i hc
   rw[if_pos hc]
   have i:=ritsT_le (c+1) l h
   have o:=rit_one hc.2
   have e:(It.mk k t n l).items=l:=rfl
   rw[e] at o
   omega
  ·cases h
theorem ritsT_le:∀(c:Nat) (l:List It),(itsR c l).2=true→(ritsT l).length+5000*c≤5000*(itsR c l).1
 | c,[],h=>by rw[itsR,ritsT];simp
 | c,i::l,h=>by
  rw[itsR] at h ⊢
  split at h
  ·rename_i hq
   rw[if_pos hq,ritsT,List.length_append]
   have a:=ritT_le c i hq
   have b:=ritsT_le _ l h
   omega
  ·cases h
end
theorem rits_bd {c:Nat} {l:List It} (hc:c≤64) (h:(itsR c l).2=true):(ritsT l).length≤320000:=by
 have a:=ritsT_le c l h
 have b:=(itsR_le c l hc).2 h
 omega
theorem its_get:∀{l:List It} {c k:Nat} {x:It},c≤64→(itsR c l).2=true→l[k]?=some x→itemB x=true∧∃c',c'≤64∧(itsR c' x.items).2=true
 | [],c,k,x,_,_,hx=>by simp at hx
 | y::l,c,k,x,hc,h,hx=>by
  rw[itsR] at h
  split at h
  ·rename_i hq
   cases k with
   | zero=>
    simp at hx
    subst hx
    rw[itR_eq] at hq
    split at hq
    ·rename_i h1
     exact⟨h1.2,c+1,h1.1,hq⟩
    ·cases hq
   | succ k=>exact its_get ((itR_le c y hc).2 hq) h (by simpa using hx)
  ·cases h
theorem rits_step {l:List It} {k:Nat} {x:It} (h:l[k]?=some x):ritsT (l.drop k)=ritT x++ritsT (l.drop (k+1)):=by
 have e:=List.getElem?_eq_some_iff.1 h
 rw[List.drop_eq_getElem_cons e.1,e.2,ritsT]
theorem ap_le {a b c:List UInt8} {m n:Nat} (e:a++b=c) (h1:a.length≤m) (h2:b.length≤n):c.length≤m+n:=by rw[←e,List.length_append];omega
structure IT (w W:World) (P:Nat) (us:Array Value):Prop where
 bel:Below w.heap.size w W
 a:Blk W P 124 us
theorem IT.nx {w W W':World} {P:Nat} {us:Array Value} (hb:Below W.heap.size W W') (h:IT w W P us):IT w W' P us:=⟨below_tr h.bel hb,h.a.after hb⟩
theorem IT.drew {w W:World} {P:Nat} {us:Array Value} (h:IT w W P us):IT w W.drew P us:=h.nx (below_dr _)
theorem IT.cells {w W:World} {P:Nat} {x0 x1 x2 x3:Value} (h:IT w W P #[x0,x1,x2,x3]):W.cell? ⟨P,0,none⟩=some x0∧W.cell? ⟨P,1,none⟩=some x1∧W.cell? ⟨P,2,none⟩=some x2∧W.cell? ⟨P,3,none⟩=some x3:=⟨h.a.cell 0 rfl,h.a.cell 1 rfl,h.a.cell 2 rfl,h.a.cell 3 rfl⟩
theorem rits_text:∀(f:Nat) (l:List It) (v:Value) (c:Nat) (w:World),c≤64→(itsR c l).2=true→Sl w w.heap.size 4 (ItV w w.heap.size f) l v→Calls Tryz.prog 76 #[v] w fun e w'=>e=.returned (.string (strB (ritsT l)))∧Below w.heap.size w w':=by
 intro f
 induction f with
 | zero=>
  intro l v c w hc hi h
  obtain rfl:=sl_none h
  obtain⟨a,cc,rfl,hcc,hln,hr⟩:=h
  have HE:Hid (ritsT []=[]):=by show _=_;rw[ritsT]
  clear hr hi hc
  go_enter Tryz.func76,Tryz.ntmps76
  go_wp2
  go_loopw[3,4,5] (fun sv iv _ W=>sv=.string (strB [])∧iv=.int .i64 0∧W=w) (fun _ _ _ _=>0)
  case atStart=>exact⟨rfl,rfl,rfl⟩
  case round=>
   obtain⟨rfl,rfl,rfl⟩:=hrel
   go_wp2
   go_ret
   exact⟨by rw[HE.out];rfl,Below.refl _ _⟩
 | succ f ih=>
 intro l v c w hc hi h
 obtain⟨a,cc,rfl,hcc,hln,hr⟩:=h
 have HR:=hHi hr
 have HI:=hHi ih
 have HG:Hid (∀{k x},l[k]?=some x→itemB x=true∧∃c',c'≤64∧(itsR c' x.items).2=true):=fun {k x} h=>its_get hc hi h
 have HL:Hid ((ritsT l).length≤320000):=rits_bd hc hi
 clear hr ih hc hi
 obtain⟨N,hN⟩:∃N,l.length=N:=⟨_,rfl⟩
 have HNN:=hHi hN
 rw[hN] at hcc hln ⊢
 clear hN
 have HD:Hid (ritsT (l.drop 0)=ritsT l):=rfl
 generalize ritsT l=R at *
 go_enter Tryz.func76,Tryz.ntmps76
 go_wp2
 go_loopw[3,4,5] (fun sv iv _ W=>∃(k:Nat) (B:List UInt8),k≤N∧iv=.int .i64 k∧sv=.string (strB B)∧B++ritsT (l.drop k)=R∧Below w.heap.size w W) (fun _ iv _ _=>N-(intOf iv).toNat)
 case atStart=>exact⟨0,[],Nat.zero_le _,rfl,rfl,HD.out,Below.refl _ _⟩
 case round=>
  obtain⟨k,B,hk,rfl,rfl,hB,hb⟩:=hrel
  have HB:=hHi hB
  have HW:=hHi hb
  clear hB hb
  by_cases hlt:k<N
  case neg=>
   obtain rfl:k=N:=by omega
   have HE:Hid (B=R):=by
    have q:=HB.out
    rw[List.drop_of_length_le (by rw[HNN.out];exact Nat.le_refl _),ritsT,List.append_nil] at q
    exact q
   go_wp2
   go_ret
   exact⟨by rw[HE.out];rfl,HW.out⟩
  obtain⟨x,hx⟩:∃x,l[k]?=some x:=⟨l[k]'(by rw[HNN.out];exact hlt),by simp⟩
  obtain⟨b,o,us,hab,hblt,⟨v2,rfl,a2,c2,rfl,hc2,hl2,hr2⟩,hcl⟩:=HR.out k x hx
  subst hab
  obtain⟨hit,c',hc',hr'⟩:=HG.out hx
  have HST:Hid (B++(ritT x++ritsT (l.drop (k+1)))=R):=by have q:=HB.out;rw[rits_step hx] at q;exact q
  have lB:B.length≤320000:=by have q:=HL.out;rw[←HB.out,List.length_append] at q;omega
  have li:=rits_bd hc' hr'
  have HK:=itemB_of hit
  have HQT:Hid (x.text.size≤32→∀W,∃gc wb,(convert 9 67 (.string x.text)).run Tryz.prog W=.ok (.slice (some ⟨W.heap.size,0,none⟩) x.text.size gc) wb∧Below W.heap.size W wb∧Calls Tryz.prog 129 #[.slice (some ⟨W.heap.size,0,none⟩) x.text.size gc] wb fun e w'=>e=.returned (.string (strB (quoteL (bysN x.text))))∧Below W.heap.size W w'):=fun h W=>rquoted x.text (by omega) W
  have HCI:Hid (∀W,Below w.heap.size w W→Calls Tryz.prog 76 #[.slice a2 x.items.length c2] W fun e w'=>e=.returned (.string (strB (ritsT x.items)))∧Below W.heap.size W w'):=fun W hb=>HI.out x.items (.slice a2 x.items.length c2) c' W hc' hr' ⟨a2,c2,rfl,hc2,hl2,hr2.keep hb hb.size (fun _ _ _ h=>h.keep hb hb.size)⟩
  have HTE:=hHi (ritT_eq x)
  obtain⟨qt,hqt⟩:∃q,quoteL (bysN x.text)=q:=⟨_,rfl⟩
  obtain⟨its,hits⟩:∃q,ritsT x.items=q:=⟨_,rfl⟩
  have lq:x.text.size≤32→qt.length≤4000:=fun h=>by rw[←hqt];exact quo_le h
  rw[hqt] at HTE HQT
  rw[hits] at HTE HCI li
  obtain⟨Z,hZ⟩:∃q,ritsT (l.drop (k+1))=q:=⟨_,rfl⟩
  have HZ:=hHi hZ
  rw[hZ] at HST
  obtain⟨kd,hkd⟩:∃kd,x.kind=kd:=⟨_,rfl⟩
  obtain⟨q,hq⟩:∃q,x.n=q:=⟨_,rfl⟩
  obtain⟨tx,htx⟩:∃tx,x.text=tx:=⟨_,rfl⟩
  obtain⟨j,hj⟩:∃j,x.items.length=j:=⟨_,rfl⟩
  rw[hkd,hq,htx,hj] at hcl
  rw[hj] at hc2 hl2 HCI
  rw[hkd,hq,htx] at HK
  rw[hkd,hq] at HTE
  rw[htx] at HQT lq
  have hq_:=hcb HW.out hblt hcl
  have e0:wr.cell? ⟨b,o+k*4,none⟩=some (.int .i64 kd):=hq_ 0 _ rfl
  have e1:=hq_ 1 _ rfl
  have e2:=hq_ 2 _ rfl
  have e3:=hq_ 3 _ rfl
  have hltI:(k:Int)<N:=by omega
  obtain⟨r,hr0⟩:∃r,ritT x=r:=⟨_,rfl⟩
  rw[hr0] at HST HTE
  clear hq_ hcl hx hr2 hqt hits hZ hkd hq htx hj hit hr' hr0 HB
  clear hc' c' x
  obtain⟨wb,hwb⟩:∃wb,wr.alloc (.cells #[.int .i64 kd,.string tx,.int .i64 q,.slice a2 j c2] 124)=wb:=⟨_,rfl⟩
  have HT0:Hid (IT w wb wr.heap.size #[.int .i64 kd,.string tx,.int .i64 q,.slice a2 j c2]):=⟨by rw[←hwb];exact HW.out.alloc HW.out.size _,by rw[←hwb];exact Blk.new _ _ _⟩
  obtain⟨g0,g1,g2,g3⟩:=HT0.out.cells
  rcases HK with ⟨rfl,ht⟩ | ⟨rfl,ht⟩ | rfl | rfl | ⟨rfl,ht⟩ | rfl
  ·skip
   have lqt:=lq ht
   obtain⟨C,hC⟩:∃q,B++[32]=q:=⟨_,rfl⟩
   have ct1:∀W,(Op.stringOp .add (strB B) ⟨#[32]⟩).run Tryz.prog W=.ok (.string (strB C)) W:=fun W=>str_add (b:=[32]) (by simp;omega) hC W
   have lC:=ap_le hC lB (Nat.le_refl _)
   simp only[List.length_cons,List.length_nil] at lC
   obtain⟨D,hD⟩:∃q,C++qt=q:=⟨_,rfl⟩
   have ct2:∀W,(Op.stringOp .add (strB C) (strB qt)).run Tryz.prog W=.ok (.string (strB D)) W:=fun W=>str_add (by omega) hD W
   have lD:=ap_le hD lC lqt
   have HDD:Hid (D++Z=R):=by
    have q:=HST.out
    rw[HTE.out,if_pos rfl] at q
    show _=_
    rw[←hD,←hC,←q]
    simp
   obtain⟨gt,wt,hct,hbt,hqt⟩:=HQT.out ht wb
   have HQ:=hHi hqt
   clear hqt hC hD lC lD lq HQT
   go_wp2_with fail
   refine HQ.out.mono ?_
   rintro e wz ⟨rfl,hb⟩
   have HBz:=hHi (below_tr HT0.out.bel hb)
   clear hb
   go_wp2
   go_roundw
   case rel=>exact⟨k+1,D,by omega,by go_num,rfl,by rw[HZ.out];exact HDD.out,HBz.out⟩
   case measure=>simp[intOf];omega
  ·skip
   obtain⟨n,rfl⟩:=Int.eq_ofNat_of_zero_le (by unfold numB at ht;simp only[Bool.and_eq_true,decide_eq_true_eq] at ht;exact ht.1)
   have ld:=dec_le ht
   have hn:n≤999999:=by unfold numB at ht;simp only[Bool.and_eq_true,decide_eq_true_eq] at ht;omega
   have HDG:=hHi (rdigits_any n hn)
   rw[show ((n:Nat):Int).toNat=n from rfl] at ld HTE
   generalize Lib.decDigits n=ds at *
   obtain⟨C,hC⟩:∃q,B++[32]=q:=⟨_,rfl⟩
   have ct1:∀W,(Op.stringOp .add (strB B) ⟨#[32]⟩).run Tryz.prog W=.ok (.string (strB C)) W:=fun W=>str_add (b:=[32]) (by simp;omega) hC W
   have lC:=ap_le hC lB (Nat.le_refl _)
   simp only[List.length_cons,List.length_nil] at lC
   obtain⟨D,hD⟩:∃q,C++ds=q:=⟨_,rfl⟩
   have ct2:∀W,(Op.stringOp .add (strB C) (strB ds)).run Tryz.prog W=.ok (.string (strB D)) W:=fun W=>str_add (by omega) hD W
   have lD:=ap_le hD lC ld
   have HDD:Hid (D++Z=R):=by
    have q:=HST.out
    rw[HTE.out,if_neg (by decide),if_pos rfl] at q
    show _=_
    rw[←hD,←hC,←q]
    simp
   clear hC hD lC lD lq ld hn ht HQT
   go_wp2_with fail
   refine (HDG.out wb).mono ?_
   rintro e wz ⟨rfl,hb⟩
   have HBz:=hHi (below_tr HT0.out.bel hb)
   clear hb
   go_wp2
   go_roundw
   case rel=>exact⟨k+1,D,by omega,by go_num,rfl,by rw[HZ.out];exact HDD.out,HBz.out⟩
   case measure=>simp[intOf];omega
  ·skip
   obtain⟨C,hC⟩:∃q,B++[32,95]=q:=⟨_,rfl⟩
   have ct1:∀W,(Op.stringOp .add (strB B) ⟨#[32,95]⟩).run Tryz.prog W=.ok (.string (strB C)) W:=fun W=>str_add (b:=[32,95]) (by simp;omega) hC W
   have lC:=ap_le hC lB (Nat.le_refl _)
   simp only[List.length_cons,List.length_nil] at lC
   have HDD:Hid (C++Z=R):=by
    have q:=HST.out
    rw[HTE.out,if_neg (by decide),if_neg (by decide),if_pos rfl] at q
    show _=_
    rw[←hC,←q]
    simp
   clear hC lC lq HQT
   go_wp2
   go_roundw
   case rel=>exact⟨k+1,C,by omega,by go_num,rfl,by rw[HZ.out];exact HDD.out,HT0.out.bel⟩
   case measure=>simp[intOf];omega
  ·skip
   obtain⟨C,hC⟩:∃q,B++[32,47]=q:=⟨_,rfl⟩
   have ct1:∀W,(Op.stringOp .add (strB B) ⟨#[32,47]⟩).run Tryz.prog W=.ok (.string (strB C)) W:=fun W=>str_add (b:=[32,47]) (by simp;omega) hC W
   have lC:=ap_le hC lB (Nat.le_refl _)
   simp only[List.length_cons,List.length_nil] at lC
   have HDD:Hid (C++Z=R):=by
    have q:=HST.out
    rw[HTE.out,if_neg (by decide),if_neg (by decide),if_neg (by decide),if_pos rfl] at q
    show _=_
    rw[←hC,←q]
    simp
   clear hC lC lq HQT
   go_wp2
   go_roundw
   case rel=>exact⟨k+1,C,by omega,by go_num,rfl,by rw[HZ.out];exact HDD.out,HT0.out.bel⟩
   case measure=>simp[intOf];omega
  ·skip
   obtain⟨n,rfl⟩:=Int.eq_ofNat_of_zero_le (by unfold numB at ht;simp only[Bool.and_eq_true,decide_eq_true_eq] at ht;exact ht.1)
   have ld:=dec_le ht
   have hn:n≤999999:=by unfold numB at ht;simp only[Bool.and_eq_true,decide_eq_true_eq] at ht;omega
   have HDG:=hHi (rdigits_any n hn)
   rw[show ((n:Nat):Int).toNat=n from rfl] at ld HTE
   generalize Lib.decDigits n=ds at *
   obtain⟨C,hC⟩:∃q,B++[32,110,101,115,116,32]=q:=⟨_,rfl⟩
   have ct1:∀W,(Op.stringOp .add (strB B) ⟨#[32,110,101,115,116,32]⟩).run Tryz.prog W=.ok (.string (strB C)) W:=fun W=>str_add (b:=[32,110,101,115,116,32]) (by simp;omega) hC W
   have lC:=ap_le hC lB (Nat.le_refl _)
   simp only[List.length_cons,List.length_nil] at lC
   obtain⟨D,hD⟩:∃q,C++ds=q:=⟨_,rfl⟩
   have ct2:∀W,(Op.stringOp .add (strB C) (strB ds)).run Tryz.prog W=.ok (.string (strB D)) W:=fun W=>str_add (by omega) hD W
   have lD:=ap_le hD lC ld
   obtain⟨E,hE⟩:∃q,D++[32,40]=q:=⟨_,rfl⟩
   have ct3:∀W,(Op.stringOp .add (strB D) ⟨#[32,40]⟩).run Tryz.prog W=.ok (.string (strB E)) W:=fun W=>str_add (b:=[32,40]) (by simp;omega) hE W
   have lE:=ap_le hE lD (Nat.le_refl _)
   simp only[List.length_cons,List.length_nil] at lE
   obtain⟨F,hF⟩:∃q,E++its=q:=⟨_,rfl⟩
   have ct4:∀W,(Op.stringOp .add (strB E) (strB its)).run Tryz.prog W=.ok (.string (strB F)) W:=fun W=>str_add (by omega) hF W
   have lF:=ap_le hF lE li
   obtain⟨G,hG⟩:∃q,F++[32,41]=q:=⟨_,rfl⟩
   have ct5:∀W,(Op.stringOp .add (strB F) ⟨#[32,41]⟩).run Tryz.prog W=.ok (.string (strB G)) W:=fun W=>str_add (b:=[32,41]) (by simp;omega) hG W
   have lG:=ap_le hG lF (Nat.le_refl _)
   simp only[List.length_cons,List.length_nil] at lG
   have HDD:Hid (G++Z=R):=by
    have q:=HST.out
    rw[HTE.out,if_neg (by decide),if_neg (by decide),if_neg (by decide),if_neg (by decide),if_pos rfl] at q
    show _=_
    rw[←hG,←hF,←hE,←hD,←hC,←q]
    simp
   clear hC lC hD lD hE lE hF lF hG lG lq ld hn ht HQT g0 g1 g2 g3
   have T:IT w wb wr.heap.size #[.int .i64 5,.string tx,.int .i64 (n:Int),.slice a2 j c2]:=HT0.out
   obtain⟨g0,g1,g2,g3⟩:=T.cells
   go_wp2
   clear g0 g1 g2 g3
   have TC:=T.cells
   go_region_held3 (fun W=>W.cell? ⟨wr.heap.size,0,none⟩=some (.int .i64 5)∧W.cell? ⟨wr.heap.size,1,none⟩=some (.string tx)∧W.cell? ⟨wr.heap.size,2,none⟩=some (.int .i64 (n:Int))∧W.cell? ⟨wr.heap.size,3,none⟩=some (.slice a2 j c2)) (first | exact T.cells | exact T.drew.cells) (first | (go_at_call 130;refine (HDG.out _).mono ?_;rintro e w5 ⟨rfl,hb5⟩;replace T:IT w w5 wr.heap.size #[.int .i64 5,.string tx,.int .i64 (n:Int),.slice a2 j c2]:=(by first | exact T.nx hb5 | exact T.drew.nx hb5);clear hb5) | (go_at_call 76;refine (HCI.out _ T.bel).mono ?_;rintro e w5 ⟨rfl,hb5⟩;replace T:IT w w5 wr.heap.size #[.int .i64 5,.string tx,.int .i64 (n:Int),.slice a2 j c2]:=(by first | exact T.nx hb5 | exact T.drew.nx hb5);clear hb5) | (go_at_call 76;refine (HCI.out _ T.drew.bel).mono ?_;rintro e w5 ⟨rfl,hb5⟩;replace T:IT w w5 wr.heap.size #[.int .i64 5,.string tx,.int .i64 (n:Int),.slice a2 j c2]:=(by first | exact T.nx hb5 | exact T.drew.nx hb5);clear hb5))
   all_goals go_wp2
   all_goals go_roundw
   all_goals first
    | exact⟨k+1,G,by omega,by go_num,rfl,by rw[HZ.out];exact HDD.out,T.bel⟩
    | (simp[intOf];omega)
  ·skip
   obtain⟨C,hC⟩:∃q,B++[32,103,114,111,117,112,32,40]=q:=⟨_,rfl⟩
   have ct1:∀W,(Op.stringOp .add (strB B) ⟨#[32,103,114,111,117,112,32,40]⟩).run Tryz.prog W=.ok (.string (strB C)) W:=fun W=>str_add (b:=[32,103,114,111,117,112,32,40]) (by simp;omega) hC W
   have lC:=ap_le hC lB (Nat.le_refl _)
   simp only[List.length_cons,List.length_nil] at lC
   obtain⟨D,hD⟩:∃q,C++its=q:=⟨_,rfl⟩
   have ct2:∀W,(Op.stringOp .add (strB C) (strB its)).run Tryz.prog W=.ok (.string (strB D)) W:=fun W=>str_add (by omega) hD W
   have lD:=ap_le hD lC li
   obtain⟨E,hE⟩:∃q,D++[32,41]=q:=⟨_,rfl⟩
   have ct3:∀W,(Op.stringOp .add (strB D) ⟨#[32,41]⟩).run Tryz.prog W=.ok (.string (strB E)) W:=fun W=>str_add (b:=[32,41]) (by simp;omega) hE W
   have lE:=ap_le hE lD (Nat.le_refl _)
   simp only[List.length_cons,List.length_nil] at lE
   have HDD:Hid (E++Z=R):=by
    have q:=HST.out
    rw[HTE.out,if_neg (by decide),if_neg (by decide),if_neg (by decide),if_neg (by decide),if_neg (by decide),if_pos rfl] at q
    show _=_
    rw[←hE,←hD,←hC,←q]
    simp
   clear hC lC hD lD hE lE lq HQT
   go_wp2_with fail
   refine (HCI.out wb HT0.out.bel).mono ?_
   rintro e wz ⟨rfl,hb⟩
   have HBz:=hHi (below_tr HT0.out.bel hb)
   clear hb
   go_wp2
   go_roundw
   case rel=>exact⟨k+1,E,by omega,by go_num,rfl,by rw[HZ.out];exact HDD.out,HBz.out⟩
   case measure=>simp[intOf];omega
end Go.Proofs.YtcpakcffiopfjaaGreatDoor
