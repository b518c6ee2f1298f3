/- The document's own digits of a number. The document's own text of a symbol. The document's own text of a production. -/
import Derived.Test.YtcpakcffiopfjaaGreatDoorJ3
import Derived.Test.YtcpakcffiopfjaaGreatDoorF5
import Derived.Test.YtcpakcffiopfjaaGreatDoorJ2
namespace Go.Proofs.YtcpakcffiopfjaaGreatDoor
open Go.RowKit
set_option linter.unusedVariables false
set_option linter.unusedSimpArgs false
set_option maxRecDepth 100000
set_option maxHeartbeats 16000000
section
set_option linter.unusedVariables false
set_option linter.unusedSimpArgs false
set_option maxRecDepth 100000
set_option maxHeartbeats 8000000
theorem dec_step {m:Nat} (h:10≤m):Lib.decDigits m=Lib.decDigits (m/10)++[UInt8.ofNat (48+m%10)]:=by
 rw[Lib.decDigits,dif_neg (by omega)]
theorem rdigits_any (n:Nat) (hn:n≤999999) (w:World):Calls Tryz.prog 130 #[.int .i64 (n:Int)] w fun e w'=>e=.returned (.string (strB (Lib.decDigits n)))∧Below w.heap.size w w':=by
 have HN:Hid (n≤999999):=hn
 have h0:¬(n:Int)<0:=by omega
 go_enter Tryz.func130,Tryz.ntmps130
 go_wp2
 clear h0
 go_loopw[0,3] (fun mv sv W=>∃(m:Nat) (acc:List UInt8),mv=.int .i64 (m:Int)∧sv=.string (strB acc)∧m≤999999∧(acc=[]∨1≤m)∧Lib.decDigits n=Lib.decDigits m++acc∧acc.length+(Lib.decDigits m).length≤6∧Below w.heap.size w W) (fun mv _ _=>(intOf mv).toNat)
 case atStart=>exact⟨n,[],rfl,rfl,hn,.inl rfl,by simp,by have:=dec_len 5 n (by rw[show (10:Nat) ^ (5+1)=1000000 by decide];omega);simpa using this,Below.refl _ _⟩
 case round=>
  obtain⟨m,acc,rfl,rfl,hm,hor,hd,hl,hB⟩:=hrel
  have HD:=hHi hd
  have HB:=hHi hB
  have HL:=hHi hl
  have HO:=hHi hor
  have HM:Hid (m≤999999):=hm
  clear hd hB hl hor
  obtain⟨k,hk⟩:∃k,m%10=k:=⟨_,rfl⟩
  obtain⟨q,hq⟩:∃q,m/10=q:=⟨_,rfl⟩
  have HK:Hid (m%10=k∧m/10=q):=⟨hk,hq⟩
  have k9:(k:Int)≤9:=by omega
  have hrem:((m:Int).tmod 10)=(k:Int):=by rw[←hk];exact (Int.ofNat_tmod m 10).symm
  have hquo:((m:Int).tdiv 10)=(q:Int):=by rw[←hq];exact (Int.ofNat_tdiv m 10).symm
  have q9:(q:Int)≤99999:=by omega
  obtain⟨c,hc⟩:∃c:UInt8,UInt8.ofNat (48+k)=c:=⟨_,rfl⟩
  have HC:=hHi hc
  have cv:∀W:World,(convert 67 9 (.slice (some ⟨W.heap.size,0,none⟩) 1 1)).run Tryz.prog (W.alloc (.cells #[.int .u8 (48+(k:Int))] 5))=.ok (.string ⟨#[c]⟩) (W.alloc (.cells #[.int .u8 (48+(k:Int))] 5)):=fun W=>by
   have h:=conv1 (48+k) W
   rw[hc] at h
   exact h
  have ct:∀W:World,(Op.stringOp .add ⟨#[c]⟩ (strB acc)).run Tryz.prog W=.ok (.string (strB (c::acc))) W:=fun W=>cat_run [c] acc (by have:=HL.out;simp;omega) W
  clear hk hq hc
  by_cases hq0:q=0
  case pos=>
   subst hq0
   go_wp2
   go_ret
   refine⟨?_,HB.out.alloc HB.out.size _⟩
   have e:Lib.decDigits n=c::acc:=by
    have h1:=HK.out
    have h2:=Lib.decDigits_one (i:=m) (by omega)
    rw[HD.out,h2,show m=k by omega,HC.out]
    rfl
   rw[e]
   rfl
  have hq1:¬(q:Int)=0:=by omega
  have hq2:((q:Int)==0)=false:=by simp;omega
  go_wp2
  go_roundw
  case rel=>
   have h1:=HK.out
   have h2:=dec_step (m:=m) (by omega)
   rw[h1.1,h1.2,HC.out] at h2
   refine⟨q,c::acc,by go_num,rfl,by omega,.inr (by omega),by rw[HD.out,h2,List.append_assoc];rfl,?_,HB.out.alloc HB.out.size _⟩
   have h3:=HL.out
   rw[h2,List.length_append] at h3
   simp at h3 ⊢
   omega
  case measure=>have h1:=HK.out;simp[intOf];omega
end
section
set_option linter.unusedVariables false
set_option linter.unusedSimpArgs false
set_option maxRecDepth 100000
set_option maxHeartbeats 16000000
/- A text turned into bytes, and what Quote says of them. -/
theorem rquoted (s:ByteArray) (hs:s.size≤65536) (w:World):∃gc wb,(convert 9 67 (.string s)).run Tryz.prog w=.ok (.slice (some ⟨w.heap.size,0,none⟩) s.size gc) wb∧Below w.heap.size w wb∧Calls Tryz.prog 129 #[.slice (some ⟨w.heap.size,0,none⟩) s.size gc] wb fun e w'=>e=.returned (.string (strB (quoteL (bysN s))))∧Below w.heap.size w w':=by
 have hcv:=Lib.run_convert_string_bytes (P:=Tryz.prog) w 9 67 5 s Tryz.underlying9 Tryz.underlying67 Tryz.underlying5
 have hrow:RowB (Lib.bytesWorld w 5 s) (some ⟨w.heap.size,0,none⟩) (bysN s):=fun i hi=>by
  rw[bysN_len] at hi
  refine⟨w.heap.size,0,rfl,by rw[Lib.bytesWorld_size];omega,?_⟩
  rw[Nat.zero_add,Lib.bytesWorld_cell w 5 s i hi,bysN_get]
 have hq:=rquote_any (bysN s) (some ⟨w.heap.size,0,none⟩) (grownCap w s.size 0 5) (Lib.bytesWorld w 5 s) (bysN_lt s) (by rw[bysN_len];exact hs) hrow
 rw[bysN_len] at hq
 exact⟨_,_,hcv,bw_below w 5 s,hq.mono fun e w' h=>⟨h.1,below_tr (bw_below w 5 s) h.2⟩⟩
theorem str_cat {a b:List UInt8} (h:a.length+b.length≤100000) (W:World):(Op.stringOp .add (strB a) (strB b)).run Tryz.prog W=.ok (.string (strB (a++b))) W:=cat_run a b h W
noncomputable def rpart1 (x:Sy):List UInt8:=if em x.name then printL x.set else x.name.data.toList
noncomputable def rpart (x:Sy):List UInt8:=if em x.sep then rpart1 x else ((([123]++rpart1 x)++[32])++quoteL (bysN x.sep))++[125]
noncomputable def rsymT (x:Sy):List UInt8:=if x.kind=1 then quoteL (bysN x.text) else if x.kind=4 then rpart x++[63] else if x.kind=5 then rpart x++[42] else if x.kind=6 then rpart x++[43] else rpart x
theorem strB_self (s:ByteArray):strB s.data.toList=s:=by cases s;rfl
theorem print_le (s:St):(printL s).length≤2306:=by have:=print_len s;simpa [ByteArray.size] using this
theorem quo_le {s:ByteArray} (h:s.size≤32):(quoteL (bysN s)).length≤4000:=by have:=quo_size h;rw[strB_size] at this;exact this
theorem rsym_text (x:Sy) (hx:symB x=true) (hok:x.set.ok) (w:World):Calls Tryz.prog 126 #[.agg #[.int .i64 x.kind,.string x.text,.int .u64 x.set.a,.int .u64 x.set.b,.int .u64 x.set.c,.int .u64 x.set.d,.string x.name,.string x.sep]] w fun e w'=>e=.returned (.string (strB (rsymT x)))∧Below w.heap.size w w':=by
 obtain⟨s1,s2,s3⟩:=sym_small hx
 have HK:Hid (rsymT x=if x.kind=1 then quoteL (bysN x.text) else if x.kind=4 then rpart x++[63] else if x.kind=5 then rpart x++[42] else if x.kind=6 then rpart x++[43] else rpart x):=rfl
 have HP:Hid (rpart x=if em x.sep then rpart1 x else ((([123]++rpart1 x)++[32])++quoteL (bysN x.sep))++[125]):=rfl
 have HP1:Hid (rpart1 x=if em x.name then printL x.set else x.name.data.toList):=rfl
 have L1:(rpart1 x).length≤2306:=by
  unfold rpart1
  split
  ·exact print_le _
  ·rw[list_len];omega
 have HPR:Hid (∀W,Calls Tryz.prog 75 #[.agg #[.int .u64 x.set.a,.int .u64 x.set.b,.int .u64 x.set.c,.int .u64 x.set.d]] W fun e w'=>e=.returned (.string (strB (printL x.set)))∧Below W.heap.size W w'):=fun W=>rprint_any x.set hok W
 have HQS:Hid _:=fun W=>rquoted x.sep (by omega) W
 have HQT:Hid _:=fun W=>rquoted x.text (by omega) W
 have Q1:=quo_le (s:=x.sep) (by omega)
 have Q2:=quo_le (s:=x.text) (by omega)
 generalize rpart1 x=p1 at *
 generalize printL x.set=pl at *
 generalize quoteL (bysN x.sep)=qs at *
 generalize quoteL (bysN x.text)=qt at *
 generalize rsymT x=R at *
 generalize rpart x=p2 at *
 obtain⟨nm,hnm⟩:∃q,x.name=q:=⟨_,rfl⟩
 obtain⟨sp,hsp⟩:∃q,x.sep=q:=⟨_,rfl⟩
 obtain⟨tx,htx⟩:∃q,x.text=q:=⟨_,rfl⟩
 obtain⟨kd,hkd⟩:∃q,x.kind=q:=⟨_,rfl⟩
 rw[hnm] at HP1 s2
 rw[hsp] at HP HQS s3
 rw[htx] at HQT s1
 rw[hkd] at HK
 rw[hnm,hsp,htx,hkd]
 obtain⟨l1,h1⟩:∃q,[123]++p1=q:=⟨_,rfl⟩
 obtain⟨l2,h2⟩:∃q,l1++[32]=q:=⟨_,rfl⟩
 obtain⟨l3,h3⟩:∃q,l2++qs=q:=⟨_,rfl⟩
 obtain⟨l4,h4⟩:∃q,l3++[125]=q:=⟨_,rfl⟩
 have n1:l1.length=p1.length+1:=by rw[←h1,List.length_append,List.length_singleton];omega
 have n2:l2.length=p1.length+2:=by rw[←h2,List.length_append,List.length_singleton];omega
 have n3:l3.length=p1.length+2+qs.length:=by rw[←h3,List.length_append];omega
 have n4:l4.length=p1.length+3+qs.length:=by rw[←h4,List.length_append,List.length_singleton];omega
 have ct1:∀W,(Op.stringOp .add ⟨#[123]⟩ (strB p1)).run Tryz.prog W=.ok (.string (strB l1)) W:=fun W=>by have:=str_cat (a:=[123]) (b:=p1) (by simp;omega) W;rw[h1] at this;exact this
 have ct2:∀W,(Op.stringOp .add (strB l1) ⟨#[32]⟩).run Tryz.prog W=.ok (.string (strB l2)) W:=fun W=>by have:=str_cat (a:=l1) (b:=[32]) (by simp;omega) W;rw[h2] at this;exact this
 have ct3:∀W,(Op.stringOp .add (strB l2) (strB qs)).run Tryz.prog W=.ok (.string (strB l3)) W:=fun W=>by have:=str_cat (a:=l2) (b:=qs) (by omega) W;rw[h3] at this;exact this
 have ct4:∀W,(Op.stringOp .add (strB l3) ⟨#[125]⟩).run Tryz.prog W=.ok (.string (strB l4)) W:=fun W=>by have:=str_cat (a:=l3) (b:=[125]) (by simp;omega) W;rw[h4] at this;exact this
 have HP2:Hid (p2=if em sp then p1 else l4):=by show _=_;rw[HP.out,h1,h2,h3,h4]
 have HL:Hid (p1.length≤2306∧l4.length≤10000∧qt.length≤4000):=⟨L1,by omega,Q2⟩
 clear h1 h2 h3 h4 n1 n2 n3 n4 hx hok L1 Q1 Q2 HP hnm hsp htx hkd
 generalize x.set.a=sa at *
 generalize x.set.b=sb at *
 generalize x.set.c=sc at *
 generalize x.set.d=sd at *
 obtain⟨w1,hw1⟩:∃qW,w.alloc (.cells #[.int .i64 kd,.string tx,.int .u64 (sa:Int),.int .u64 (sb:Int),.int .u64 (sc:Int),.int .u64 (sd:Int),.string nm,.string sp] 134)=qW:=⟨_,rfl⟩
 have HB1:=kB hw1
 have HX1:=kN hw1
 obtain⟨d0,d1,d2,d3,d4,d5,d6,d7⟩:=HX1.out.c8
 rcases em_two' nm with ⟨n0,n0'⟩ | ⟨n0,n0'⟩
 ·skip
  have hp1:p1=pl:=by rw[HP1.out,if_pos n0]
  subst hp1
  go_enter Tryz.func126,Tryz.ntmps126
  go_wp2_with fail
  refine (HPR.out w1).mono ?_
  rintro e w2 ⟨rfl,hb⟩
  have HB2:=hHi (below_tr HB1.out hb)
  have HX2:=kA HX1 (hHi hb)
  clear hb d0 d1 d2 d3 d4 d5 d6 d7 hw1
  obtain⟨d0,d1,d2,d3,d4,d5,d6,d7⟩:=HX2.out.c8
  rcases em_two' sp with ⟨e0,e0'⟩ | ⟨e0,e0'⟩
  ·skip
   have HPP:Hid (p2=p1):=by show _=_;rw[HP2.out];rw[if_pos e0]
   obtain⟨gt,wt,hct,hbt,hqt⟩:=HQT.out w2
   have HQ:=hHi hqt
   have HBt:Hid (Below w.heap.size w wt):=below_tr HB2.out hbt
   have f1:∀W,(Op.stringOp .add (strB p1) ⟨#[63]⟩).run Tryz.prog W=.ok (.string (strB (p1++[63]))) W:=fun W=>str_cat (b:=[63]) (by have:=HL.out;simp;omega) W
   have f2:∀W,(Op.stringOp .add (strB p1) ⟨#[42]⟩).run Tryz.prog W=.ok (.string (strB (p1++[42]))) W:=fun W=>str_cat (b:=[42]) (by have:=HL.out;simp;omega) W
   have f3:∀W,(Op.stringOp .add (strB p1) ⟨#[43]⟩).run Tryz.prog W=.ok (.string (strB (p1++[43]))) W:=fun W=>str_cat (b:=[43]) (by have:=HL.out;simp;omega) W
   clear hqt hbt
   by_cases k1:kd=1
   ·have HR:Hid (R=qt):=by show _=_;rw[HK.out,if_pos k1]
    subst k1
    go_wp2_with fail
    refine HQ.out.mono ?_
    rintro e wz ⟨rfl,hb⟩
    have HBz:=hHi (below_tr HB2.out hb)
    clear hb
    go_wp2
    go_ret
    exact⟨by rw[HR.out];rfl,HBz.out⟩
   have HK1:=hHi k1
   have e1:(kd==1)=false:=by simpa using k1
   by_cases k4:kd=4
   ·have HR:Hid (R=p1++[63]):=by show _=_;rw[HK.out,if_neg HK1.out,if_pos k4,HPP.out]
    subst k4
    go_wp2
    go_ret
    exact⟨by rw[HR.out];rfl,HB2.out⟩
   have HK4:=hHi k4
   have e4:(kd==4)=false:=by simpa using k4
   by_cases k5:kd=5
   ·have HR:Hid (R=p1++[42]):=by show _=_;rw[HK.out,if_neg HK1.out,if_neg HK4.out,if_pos k5,HPP.out]
    subst k5
    go_wp2
    go_ret
    exact⟨by rw[HR.out];rfl,HB2.out⟩
   have HK5:=hHi k5
   have e5:(kd==5)=false:=by simpa using k5
   by_cases k6:kd=6
   ·have HR:Hid (R=p1++[43]):=by show _=_;rw[HK.out,if_neg HK1.out,if_neg HK4.out,if_neg HK5.out,if_pos k6,HPP.out]
    subst k6
    go_wp2
    go_ret
    exact⟨by rw[HR.out];rfl,HB2.out⟩
   have HK6:=hHi k6
   have e6:(kd==6)=false:=by simpa using k6
   go_wp2
   go_ret
   exact⟨by rw[HK.out,if_neg HK1.out,if_neg HK4.out,if_neg HK5.out,if_neg HK6.out,HPP.out];rfl,HB2.out⟩
  ·skip
   obtain⟨gs,ws,hcs,hbs,hqs⟩:=HQS.out w2
   have HQ0:=hHi hqs
   clear hqs hbs
   go_wp2_with fail
   refine HQ0.out.mono ?_
   rintro e ww ⟨rfl,hb⟩
   have HBw:=hHi (below_tr HB2.out hb)
   have HXw:=kA HX2 (hHi hb)
   clear hb hcs
   obtain⟨d0,d1,d2,d3,d4,d5,d6,d7⟩:=HXw.out.c8
   have HPP:Hid (p2=l4):=by show _=_;rw[HP2.out];rw[if_neg (by rw[e0];decide)]
   obtain⟨gt,wt,hct,hbt,hqt⟩:=HQT.out ww
   have HQ:=hHi hqt
   have HBt:Hid (Below w.heap.size w wt):=below_tr HBw.out hbt
   have f1:∀W,(Op.stringOp .add (strB l4) ⟨#[63]⟩).run Tryz.prog W=.ok (.string (strB (l4++[63]))) W:=fun W=>str_cat (b:=[63]) (by have:=HL.out;simp;omega) W
   have f2:∀W,(Op.stringOp .add (strB l4) ⟨#[42]⟩).run Tryz.prog W=.ok (.string (strB (l4++[42]))) W:=fun W=>str_cat (b:=[42]) (by have:=HL.out;simp;omega) W
   have f3:∀W,(Op.stringOp .add (strB l4) ⟨#[43]⟩).run Tryz.prog W=.ok (.string (strB (l4++[43]))) W:=fun W=>str_cat (b:=[43]) (by have:=HL.out;simp;omega) W
   clear hqt hbt
   by_cases k1:kd=1
   ·have HR:Hid (R=qt):=by show _=_;rw[HK.out,if_pos k1]
    subst k1
    go_wp2_with fail
    refine HQ.out.mono ?_
    rintro e wz ⟨rfl,hb⟩
    have HBz:=hHi (below_tr HBw.out hb)
    clear hb
    go_wp2
    go_ret
    exact⟨by rw[HR.out];rfl,HBz.out⟩
   have HK1:=hHi k1
   have e1:(kd==1)=false:=by simpa using k1
   by_cases k4:kd=4
   ·have HR:Hid (R=l4++[63]):=by show _=_;rw[HK.out,if_neg HK1.out,if_pos k4,HPP.out]
    subst k4
    go_wp2
    go_ret
    exact⟨by rw[HR.out];rfl,HBw.out⟩
   have HK4:=hHi k4
   have e4:(kd==4)=false:=by simpa using k4
   by_cases k5:kd=5
   ·have HR:Hid (R=l4++[42]):=by show _=_;rw[HK.out,if_neg HK1.out,if_neg HK4.out,if_pos k5,HPP.out]
    subst k5
    go_wp2
    go_ret
    exact⟨by rw[HR.out];rfl,HBw.out⟩
   have HK5:=hHi k5
   have e5:(kd==5)=false:=by simpa using k5
   by_cases k6:kd=6
   ·have HR:Hid (R=l4++[43]):=by show _=_;rw[HK.out,if_neg HK1.out,if_neg HK4.out,if_neg HK5.out,if_pos k6,HPP.out]
    subst k6
    go_wp2
    go_ret
    exact⟨by rw[HR.out];rfl,HBw.out⟩
   have HK6:=hHi k6
   have e6:(kd==6)=false:=by simpa using k6
   go_wp2
   go_ret
   exact⟨by rw[HK.out,if_neg HK1.out,if_neg HK4.out,if_neg HK5.out,if_neg HK6.out,HPP.out];rfl,HBw.out⟩
 ·skip
  have hp1:nm=strB p1:=by rw[HP1.out,if_neg (by rw[n0];decide)];exact (strB_self nm).symm
  subst hp1
  go_enter Tryz.func126,Tryz.ntmps126
  rcases em_two' sp with ⟨e0,e0'⟩ | ⟨e0,e0'⟩
  ·skip
   have HPP:Hid (p2=p1):=by show _=_;rw[HP2.out];rw[if_pos e0]
   obtain⟨gt,wt,hct,hbt,hqt⟩:=HQT.out w1
   have HQ:=hHi hqt
   have HBt:Hid (Below w.heap.size w wt):=below_tr HB1.out hbt
   have f1:∀W,(Op.stringOp .add (strB p1) ⟨#[63]⟩).run Tryz.prog W=.ok (.string (strB (p1++[63]))) W:=fun W=>str_cat (b:=[63]) (by have:=HL.out;simp;omega) W
   have f2:∀W,(Op.stringOp .add (strB p1) ⟨#[42]⟩).run Tryz.prog W=.ok (.string (strB (p1++[42]))) W:=fun W=>str_cat (b:=[42]) (by have:=HL.out;simp;omega) W
   have f3:∀W,(Op.stringOp .add (strB p1) ⟨#[43]⟩).run Tryz.prog W=.ok (.string (strB (p1++[43]))) W:=fun W=>str_cat (b:=[43]) (by have:=HL.out;simp;omega) W
   clear hqt hbt
   by_cases k1:kd=1
   ·have HR:Hid (R=qt):=by show _=_;rw[HK.out,if_pos k1]
    subst k1
    go_wp2_with fail
    refine HQ.out.mono ?_
    rintro e wz ⟨rfl,hb⟩
    have HBz:=hHi (below_tr HB1.out hb)
    clear hb
    go_wp2
    go_ret
    exact⟨by rw[HR.out];rfl,HBz.out⟩
   have HK1:=hHi k1
   have e1:(kd==1)=false:=by simpa using k1
   by_cases k4:kd=4
   ·have HR:Hid (R=p1++[63]):=by show _=_;rw[HK.out,if_neg HK1.out,if_pos k4,HPP.out]
    subst k4
    go_wp2
    go_ret
    exact⟨by rw[HR.out];rfl,HB1.out⟩
   have HK4:=hHi k4
   have e4:(kd==4)=false:=by simpa using k4
   by_cases k5:kd=5
   ·have HR:Hid (R=p1++[42]):=by show _=_;rw[HK.out,if_neg HK1.out,if_neg HK4.out,if_pos k5,HPP.out]
    subst k5
    go_wp2
    go_ret
    exact⟨by rw[HR.out];rfl,HB1.out⟩
   have HK5:=hHi k5
   have e5:(kd==5)=false:=by simpa using k5
   by_cases k6:kd=6
   ·have HR:Hid (R=p1++[43]):=by show _=_;rw[HK.out,if_neg HK1.out,if_neg HK4.out,if_neg HK5.out,if_pos k6,HPP.out]
    subst k6
    go_wp2
    go_ret
    exact⟨by rw[HR.out];rfl,HB1.out⟩
   have HK6:=hHi k6
   have e6:(kd==6)=false:=by simpa using k6
   go_wp2
   go_ret
   exact⟨by rw[HK.out,if_neg HK1.out,if_neg HK4.out,if_neg HK5.out,if_neg HK6.out,HPP.out];rfl,HB1.out⟩
  ·skip
   obtain⟨gs,ws,hcs,hbs,hqs⟩:=HQS.out w1
   have HQ0:=hHi hqs
   clear hqs hbs
   go_wp2_with fail
   refine HQ0.out.mono ?_
   rintro e ww ⟨rfl,hb⟩
   have HBw:=hHi (below_tr HB1.out hb)
   have HXw:=kA HX1 (hHi hb)
   clear hb hcs
   obtain⟨d0,d1,d2,d3,d4,d5,d6,d7⟩:=HXw.out.c8
   have HPP:Hid (p2=l4):=by show _=_;rw[HP2.out];rw[if_neg (by rw[e0];decide)]
   obtain⟨gt,wt,hct,hbt,hqt⟩:=HQT.out ww
   have HQ:=hHi hqt
   have HBt:Hid (Below w.heap.size w wt):=below_tr HBw.out hbt
   have f1:∀W,(Op.stringOp .add (strB l4) ⟨#[63]⟩).run Tryz.prog W=.ok (.string (strB (l4++[63]))) W:=fun W=>str_cat (b:=[63]) (by have:=HL.out;simp;omega) W
   have f2:∀W,(Op.stringOp .add (strB l4) ⟨#[42]⟩).run Tryz.prog W=.ok (.string (strB (l4++[42]))) W:=fun W=>str_cat (b:=[42]) (by have:=HL.out;simp;omega) W
   have f3:∀W,(Op.stringOp .add (strB l4) ⟨#[43]⟩).run Tryz.prog W=.ok (.string (strB (l4++[43]))) W:=fun W=>str_cat (b:=[43]) (by have:=HL.out;simp;omega) W
   clear hqt hbt
   by_cases k1:kd=1
   ·have HR:Hid (R=qt):=by show _=_;rw[HK.out,if_pos k1]
    subst k1
    go_wp2_with fail
    refine HQ.out.mono ?_
    rintro e wz ⟨rfl,hb⟩
    have HBz:=hHi (below_tr HBw.out hb)
    clear hb
    go_wp2
    go_ret
    exact⟨by rw[HR.out];rfl,HBz.out⟩
   have HK1:=hHi k1
   have e1:(kd==1)=false:=by simpa using k1
   by_cases k4:kd=4
   ·have HR:Hid (R=l4++[63]):=by show _=_;rw[HK.out,if_neg HK1.out,if_pos k4,HPP.out]
    subst k4
    go_wp2
    go_ret
    exact⟨by rw[HR.out];rfl,HBw.out⟩
   have HK4:=hHi k4
   have e4:(kd==4)=false:=by simpa using k4
   by_cases k5:kd=5
   ·have HR:Hid (R=l4++[42]):=by show _=_;rw[HK.out,if_neg HK1.out,if_neg HK4.out,if_pos k5,HPP.out]
    subst k5
    go_wp2
    go_ret
    exact⟨by rw[HR.out];rfl,HBw.out⟩
   have HK5:=hHi k5
   have e5:(kd==5)=false:=by simpa using k5
   by_cases k6:kd=6
   ·have HR:Hid (R=l4++[43]):=by show _=_;rw[HK.out,if_neg HK1.out,if_neg HK4.out,if_neg HK5.out,if_pos k6,HPP.out]
    subst k6
    go_wp2
    go_ret
    exact⟨by rw[HR.out];rfl,HBw.out⟩
   have HK6:=hHi k6
   have e6:(kd==6)=false:=by simpa using k6
   go_wp2
   go_ret
   exact⟨by rw[HK.out,if_neg HK1.out,if_neg HK4.out,if_neg HK5.out,if_neg HK6.out,HPP.out];rfl,HBw.out⟩
end
section
set_option linter.unusedVariables false
set_option linter.unusedSimpArgs false
set_option maxRecDepth 100000
set_option maxHeartbeats 16000000
theorem str_add {a b c:List UInt8} (h:a.length+b.length≤1000000000) (e:a++b=c) (W:World):(Op.stringOp .add (strB a) (strB b)).run Tryz.prog W=.ok (.string (strB c)) W:=by
 rw[←e]
 show (Op.stringOp .add ⟨a.toArray⟩ ⟨b.toArray⟩).run Tryz.prog W=_
 rw[run_string_add_sum W _ _ (by simp[ByteArray.size];omega),cat_eq]
 rfl
theorem rsymT_le {x:Sy} (h:symB x=true):(rsymT x).length≤10000:=by
 obtain⟨s1,s2,s3⟩:=sym_small h
 have L1:(rpart1 x).length≤2306:=by
  unfold rpart1
  split
  ·exact print_le _
  ·rw[list_len];omega
 have Q1:=quo_le (s:=x.sep) (by omega)
 have Q2:=quo_le (s:=x.text) (by omega)
 have L2:(rpart x).length≤7000:=by
  unfold rpart
  split
  ·omega
  ·simp only[List.length_append,List.length_singleton];omega
 unfold rsymT
 split
 ·omega
 split
 ·simp only[List.length_append,List.length_singleton];omega
 split
 ·simp only[List.length_append,List.length_singleton];omega
 split
 ·simp only[List.length_append,List.length_singleton];omega
 ·omega
noncomputable def rprodA (p:Pr):List UInt8:=(((if p.lex then [108,101,120,32] else [99,102,32])++p.sort.data.toList)++(if em p.cons then [] else [46]++p.cons.data.toList))++[32,61]
noncomputable def rprodT (p:Pr):List UInt8:=(rprodA p++p.syms.flatMap fun x=>32::rsymT x)++(if p.bracket then [32, 98, 114, 97, 99, 107, 101, 116] else [])
theorem flat_take {l:List Sy} (h:∀x∈l,symB x=true) (k:Nat):((l.take k).flatMap fun x=>32::rsymT x).length≤10001*k:=by
 induction l generalizing k with
 | nil=>simp
 | cons x l ih=>
  cases k with
  | zero=>simp
  | succ k=>
   rw[List.take_succ_cons,List.flatMap_cons,List.length_append,List.length_cons]
   have h1:=rsymT_le (h x (by simp))
   have h2:=ih (fun y hy=>h y (List.mem_cons_of_mem _ hy)) k
   omega
theorem rprod_text (p:Pr) (v:Value) (hp:prodB p=true) (w:World) (hs:Sl w w.heap.size 8 SyV p.syms v):Calls Tryz.prog 73 #[.agg #[.bool p.lex,.string p.sort,.string p.cons,.bool p.bracket,v]] w fun e w'=>e=.returned (.string (strB (rprodT p)))∧Below w.heap.size w w':=by
 unfold prodB at hp
 simp only[Bool.and_eq_true,List.all_eq_true] at hp
 obtain⟨⟨⟨⟨p1,p2⟩,_⟩,p4⟩,p5⟩:=hp
 have q1:=nm_size p1
 have q2:=nmN_size p2
 have q4:=(by unfold btw at p4;simp only[Bool.and_eq_true,decide_eq_true_eq] at p4;omega : p.syms.length≤12)
 obtain⟨a,c,rfl,_,hl,hr⟩:=hs
 have HR:=hHi hr
 have HSY:Hid (∀x∈p.syms,symB x=true):=p5
 have HFT:Hid (∀k,((p.syms.take k).flatMap fun x=>32::rsymT x).length≤10001*k):=flat_take p5
 have HE:Hid (rprodT p=(rprodA p++p.syms.flatMap fun x=>32::rsymT x)++(if p.bracket then [32, 98, 114, 97, 99, 107, 101, 116] else [])):=rfl
 have HA:Hid (rprodA p=(((if p.lex then [108,101,120,32] else [99,102,32])++p.sort.data.toList)++(if em p.cons then [] else [46]++p.cons.data.toList))++[32,61]):=rfl
 obtain⟨N,hN⟩:∃N,p.syms.length=N:=⟨_,rfl⟩
 have HN:=hHi hN
 rw[hN] at hl q4 ⊢
 have ks:p.sort.data.toList.length≤32:=by rw[list_len];omega
 have kc:p.cons.data.toList.length≤32:=by rw[list_len];omega
 obtain⟨cn,hcn⟩:∃q,p.cons=q:=⟨_,rfl⟩
 obtain⟨so,hso⟩:∃q,p.sort.data.toList=q:=⟨_,rfl⟩
 have z1:p.sort=strB so:=by rw[←hso,strB_self]
 rw[hso] at HA ks
 rw[hcn] at HA kc
 have hz:=em_two' cn
 rw[z1,hcn]
 clear hr hN z1 hso hcn p1 p2 p4 p5 q1 q2
 generalize rprodT p=R at *
 generalize rprodA p=A4 at *
 generalize p.bracket=br at *
 have HKS:Hid (so.length≤32∧cn.data.toList.length≤32∧N≤12):=⟨ks,kc,q4⟩
 obtain⟨w1,hw1⟩:∃qW,w.alloc (.cells #[.bool p.lex,.string (strB so),.string cn,.bool br,.slice a N c] 57)=qW:=⟨_,rfl⟩
 have HB1:=kB hw1
 have HX1:=kN hw1
 obtain⟨d0,d1,d2,d3,d4⟩:=HX1.out.c5
 cases hlx:p.lex
 rw[hlx] at HA HX1 hw1 d0
 rw[if_neg (by decide)] at HA
 clear hlx
 obtain⟨A1,hA1⟩:∃q,([99,102,32]:List UInt8)++so=q:=⟨_,rfl⟩
 have ct0:∀W,(Op.stringOp .add ⟨#[99,102,32]⟩ (strB so)).run Tryz.prog W=.ok (.string (strB A1)) W:=fun W=>str_add (a:=[99,102,32]) (by simp;omega) hA1 W
 have l1:A1.length≤40:=by rw[←hA1];simp;omega
 rw[hA1] at HA
 clear hA1
 rcases hz with ⟨e0,e0'⟩ | ⟨e0,e0'⟩
 rw[if_pos e0,List.append_nil] at HA
 have ct3:∀W,(Op.stringOp .add (strB A1) ⟨#[32,61]⟩).run Tryz.prog W=.ok (.string (strB A4)) W:=fun W=>str_add (b:=[32,61]) (by simp;omega) HA.out.symm W
 have lA:A4.length≤120:=by rw[HA.out];simp;omega
 clear HA e0
 focus
  go_enter Tryz.func73,Tryz.ntmps73
  go_wp2
 rotate_left
 obtain⟨co,hco⟩:∃q,cn.data.toList=q:=⟨_,rfl⟩
 have z2:cn=strB co:=by rw[←hco,strB_self]
 rw[if_neg (by rw[e0];decide),hco] at HA
 rw[hco] at kc
 clear hco
 subst z2
 obtain⟨A2,hA2⟩:∃q,A1++[46]=q:=⟨_,rfl⟩
 obtain⟨A3,hA3⟩:∃q,A2++co=q:=⟨_,rfl⟩
 have ct1:∀W,(Op.stringOp .add (strB A1) ⟨#[46]⟩).run Tryz.prog W=.ok (.string (strB A2)) W:=fun W=>str_add (b:=[46]) (by simp;omega) hA2 W
 have l2:A2.length≤41:=by rw[←hA2];simp;omega
 have ct2:∀W,(Op.stringOp .add (strB A2) (strB co)).run Tryz.prog W=.ok (.string (strB A3)) W:=fun W=>str_add (by omega) hA3 W
 have l3:A3.length≤80:=by rw[←hA3];simp;omega
 have hA4:A3++[32,61]=A4:=by rw[HA.out,←hA3,←hA2];simp
 have ct3:∀W,(Op.stringOp .add (strB A3) ⟨#[32,61]⟩).run Tryz.prog W=.ok (.string (strB A4)) W:=fun W=>str_add (b:=[32,61]) (by simp;omega) hA4 W
 have lA:A4.length≤120:=by rw[←hA4];simp;omega
 clear HA e0 hA2 hA3 hA4
 focus
  go_enter Tryz.func73,Tryz.ntmps73
  go_wp2
 rotate_left
 rw[hlx] at HA HX1 hw1 d0
 rw[if_pos rfl] at HA
 clear hlx
 obtain⟨A1,hA1⟩:∃q,([108,101,120,32]:List UInt8)++so=q:=⟨_,rfl⟩
 have ct0:∀W,(Op.stringOp .add ⟨#[108,101,120,32]⟩ (strB so)).run Tryz.prog W=.ok (.string (strB A1)) W:=fun W=>str_add (a:=[108,101,120,32]) (by simp;omega) hA1 W
 have l1:A1.length≤40:=by rw[←hA1];simp;omega
 rw[hA1] at HA
 clear hA1
 rcases hz with ⟨e0,e0'⟩ | ⟨e0,e0'⟩
 rw[if_pos e0,List.append_nil] at HA
 have ct3:∀W,(Op.stringOp .add (strB A1) ⟨#[32,61]⟩).run Tryz.prog W=.ok (.string (strB A4)) W:=fun W=>str_add (b:=[32,61]) (by simp;omega) HA.out.symm W
 have lA:A4.length≤120:=by rw[HA.out];simp;omega
 clear HA e0
 focus
  go_enter Tryz.func73,Tryz.ntmps73
  go_wp2
 rotate_left
 obtain⟨co,hco⟩:∃q,cn.data.toList=q:=⟨_,rfl⟩
 have z2:cn=strB co:=by rw[←hco,strB_self]
 rw[if_neg (by rw[e0];decide),hco] at HA
 rw[hco] at kc
 clear hco
 subst z2
 obtain⟨A2,hA2⟩:∃q,A1++[46]=q:=⟨_,rfl⟩
 obtain⟨A3,hA3⟩:∃q,A2++co=q:=⟨_,rfl⟩
 have ct1:∀W,(Op.stringOp .add (strB A1) ⟨#[46]⟩).run Tryz.prog W=.ok (.string (strB A2)) W:=fun W=>str_add (b:=[46]) (by simp;omega) hA2 W
 have l2:A2.length≤41:=by rw[←hA2];simp;omega
 have ct2:∀W,(Op.stringOp .add (strB A2) (strB co)).run Tryz.prog W=.ok (.string (strB A3)) W:=fun W=>str_add (by omega) hA3 W
 have l3:A3.length≤80:=by rw[←hA3];simp;omega
 have hA4:A3++[32,61]=A4:=by rw[HA.out,←hA3,←hA2];simp
 have ct3:∀W,(Op.stringOp .add (strB A3) ⟨#[32,61]⟩).run Tryz.prog W=.ok (.string (strB A4)) W:=fun W=>str_add (b:=[32,61]) (by simp;omega) hA4 W
 have lA:A4.length≤120:=by rw[←hA4];simp;omega
 clear HA e0 hA2 hA3 hA4
 focus
  go_enter Tryz.func73,Tryz.ntmps73
  go_wp2
 rotate_left
 all_goals
  have HAL:Hid (A4.length≤120):=lA
  go_loopw[3,4] (fun sv iv W=>∃(k:Nat) (B:List UInt8),k≤N∧iv=.int .i64 k∧sv=.string (strB B)∧B=A4++((p.syms.take k).flatMap fun x=>32::rsymT x)∧Below w1.heap.size w1 W) (fun _ iv _=>N-(intOf iv).toNat)
  case atStart=>exact⟨0,A4,Nat.zero_le _,rfl,rfl,by simp,Below.refl _ _⟩
  case round=>
   obtain⟨k,B,hk,rfl,rfl,hB,hb⟩:=hrel
   have HBE:=hHi hB
   have HB:=hHi hb
   have HBL:Hid (B.length≤120+10001*k):=by show _≤_;rw[hB,List.length_append];have h1:=HFT.out k;have h2:=HAL.out;omega
   have HX2:=kA HX1 HB
   have HBW:Hid (Below w.heap.size w wr):=below_tr HB1.out HB.out
   obtain⟨c0,c1,c2,c3,c4⟩:=HX2.out.c5
   clear hB hb
   by_cases hlt:k<N
   case pos=>
    obtain⟨x,hx⟩:∃x,p.syms[k]?=some x:=⟨p.syms[k]'(by rw[HN.out];exact hlt),by simp⟩
    obtain⟨b,o,us,hb2,hlb,⟨hok,rfl⟩,hcl⟩:=HR.out k x hx
    subst hb2
    have hq_:=hcb HBW.out hlb hcl
    have g0:=hq_ 0 _ rfl
    have g1:=hq_ 1 _ rfl
    have g2:=hq_ 2 _ rfl
    have g3:=hq_ 3 _ rfl
    have g4:=hq_ 4 _ rfl
    have g5:=hq_ 5 _ rfl
    have g6:=hq_ 6 _ rfl
    have g7:=hq_ 7 _ rfl
    rw[Nat.add_zero] at g0
    have hltI:(k:Int)<N:=by omega
    have hsx:=HSY.out x (List.mem_of_getElem? hx)
    have HTX:Hid (∀W,Calls Tryz.prog 126 #[.agg #[.int .i64 x.kind,.string x.text,.int .u64 x.set.a,.int .u64 x.set.b,.int .u64 x.set.c,.int .u64 x.set.d,.string x.name,.string x.sep]] W fun e w'=>e=.returned (.string (strB (rsymT x)))∧Below W.heap.size W w'):=fun W=>rsym_text x hsx hok W
    have hle:=rsymT_le hsx
    have hbl:=HBL.out
    have h12:=HKS.out.2.2
    have HTK:Hid (((p.syms.take (k+1)).flatMap fun x=>32::rsymT x)=((p.syms.take k).flatMap fun x=>32::rsymT x)++(32::rsymT x)):=by
     show _=_
     have e:=List.getElem?_eq_some_iff.1 hx
     rw[List.take_succ_eq_append_getElem e.1,e.2,List.flatMap_append,List.flatMap_singleton]
    obtain⟨C,hC⟩:∃q,B++[32]=q:=⟨_,rfl⟩
    obtain⟨rt,hrt⟩:∃q,rsymT x=q:=⟨_,rfl⟩
    rw[hrt] at HTX HTK hle
    obtain⟨E,hE⟩:∃q,C++rt=q:=⟨_,rfl⟩
    have cC:C.length≤121+10001*k:=by rw[←hC,List.length_append,List.length_singleton];omega
    have f1:∀W,(Op.stringOp .add (strB B) ⟨#[32]⟩).run Tryz.prog W=.ok (.string (strB C)) W:=fun W=>str_add (b:=[32]) (by simp;omega) hC W
    have f2:∀W,(Op.stringOp .add (strB C) (strB rt)).run Tryz.prog W=.ok (.string (strB E)) W:=fun W=>str_add (by omega) hE W
    have HEE:Hid (E=A4++((p.syms.take (k+1)).flatMap fun x=>32::rsymT x)):=by show _=_;rw[←hE,←hC,HTK.out,HBE.out];simp
    clear hq_ hcl hx hok hsx hle hbl h12 hC hrt hE cC
    go_wp2_with fail
    refine (HTX.out _).mono ?_
    rintro e w3 ⟨rfl,hb⟩
    have HB3:Hid (Below w1.heap.size w1 w3):=below_tr HB.out hb
    clear hb
    go_wp2
    go_roundw
    case rel=>exact⟨k+1,E,by omega,by go_num,rfl,HEE.out,HB3.out⟩
    case measure=>simp[intOf];omega
   obtain rfl:N=k:=by omega
   have HBF:Hid (B=A4++(p.syms.flatMap fun x=>32::rsymT x)):=by show _=_;rw[HBE.out,List.take_of_length_le (by rw[HN.out];exact Nat.le_refl _)]
   have h12:=HKS.out.2.2
   have hbl:=HBL.out
   obtain⟨F,hF⟩:∃q,B++[32, 98, 114, 97, 99, 107, 101, 116]=q:=⟨_,rfl⟩
   have f3:∀W,(Op.stringOp .add (strB B) ⟨#[32, 98, 114, 97, 99, 107, 101, 116]⟩).run Tryz.prog W=.ok (.string (strB F)) W:=fun W=>str_add (b:=[32, 98, 114, 97, 99, 107, 101, 116]) (by simp;omega) hF W
   have HF:=hHi hF
   clear hF h12 hbl
   cases br
   ·have HRR:Hid (R=B):=by show _=_;rw[HE.out,if_neg (by decide),List.append_nil,HBF.out]
    go_wp2
    go_ret
    exact⟨by rw[HRR.out];rfl,HBW.out⟩
   ·have HRR:Hid (R=F):=by show _=_;rw[HE.out,if_pos rfl,←HBF.out,HF.out]
    go_wp2
    go_ret
    exact⟨by rw[HRR.out];rfl,HBW.out⟩
end
end Go.Proofs.YtcpakcffiopfjaaGreatDoor
