/- Two texts, one behind the other, say what both say: the law's walk. -/
import Derived.Test.YtcpakcffiopfjaaGreatDoorT5
import Derived.Test.YtcpakcffiopfjaaGreatDoorG2
namespace Go.Proofs.YtcpakcffiopfjaaGreatDoor
open Go.RowKit
set_option linter.unusedVariables false
set_option linter.unusedSimpArgs false
set_option maxRecDepth 100000
set_option maxHeartbeats 16000000
theorem da_shape {w:World} {x:Df} {vs:List Value} (h:DA w x vs):∃x2 xc2 x3 xc3 x4 xc4 x5 xc5 x6 xc6,vs=[.string x.start,.string x.layout,.slice x2 x.prods.length xc2,.slice x3 x.chains.length xc3,.slice x4 x.follows.length xc4,.slice x5 x.rejects.length xc5,.slice x6 x.boxes.length xc6]:=by
 obtain⟨f,v2,v3,v4,v5,v6,rfl,h2,h3,h4,h5,h6⟩:=h.at'
 obtain⟨_,_,rfl,_⟩:=h2
 obtain⟨_,_,rfl,_⟩:=h3
 obtain⟨_,_,rfl,_⟩:=h4
 obtain⟨_,_,rfl,_⟩:=h5
 obtain⟨_,_,rfl,_⟩:=h6
 exact⟨_,_,_,_,_,_,_,_,_,_,rfl⟩
theorem par_small {s:List UInt8} {x:Df} {L:List Wd} (h:parR s=.ok x L):RightD x∧x.prods.length≤100000∧x.chains.length≤100000∧x.follows.length≤100000∧x.rejects.length≤100000∧x.boxes.length≤100000:=by
 have hr:=(right_iff x).1 (par_right h)
 have hf:=par_few h
 have:=hr.n
 exact⟨hr,by omega,by omega,by omega,by omega,by omega⟩
theorem parse_form (s:ByteArray) (W:World):Calls Tryz.prog 19 #[.string s] W fun e w'=>∃(x:Df) (x2:Option Addr) (xc2:Nat) (x3:Option Addr) (xc3:Nat) (x4:Option Addr) (xc4:Nat) (x5:Option Addr) (xc5:Nat) (x6:Option Addr) (xc6:Nat) (fa fc:Nat),e=.returned (.tuple #[.agg #[.string x.start,.string x.layout,.slice x2 x.prods.length xc2,.slice x3 x.chains.length xc3,.slice x4 x.follows.length xc4,.slice x5 x.rejects.length xc5,.slice x6 x.boxes.length xc6],.agg #[.int .i64 (fa:Int),.int .i64 (fc:Int)]])∧(fc=0→(∃L,parR s.data.toList=.ok x L)∧DA w' x [.string x.start,.string x.layout,.slice x2 x.prods.length xc2,.slice x3 x.chains.length xc3,.slice x4 x.follows.length xc4,.slice x5 x.rejects.length xc5,.slice x6 x.boxes.length xc6])∧(x.prods.length≤100000∧x.chains.length≤100000∧x.follows.length≤100000∧x.rejects.length≤100000∧x.boxes.length≤100000)∧Below W.heap.size W w':=by
 refine (dparse_any s W).mono ?_
 intro e w' h
 cases hr:parR s.data.toList with
 | bad q c=>
  rw[hr] at h
  obtain⟨rfl,hb⟩:=h
  have hn:=nz_par s.data.toList q c hr
  exact⟨Df0,none,0,none,0,none,0,none,0,none,0,q,c,rfl,fun h0=>absurd h0 hn,⟨by decide,by decide,by decide,by decide,by decide⟩,hb⟩
 | ok x L=>
  rw[hr] at h
  obtain⟨⟨v2,v3,v4,v5,v6,rfl,hd⟩,hb⟩:=h
  obtain⟨x2,xc2,x3,xc3,x4,xc4,x5,xc5,x6,xc6,e⟩:=da_shape hd
  simp only[List.cons.injEq,and_true,true_and] at e
  obtain⟨rfl,rfl,rfl,rfl,rfl⟩:=e
  exact⟨x,_,_,_,_,_,_,_,_,_,_,0,0,rfl,fun _=>⟨⟨L,rfl⟩,hd⟩,(par_small hr).2,hb⟩
theorem parse_sum {s:ByteArray} {x y:Df} {L:List Wd} (h:parR s.data.toList=.ok (addD x y) L) (W:World):Calls Tryz.prog 19 #[.string s] W fun e w'=>∃z2 zc2 z3 zc3 z4 zc4 z5 zc5 z6 zc6,e=.returned (.tuple #[.agg #[.string x.start,.string x.layout,.slice z2 (x.prods.length+y.prods.length) zc2,.slice z3 (x.chains.length+y.chains.length) zc3,.slice z4 (x.follows.length+y.follows.length) zc4,.slice z5 (x.rejects.length+y.rejects.length) zc5,.slice z6 (x.boxes.length+y.boxes.length) zc6],.agg #[.int .i64 0,.int .i64 0]])∧DA w' (addD x y) [.string x.start,.string x.layout,.slice z2 (x.prods.length+y.prods.length) zc2,.slice z3 (x.chains.length+y.chains.length) zc3,.slice z4 (x.follows.length+y.follows.length) zc4,.slice z5 (x.rejects.length+y.rejects.length) zc5,.slice z6 (x.boxes.length+y.boxes.length) zc6]∧Below W.heap.size W w':=by
 refine (dparse_any s W).mono ?_
 intro e w' k
 rw[h] at k
 obtain⟨⟨v2,v3,v4,v5,v6,rfl,hd⟩,hb⟩:=k
 obtain⟨z2,zc2,z3,zc3,z4,zc4,z5,zc5,z6,zc6,e⟩:=da_shape hd
 simp only[List.cons.injEq,and_true,true_and] at e
 obtain⟨rfl,rfl,rfl,rfl,rfl⟩:=e
 simp only[addD,List.length_append] at hd ⊢
 exact⟨_,_,_,_,_,_,_,_,_,_,rfl,hd,hb⟩
theorem defsTwo_walk (a b:ByteArray) (w:World) (hza:a.size≤140737488355328) (hzb:b.size≤140737488355328) (hTab:Tab w.heap.size w):
  Calls Tryz.prog 6 #[.string a,.string b] w fun e w'=>e=.returned (.bool true)∧Below w.heap.size w w':=by
 have HTB:Hid (Tab w.heap.size w):=hTab
 have HAL:Hid (∀W,Below w.heap.size w W→Calls Tryz.prog 11 #[] W fun e w'=>e=.returned (.bool true)∧Below W.heap.size W w'):=fun W h=>alive_any W (HTB.out.nx h)
 clear hTab HTB
 by_cases h1:20000<a.size+b.size
 ·have h1':(20000:Int)<(a.size:Int)+b.size:=by omega
  go_enter Tryz.func6,Tryz.ntmps6
  go_wp2_with fail
  refine (HAL.out w (Below.refl _ _)).mono ?_
  rintro e w1 ⟨rfl,hb⟩
  go_wp2
  go_ret
  exact⟨rfl,hb⟩
 have h1':(a.size:Int)+b.size≤20000:=by omega
 have HSA:Hid (a.size+b.size≤20000):=by show _≤_;omega
 clear h1
 go_enter Tryz.func6,Tryz.ntmps6
 go_wp2_with fail
 refine (parse_form a w).mono ?_
 rintro e w1 ⟨x,x2,xc2,x3,xc3,x4,xc4,x5,xc5,x6,xc6,fa,fc,rfl,hx,hxs,hb⟩
 have HX:=hHi hx
 have HXS:=hHi hxs
 have HB1:=hHi hb
 clear hx hxs hb
 go_wp2_with fail
 obtain⟨W1,hW1⟩:∃W1,(w1.alloc (.cells #[.string x.start,.string x.layout,.slice x2 x.prods.length xc2,.slice x3 x.chains.length xc3,.slice x4 x.follows.length xc4,.slice x5 x.rejects.length xc5,.slice x6 x.boxes.length xc6] 28)).alloc (.cells #[.int .i64 (fa:Int),.int .i64 (fc:Int)] 37)=W1:=⟨_,rfl⟩
 rw[hW1]
 have HN1:Hid (Below w1.heap.size w1 W1):=by show Below _ _ _;rw[←hW1];exact ((Below.refl _ _).alloc (Nat.le_refl _) _).alloc (by simp) _
 have HKX:Hid (Blk W1 w1.heap.size 28 #[.string x.start,.string x.layout,.slice x2 x.prods.length xc2,.slice x3 x.chains.length xc3,.slice x4 x.follows.length xc4,.slice x5 x.rejects.length xc5,.slice x6 x.boxes.length xc6]):=by show Blk _ _ _ _;rw[←hW1];exact (Blk.new w1 28 _).alloc _
 have HKF:Hid (Blk W1 (w1.heap.size+1) 37 #[.int .i64 (fa:Int),.int .i64 (fc:Int)]):=by
  show Blk _ _ _ _
  rw[←hW1]
  have:=Blk.new (w1.alloc (.cells #[.string x.start,.string x.layout,.slice x2 x.prods.length xc2,.slice x3 x.chains.length xc3,.slice x4 x.follows.length xc4,.slice x5 x.rejects.length xc5,.slice x6 x.boxes.length xc6] 28)) 37 #[.int .i64 (fa:Int),.int .i64 (fc:Int)]
  simpa using this
 clear hW1
 refine (parse_form b W1).mono ?_
 rintro e w2 ⟨y,y2,yc2,y3,yc3,y4,yc4,y5,yc5,y6,yc6,ga,gc,rfl,hy,hys,hb⟩
 have HY:=hHi hy
 have HYS:=hHi hys
 have HB2:=hHi hb
 have HN2:Hid (Below w1.heap.size w1 w2):=below_tr HN1.out hb
 clear hy hys hb
 have HKXw:=kA HKX HB2
 have HKFw:=kA HKF HB2
 obtain⟨cx0,cx1,cx2,cx3,cx4,cx5,cx6⟩:=HKXw.out.c7
 obtain⟨cf0,cf1⟩:=HKFw.out.c2
 have lx:=HKXw.out.lt
 have lf:=HKFw.out.lt
 have hs2:=HXS.out.1
 have ht2:=HYS.out.1
 by_cases k1:fc=0
 case neg=>
  have k1':((fc:Int) != 0)=true:=by simp;omega
  clear k1
  go_wp2_with fail
  obtain⟨W2,hW2⟩:∃W2,(w2.alloc (.cells #[.string y.start,.string y.layout,.slice y2 y.prods.length yc2,.slice y3 y.chains.length yc3,.slice y4 y.follows.length yc4,.slice y5 y.rejects.length yc5,.slice y6 y.boxes.length yc6] 28)).alloc (.cells #[.int .i64 (ga:Int),.int .i64 (gc:Int)] 37)=W2:=⟨_,rfl⟩
  rw[hW2]
  have HN3:Hid (Below w2.heap.size w2 W2):=by show Below _ _ _;rw[←hW2];exact ((Below.refl _ _).alloc (Nat.le_refl _) _).alloc (by simp) _
  have HBW:Hid (Below w.heap.size w W2):=below_tr (below_tr HB1.out HN2.out) HN3.out
  clear hW2
  refine (HAL.out W2 HBW.out).mono ?_
  rintro e wz ⟨rfl,hb⟩
  have HBz:=hHi (below_tr HBW.out hb)
  clear hb
  go_wp2
  go_ret
  exact⟨rfl,HBz.out⟩
 subst k1
 by_cases k2:gc=0
 case neg=>
  have k2':((gc:Int) != 0)=true:=by simp;omega
  clear k2
  go_wp2_with fail
  obtain⟨W2,hW2⟩:∃W2,(w2.alloc (.cells #[.string y.start,.string y.layout,.slice y2 y.prods.length yc2,.slice y3 y.chains.length yc3,.slice y4 y.follows.length yc4,.slice y5 y.rejects.length yc5,.slice y6 y.boxes.length yc6] 28)).alloc (.cells #[.int .i64 (ga:Int),.int .i64 (gc:Int)] 37)=W2:=⟨_,rfl⟩
  rw[hW2]
  have HN3:Hid (Below w2.heap.size w2 W2):=by show Below _ _ _;rw[←hW2];exact ((Below.refl _ _).alloc (Nat.le_refl _) _).alloc (by simp) _
  have HBW:Hid (Below w.heap.size w W2):=below_tr (below_tr HB1.out HN2.out) HN3.out
  clear hW2
  refine (HAL.out W2 HBW.out).mono ?_
  rintro e wz ⟨rfl,hb⟩
  have HBz:=hHi (below_tr HBW.out hb)
  clear hb
  go_wp2
  go_ret
  exact⟨rfl,HBz.out⟩
 subst k2
 rcases em_two' y.start with ⟨k3,k3'⟩ | ⟨k3,k3'⟩
 case inr=>
  clear k3
  go_wp2_with fail
  obtain⟨W2,hW2⟩:∃W2,(w2.alloc (.cells #[.string y.start,.string y.layout,.slice y2 y.prods.length yc2,.slice y3 y.chains.length yc3,.slice y4 y.follows.length yc4,.slice y5 y.rejects.length yc5,.slice y6 y.boxes.length yc6] 28)).alloc (.cells #[.int .i64 (ga:Int),.int .i64 0] 37)=W2:=⟨_,rfl⟩
  rw[hW2]
  have HN3:Hid (Below w2.heap.size w2 W2):=by show Below _ _ _;rw[←hW2];exact ((Below.refl _ _).alloc (Nat.le_refl _) _).alloc (by simp) _
  have HBW:Hid (Below w.heap.size w W2):=below_tr (below_tr HB1.out HN2.out) HN3.out
  clear hW2
  refine (HAL.out W2 HBW.out).mono ?_
  rintro e wz ⟨rfl,hb⟩
  have HBz:=hHi (below_tr HBW.out hb)
  clear hb
  go_wp2
  go_ret
  exact⟨rfl,HBz.out⟩
 rcases em_two' y.layout with ⟨k4,k4'⟩ | ⟨k4,k4'⟩
 case inr=>
  clear k3 k4
  go_wp2_with fail
  obtain⟨W2,hW2⟩:∃W2,(w2.alloc (.cells #[.string y.start,.string y.layout,.slice y2 y.prods.length yc2,.slice y3 y.chains.length yc3,.slice y4 y.follows.length yc4,.slice y5 y.rejects.length yc5,.slice y6 y.boxes.length yc6] 28)).alloc (.cells #[.int .i64 (ga:Int),.int .i64 0] 37)=W2:=⟨_,rfl⟩
  rw[hW2]
  have HN3:Hid (Below w2.heap.size w2 W2):=by show Below _ _ _;rw[←hW2];exact ((Below.refl _ _).alloc (Nat.le_refl _) _).alloc (by simp) _
  have HBW:Hid (Below w.heap.size w W2):=below_tr (below_tr HB1.out HN2.out) HN3.out
  clear hW2
  refine (HAL.out W2 HBW.out).mono ?_
  rintro e wz ⟨rfl,hb⟩
  have HBz:=hHi (below_tr HBW.out hb)
  clear hb
  go_wp2
  go_ret
  exact⟨rfl,HBz.out⟩
 by_cases k5:200<x.prods.length+y.prods.length
 case pos=>
  have k5':(200:Int)<(x.prods.length:Int)+y.prods.length:=by omega
  clear k3 k4 k5
  go_wp2_with fail
  obtain⟨W2,hW2⟩:∃W2,(w2.alloc (.cells #[.string y.start,.string y.layout,.slice y2 y.prods.length yc2,.slice y3 y.chains.length yc3,.slice y4 y.follows.length yc4,.slice y5 y.rejects.length yc5,.slice y6 y.boxes.length yc6] 28)).alloc (.cells #[.int .i64 (ga:Int),.int .i64 0] 37)=W2:=⟨_,rfl⟩
  rw[hW2]
  have HN3:Hid (Below w2.heap.size w2 W2):=by show Below _ _ _;rw[←hW2];exact ((Below.refl _ _).alloc (Nat.le_refl _) _).alloc (by simp) _
  have HBW:Hid (Below w.heap.size w W2):=below_tr (below_tr HB1.out HN2.out) HN3.out
  clear hW2
  refine (HAL.out W2 HBW.out).mono ?_
  rintro e wz ⟨rfl,hb⟩
  have HBz:=hHi (below_tr HBW.out hb)
  clear hb
  go_wp2
  go_ret
  exact⟨rfl,HBz.out⟩
 have k5':(x.prods.length:Int)+y.prods.length≤200:=by omega
 have hem:∀n:ByteArray,em n=true→n=⟨#[]⟩:=fun n hn=>by
  by_cases h0:n.size=0
  ·exact str_empty _ h0
  ·rw[em_ne h0] at hn;cases hn
 obtain⟨⟨La,hpa⟩,hdx⟩:=HX.out rfl
 obtain⟨⟨Lb0,hpb⟩,hdy⟩:=HY.out rfl
 obtain⟨LL,hpz⟩:=par_both (by rw[list_len,list_len];exact HSA.out) hpa hpb (hem _ k3) (hem _ k4) (by omega)
 have HZ:Hid (∀W,Calls Tryz.prog 19 #[.string ((a++⟨#[10]⟩)++b)] W fun e w'=>∃z2 zc2 z3 zc3 z4 zc4 z5 zc5 z6 zc6,e=.returned (.tuple #[.agg #[.string x.start,.string x.layout,.slice z2 (x.prods.length+y.prods.length) zc2,.slice z3 (x.chains.length+y.chains.length) zc3,.slice z4 (x.follows.length+y.follows.length) zc4,.slice z5 (x.rejects.length+y.rejects.length) zc5,.slice z6 (x.boxes.length+y.boxes.length) zc6],.agg #[.int .i64 0,.int .i64 0]])∧DA w' (addD x y) [.string x.start,.string x.layout,.slice z2 (x.prods.length+y.prods.length) zc2,.slice z3 (x.chains.length+y.chains.length) zc3,.slice z4 (x.follows.length+y.follows.length) zc4,.slice z5 (x.rejects.length+y.rejects.length) zc5,.slice z6 (x.boxes.length+y.boxes.length) zc6]∧Below W.heap.size W w'):=fun W=>parse_sum (L:=LL) (by rw[show ((a++⟨#[10]⟩)++b:ByteArray).data.toList=a.data.toList++10::b.data.toList by simp[ByteArray.data_append]];exact hpz) W
 obtain⟨fz,hfz⟩:=szd_of (par_small hpa).1 (by have:=HXS.out;omega) (by have:=HXS.out;omega) (by have:=HXS.out;omega) (by have:=HXS.out;omega)
 have HFZ:=hHi hfz
 have HDX:=hHi hdx
 have HDY:=hHi hdy
 clear hpa hpb hpz hfz hdx hdy hem k3 k4 k5 HX HY
 go_wp2_with fail
 obtain⟨W2,hW2⟩:∃W2,(w2.alloc (.cells #[.string y.start,.string y.layout,.slice y2 y.prods.length yc2,.slice y3 y.chains.length yc3,.slice y4 y.follows.length yc4,.slice y5 y.rejects.length yc5,.slice y6 y.boxes.length yc6] 28)).alloc (.cells #[.int .i64 (ga:Int),.int .i64 0] 37)=W2:=⟨_,rfl⟩
 rw[hW2]
 have HN3:Hid (Below w2.heap.size w2 W2):=by show Below _ _ _;rw[←hW2];exact ((Below.refl _ _).alloc (Nat.le_refl _) _).alloc (by simp) _
 have HBW:Hid (Below w.heap.size w W2):=below_tr (below_tr HB1.out HN2.out) HN3.out
 have HKY:Hid (Blk W2 w2.heap.size 28 #[.string y.start,.string y.layout,.slice y2 y.prods.length yc2,.slice y3 y.chains.length yc3,.slice y4 y.follows.length yc4,.slice y5 y.rejects.length yc5,.slice y6 y.boxes.length yc6]):=by show Blk _ _ _ _;rw[←hW2];exact (Blk.new w2 28 _).alloc _
 have HKX2:=kA HKXw HN3
 have HDX2:Hid (DA W2 x [.string x.start,.string x.layout,.slice x2 x.prods.length xc2,.slice x3 x.chains.length xc3,.slice x4 x.follows.length xc4,.slice x5 x.rejects.length xc5,.slice x6 x.boxes.length xc6]):=HDX.out.nx (below_tr HN2.out HN3.out)
 clear hW2 cx0 cx1 cx2 cx3 cx4 cx5 cx6 cf0 cf1 lx lf
 refine (HZ.out W2).mono ?_
 rintro e w3 ⟨z2,zc2,z3,zc3,z4,zc4,z5,zc5,z6,zc6,rfl,hdz,hb⟩
 have HB3:=hHi hb
 have HDZ:=hHi hdz
 have HKX3:=kA HKX2 HB3
 have HKY3:=kA HKY HB3
 clear hb hdz HZ HKX2 HKY
 have lx:=HKX3.out.lt
 have ly:=HKY3.out.lt
 obtain⟨cx0,cx1,cx2,cx3,cx4,cx5,cx6⟩:=HKX3.out.c7
 obtain⟨cy0,cy1,cy2,cy3,cy4,cy5,cy6⟩:=HKY3.out.c7
 have lx1:w1.heap.size<w3.heap.size+1:=by omega
 have lx2:w1.heap.size<w3.heap.size+1+1:=by omega
 have ly1:w2.heap.size<w3.heap.size+1:=by omega
 have ly2:w2.heap.size<w3.heap.size+1+1:=by omega
 have b2:=HXS.out
 have b3:=HYS.out
 go_wp2_with fail
 obtain⟨W4,hW4⟩:∃W4,((w3.alloc (.cells #[.string x.start,.string x.layout,.slice z2 (x.prods.length+y.prods.length) zc2,.slice z3 (x.chains.length+y.chains.length) zc3,.slice z4 (x.follows.length+y.follows.length) zc4,.slice z5 (x.rejects.length+y.rejects.length) zc5,.slice z6 (x.boxes.length+y.boxes.length) zc6] 28)).alloc (.cells #[.int .i64 0,.int .i64 0] 37)).alloc (.cells #[.string ⟨#[]⟩,.string ⟨#[]⟩,.slice none 0 0,.slice none 0 0,.slice none 0 0,.slice none 0 0,.slice none 0 0] 28)=W4:=⟨_,rfl⟩
 rw[hW4]
 have HN4:Hid (Below w3.heap.size w3 W4):=by show Below _ _ _;rw[←hW4];exact (((Below.refl _ _).alloc (Nat.le_refl _) _).alloc (by simp) _).alloc (by simp;omega) _
 have HS4:Hid (W4.heap.size=w3.heap.size+3):=by show _=_;rw[←hW4];simp
 have HKA:Hid (Blk W4 w3.heap.size 28 #[.string x.start,.string x.layout,.slice z2 (x.prods.length+y.prods.length) zc2,.slice z3 (x.chains.length+y.chains.length) zc3,.slice z4 (x.follows.length+y.follows.length) zc4,.slice z5 (x.rejects.length+y.rejects.length) zc5,.slice z6 (x.boxes.length+y.boxes.length) zc6]):=by show Blk _ _ _ _;rw[←hW4];exact ((Blk.new w3 28 _).alloc _).alloc _
 have HKW:Hid (Blk W4 (w3.heap.size+2) 28 #[.string ⟨#[]⟩,.string ⟨#[]⟩,.slice none 0 0,.slice none 0 0,.slice none 0 0,.slice none 0 0,.slice none 0 0]):=by
  show Blk _ _ _ _
  rw[←hW4]
  have:=Blk.new ((w3.alloc (.cells #[.string x.start,.string x.layout,.slice z2 (x.prods.length+y.prods.length) zc2,.slice z3 (x.chains.length+y.chains.length) zc3,.slice z4 (x.follows.length+y.follows.length) zc4,.slice z5 (x.rejects.length+y.rejects.length) zc5,.slice z6 (x.boxes.length+y.boxes.length) zc6] 28)).alloc (.cells #[.int .i64 0,.int .i64 0] 37)) 28 #[.string ⟨#[]⟩,.string ⟨#[]⟩,.slice none 0 0,.slice none 0 0,.slice none 0 0,.slice none 0 0,.slice none 0 0]
  simpa using this
 have HKX4:=kA HKX3 HN4
 have HKY4:=kA HKY3 HN4
 have HBX:Hid (Below w1.heap.size w1 W4):=below_tr (below_tr (below_tr HN2.out HN3.out) HB3.out) HN4.out
 have HBY:Hid (Below w2.heap.size w2 W4):=below_tr (below_tr HN3.out HB3.out) HN4.out
 have HBW4:Hid (Below w.heap.size w W4):=below_tr (below_tr HBW.out HB3.out) HN4.out
 have HCP:=hU (rcopy_in x _ W4 fz (HDX.out.nx HBX.out) HFZ.out (by omega) (by omega) (by omega) (by omega) (by omega))
 obtain⟨bw,hbw⟩:∃q,w3.heap.size+2=q:=⟨_,rfl⟩
 rw[hbw] at HKW ⊢
 have HS5:Hid (W4.heap.size=bw+1):=by show _=_;rw[←hbw];exact HS4.out
 have HLX:Hid (w1.heap.size<bw∧w2.heap.size<bw∧w3.heap.size<bw):=by show _∧_∧_;have:=lx;have:=ly;omega
 clear hW4 cx0 cx1 cx2 cx3 cx4 cx5 cx6 cy0 cy1 cy2 cy3 cy4 cy5 cy6 lx ly lx1 lx2 ly1 ly2 HKX3 HKY3
 refine hMo HCP ?_
 rintro e wc ⟨u2,u3,u4,u5,u6,Lp,Lc,Lb,H,rfl,hdi,hH,hbc⟩
 have HDI:Hid (DefIn wc (W4.heap.size+3) H x u2 u3 u4 u5 u6 Lp Lc Lb):=hdi
 have HBC:Hid (Below W4.heap.size W4 wc):=hbc
 have HHH:=hHi hH
 obtain⟨f,a2,p2,a3,p3,a4,p4,a5,p5,a6,p6,Mp,Mc,Mb,hys,hyp⟩:=yp_of HDY.out
 simp only[List.cons.injEq,and_true,true_and,Value.slice.injEq] at hys
 obtain⟨⟨e21,e22⟩,⟨e31,e32⟩,⟨e41,e42⟩,⟨e51,e52⟩,⟨e61,e62⟩⟩:=hys
 subst e21 e22 e31 e32 e41 e42 e51 e52 e61 e62
 have HYP:=hHi hyp
 have HLp:Hid (Lp.length=x.prods.length):=by show _=_;have:=congrArg List.length hdi.ep;rw[List.length_map] at this;exact this
 have HLc:Hid (Lc.length=x.chains.length):=by show _=_;have:=congrArg List.length hdi.ec;rw[List.length_map] at this;exact this
 have HLb:Hid (Lb.length=x.boxes.length):=by show _=_;have:=congrArg List.length hdi.eb;rw[List.length_map] at this;exact this
 have HMp:Hid (Mp.length=y.prods.length):=by show _=_;have:=congrArg List.length hyp.ep;rw[List.length_map] at this;exact this
 have HMc:Hid (Mc.length=y.chains.length):=by show _=_;have:=congrArg List.length hyp.ec;rw[List.length_map] at this;exact this
 have HMb:Hid (Mb.length=y.boxes.length):=by show _=_;have:=congrArg List.length hyp.eb;rw[List.length_map] at this;exact this
 obtain⟨va2,vc2,hu2⟩:=own_slice hdi.rp
 obtain⟨va3,vc3,hu3⟩:=own_slice hdi.rc
 obtain⟨va4,vc4,hu4⟩:=own_slice hdi.rf
 obtain⟨va5,vc5,hu5⟩:=own_slice hdi.rr
 obtain⟨va6,vc6,hu6⟩:=own_slice hdi.rb
 subst hu2 hu3 hu4 hu5 hu6
 have HKWc:=kA HKW HBC
 have HKXc:=kA HKX4 HBC
 have HKYc:=kA HKY4 HBC
 have HKAc:=kA HKA HBC
 have HYC:Hid (Below w2.heap.size w2 wc):=below_tr HBY.out HBC.out
 have HCS:Hid (bw+1+3≤wc.heap.size):=by show _≤_;have h1:=HDI.out.up;have h2:=HHH.out;have h3:=HS5.out;omega
 clear hdi hH hbc hyp
 rw[HS5.out] at HDI HHH
 obtain⟨t0,ht0⟩:∃q,(((((((wc.setCell ⟨bw,0,none⟩ (.string x.start)).setCell ⟨bw,1,none⟩ (.string x.layout)).setCell ⟨bw,2,none⟩ (.slice va2 Lp.length vc2)).setCell ⟨bw,3,none⟩ (.slice va3 Lc.length vc3)).setCell ⟨bw,4,none⟩ (.slice va4 x.follows.length vc4)).setCell ⟨bw,5,none⟩ (.slice va5 x.rejects.length vc5)).setCell ⟨bw,6,none⟩ (.slice va6 Lb.length vc6))=q:=⟨_,rfl⟩
 have K7:=set7 HKWc.out (.string x.start) (.string x.layout) (.slice va2 Lp.length vc2) (.slice va3 Lc.length vc3) (.slice va4 x.follows.length vc4) (.slice va5 x.rejects.length vc5) (.slice va6 Lb.length vc6)
 rw[ht0] at K7
 have HG0:Hid (wc.grownBy t0 (some bw)):=K7.2
 have HT0:Hid (TW wc t0 bw (bw+1+3) x.start x.layout (SS (bw+1+3) H [.slice va2 Lp.length vc2,.slice va3 Lc.length vc3,.slice va4 x.follows.length vc4,.slice va5 x.rejects.length vc5,.slice va6 Lb.length vc6]) (.slice va2 Lp.length vc2) (.slice va3 Lc.length vc3) (.slice va4 x.follows.length vc4) (.slice va5 x.rejects.length vc5) (.slice va6 Lb.length vc6) Lp Lc x.follows x.rejects Lb):=by
  show TW _ _ _ _ _ _ _ _ _ _ _ _ _ _ _ _ _
  have hup:=HDI.out.up
  have hcs:=HCS.out
  refine⟨below_gr K7.2 (Nat.le_refl _) (by omega),by omega,by omega,K7.1,?_,?_,?_,?_,?_,fun b hb=>⟨hb.1,by have:=hb.2.1;omega,K7.2.block b (by have:=hb.2.1;omega) (by have:=hb.1;simp;omega)⟩⟩
  ·exact own_kept HDI.out.rp K7.2 (by omega)
  ·exact own_kept HDI.out.rc K7.2 (by omega)
  ·exact own_kept HDI.out.rf K7.2 (by omega)
  ·exact own_kept HDI.out.rr K7.2 (by omega)
  ·exact own_kept HDI.out.rb K7.2 (by omega)
 have zf:=HKWc.out.frozen
 have lf:=HKWc.out.lt
 obtain⟨w0,w1',w2',w3',w4',w5',w6'⟩:=HKWc.out.c7
 clear K7
 obtain⟨o0,o1,o2,o3,o4,o5,o6⟩:=HT0.out.box.c7
 have HYK:Hid (Blk t0 w2.heap.size 28 #[.string y.start,.string y.layout,.slice y2 y.prods.length yc2,.slice y3 y.chains.length yc3,.slice y4 y.follows.length yc4,.slice y5 y.rejects.length yc5,.slice y6 y.boxes.length yc6]):=(HT0.out.bel.block w2.heap.size HLX.out.2.1).trans HKYc.out
 obtain⟨cy0,cy1,cy2,cy3,cy4,cy5,cy6⟩:=HYK.out.c7
 have HYB0:Hid (Below w2.heap.size w2 t0):=HYC.out.trans (HT0.out.bel.mono (Nat.le_of_lt HLX.out.2.1))
 have HRC:=hHi (cells_at HYP.out.c2 HYB0.out)
 have HSZ0:Hid (bw+1+3≤t0.heap.size):=by show _≤_;have h1:=HT0.out.bel.size;have h2:=HCS.out;omega
 go_wp2_with (at_builtin;refine wpList_app_slm rfl _ _ 22 57 5 72 rfl Tryz.underlying22 info57 rfl (by decide) pcell (fun _=>rfl) (bw+1+3) (.slice va2 Lp.length vc2) Lp.length (Lp.flatMap pcell) rfl HT0.out.p2 Mp y2 yc2 (by rw[HMp.out];rfl) HRC.out ?cb1 ?cb2 ?cb3 HSZ0.out ?_)
 case cb1=>
  intro q hq u hu
  obtain⟨_,_,ev,_⟩:=HYP.out.sp q hq;rw[show q=(q.1,q.2) from rfl,ev] at hu;simp[pcell] at hu;rcases hu with rfl | rfl | rfl | rfl | rfl<;>rfl
 case cb2=>have:=HLp.out;have:=HMp.out;unfold maxLen;omega
 case cb3=>have:=HLp.out;have:=HMp.out;omega
 intro xa2 xc2 s2 hown hgr
 obtain⟨hbx,htw⟩:=HT0.out.a2 (x:=.slice xa2 (Lp.length+Mp.length) xc2) (m:=Mp) hgr (by first | exact hown | simpa using hown) (fun b hb=>hb.2.2 _ (by simp))
 have HT0s:=hHi htw
 have HBX0:=hHi hbx
 clear hown hgr hbx htw o0 o1 o2 o3 o4 o5 o6 cy0 cy1 cy2 cy3 cy4 cy5 cy6 HRC zf lf w0 w1' w2' w3' w4' w5' w6' ht0
 obtain⟨q0,q1,q2,q3,q4,q5,q6⟩:=HBX0.out.c7
 have zr:=HBX0.out.frozen
 have lr:=HBX0.out.lt
 obtain⟨t1,ht1⟩:∃q,s2.setCell ⟨bw,2,none⟩ (.slice xa2 (Lp.length+Mp.length) xc2)=q:=⟨_,rfl⟩
 have HT1:Hid (TW wc t1 bw (bw+1+3) x.start x.layout (SS (bw+1+3) H [.slice va2 Lp.length vc2,.slice va3 Lc.length vc3,.slice va4 x.follows.length vc4,.slice va5 x.rejects.length vc5,.slice va6 Lb.length vc6]) (.slice xa2 (Lp.length+Mp.length) xc2) (.slice va3 Lc.length vc3) (.slice va4 x.follows.length vc4) (.slice va5 x.rejects.length vc5) (.slice va6 Lb.length vc6) (Lp++Mp) Lc x.follows x.rejects Lb):=by show TW _ _ _ _ _ _ _ _ _ _ _ _ _ _ _ _ _;rw[←ht1];exact HT0s.out
 clear HT0s
 obtain⟨o0,o1,o2,o3,o4,o5,o6⟩:=HT1.out.box.c7
 have HYK:Hid (Blk t1 w2.heap.size 28 #[.string y.start,.string y.layout,.slice y2 y.prods.length yc2,.slice y3 y.chains.length yc3,.slice y4 y.follows.length yc4,.slice y5 y.rejects.length yc5,.slice y6 y.boxes.length yc6]):=(HT1.out.bel.block w2.heap.size HLX.out.2.1).trans HKYc.out
 obtain⟨cy0,cy1,cy2,cy3,cy4,cy5,cy6⟩:=HYK.out.c7
 have HYB1:Hid (Below w2.heap.size w2 t1):=HYC.out.trans (HT1.out.bel.mono (Nat.le_of_lt HLX.out.2.1))
 have HRC:=hHi (cells_at HYP.out.c3 HYB1.out)
 have HSZ1:Hid (bw+1+3≤t1.heap.size):=by show _≤_;have h1:=HT1.out.bel.size;have h2:=HCS.out;omega
 go_wp2_with (at_builtin;refine wpList_app_slm rfl _ _ 23 58 1 24 rfl Tryz.underlying23 info58 rfl (by decide) ccell (fun _=>rfl) (bw+1+3) (.slice va3 Lc.length vc3) Lc.length (Lc.flatMap ccell) rfl HT1.out.p3 Mc y3 yc3 (by rw[HMc.out];rfl) HRC.out ?cb1 ?cb2 ?cb3 HSZ1.out ?_)
 case cb1=>
  intro q hq u hu
  obtain⟨_,_,ev,_⟩:=HYP.out.sc q hq;rw[show q=(q.1,q.2) from rfl,ev] at hu;simp[ccell] at hu;subst hu;rfl
 case cb2=>have:=HLc.out;have:=HMc.out;unfold maxLen;omega
 case cb3=>have:=HLc.out;have:=HMc.out;omega
 intro xa3 xc3 s3 hown hgr
 obtain⟨hbx,htw⟩:=HT1.out.a3 (x:=.slice xa3 (Lc.length+Mc.length) xc3) (m:=Mc) hgr (by first | exact hown | simpa using hown) (fun b hb=>hb.2.2 _ (by simp))
 have HT1s:=hHi htw
 have HBX1:=hHi hbx
 clear hown hgr hbx htw o0 o1 o2 o3 o4 o5 o6 cy0 cy1 cy2 cy3 cy4 cy5 cy6 HRC zr lr q0 q1 q2 q3 q4 q5 q6 ht1
 obtain⟨q0,q1,q2,q3,q4,q5,q6⟩:=HBX1.out.c7
 have zr:=HBX1.out.frozen
 have lr:=HBX1.out.lt
 obtain⟨t2,ht2⟩:∃q,s3.setCell ⟨bw,3,none⟩ (.slice xa3 (Lc.length+Mc.length) xc3)=q:=⟨_,rfl⟩
 have HT2:Hid (TW wc t2 bw (bw+1+3) x.start x.layout (SS (bw+1+3) H [.slice va2 Lp.length vc2,.slice va3 Lc.length vc3,.slice va4 x.follows.length vc4,.slice va5 x.rejects.length vc5,.slice va6 Lb.length vc6]) (.slice xa2 (Lp.length+Mp.length) xc2) (.slice xa3 (Lc.length+Mc.length) xc3) (.slice va4 x.follows.length vc4) (.slice va5 x.rejects.length vc5) (.slice va6 Lb.length vc6) (Lp++Mp) (Lc++Mc) x.follows x.rejects Lb):=by show TW _ _ _ _ _ _ _ _ _ _ _ _ _ _ _ _ _;rw[←ht2];exact HT1s.out
 clear HT1s
 obtain⟨o0,o1,o2,o3,o4,o5,o6⟩:=HT2.out.box.c7
 have HYK:Hid (Blk t2 w2.heap.size 28 #[.string y.start,.string y.layout,.slice y2 y.prods.length yc2,.slice y3 y.chains.length yc3,.slice y4 y.follows.length yc4,.slice y5 y.rejects.length yc5,.slice y6 y.boxes.length yc6]):=(HT2.out.bel.block w2.heap.size HLX.out.2.1).trans HKYc.out
 obtain⟨cy0,cy1,cy2,cy3,cy4,cy5,cy6⟩:=HYK.out.c7
 have HYB2:Hid (Below w2.heap.size w2 t2):=HYC.out.trans (HT2.out.bel.mono (Nat.le_of_lt HLX.out.2.1))
 have HRC:=hHi (cells_at HYP.out.c4 HYB2.out)
 have HSZ2:Hid (bw+1+3≤t2.heap.size):=by show _≤_;have h1:=HT2.out.bel.size;have h2:=HCS.out;omega
 go_wp2_with (at_builtin;refine wpList_app_slm rfl _ _ 24 52 5 48 rfl Tryz.underlying24 info52 rfl (by decide) fcell (fun _=>rfl) (bw+1+3) (.slice va4 x.follows.length vc4) x.follows.length (x.follows.flatMap fcell) rfl HT2.out.p4 y.follows y4 yc4 rfl HRC.out ?cb1 ?cb2 ?cb3 HSZ2.out ?_)
 case cb1=>
  intro q hq u hu
  simp[fcell] at hu;rcases hu with rfl | rfl | rfl | rfl | rfl<;>rfl
 case cb2=>unfold maxLen;omega
 case cb3=>omega
 intro xa4 xc4 s4 hown hgr
 obtain⟨hbx,htw⟩:=HT2.out.a4 (x:=.slice xa4 (x.follows.length+y.follows.length) xc4) (m:=y.follows) hgr (by first | exact hown | simpa using hown) (fun b hb=>hb.2.2 _ (by simp))
 have HT2s:=hHi htw
 have HBX2:=hHi hbx
 clear hown hgr hbx htw o0 o1 o2 o3 o4 o5 o6 cy0 cy1 cy2 cy3 cy4 cy5 cy6 HRC zr lr q0 q1 q2 q3 q4 q5 q6 ht2
 obtain⟨q0,q1,q2,q3,q4,q5,q6⟩:=HBX2.out.c7
 have zr:=HBX2.out.frozen
 have lr:=HBX2.out.lt
 obtain⟨t3,ht3⟩:∃q,s4.setCell ⟨bw,4,none⟩ (.slice xa4 (x.follows.length+y.follows.length) xc4)=q:=⟨_,rfl⟩
 have HT3:Hid (TW wc t3 bw (bw+1+3) x.start x.layout (SS (bw+1+3) H [.slice va2 Lp.length vc2,.slice va3 Lc.length vc3,.slice va4 x.follows.length vc4,.slice va5 x.rejects.length vc5,.slice va6 Lb.length vc6]) (.slice xa2 (Lp.length+Mp.length) xc2) (.slice xa3 (Lc.length+Mc.length) xc3) (.slice xa4 (x.follows.length+y.follows.length) xc4) (.slice va5 x.rejects.length vc5) (.slice va6 Lb.length vc6) (Lp++Mp) (Lc++Mc) (x.follows++y.follows) x.rejects Lb):=by show TW _ _ _ _ _ _ _ _ _ _ _ _ _ _ _ _ _;rw[←ht3];exact HT2s.out
 clear HT2s
 obtain⟨o0,o1,o2,o3,o4,o5,o6⟩:=HT3.out.box.c7
 have HYK:Hid (Blk t3 w2.heap.size 28 #[.string y.start,.string y.layout,.slice y2 y.prods.length yc2,.slice y3 y.chains.length yc3,.slice y4 y.follows.length yc4,.slice y5 y.rejects.length yc5,.slice y6 y.boxes.length yc6]):=(HT3.out.bel.block w2.heap.size HLX.out.2.1).trans HKYc.out
 obtain⟨cy0,cy1,cy2,cy3,cy4,cy5,cy6⟩:=HYK.out.c7
 have HYB3:Hid (Below w2.heap.size w2 t3):=HYC.out.trans (HT3.out.bel.mono (Nat.le_of_lt HLX.out.2.1))
 have HRC:=hHi (cells_at HYP.out.c5 HYB3.out)
 have HSZ3:Hid (bw+1+3≤t3.heap.size):=by show _≤_;have h1:=HT3.out.bel.size;have h2:=HCS.out;omega
 go_wp2_with (at_builtin;refine wpList_app_slm rfl _ _ 25 73 2 32 rfl Tryz.underlying25 info73 rfl (by decide) rcell (fun _=>rfl) (bw+1+3) (.slice va5 x.rejects.length vc5) x.rejects.length (x.rejects.flatMap rcell) rfl HT3.out.p5 y.rejects y5 yc5 rfl HRC.out ?cb1 ?cb2 ?cb3 HSZ3.out ?_)
 case cb1=>
  intro q hq u hu
  simp[rcell] at hu;rcases hu with rfl | rfl<;>rfl
 case cb2=>unfold maxLen;omega
 case cb3=>omega
 intro xa5 xc5 s5 hown hgr
 obtain⟨hbx,htw⟩:=HT3.out.a5 (x:=.slice xa5 (x.rejects.length+y.rejects.length) xc5) (m:=y.rejects) hgr (by first | exact hown | simpa using hown) (fun b hb=>hb.2.2 _ (by simp))
 have HT3s:=hHi htw
 have HBX3:=hHi hbx
 clear hown hgr hbx htw o0 o1 o2 o3 o4 o5 o6 cy0 cy1 cy2 cy3 cy4 cy5 cy6 HRC zr lr q0 q1 q2 q3 q4 q5 q6 ht3
 obtain⟨q0,q1,q2,q3,q4,q5,q6⟩:=HBX3.out.c7
 have zr:=HBX3.out.frozen
 have lr:=HBX3.out.lt
 obtain⟨t4,ht4⟩:∃q,s5.setCell ⟨bw,5,none⟩ (.slice xa5 (x.rejects.length+y.rejects.length) xc5)=q:=⟨_,rfl⟩
 have HT4:Hid (TW wc t4 bw (bw+1+3) x.start x.layout (SS (bw+1+3) H [.slice va2 Lp.length vc2,.slice va3 Lc.length vc3,.slice va4 x.follows.length vc4,.slice va5 x.rejects.length vc5,.slice va6 Lb.length vc6]) (.slice xa2 (Lp.length+Mp.length) xc2) (.slice xa3 (Lc.length+Mc.length) xc3) (.slice xa4 (x.follows.length+y.follows.length) xc4) (.slice xa5 (x.rejects.length+y.rejects.length) xc5) (.slice va6 Lb.length vc6) (Lp++Mp) (Lc++Mc) (x.follows++y.follows) (x.rejects++y.rejects) Lb):=by show TW _ _ _ _ _ _ _ _ _ _ _ _ _ _ _ _ _;rw[←ht4];exact HT3s.out
 clear HT3s
 obtain⟨o0,o1,o2,o3,o4,o5,o6⟩:=HT4.out.box.c7
 have HYK:Hid (Blk t4 w2.heap.size 28 #[.string y.start,.string y.layout,.slice y2 y.prods.length yc2,.slice y3 y.chains.length yc3,.slice y4 y.follows.length yc4,.slice y5 y.rejects.length yc5,.slice y6 y.boxes.length yc6]):=(HT4.out.bel.block w2.heap.size HLX.out.2.1).trans HKYc.out
 obtain⟨cy0,cy1,cy2,cy3,cy4,cy5,cy6⟩:=HYK.out.c7
 have HYB4:Hid (Below w2.heap.size w2 t4):=HYC.out.trans (HT4.out.bel.mono (Nat.le_of_lt HLX.out.2.1))
 have HRC:=hHi (cells_at HYP.out.c6 HYB4.out)
 have HSZ4:Hid (bw+1+3≤t4.heap.size):=by show _≤_;have h1:=HT4.out.bel.size;have h2:=HCS.out;omega
 go_wp2_with (at_builtin;refine wpList_app_slm rfl _ _ 26 64 2 40 rfl Tryz.underlying26 info64 rfl (by decide) bxcell (fun _=>rfl) (bw+1+3) (.slice va6 Lb.length vc6) Lb.length (Lb.flatMap bxcell) rfl HT4.out.p6 Mb y6 yc6 (by rw[HMb.out];rfl) HRC.out ?cb1 ?cb2 ?cb3 HSZ4.out ?_)
 case cb1=>
  intro q hq u hu
  obtain⟨_,_,ev,_⟩:=HYP.out.sb q hq;rw[show q=(q.1,q.2) from rfl,ev] at hu;simp[bxcell] at hu;rcases hu with rfl | rfl<;>rfl
 case cb2=>have:=HLb.out;have:=HMb.out;unfold maxLen;omega
 case cb3=>have:=HLb.out;have:=HMb.out;omega
 intro xa6 xc6 s6 hown hgr
 obtain⟨hbx,htw⟩:=HT4.out.a6 (x:=.slice xa6 (Lb.length+Mb.length) xc6) (m:=Mb) hgr (by first | exact hown | simpa using hown) (fun b hb=>hb.2.2 _ (by simp))
 have HT4s:=hHi htw
 have HBX4:=hHi hbx
 clear hown hgr hbx htw o0 o1 o2 o3 o4 o5 o6 cy0 cy1 cy2 cy3 cy4 cy5 cy6 HRC zr lr q0 q1 q2 q3 q4 q5 q6 ht4
 obtain⟨q0,q1,q2,q3,q4,q5,q6⟩:=HBX4.out.c7
 have zr:=HBX4.out.frozen
 have lr:=HBX4.out.lt
 obtain⟨t5,ht5⟩:∃q,s6.setCell ⟨bw,6,none⟩ (.slice xa6 (Lb.length+Mb.length) xc6)=q:=⟨_,rfl⟩
 have HT5:Hid (TW wc t5 bw (bw+1+3) x.start x.layout (SS (bw+1+3) H [.slice va2 Lp.length vc2,.slice va3 Lc.length vc3,.slice va4 x.follows.length vc4,.slice va5 x.rejects.length vc5,.slice va6 Lb.length vc6]) (.slice xa2 (Lp.length+Mp.length) xc2) (.slice xa3 (Lc.length+Mc.length) xc3) (.slice xa4 (x.follows.length+y.follows.length) xc4) (.slice xa5 (x.rejects.length+y.rejects.length) xc5) (.slice xa6 (Lb.length+Mb.length) xc6) (Lp++Mp) (Lc++Mc) (x.follows++y.follows) (x.rejects++y.rejects) (Lb++Mb)):=by show TW _ _ _ _ _ _ _ _ _ _ _ _ _ _ _ _ _;rw[←ht5];exact HT4s.out
 clear HT4s
 obtain⟨o0,o1,o2,o3,o4,o5,o6⟩:=HT5.out.box.c7
 have HB5:Hid (Below w.heap.size w t5):=by
  have h1:=HBW4.out
  have h2:Below w.heap.size w wc:=below_tr h1 HBC.out
  exact h2.trans (HT5.out.bel.mono (by have h3:=h1.size;have h4:=HS5.out;have h5:=HBW.out.size;have h6:=HB3.out.size;have h7:=HLX.out.2.2;omega))
 have HYB5:Hid (Below w2.heap.size w2 t5):=HYC.out.trans (HT5.out.bel.mono (Nat.le_of_lt HLX.out.2.1))
 have HKA5:Hid (Blk t5 w3.heap.size 28 #[.string x.start,.string x.layout,.slice z2 (x.prods.length+y.prods.length) zc2,.slice z3 (x.chains.length+y.chains.length) zc3,.slice z4 (x.follows.length+y.follows.length) zc4,.slice z5 (x.rejects.length+y.rejects.length) zc5,.slice z6 (x.boxes.length+y.boxes.length) zc6]):=(HT5.out.bel.block w3.heap.size HLX.out.2.2).trans HKAc.out
 have HBZ5:Hid (Below w3.heap.size w3 t5):=(below_tr HN4.out HBC.out).trans (HT5.out.bel.mono (Nat.le_of_lt HLX.out.2.2))
 have HDW:Hid (DA t5 (addD x y) [.string x.start,.string x.layout,.slice xa2 (Lp.length+Mp.length) xc2,.slice xa3 (Lc.length+Mc.length) xc3,.slice xa4 (x.follows.length+y.follows.length) xc4,.slice xa5 (x.rejects.length+y.rejects.length) xc5,.slice xa6 (Lb.length+Mb.length) xc6]):=HT5.out.da HDI.out HYP.out HYB5.out (by rw[List.length_append];have:=HLp.out;have:=HMp.out;omega) (by rw[List.length_append];have:=HLc.out;have:=HMc.out;omega) (by rw[List.length_append];omega) (by rw[List.length_append];omega) (by rw[List.length_append];have:=HLb.out;have:=HMb.out;omega)
 have HDA5:Hid (DA t5 (addD x y) [.string x.start,.string x.layout,.slice z2 (x.prods.length+y.prods.length) zc2,.slice z3 (x.chains.length+y.chains.length) zc3,.slice z4 (x.follows.length+y.follows.length) zc4,.slice z5 (x.rejects.length+y.rejects.length) zc5,.slice z6 (x.boxes.length+y.boxes.length) zc6]):=HDZ.out.nx HBZ5.out
 have HKW5:Hid (Blk t5 bw 28 #[.string x.start,.string x.layout,.slice xa2 (Lp.length+Mp.length) xc2,.slice xa3 (Lc.length+Mc.length) xc3,.slice xa4 (x.follows.length+y.follows.length) xc4,.slice xa5 (x.rejects.length+y.rejects.length) xc5,.slice xa6 (Lb.length+Mb.length) xc6]):=HT5.out.box
 go_wp2_with fail
 refine (HAL.out t5 HB5.out).mono ?_
 rintro e t6 ⟨rfl,hb⟩
 have HB6:=hHi hb
 have HKA6:=kA HKA5 HB6
 have HKW6:=kA HKW5 HB6
 have HSM:Hid (Calls Tryz.prog 15 #[.agg #[.string x.start,.string x.layout,.slice z2 (x.prods.length+y.prods.length) zc2,.slice z3 (x.chains.length+y.chains.length) zc3,.slice z4 (x.follows.length+y.follows.length) zc4,.slice z5 (x.rejects.length+y.rejects.length) zc5,.slice z6 (x.boxes.length+y.boxes.length) zc6],.agg #[.string x.start,.string x.layout,.slice xa2 (Lp.length+Mp.length) xc2,.slice xa3 (Lc.length+Mc.length) xc3,.slice xa4 (x.follows.length+y.follows.length) xc4,.slice xa5 (x.rejects.length+y.rejects.length) xc5,.slice xa6 (Lb.length+Mb.length) xc6]] t6 fun e w'=>e=.returned (.bool true)∧Below t6.heap.size t6 w'):=by
  have h:=rsame_two (HDA5.out.nx hb) (HDW.out.nx hb)
  rw[eqD_self] at h
  exact h
 clear hb o0 o1 o2 o3 o4 o5 o6 zr lr q0 q1 q2 q3 q4 q5 q6 ht5
 obtain⟨c0,c1,c2,c3,c4,c5,c6⟩:=HKA6.out.c7
 obtain⟨d0,d1,d2,d3,d4,d5,d6⟩:=HKW6.out.c7
 go_wp2_with fail
 refine HSM.out.mono ?_
 rintro e t7 ⟨rfl,hb⟩
 have HB7:=hHi (below_tr (below_tr HB5.out HB6.out) hb)
 clear hb
 go_wp2
 go_ret
 exact⟨rfl,HB7.out⟩
end Go.Proofs.YtcpakcffiopfjaaGreatDoor
