/- The law: its walk. -/
import Derived.Test.YtcpakcffiopfjaaGreatDoorG2
namespace Go.Proofs.YtcpakcffiopfjaaGreatDoor
open Go.RowKit
set_option linter.unusedVariables false
set_option linter.unusedSimpArgs false
set_option maxRecDepth 100000
set_option maxHeartbeats 16000000
theorem defsBack_walk (d:Df) (us:List Value) (t:ByteArray) (w:World) (ha:DA w d us) (hz:t.size≤maxLen) (hTab:Tab w.heap.size w) :
  Calls Tryz.prog 5 #[.agg us.toArray,.string t] w fun e w'=>e=.returned (.bool true)∧Below w.heap.size w w':=by
 unfold maxLen at hz
 have HTB:Hid (Tab w.heap.size w):=hTab
 have HDA:Hid (DA w d us):=ha
 obtain⟨a2,a3,a4,a5,a6,rfl⟩:=da_form ha
 have HAL:Hid (∀W,Below w.heap.size w W→Calls Tryz.prog 11 #[] W fun e w'=>e=.returned (.bool true)∧Below W.heap.size W w'):=fun W h=>alive_any W (HTB.out.nx h)
 obtain⟨la,hla⟩:∃x,lists d=x:=⟨_,rfl⟩
 obtain⟨NA,hNA⟩:∃x,(prtD d).2=x:=⟨_,rfl⟩
 obtain⟨SA,hSA⟩:∃x,strB (prtD d).1=x:=⟨_,rfl⟩
 have HHA:Hid (∀W,Below w.heap.size w W→Calls Tryz.prog 10 #[.agg #[.string d.start,.string d.layout,a2,a3,a4,a5,a6]] W fun e w'=>∃q:Bool,e=.returned (.bool q)∧(q=false→la≤3000)∧Below W.heap.size W w'):=fun W h=>by
  rw[←hla];exact heavy_any d _ W (HDA.out.nx h)
 have HPA:Hid (∀W,Below w.heap.size w W→la≤3000→Calls Tryz.prog 13 #[.agg #[.string d.start,.string d.layout,a2,a3,a4,a5,a6]] W fun e w'=>e=.returned (.tuple #[.string SA,.int .i64 (NA:Int)])∧Below W.heap.size W w'):=fun W h hl=>by
  rw[←hSA,←hNA];exact dprint_any d _ W (HDA.out.nx h) (HTB.out.nx h) (few_of (by rw[hla];exact hl))
 have HPX:Hid (NA=0→∀W,Calls Tryz.prog 19 #[.string SA] W fun e w'=>(∃v2 v3 v4 v5 v6,e=.returned (.tuple #[.agg #[.string d.start,.string d.layout,v2,v3,v4,v5,v6],.agg #[.int .i64 0,.int .i64 0]])∧DA w' d [.string d.start,.string d.layout,v2,v3,v4,v5,v6])∧Below W.heap.size W w'):=fun h W=>by
  rw[←hSA];exact parse_back HDA.out.sets (hNA.trans h) W
 have HSX:Hid (∀(us vs:List Value) W,DA W d us→DA W d vs→Calls Tryz.prog 15 #[.agg ⟨us⟩,.agg ⟨vs⟩] W fun e w'=>e=.returned (.bool true)∧Below W.heap.size W w'):=fun us vs W h k=>by
  have:=rsame_two h k
  rw[eqD_self] at this
  exact this
 have HSE:Hid (∀W,Below w.heap.size w W→Calls Tryz.prog 15 #[.agg #[.string ⟨#[]⟩,.string ⟨#[]⟩,.slice none 0 0,.slice none 0 0,.slice none 0 0,.slice none 0 0,.slice none 0 0],.agg #[.string ⟨#[]⟩,.string ⟨#[]⟩,.slice none 0 0,.slice none 0 0,.slice none 0 0,.slice none 0 0,.slice none 0 0]] W fun e w'=>e=.returned (.bool true)∧Below W.heap.size W w'):=fun W _=>by
  have:=rsame_two (da_none W) (da_none W)
  rw[eqD_self] at this
  exact this
 clear hla hNA hSA ha hTab
 generalize d.start=s0 at *
 generalize d.layout=s1 at *
 show Calls Tryz.prog 5 #[.agg #[.string s0,.string s1,a2,a3,a4,a5,a6],.string t] w _
 obtain⟨W0,hW0⟩:∃W0,w.alloc (.cells #[.string s0,.string s1,a2,a3,a4,a5,a6] 28)=W0:=⟨_,rfl⟩
 have HBW0:=kB hW0
 have HKW0:Hid (Blk W0 w.heap.size 28 #[.string s0,.string s1,a2,a3,a4,a5,a6]):=by show Blk _ _ _ _;rw[←hW0];exact Blk.new w 28 _
 have ca0:=HKW0.out.cell 0 rfl
 have ca1:=HKW0.out.cell 1 rfl
 have ca2:=HKW0.out.cell 2 rfl
 have ca3:=HKW0.out.cell 3 rfl
 have ca4:=HKW0.out.cell 4 rfl
 have ca5:=HKW0.out.cell 5 rfl
 have ca6:=HKW0.out.cell 6 rfl
 go_enter Tryz.func5,Tryz.ntmps5
 go_wp2_with fail
 clear ca0 ca1 ca2 ca3 ca4 ca5 ca6
 refine (HHA.out W0 HBW0.out).mono ?_
 rintro e w1 ⟨qa,rfl,hqa,hb⟩
 have HKw1:=kA HKW0 (hHi hb)
 have HBw1:=hHi (below_tr HBW0.out hb)
 have HQA:=hHi hqa
 clear hqa hW0 hb
 cases qa with
 | true=>
  go_wp2_with fail
  refine (HAL.out w1 HBw1.out).mono ?_
  rintro e wz ⟨rfl,hb⟩
  have HBz:=hHi (below_tr HBw1.out hb)
  clear hb
  go_wp2
  go_ret
  exact⟨rfl,HBz.out⟩
 | false=>
  by_cases hts:t.size≤20000
  case neg=>
   have htI:¬(t.size:Int)≤20000:=by omega
   have htG:(20000:Int)<t.size:=by omega
   clear hts
   go_wp2_with fail
   refine (HAL.out w1 HBw1.out).mono ?_
   rintro e wz ⟨rfl,hb⟩
   have HBz:=hHi (below_tr HBw1.out hb)
   clear hb
   go_wp2
   go_ret
   exact⟨rfl,HBz.out⟩
  have htI:(t.size:Int)≤20000:=by omega
  have ca0:=HKw1.out.cell 0 rfl
  have ca1:=HKw1.out.cell 1 rfl
  have ca2:=HKw1.out.cell 2 rfl
  have ca3:=HKw1.out.cell 3 rfl
  have ca4:=HKw1.out.cell 4 rfl
  have ca5:=HKw1.out.cell 5 rfl
  have ca6:=HKw1.out.cell 6 rfl
  go_wp2_with fail
  clear ca0 ca1 ca2 ca3 ca4 ca5 ca6
  refine (HPA.out w1 HBw1.out (HQA.out (by trivial))).mono ?_
  rintro e w2 ⟨rfl,hb⟩
  have HKw2:=kA HKw1 (hHi hb)
  have HBw2:=hHi (below_tr HBw1.out hb)
  clear hb
  by_cases hna:NA=0
  case' pos=>
   subst hna
   go_wp2_with fail
   refine (HPX.out (by trivial) w2).mono ?_
   rintro e w3 ⟨⟨x2,x3,x4,x5,x6,rfl,hdx⟩,hb⟩
   have HKw3:=kA HKw2 (hHi hb)
   have HBw3:=hHi (below_tr HBw2.out hb)
   obtain⟨⟨xp2,xn2,xq2,rfl⟩,⟨xp3,xn3,xq3,rfl⟩,⟨xp4,xn4,xq4,rfl⟩,⟨xp5,xn5,xq5,rfl⟩,⟨xp6,xn6,xq6,rfl⟩⟩:=da_slices hdx
   have HDX:=hHi hdx
   have hk:Blk ((w3.alloc (.cells #[.string s0,.string s1,.slice xp2 xn2 xq2,.slice xp3 xn3 xq3,.slice xp4 xn4 xq4,.slice xp5 xn5 xq5,.slice xp6 xn6 xq6] 28)).alloc (.cells #[.int .i64 0,.int .i64 0] 37)) w.heap.size 28 #[.string s0,.string s1,a2,a3,a4,a5,a6]:=(HKw3.out.alloc _).alloc _
   clear hb hdx
   have ca0:=hk.cell 0 rfl
   have ca1:=hk.cell 1 rfl
   have ca2:=hk.cell 2 rfl
   have ca3:=hk.cell 3 rfl
   have ca4:=hk.cell 4 rfl
   have ca5:=hk.cell 5 rfl
   have ca6:=hk.cell 6 rfl
   clear hk
   go_wp2_with fail
   clear ca0 ca1 ca2 ca3 ca4 ca5 ca6
   obtain⟨w4,hw4⟩:∃w4,((w3.alloc (.cells #[.string s0,.string s1,.slice xp2 xn2 xq2,.slice xp3 xn3 xq3,.slice xp4 xn4 xq4,.slice xp5 xn5 xq5,.slice xp6 xn6 xq6] 28)).alloc (.cells #[.int .i64 0,.int .i64 0] 37))=w4:=⟨_,rfl⟩
   have hb34:Below w3.heap.size w3 w4:=by rw[←hw4];exact ((Below.refl _ _).alloc (Nat.le_refl _) _).alloc (by simp) _
   have HB34:=hHi hb34
   have HBw4:=hHi (below_tr HBw3.out hb34)
   rw[hw4]
   clear hb34 hw4
   refine (HSX.out _ _ w4 (HDX.out.nx HB34.out) (HDA.out.nx HBw4.out)).mono ?_
   rintro e w5 ⟨rfl,hb⟩
   have HBw5:=hHi (below_tr HBw4.out hb)
   clear hb
   have HBv0:Hid _:=HBw5.out
  case' neg=>
   have x1:((NA:Int)==0)=false:=by simp;omega
   have HBv0:Hid _:=HBw2.out
   clear hna
  all_goals
   cases hr:parR t.data.toList with
   | bad q c=>
    have HPT:Hid (∀W,Calls Tryz.prog 19 #[.string t] W fun e w'=>PDf W (.bad q c) e w'):=fun W=>by rw[←hr];exact dparse_any t W
    have hc:=nz_par _ _ _ hr
    clear hr
    go_wp2_with fail
    refine (HPT.out _).mono ?_
    rintro e v1 ⟨rfl,hb⟩
    have HBv1:=hHi (below_tr HBv0.out hb)
    clear hb
    have k1:((c:Int) != 0)=true:=by simp;omega
    obtain⟨v2,hv2⟩:∃v2,((v1.alloc (.cells #[.string ⟨#[]⟩,.string ⟨#[]⟩,.slice none 0 0,.slice none 0 0,.slice none 0 0,.slice none 0 0,.slice none 0 0] 28)).alloc (.cells #[.int .i64 (q:Int),.int .i64 (c:Int)] 37))=v2:=⟨_,rfl⟩
    have hb12:Below v1.heap.size v1 v2:=by rw[←hv2];exact ((Below.refl _ _).alloc (Nat.le_refl _) _).alloc (by simp) _
    have HBv2:=hHi (below_tr HBv1.out hb12)
    have HKy:Hid (Blk v2 v1.heap.size 28 #[.string ⟨#[]⟩,.string ⟨#[]⟩,.slice none 0 0,.slice none 0 0,.slice none 0 0,.slice none 0 0,.slice none 0 0]):=by show Blk _ _ _ _;rw[←hv2];exact (Blk.new v1 28 _).alloc _
    have hKf:Blk v2 (v1.heap.size+1) 37 #[.int .i64 (q:Int),.int .i64 (c:Int)]:=by
     rw[←hv2]
     have:=Blk.new (v1.alloc (.cells #[.string ⟨#[]⟩,.string ⟨#[]⟩,.slice none 0 0,.slice none 0 0,.slice none 0 0,.slice none 0 0,.slice none 0 0] 28)) 37 #[.int .i64 (q:Int),.int .i64 (c:Int)]
     simpa using this
    have f0:=hKf.cell 0 rfl
    have f1:=hKf.cell 1 rfl
    clear hb12 hKf hc
    go_wp2_with fail
    refine (HAL.out v2 HBv2.out).mono ?_
    rintro e v3 ⟨rfl,hb⟩
    have HBv3:=hHi (below_tr HBv2.out hb)
    have hKy:=Blk.after HKy.out hb
    clear hb hv2
    have cy0:=hKy.cell 0 rfl
    have cy1:=hKy.cell 1 rfl
    have cy2:=hKy.cell 2 rfl
    have cy3:=hKy.cell 3 rfl
    have cy4:=hKy.cell 4 rfl
    have cy5:=hKy.cell 5 rfl
    have cy6:=hKy.cell 6 rfl
    clear hKy
    go_wp2_with fail
    refine (HSE.out v3 HBv3.out).mono ?_
    rintro e v4 ⟨rfl,hb⟩
    have HBv4:=hHi (below_tr HBv3.out hb)
    clear hb
    clear cy0 cy1 cy2 cy3 cy4 cy5 cy6
    go_wp2
    go_ret
    exact⟨rfl,HBv4.out⟩
   | ok y LW=>
    have HPT:Hid (∀W,Calls Tryz.prog 19 #[.string t] W fun e w'=>PDf W (.ok y LW) e w'):=fun W=>by rw[←hr];exact dparse_any t W
    have HYR:Hid (rightB y=true):=par_right hr
    have HYF:Hid (Few y):=by
     obtain⟨h1,h2,h3,h4⟩:=par_few hr
     exact⟨by omega,by omega,by omega,by omega⟩
    clear hr
    go_wp2_with fail
    refine (HPT.out _).mono ?_
    rintro e v1 ⟨⟨y2,y3,y4,y5,y6,rfl,hda⟩,hb⟩
    have HBv1:=hHi (below_tr HBv0.out hb)
    obtain⟨⟨yp2,yn2,yq2,rfl⟩,⟨yp3,yn3,yq3,rfl⟩,⟨yp4,yn4,yq4,rfl⟩,⟨yp5,yn5,yq5,rfl⟩,⟨yp6,yn6,yq6,rfl⟩⟩:=da_slices hda
    have HDY:Hid (DA v1 y [.string y.start,.string y.layout,.slice yp2 yn2 yq2,.slice yp3 yn3 yq3,.slice yp4 yn4 yq4,.slice yp5 yn5 yq5,.slice yp6 yn6 yq6]):=hda
    clear hb
    obtain⟨NY,hNY⟩:∃x,(prtD y).2=x:=⟨_,rfl⟩
    obtain⟨SY,hSY⟩:∃x,strB (prtD y).1=x:=⟨_,rfl⟩
    have HPY:Hid (∀W,Below v1.heap.size v1 W→Calls Tryz.prog 13 #[.agg #[.string y.start,.string y.layout,.slice yp2 yn2 yq2,.slice yp3 yn3 yq3,.slice yp4 yn4 yq4,.slice yp5 yn5 yq5,.slice yp6 yn6 yq6]] W fun e w'=>e=.returned (.tuple #[.string SY,.int .i64 (NY:Int)])∧Below W.heap.size W w'):=fun W h=>by
     rw[←hSY,←hNY];exact dprint_any y _ W (HDY.out.nx h) (HTB.out.nx (below_tr HBv1.out h)) HYF.out
    have HRY:Hid (∀W,Below v1.heap.size v1 W→Calls Tryz.prog 16 #[.agg #[.string y.start,.string y.layout,.slice yp2 yn2 yq2,.slice yp3 yn3 yq3,.slice yp4 yn4 yq4,.slice yp5 yn5 yq5,.slice yp6 yn6 yq6]] W fun e w'=>e=.returned (.bool true)∧Below W.heap.size W w'):=fun W h=>by
     have:=right_da (HDY.out.nx h)
     rw[HYR.out] at this
     exact this
    have HN2:Hid (¬NY=0→NY=2):=fun h=>by rw[←hNY];exact prt_two HYR.out (by rw[hNY];exact h)
    have HPZ:Hid (NY=0→∀W,Calls Tryz.prog 19 #[.string SY] W fun e w'=>(∃z2 z3 z4 z5 z6,e=.returned (.tuple #[.agg #[.string y.start,.string y.layout,z2,z3,z4,z5,z6],.agg #[.int .i64 0,.int .i64 0]])∧DA w' y [.string y.start,.string y.layout,z2,z3,z4,z5,z6])∧Below W.heap.size W w'):=fun h W=>by
     rw[←hSY];exact parse_back HDY.out.sets (hNY.trans h) W
    have HSY:Hid (∀(us vs:List Value) W,DA W y us→DA W y vs→Calls Tryz.prog 15 #[.agg ⟨us⟩,.agg ⟨vs⟩] W fun e w'=>e=.returned (.bool true)∧Below W.heap.size W w'):=fun us vs W h k=>by
     have:=rsame_two h k
     rw[eqD_self] at this
     exact this
    clear hda hNY hSY
    generalize y.start=t0 at *
    generalize y.layout=t1 at *
    go_wp2_with fail
    obtain⟨v2,hv2⟩:∃v2,((v1.alloc (.cells #[.string t0,.string t1,.slice yp2 yn2 yq2,.slice yp3 yn3 yq3,.slice yp4 yn4 yq4,.slice yp5 yn5 yq5,.slice yp6 yn6 yq6] 28)).alloc (.cells #[.int .i64 0,.int .i64 0] 37))=v2:=⟨_,rfl⟩
    have hb12:Below v1.heap.size v1 v2:=by rw[←hv2];exact ((Below.refl _ _).alloc (Nat.le_refl _) _).alloc (by simp) _
    have HB12:=hHi hb12
    have HBv2:=hHi (below_tr HBv1.out hb12)
    have HKy:Hid (Blk v2 v1.heap.size 28 #[.string t0,.string t1,.slice yp2 yn2 yq2,.slice yp3 yn3 yq3,.slice yp4 yn4 yq4,.slice yp5 yn5 yq5,.slice yp6 yn6 yq6]):=by show Blk _ _ _ _;rw[←hv2];exact (Blk.new v1 28 _).alloc _
    rw[hv2]
    clear hb12 hv2
    refine (HPY.out v2 HB12.out).mono ?_
    rintro e v3 ⟨rfl,hb⟩
    have HB13:=hHi (below_tr HB12.out hb)
    have HBv3:=hHi (below_tr HBv2.out hb)
    have HKy3:=kA HKy (hHi hb)
    clear hb
    by_cases hny:NY=0
    case neg=>
     obtain rfl:NY=2:=HN2.out hny
     clear hny
     go_wp2_with fail
     refine (HAL.out v3 HBv3.out).mono ?_
     rintro e v4 ⟨rfl,hb⟩
     have HB14:=hHi (below_tr HB13.out hb)
     have HBv4:=hHi (below_tr HBv3.out hb)
     have hKy:=Blk.after HKy3.out hb
     clear hb
     have cy0:=hKy.cell 0 rfl
     have cy1:=hKy.cell 1 rfl
     have cy2:=hKy.cell 2 rfl
     have cy3:=hKy.cell 3 rfl
     have cy4:=hKy.cell 4 rfl
     have cy5:=hKy.cell 5 rfl
     have cy6:=hKy.cell 6 rfl
     clear hKy
     go_wp2_with fail
     refine (HRY.out v4 HB14.out).mono ?_
     rintro e v5 ⟨rfl,hb⟩
     have HBv5:=hHi (below_tr HBv4.out hb)
     clear hb
     clear cy0 cy1 cy2 cy3 cy4 cy5 cy6
     go_wp2
     go_ret
     exact⟨rfl,HBv5.out⟩
    subst hny
    go_wp2_with fail
    refine (HPZ.out (by trivial) v3).mono ?_
    rintro e v4 ⟨⟨z2,z3,z4,z5,z6,rfl,hdz⟩,hb⟩
    have HB14:=hHi (below_tr HB13.out hb)
    have HBv4:=hHi (below_tr HBv3.out hb)
    have HKy4:=kA HKy3 (hHi hb)
    obtain⟨⟨zp2,zn2,zq2,rfl⟩,⟨zp3,zn3,zq3,rfl⟩,⟨zp4,zn4,zq4,rfl⟩,⟨zp5,zn5,zq5,rfl⟩,⟨zp6,zn6,zq6,rfl⟩⟩:=da_slices hdz
    have HDZ:=hHi hdz
    clear hb hdz
    go_wp2_with fail
    obtain⟨v5,hv5⟩:∃v5,((v4.alloc (.cells #[.string t0,.string t1,.slice zp2 zn2 zq2,.slice zp3 zn3 zq3,.slice zp4 zn4 zq4,.slice zp5 zn5 zq5,.slice zp6 zn6 zq6] 28)).alloc (.cells #[.int .i64 0,.int .i64 0] 37))=v5:=⟨_,rfl⟩
    have hb45:Below v4.heap.size v4 v5:=by rw[←hv5];exact ((Below.refl _ _).alloc (Nat.le_refl _) _).alloc (by simp) _
    have HB45:=hHi hb45
    have HBv5:=hHi (below_tr HBv4.out hb45)
    have HKz5:Hid (Blk v5 v4.heap.size 28 #[.string t0,.string t1,.slice zp2 zn2 zq2,.slice zp3 zn3 zq3,.slice zp4 zn4 zq4,.slice zp5 zn5 zq5,.slice zp6 zn6 zq6]):=by show Blk _ _ _ _;rw[←hv5];exact (Blk.new v4 28 _).alloc _
    have HKf5:Hid (Blk v5 (v4.heap.size+1) 37 #[.int .i64 0,.int .i64 0]):=by
     show Blk _ _ _ _
     rw[←hv5]
     have:=Blk.new (v4.alloc (.cells #[.string t0,.string t1,.slice zp2 zn2 zq2,.slice zp3 zn3 zq3,.slice zp4 zn4 zq4,.slice zp5 zn5 zq5,.slice zp6 zn6 zq6] 28)) 37 #[.int .i64 0,.int .i64 0]
     simpa using this
    have HKy5:=kA HKy4 (hHi hb45)
    rw[hv5]
    clear hb45 hv5
    refine (HAL.out v5 HBv5.out).mono ?_
    rintro e v6 ⟨rfl,hb⟩
    have HB46:=hHi (below_tr HB45.out hb)
    have HBv6:=hHi (below_tr HBv5.out hb)
    have HKy6:=kA HKy5 (hHi hb)
    have HKz6:=kA HKz5 (hHi hb)
    have HKf6:=kA HKf5 (hHi hb)
    clear hb
    have cy0:=HKy6.out.cell 0 rfl
    have cy1:=HKy6.out.cell 1 rfl
    have cy2:=HKy6.out.cell 2 rfl
    have cy3:=HKy6.out.cell 3 rfl
    have cy4:=HKy6.out.cell 4 rfl
    have cy5:=HKy6.out.cell 5 rfl
    have cy6:=HKy6.out.cell 6 rfl
    go_wp2_with fail
    refine (HRY.out v6 (below_tr HB14.out HB46.out)).mono ?_
    rintro e v7 ⟨rfl,hb⟩
    have HB47:=hHi (below_tr HB46.out hb)
    have HBv7:=hHi (below_tr HBv6.out hb)
    have hKy7:=Blk.after HKy6.out hb
    have hKz7:=Blk.after HKz6.out hb
    have hKf7:=Blk.after HKf6.out hb
    clear cy0 cy1 cy2 cy3 cy4 cy5 cy6
    have cy0:=hKy7.cell 0 rfl
    have cy1:=hKy7.cell 1 rfl
    have cy2:=hKy7.cell 2 rfl
    have cy3:=hKy7.cell 3 rfl
    have cy4:=hKy7.cell 4 rfl
    have cy5:=hKy7.cell 5 rfl
    have cy6:=hKy7.cell 6 rfl
    have cz0:=hKz7.cell 0 rfl
    have cz1:=hKz7.cell 1 rfl
    have cz2:=hKz7.cell 2 rfl
    have cz3:=hKz7.cell 3 rfl
    have cz4:=hKz7.cell 4 rfl
    have cz5:=hKz7.cell 5 rfl
    have cz6:=hKz7.cell 6 rfl
    have cf0:=hKf7.cell 0 rfl
    have cf1:=hKf7.cell 1 rfl
    clear hb hKy7 hKz7 hKf7
    go_wp2_with fail
    refine (HSY.out _ _ v7 (HDY.out.nx (below_tr HB14.out HB47.out)) (HDZ.out.nx HB47.out)).mono ?_
    rintro e v8 ⟨rfl,hb⟩
    have HBv8:=hHi (below_tr HBv7.out hb)
    clear hb
    clear cy0 cy1 cy2 cy3 cy4 cy5 cy6 cz0 cz1 cz2 cz3 cz4 cz5 cz6 cf0 cf1
    go_wp2
    go_ret
    exact⟨rfl,HBv8.out⟩
end Go.Proofs.YtcpakcffiopfjaaGreatDoor
