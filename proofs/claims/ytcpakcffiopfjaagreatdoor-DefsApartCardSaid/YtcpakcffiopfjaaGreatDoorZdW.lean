/- The law: its walk. -/
import Derived.Test.YtcpakcffiopfjaaGreatDoorG1
namespace Go.Proofs.YtcpakcffiopfjaaGreatDoor
open Go.RowKit
set_option linter.unusedVariables false
set_option linter.unusedSimpArgs false
set_option maxRecDepth 100000
set_option maxHeartbeats 16000000
theorem defsApart_walk (a:Df) (us:List Value) (b:Df) (vs:List Value) (w:World) (ha:DA w a us) (hb:DA w b vs) (hTab:Tab w.heap.size w) :
  Calls Tryz.prog 8 #[.agg us.toArray,.agg vs.toArray] w fun e w'=>e=.returned (.bool true)∧Below w.heap.size w w':=by
 have HTB:Hid (Tab w.heap.size w):=hTab
 have HDA:Hid (DA w a us):=ha
 have HDB:Hid (DA w b vs):=hb
 obtain⟨a2,a3,a4,a5,a6,rfl⟩:=da_form ha
 obtain⟨b2,b3,b4,b5,b6,rfl⟩:=da_form hb
 have HAL:Hid (∀W,Below w.heap.size w W→Calls Tryz.prog 11 #[] W fun e w'=>e=.returned (.bool true)∧Below W.heap.size W w'):=fun W h=>alive_any W (HTB.out.nx h)
 obtain⟨la,hla⟩:∃x,lists a=x:=⟨_,rfl⟩
 obtain⟨lb,hlb⟩:∃x,lists b=x:=⟨_,rfl⟩
 obtain⟨NA,hNA⟩:∃x,(prtD a).2=x:=⟨_,rfl⟩
 obtain⟨NB,hNB⟩:∃x,(prtD b).2=x:=⟨_,rfl⟩
 obtain⟨LA,hLA⟩:∃x,strB (prtD a).1=x:=⟨_,rfl⟩
 obtain⟨LB,hLB⟩:∃x,strB (prtD b).1=x:=⟨_,rfl⟩
 obtain⟨E,hE⟩:∃x,eqD a b=x:=⟨_,rfl⟩
 have HI:Hid (NA=0→NB=0→(LA=LB↔E=true)):=fun h1 h2=>by
  rw[←hE,eqD_iff,←hLA,←hLB]
  rw[←hNA] at h1
  rw[←hNB] at h2
  exact⟨fun e=>prt_inj HDA.out.sets HDB.out.sets h1 h2 (strB_inj e),fun e=>by rw[e]⟩
 have HNA:Hid (¬NA=0→LA=⟨#[]⟩):=fun h=>by
  rcases prt_cases a with h1 | h1
  ·rw[←hLA,h1.2];rfl
  ·exact absurd (hNA.symm.trans h1.1) h
 have HNB:Hid (¬NB=0→LB=⟨#[]⟩):=fun h=>by
  rcases prt_cases b with h1 | h1
  ·rw[←hLB,h1.2];rfl
  ·exact absurd (hNB.symm.trans h1.1) h
 have HHA:Hid (∀W,Below w.heap.size w W→Calls Tryz.prog 10 #[.agg #[.string a.start,.string a.layout,a2,a3,a4,a5,a6]] W fun e w'=>∃q:Bool,e=.returned (.bool q)∧(q=false→la≤3000)∧Below W.heap.size W w'):=fun W h=>by
  rw[←hla];exact heavy_any a _ W (HDA.out.nx h)
 have HHB:Hid (∀W,Below w.heap.size w W→Calls Tryz.prog 10 #[.agg #[.string b.start,.string b.layout,b2,b3,b4,b5,b6]] W fun e w'=>∃q:Bool,e=.returned (.bool q)∧(q=false→lb≤3000)∧Below W.heap.size W w'):=fun W h=>by
  rw[←hlb];exact heavy_any b _ W (HDB.out.nx h)
 have HPA:Hid (∀W,Below w.heap.size w W→la≤3000→Calls Tryz.prog 13 #[.agg #[.string a.start,.string a.layout,a2,a3,a4,a5,a6]] W fun e w'=>e=.returned (.tuple #[.string LA,.int .i64 (NA:Int)])∧Below W.heap.size W w'):=fun W h hl=>by
  rw[←hLA,←hNA];exact dprint_any a _ W (HDA.out.nx h) (HTB.out.nx h) (few_of (by rw[hla];exact hl))
 have HPB:Hid (∀W,Below w.heap.size w W→lb≤3000→Calls Tryz.prog 13 #[.agg #[.string b.start,.string b.layout,b2,b3,b4,b5,b6]] W fun e w'=>e=.returned (.tuple #[.string LB,.int .i64 (NB:Int)])∧Below W.heap.size W w'):=fun W h hl=>by
  rw[←hLB,←hNB];exact dprint_any b _ W (HDB.out.nx h) (HTB.out.nx h) (few_of (by rw[hlb];exact hl))
 have HSM:Hid (∀W,Below w.heap.size w W→Calls Tryz.prog 18 #[.agg #[.string a.start,.string a.layout,a2,a3,a4,a5,a6],.agg #[.string b.start,.string b.layout,b2,b3,b4,b5,b6]] W fun e w'=>e=.returned (.bool E)∧Below W.heap.size W w'):=fun W h=>by
  rw[←hE];exact same_two (HDA.out.nx h) (HDB.out.nx h)
 clear hla hlb hNA hNB hLA hLB hE ha hb HDA HDB hTab HTB
 generalize a.start=s0 at *
 generalize a.layout=s1 at *
 generalize b.start=t0 at *
 generalize b.layout=t1 at *
 show Calls Tryz.prog 8 #[.agg #[.string s0,.string s1,a2,a3,a4,a5,a6],.agg #[.string t0,.string t1,b2,b3,b4,b5,b6]] w _
 obtain⟨W0,hW0⟩:∃W0,(w.alloc (.cells #[.string s0,.string s1,a2,a3,a4,a5,a6] 28)).alloc (.cells #[.string t0,.string t1,b2,b3,b4,b5,b6] 28)=W0:=⟨_,rfl⟩
 have HBW0:Hid (Below w.heap.size w W0):=by show Below _ _ _;rw[←hW0];exact ((Below.refl _ _).alloc (Nat.le_refl _) _).alloc (by simp) _
 have HKaW0:Hid (Blk W0 w.heap.size 28 #[.string s0,.string s1,a2,a3,a4,a5,a6]):=by show Blk _ _ _ _;rw[←hW0];exact (Blk.new w 28 _).alloc _
 have HKbW0:Hid (Blk W0 (w.heap.size+1) 28 #[.string t0,.string t1,b2,b3,b4,b5,b6]):=by
  show Blk _ _ _ _
  rw[←hW0]
  have:=Blk.new (w.alloc (.cells #[.string s0,.string s1,a2,a3,a4,a5,a6] 28)) 28 #[.string t0,.string t1,b2,b3,b4,b5,b6]
  simpa using this
 have ca0:=HKaW0.out.cell 0 rfl
 have ca1:=HKaW0.out.cell 1 rfl
 have ca2:=HKaW0.out.cell 2 rfl
 have ca3:=HKaW0.out.cell 3 rfl
 have ca4:=HKaW0.out.cell 4 rfl
 have ca5:=HKaW0.out.cell 5 rfl
 have ca6:=HKaW0.out.cell 6 rfl
 have cb0:=HKbW0.out.cell 0 rfl
 have cb1:=HKbW0.out.cell 1 rfl
 have cb2:=HKbW0.out.cell 2 rfl
 have cb3:=HKbW0.out.cell 3 rfl
 have cb4:=HKbW0.out.cell 4 rfl
 have cb5:=HKbW0.out.cell 5 rfl
 have cb6:=HKbW0.out.cell 6 rfl
 go_enter Tryz.func8,Tryz.ntmps8
 go_wp2_with fail
 clear ca0 ca1 ca2 ca3 ca4 ca5 ca6 cb0 cb1 cb2 cb3 cb4 cb5 cb6
 refine (HHA.out W0 HBW0.out).mono ?_
 rintro e w1 ⟨qa,rfl,hqa,hb⟩
 have HKaw1:=kA HKaW0 (hHi hb)
 have HKbw1:=kA HKbW0 (hHi hb)
 have HBw1:=hHi (below_tr HBW0.out hb)
 clear hb
 have HQA:=hHi hqa
 clear hqa hW0
 cases qa with
 | true=>
  go_wp2_with fail
  refine (HAL.out w1 HBw1.out).mono ?_
  rintro e wz ⟨rfl,hb⟩
  have HBz:=hHi (below_tr HBw1.out hb)
  clear hb
  go_wp2
  go_ret
  exact⟨rfl,HBz.out⟩
 | false=>
  have ca0:=HKaw1.out.cell 0 rfl
  have ca1:=HKaw1.out.cell 1 rfl
  have ca2:=HKaw1.out.cell 2 rfl
  have ca3:=HKaw1.out.cell 3 rfl
  have ca4:=HKaw1.out.cell 4 rfl
  have ca5:=HKaw1.out.cell 5 rfl
  have ca6:=HKaw1.out.cell 6 rfl
  have cb0:=HKbw1.out.cell 0 rfl
  have cb1:=HKbw1.out.cell 1 rfl
  have cb2:=HKbw1.out.cell 2 rfl
  have cb3:=HKbw1.out.cell 3 rfl
  have cb4:=HKbw1.out.cell 4 rfl
  have cb5:=HKbw1.out.cell 5 rfl
  have cb6:=HKbw1.out.cell 6 rfl
  go_wp2_with fail
  clear ca0 ca1 ca2 ca3 ca4 ca5 ca6 cb0 cb1 cb2 cb3 cb4 cb5 cb6
  refine (HHB.out w1 HBw1.out).mono ?_
  rintro e w2 ⟨qb,rfl,hqb,hb⟩
  have HKaw2:=kA HKaw1 (hHi hb)
  have HKbw2:=kA HKbw1 (hHi hb)
  have HBw2:=hHi (below_tr HBw1.out hb)
  clear hb
  have HQB:=hHi hqb
  clear hqb
  cases qb with
  | true=>
   go_wp2_with fail
   refine (HAL.out w2 HBw2.out).mono ?_
   rintro e wz ⟨rfl,hb⟩
   have HBz:=hHi (below_tr HBw2.out hb)
   clear hb
   go_wp2
   go_ret
   exact⟨rfl,HBz.out⟩
  | false=>
   have ca0:=HKaw2.out.cell 0 rfl
   have ca1:=HKaw2.out.cell 1 rfl
   have ca2:=HKaw2.out.cell 2 rfl
   have ca3:=HKaw2.out.cell 3 rfl
   have ca4:=HKaw2.out.cell 4 rfl
   have ca5:=HKaw2.out.cell 5 rfl
   have ca6:=HKaw2.out.cell 6 rfl
   have cb0:=HKbw2.out.cell 0 rfl
   have cb1:=HKbw2.out.cell 1 rfl
   have cb2:=HKbw2.out.cell 2 rfl
   have cb3:=HKbw2.out.cell 3 rfl
   have cb4:=HKbw2.out.cell 4 rfl
   have cb5:=HKbw2.out.cell 5 rfl
   have cb6:=HKbw2.out.cell 6 rfl
   go_wp2_with fail
   clear ca0 ca1 ca2 ca3 ca4 ca5 ca6 cb0 cb1 cb2 cb3 cb4 cb5 cb6
   refine (HPA.out w2 HBw2.out (HQA.out (by trivial))).mono ?_
   rintro e w3 ⟨rfl,hb⟩
   have HKaw3:=kA HKaw2 (hHi hb)
   have HKbw3:=kA HKbw2 (hHi hb)
   have HBw3:=hHi (below_tr HBw2.out hb)
   clear hb
   have ca0:=HKaw3.out.cell 0 rfl
   have ca1:=HKaw3.out.cell 1 rfl
   have ca2:=HKaw3.out.cell 2 rfl
   have ca3:=HKaw3.out.cell 3 rfl
   have ca4:=HKaw3.out.cell 4 rfl
   have ca5:=HKaw3.out.cell 5 rfl
   have ca6:=HKaw3.out.cell 6 rfl
   have cb0:=HKbw3.out.cell 0 rfl
   have cb1:=HKbw3.out.cell 1 rfl
   have cb2:=HKbw3.out.cell 2 rfl
   have cb3:=HKbw3.out.cell 3 rfl
   have cb4:=HKbw3.out.cell 4 rfl
   have cb5:=HKbw3.out.cell 5 rfl
   have cb6:=HKbw3.out.cell 6 rfl
   go_wp2_with fail
   clear ca0 ca1 ca2 ca3 ca4 ca5 ca6 cb0 cb1 cb2 cb3 cb4 cb5 cb6
   refine (HPB.out w3 HBw3.out (HQB.out (by trivial))).mono ?_
   rintro e w4 ⟨rfl,hb⟩
   have HKaw4:=kA HKaw3 (hHi hb)
   have HKbw4:=kA HKbw3 (hHi hb)
   have HBw4:=hHi (below_tr HBw3.out hb)
   clear hb
   by_cases hna:NA=0
   case neg=>
    obtain rfl:LA=⟨#[]⟩:=HNA.out hna
    have x1:((NA:Int) != 0)=true:=by simp;omega
    have x2:((NA:Int)==0)=false:=by simp;omega
    by_cases hnb:NB=0
    ·subst hnb
     clear hna
     go_wp2_with fail
     refine (HAL.out w4 HBw4.out).mono ?_
     rintro e wz ⟨rfl,hb⟩
     have HBz:=hHi (below_tr HBw4.out hb)
     clear hb
     go_wp2
     go_ret
     exact⟨rfl,HBz.out⟩
    ·obtain rfl:LB=⟨#[]⟩:=HNB.out hnb
     have y1:((NB:Int) != 0)=true:=by simp;omega
     have y2:((NB:Int)==0)=false:=by simp;omega
     clear hna hnb
     go_wp2_with fail
     refine (HAL.out w4 HBw4.out).mono ?_
     rintro e wz ⟨rfl,hb⟩
     have HBz:=hHi (below_tr HBw4.out hb)
     clear hb
     go_wp2
     go_ret
     exact⟨rfl,HBz.out⟩
   subst hna
   by_cases hnb:NB=0
   case neg=>
    obtain rfl:LB=⟨#[]⟩:=HNB.out hnb
    have y1:((NB:Int) != 0)=true:=by simp;omega
    have y2:((NB:Int)==0)=false:=by simp;omega
    clear hnb
    go_wp2_with fail
    refine (HAL.out w4 HBw4.out).mono ?_
    rintro e wz ⟨rfl,hb⟩
    have HBz:=hHi (below_tr HBw4.out hb)
    clear hb
    go_wp2
    go_ret
    exact⟨rfl,HBz.out⟩
   subst hnb
   go_wp2_with fail
   refine (HAL.out w4 HBw4.out).mono ?_
   rintro e w5 ⟨rfl,hb⟩
   have HKaw5:=kA HKaw4 (hHi hb)
   have HKbw5:=kA HKbw4 (hHi hb)
   have HBw5:=hHi (below_tr HBw4.out hb)
   clear hb
   have ca0:=HKaw5.out.cell 0 rfl
   have ca1:=HKaw5.out.cell 1 rfl
   have ca2:=HKaw5.out.cell 2 rfl
   have ca3:=HKaw5.out.cell 3 rfl
   have ca4:=HKaw5.out.cell 4 rfl
   have ca5:=HKaw5.out.cell 5 rfl
   have ca6:=HKaw5.out.cell 6 rfl
   have cb0:=HKbw5.out.cell 0 rfl
   have cb1:=HKbw5.out.cell 1 rfl
   have cb2:=HKbw5.out.cell 2 rfl
   have cb3:=HKbw5.out.cell 3 rfl
   have cb4:=HKbw5.out.cell 4 rfl
   have cb5:=HKbw5.out.cell 5 rfl
   have cb6:=HKbw5.out.cell 6 rfl
   cases E with
   | true=>
    obtain rfl:LA=LB:=(HI.out (by trivial) (by trivial)).2 (by trivial)
    go_wp2_with fail
    clear ca0 ca1 ca2 ca3 ca4 ca5 ca6 cb0 cb1 cb2 cb3 cb4 cb5 cb6
    refine (HSM.out w5 HBw5.out).mono ?_
    rintro e w6 ⟨rfl,hb⟩
    have HB6:=hHi (below_tr HBw5.out hb)
    clear hb
    go_wp2
    go_ret
    exact⟨rfl,HB6.out⟩
   | false=>
    have hne:¬LA=LB:=fun h=>by
     have:=(HI.out (by trivial) (by trivial)).1 h
     simp at this
    have q1:=str_ne hne
    have q2:=str_bne hne
    clear hne
    go_wp2_with fail
    clear ca0 ca1 ca2 ca3 ca4 ca5 ca6 cb0 cb1 cb2 cb3 cb4 cb5 cb6
    refine (HSM.out w5 HBw5.out).mono ?_
    rintro e w6 ⟨rfl,hb⟩
    have HB6:=hHi (below_tr HBw5.out hb)
    clear hb
    go_wp2
    go_ret
    exact⟨rfl,HB6.out⟩
end Go.Proofs.YtcpakcffiopfjaaGreatDoor
