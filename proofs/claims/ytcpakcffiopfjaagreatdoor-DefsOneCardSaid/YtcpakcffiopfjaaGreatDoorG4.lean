/- One follow restriction more, written behind a definition's text; plain. One follow restriction more is read as just that: the law's walk. -/
import Derived.Test.YtcpakcffiopfjaaGreatDoorE3
import Derived.Test.YtcpakcffiopfjaaGreatDoorG2
import Derived.Test.YtcpakcffiopfjaaGreatDoorA0
import Derived.Test.YtcpakcffiopfjaaGreatDoorA1
namespace Go.Proofs.YtcpakcffiopfjaaGreatDoor
open Go.RowKit
set_option linter.unusedVariables false
set_option linter.unusedSimpArgs false
set_option maxRecDepth 100000
set_option maxHeartbeats 16000000
theorem par_steps {ss:List (List Tk)} {d:Df} (h:StepsK ss Df0 d) (ok:∀s∈ss,AllOK s) (hl:(ss.flatMap lineS).length≤65536):∃L,parR (ss.flatMap lineS)=.ok d L:=by
 obtain⟨ws,we,h1,h2,h7⟩:=scan_text _ ok hl
 refine⟨[we],?_⟩
 unfold parR
 rw[h1]
 rw[if_pos rfl]
 have hn:=ends_len ss
 rw[←h2,List.length_map] at hn
 have ef:(ws++[we]).length+1=(ws.length+1-ss.length)+1+ss.length:=by rw[List.length_append,List.length_singleton];omega
 simp only
 rw[ef,h.run _ ws [we] h2]
 exact stmts_end h7
theorem great_bare {c:UInt8} (h:great c.toNat=true):bareA [c]=false∧bareB [c]=false:=by
 have:∀n:Fin 256,great n.val=true→bareA [UInt8.ofNat n.val]=false∧bareB [UInt8.ofNat n.val]=false:=by decide +kernel
 have h2:=this ⟨c.toNat,c.toNat_lt⟩ h
 simpa using h2
theorem nm_bare {n:ByteArray} (h:nm n=true):bareA n.data.toList=false∧bareB n.data.toList=false∧n.data.toList.isEmpty=false:=by
 obtain⟨c,l,e,hg⟩:=nm_head h
 rw[e]
 cases l with
 | nil=>exact⟨(great_bare hg).1,(great_bare hg).2,rfl⟩
 | cons x l=>exact⟨rfl,rfl,rfl⟩
theorem print_two (s:St):∃c1 c2 l,printL s=c1::c2::l:=by
 have h1:∃q,printL s=91::q:=⟨_,rfl⟩
 obtain⟨q,e⟩:=h1
 cases q with
 | nil=>
  have h2:(printL s).getLast?=some 93:=by unfold printL;simp
  rw[e] at h2;simp at h2
 | cons c2 l=>exact⟨91,c2,l,e⟩
theorem one_line {n:ByteArray} {s:St} (h:nm n=true):lineS (followK ⟨n,s⟩)=[102,111,108,108,111,119,32]++n.data.toList++[32]++printL s++[59,10]:=by
 obtain⟨b1,b2,b3⟩:=nm_bare h
 obtain⟨c1,c2,l,e⟩:=print_two s
 have e1:spB [] [102,111,108,108,111,119]=false:=rfl
 have e2:spB [102,111,108,108,111,119] n.data.toList=true:=by unfold spB;rw[b1];rfl
 have e3:spB n.data.toList (printL s)=true:=by unfold spB;rw[b2,b3,e];rfl
 have e4:spB (printL s) [59]=false:=by unfold spB;rw[show bareA [59]=true by decide +kernel];simp
 unfold lineS followK
 simp only[List.cons_append,List.nil_append,lineT,keyT,namT,setT,sgT,e1,e2,e3,e4]
 simp
theorem par_more {d:Df} (h:RightD d) (hs:SetsOK d) {n:ByteArray} {s:St} (hn:nm n=true) (hso:s.ok) (hl0:(wrS (stmtsK d) ([],[])).1.length≤65536)
  (hl:(wrS (stmtsK d) ([],[])).1.length+(7+n.data.toList.length+1+(printL s).length+2)≤65536) :
  ∃L,parR ((wrS (stmtsK d) ([],[])).1++([102,111,108,108,111,119,32]++n.data.toList++[32]++printL s++[59,10]))=.ok { d with follows:=d.follows++[⟨n,s⟩] } L:=by
 have e:=wrS_text (stmtsK d) [] hl0
 rw[List.nil_append] at e
 have el:(stmtsK d).flatMap lineS++([102,111,108,108,111,119,32]++n.data.toList++[32]++printL s++[59,10])=(stmtsK d++[followK ⟨n,s⟩]).flatMap lineS:=by
  rw[List.flatMap_append,List.flatMap_cons,List.flatMap_nil,List.append_nil,one_line hn]
 rw[e] at hl ⊢
 rw[el]
 refine par_steps ((stmtsK_steps h).app (.cons follow_step (.nil _))) (fun t ht=>?_) ?_
 ·rcases List.mem_append.1 ht with ht | ht
  ·exact stmtsK_ok h hs t ht
  ·rw[List.mem_singleton] at ht;subst ht
   exact .cons k_follow (.cons (nam_ok hn) (.cons (set_ok' hso) .nil))
 ·rw[←el]
  simp only[List.length_append,List.length_cons,List.length_nil] at hl ⊢
  omega
def moreF (d:Df) (f:Fo):Df:={ d with follows:=d.follows++[f] }
theorem da_len4 {w:World} {d:Df} {a b x2 x3 x5 x6:Value} {p:Option Addr} {n q:Nat} (h:DA w d [a,b,x2,x3,.slice p n q,x5,x6]):d.follows.length=n:=by
 obtain⟨f,v2,v3,v4,v5,v6,e,h2,h3,⟨p4,q4,h4,_⟩,h5,h6⟩:=h.at'
 injection e with _ e
 injection e with _ e
 injection e with _ e
 injection e with _ e
 injection e with e4 e
 rw[h4] at e4
 injection e4 with _ e5 _
 exact e5.symm
theorem da_more {w:World} {d:Df} {f:Fo} {a b x2 x3 x4 x5 x6:Value} (h:DA w (moreF d f) [a,b,x2,x3,x4,x5,x6]) :
  ∃b0 o q,x4=.slice (some ⟨b0,o,none⟩) (d.follows.length+1) q∧d.follows.length+1≤q∧d.follows.length+1≤140737488355328∧b0<w.heap.size∧(∀(i:Nat) v,([.string f.sort,.int .u64 f.set.a,.int .u64 f.set.b,.int .u64 f.set.c,.int .u64 f.set.d]:List Value)[i]?=some v→w.cell? ⟨b0,o+d.follows.length*5+i,none⟩=some v)∧DA w d [a,b,x2,x3,.slice (some ⟨b0,o,none⟩) d.follows.length q,x5,x6]:=by
 obtain⟨fu,v2,v3,v4,v5,v6,e,h2,h3,⟨a4,c4,e4,hc,hm,hr⟩,h5,h6⟩:=h.at'
 injection e with ea e
 injection e with eb e
 injection e with e2 e
 injection e with e3 e
 injection e with e4' e
 injection e with e5 e
 injection e with e6 e
 subst ea eb e2 e3 e4' e5 e6
 have hl:(d.follows++[f]).length=d.follows.length+1:=by simp
 obtain⟨b0,o,vs,ea4,hlt,hv,hcl⟩:=hr d.follows.length f (by show (d.follows++[f])[d.follows.length]?=some f;simp)
 subst ea4
 have hvs:=hv.2
 subst hvs
 have e4:x4=.slice (some ⟨b0,o,none⟩) (d.follows++[f]).length c4:=e4
 rw[hl] at e4
 have hc:(d.follows++[f]).length≤c4:=hc
 have hm:(d.follows++[f]).length≤140737488355328:=hm
 rw[hl] at hc hm
 refine⟨b0,o,c4,e4,hc,hm,hlt,hcl,fu,_,_,_,_,_,rfl,h2,h3,⟨_,_,rfl,by omega,by omega,fun j x hj=>?_⟩,h5,h6⟩
 exact hr j x (by
  have hlt:=(List.getElem?_eq_some_iff.1 hj).1
  show (d.follows++[f])[j]?=some x
  rw[List.getElem?_append_left hlt];exact hj)
theorem defsOne_walk (d:Df) (us:List Value) (n:ByteArray) (s:St) (w:World) (ha:DA w d us) (hz:n.size≤maxLen) (hso:s.ok) (hTab:Tab w.heap.size w) :
  Calls Tryz.prog 9 #[.agg us.toArray,.string n,.agg #[.int .u64 s.a,.int .u64 s.b,.int .u64 s.c,.int .u64 s.d]] w fun e w'=>e=.returned (.bool true)∧Below w.heap.size w w':=by
 unfold maxLen at hz
 have HTB:Hid (Tab w.heap.size w):=hTab
 have HDA:Hid (DA w d us):=ha
 have HSO:Hid s.ok:=hso
 obtain⟨a2,a3,a4,a5,a6,rfl⟩:=da_form ha
 obtain⟨⟨ap2,an2,aq2,rfl⟩,⟨ap3,an3,aq3,rfl⟩,⟨ap4,an4,aq4,rfl⟩,⟨ap5,an5,aq5,rfl⟩,⟨ap6,an6,aq6,rfl⟩⟩:=da_slices ha
 have HN4:Hid (d.follows.length=an4):=da_len4 ha
 have HAL:Hid (∀W,Below w.heap.size w W→Calls Tryz.prog 11 #[] W fun e w'=>e=.returned (.bool true)∧Below W.heap.size W w'):=fun W h=>alive_any W (HTB.out.nx h)
 obtain⟨la,hla⟩:∃x,lists d=x:=⟨_,rfl⟩
 obtain⟨NA,hNA⟩:∃x,(prtD d).2=x:=⟨_,rfl⟩
 obtain⟨SA,hSA⟩:∃x,strB (prtD d).1=x:=⟨_,rfl⟩
 have HHA:Hid (∀W,Below w.heap.size w W→Calls Tryz.prog 10 #[.agg #[.string d.start,.string d.layout,.slice ap2 an2 aq2,.slice ap3 an3 aq3,.slice ap4 an4 aq4,.slice ap5 an5 aq5,.slice ap6 an6 aq6]] W fun e w'=>∃q:Bool,e=.returned (.bool q)∧(q=false→la≤3000)∧Below W.heap.size W w'):=fun W h=>by
  rw[←hla];exact heavy_any d _ W (HDA.out.nx h)
 have HPA:Hid (∀W,Below w.heap.size w W→la≤3000→Calls Tryz.prog 13 #[.agg #[.string d.start,.string d.layout,.slice ap2 an2 aq2,.slice ap3 an3 aq3,.slice ap4 an4 aq4,.slice ap5 an5 aq5,.slice ap6 an6 aq6]] W fun e w'=>e=.returned (.tuple #[.string SA,.int .i64 (NA:Int)])∧Below W.heap.size W w'):=fun W h hl=>by
  rw[←hSA,←hNA];exact dprint_any d _ W (HDA.out.nx h) (HTB.out.nx h) (few_of (by rw[hla];exact hl))
 have HNM:Hid (∀W,Calls Tryz.prog 22 #[.string n] W fun e w'=>e=.returned (.bool (nm n))∧Below W.heap.size W w'):=fun W=>isName_any n W
 have HPS:Hid (∀W,Calls Tryz.prog 23 #[.agg #[.int .u64 s.a,.int .u64 s.b,.int .u64 s.c,.int .u64 s.d]] W fun e w'=>e=.returned (.string ⟨(printL s).toArray⟩)∧Below W.heap.size W w'):=fun W=>print_any s HSO.out W
 obtain⟨LP,hLP⟩:∃x:ByteArray,(⟨(printL s).toArray⟩:ByteArray)=x:=⟨_,rfl⟩
 obtain⟨LN,hLN⟩:∃x:ByteArray,((((⟨#[102,111,108,108,111,119,32]⟩:ByteArray)++n)++⟨#[32]⟩)++LP)++⟨#[59,10]⟩=x:=⟨_,rfl⟩
 have HLL:Hid (LN.data.toList=[102,111,108,108,111,119,32]++n.data.toList++[32]++printL s++[59,10]):=by
  show _=_
  rw[←hLN,←hLP];simp[ByteArray.data_append]
 rw[hLP] at HPS
 have HPX:Hid (NA=0→nm n=true→SA.size+LN.size≤65536→∀W,Calls Tryz.prog 19 #[.string (SA++LN)] W fun e w'=>(∃v2 v3 v4 v5 v6,e=.returned (.tuple #[.agg #[.string d.start,.string d.layout,v2,v3,v4,v5,v6],.agg #[.int .i64 0,.int .i64 0]])∧DA w' (moreF d ⟨n,s⟩) [.string d.start,.string d.layout,v2,v3,v4,v5,v6])∧Below W.heap.size W w'):=fun h0 hn hl W=>by
  have hp:=dparse_any (SA++LN) W
  rcases prt_cases d with h | ⟨_,ea,ra,la'⟩
  ·exact absurd (hNA.trans h0) h.1
  have e0:SA.data.toList=(wrS (stmtsK d) ([],[])).1:=by rw[←hSA,ea];simp[strB]
  have e:(SA++LN).data.toList=(wrS (stmtsK d) ([],[])).1++([102,111,108,108,111,119,32]++n.data.toList++[32]++printL s++[59,10]):=by
   rw[ByteArray.data_append,Array.toList_append,e0,HLL.out]
  have hl2:SA.data.toList.length+LN.data.toList.length≤65536:=by rw[list_len,list_len];exact hl
  rw[e0,HLL.out] at hl2
  obtain⟨L,pa⟩:=par_more ra HDA.out.sets hn HSO.out la' (by simp only[List.length_append,List.length_cons,List.length_nil] at hl2 ⊢;omega)
  rw[e,pa] at hp
  exact hp
 have HSX:Hid (∀(us vs:List Value) W,DA W d us→DA W d vs→Calls Tryz.prog 15 #[.agg ⟨us⟩,.agg ⟨vs⟩] W fun e w'=>e=.returned (.bool true)∧Below W.heap.size W w'):=fun us vs W h k=>by
  have:=rsame_two h k
  rw[eqD_self] at this
  exact this
 have HN32:Hid (nm n=true→n.size≤32):=fun h=>by
  unfold nm nameB whole at h
  simp only[Bool.and_eq_true,decide_eq_true_eq] at h
  have:=h.2.1
  rw[list_len] at this
  exact this
 have HPL:Hid (LP.size≤2306):=by
  show _≤_
  rw[←hLP]
  exact print_len s
 have HSZ:Hid (NA=0→SA.size≤65536):=fun h0=>by
  rcases prt_cases d with h | ⟨_,ea,ra,la'⟩
  ·exact absurd (hNA.trans h0) h.1
  rw[←hSA,ea,strB_size];exact la'
 have HLS:Hid (LN.size=7+n.size+1+LP.size+2):=by
  show _=_
  rw[←hLN];simp[ByteArray.size_append];rfl
 clear hla hNA hSA ha hTab hLP hso
 generalize d.start=s0 at *
 generalize d.layout=s1 at *
 show Calls Tryz.prog 9 #[.agg #[.string s0,.string s1,.slice ap2 an2 aq2,.slice ap3 an3 aq3,.slice ap4 an4 aq4,.slice ap5 an5 aq5,.slice ap6 an6 aq6],.string n,.agg #[.int .u64 s.a,.int .u64 s.b,.int .u64 s.c,.int .u64 s.d]] w _
 obtain⟨W0,hW0⟩:∃W0,(w.alloc (.cells #[.string s0,.string s1,.slice ap2 an2 aq2,.slice ap3 an3 aq3,.slice ap4 an4 aq4,.slice ap5 an5 aq5,.slice ap6 an6 aq6] 28)).alloc (.cells #[.int .u64 s.a,.int .u64 s.b,.int .u64 s.c,.int .u64 s.d] 49)=W0:=⟨_,rfl⟩
 have HBW0:Hid (Below w.heap.size w W0):=by show Below _ _ _;rw[←hW0];exact ((Below.refl _ _).alloc (Nat.le_refl _) _).alloc (by simp) _
 have HKaW0:Hid (Blk W0 w.heap.size 28 #[.string s0,.string s1,.slice ap2 an2 aq2,.slice ap3 an3 aq3,.slice ap4 an4 aq4,.slice ap5 an5 aq5,.slice ap6 an6 aq6]):=by show Blk _ _ _ _;rw[←hW0];exact (Blk.new w 28 _).alloc _
 have HKbW0:Hid (Blk W0 (w.heap.size+1) 49 #[.int .u64 s.a,.int .u64 s.b,.int .u64 s.c,.int .u64 s.d]):=by
  show Blk _ _ _ _
  rw[←hW0]
  have:=Blk.new (w.alloc (.cells #[.string s0,.string s1,.slice ap2 an2 aq2,.slice ap3 an3 aq3,.slice ap4 an4 aq4,.slice ap5 an5 aq5,.slice ap6 an6 aq6] 28)) 49 #[.int .u64 s.a,.int .u64 s.b,.int .u64 s.c,.int .u64 s.d]
  simpa using this
 have ca0:=HKaW0.out.cell 0 rfl
 have ca1:=HKaW0.out.cell 1 rfl
 have ca2:=HKaW0.out.cell 2 rfl
 have ca3:=HKaW0.out.cell 3 rfl
 have ca4:=HKaW0.out.cell 4 rfl
 have ca5:=HKaW0.out.cell 5 rfl
 have ca6:=HKaW0.out.cell 6 rfl
 go_enter Tryz.func9,Tryz.ntmps9
 go_wp2_with fail
 clear ca0 ca1 ca2 ca3 ca4 ca5 ca6
 refine (HHA.out W0 HBW0.out).mono ?_
 rintro e w1 ⟨qa,rfl,hqa,hb⟩
 have HKaw1:=kA HKaW0 (hHi hb)
 have HKbw1:=kA HKbW0 (hHi hb)
 have HBw1:=hHi (below_tr HBW0.out hb)
 clear hb
 have HQA:=hHi hqa
 clear hqa hW0
 cases qa with
 | true=>
  go_wp2_with fail
  refine (HAL.out w1 HBw1.out).mono ?_
  rintro e wz ⟨rfl,hb⟩
  have HBz:=hHi (below_tr HBw1.out hb)
  clear hb
  go_wp2
  go_ret
  exact⟨rfl,HBz.out⟩
 | false=>
  go_wp2_with fail
  refine (HNM.out w1).mono ?_
  rintro e w2 ⟨rfl,hb⟩
  have HKaw2:=kA HKaw1 (hHi hb)
  have HKbw2:=kA HKbw1 (hHi hb)
  have HBw2:=hHi (below_tr HBw1.out hb)
  clear hb
  cases hn:nm n with
  | false=>
   go_wp2_with fail
   refine (HAL.out w2 HBw2.out).mono ?_
   rintro e wz ⟨rfl,hb⟩
   have HBz:=hHi (below_tr HBw2.out hb)
   clear hb
   go_wp2
   go_ret
   exact⟨rfl,HBz.out⟩
  | true=>
   have hn32:=HN32.out hn
   have HNT:Hid (nm n=true):=hn
   clear hn
   have ca0:=HKaw2.out.cell 0 rfl
   have ca1:=HKaw2.out.cell 1 rfl
   have ca2:=HKaw2.out.cell 2 rfl
   have ca3:=HKaw2.out.cell 3 rfl
   have ca4:=HKaw2.out.cell 4 rfl
   have ca5:=HKaw2.out.cell 5 rfl
   have ca6:=HKaw2.out.cell 6 rfl
   go_wp2_with fail
   clear ca0 ca1 ca2 ca3 ca4 ca5 ca6
   refine (HPA.out w2 HBw2.out (HQA.out (by trivial))).mono ?_
   rintro e w3 ⟨rfl,hb⟩
   have HKaw3:=kA HKaw2 (hHi hb)
   have HKbw3:=kA HKbw2 (hHi hb)
   have HBw3:=hHi (below_tr HBw2.out hb)
   clear hb
   have cb0:=HKbw3.out.cell 0 rfl
   have cb1:=HKbw3.out.cell 1 rfl
   have cb2:=HKbw3.out.cell 2 rfl
   have cb3:=HKbw3.out.cell 3 rfl
   go_wp2_with fail
   clear cb0 cb1 cb2 cb3
   refine (HPS.out w3).mono ?_
   rintro e w4 ⟨rfl,hb⟩
   have HKaw4:=kA HKaw3 (hHi hb)
   have HKbw4:=kA HKbw3 (hHi hb)
   have HBw4:=hHi (below_tr HBw3.out hb)
   clear hb
   have hpl:=HPL.out
   by_cases hna:NA=0
   case neg=>
    have x1:((NA:Int) != 0)=true:=by simp;omega
    clear hna
    go_wp2_with fail
    refine (HAL.out w4 HBw4.out).mono ?_
    rintro e wz ⟨rfl,hb⟩
    have HBz:=hHi (below_tr HBw4.out hb)
    clear hb
    go_wp2
    go_ret
    exact⟨rfl,HBz.out⟩
   subst hna
   have hsz:=HSZ.out (by trivial)
   have hls:=HLS.out
   by_cases hsum:SA.size+LN.size≤65536
   case neg=>
    have y1:(65536:Int)<(SA.size:Int)+LN.size:=by omega
    have y2:(SA.size:Int)≤100000:=by omega
    have y3:(LN.size:Int)≤100000:=by omega
    clear hsum hsz hls
    go_wp2_with fail
    refine (HAL.out w4 HBw4.out).mono ?_
    rintro e wz ⟨rfl,hb⟩
    have HBz:=hHi (below_tr HBw4.out hb)
    clear hb
    go_wp2
    go_ret
    exact⟨rfl,HBz.out⟩
   have y1:(SA.size:Int)+LN.size≤65536:=by omega
   have HSUM:=hHi hsum
   clear hsum hsz hls
   go_wp2_with fail
   refine (HPX.out (by trivial) HNT.out HSUM.out w4).mono ?_
   rintro e w5 ⟨⟨x2,x3,x4,x5,x6,rfl,hdx⟩,hb⟩
   have HKaw5:=kA HKaw4 (hHi hb)
   have HKbw5:=kA HKbw4 (hHi hb)
   have HBw5:=hHi (below_tr HBw4.out hb)
   clear hb
   obtain⟨b0,o,q4,rfl,hq4,hm4,hb0,hc0,hdt⟩:=da_more hdx
   obtain⟨⟨xp2,xn2,xq2,rfl⟩,⟨xp3,xn3,xq3,rfl⟩,-,⟨xp5,xn5,xq5,rfl⟩,⟨xp6,xn6,xq6,rfl⟩⟩:=da_slices hdt
   rw[HN4.out] at hq4 hm4 hc0 hdt ⊢
   have HDT:=hHi hdt
   have hk:Blk ((w5.alloc (.cells #[.string s0,.string s1,.slice xp2 xn2 xq2,.slice xp3 xn3 xq3,.slice (some ⟨b0,o,none⟩) (an4+1) q4,.slice xp5 xn5 xq5,.slice xp6 xn6 xq6] 28)).alloc (.cells #[.int .i64 0,.int .i64 0] 37)) w.heap.size 28 #[.string s0,.string s1,.slice ap2 an2 aq2,.slice ap3 an3 aq3,.slice ap4 an4 aq4,.slice ap5 an5 aq5,.slice ap6 an6 aq6]:=(HKaw5.out.alloc _).alloc _
   have hbx:Below w5.heap.size w5 ((w5.alloc (.cells #[.string s0,.string s1,.slice xp2 xn2 xq2,.slice xp3 xn3 xq3,.slice (some ⟨b0,o,none⟩) (an4+1) q4,.slice xp5 xn5 xq5,.slice xp6 xn6 xq6] 28)).alloc (.cells #[.int .i64 0,.int .i64 0] 37)):=((Below.refl _ _).alloc (Nat.le_refl _) _).alloc (by simp) _
   have ca0:=HKaw5.out.cell 0 rfl
   have ca1:=HKaw5.out.cell 1 rfl
   have ca2:=HKaw5.out.cell 2 rfl
   have ca3:=HKaw5.out.cell 3 rfl
   have ca4:=HKaw5.out.cell 4 rfl
   have ca5:=HKaw5.out.cell 5 rfl
   have ca6:=HKaw5.out.cell 6 rfl
   have hlt0:=HKaw5.out.lt
   have r0:w5.cell? ⟨b0,o+an4*5,none⟩=some (.string n):=hc0 0 _ rfl
   have r1:w5.cell? ⟨b0,o+an4*5+1,none⟩=some (.int .u64 s.a):=hc0 1 _ rfl
   have r2:w5.cell? ⟨b0,o+an4*5+2,none⟩=some (.int .u64 s.b):=hc0 2 _ rfl
   have r3:w5.cell? ⟨b0,o+an4*5+3,none⟩=some (.int .u64 s.c):=hc0 3 _ rfl
   have r4:w5.cell? ⟨b0,o+an4*5+4,none⟩=some (.int .u64 s.d):=hc0 4 _ rfl
   obtain⟨w7,hw7⟩:∃w7,((w5.alloc (.cells #[.string s0,.string s1,.slice xp2 xn2 xq2,.slice xp3 xn3 xq3,.slice (some ⟨b0,o,none⟩) (an4+1) q4,.slice xp5 xn5 xq5,.slice xp6 xn6 xq6] 28)).alloc (.cells #[.int .i64 0,.int .i64 0] 37)).alloc (.cells #[.string n,.int .u64 s.a,.int .u64 s.b,.int .u64 s.c,.int .u64 s.d] 52)=w7:=⟨_,rfl⟩
   have hb57:Below w5.heap.size w5 w7:=by rw[←hw7];exact hbx.alloc (by simp;omega) _
   have HB57:=hHi hb57
   have HKa7:Hid (Blk w7 w.heap.size 28 #[.string s0,.string s1,.slice ap2 an2 aq2,.slice ap3 an3 aq3,.slice ap4 an4 aq4,.slice ap5 an5 aq5,.slice ap6 an6 aq6]):=by show Blk _ _ _ _;rw[←hw7];exact hk.alloc _
   have HKb7:=kA HKbw5 (hHi hb57)
   have HKx7:Hid (Blk w7 w5.heap.size 28 #[.string s0,.string s1,.slice xp2 xn2 xq2,.slice xp3 xn3 xq3,.slice (some ⟨b0,o,none⟩) (an4+1) q4,.slice xp5 xn5 xq5,.slice xp6 xn6 xq6]):=by show Blk _ _ _ _;rw[←hw7];exact ((Blk.new w5 28 _).alloc _).alloc _
   have HKl7:Hid (Blk w7 (w5.heap.size+1+1) 52 #[.string n,.int .u64 s.a,.int .u64 s.b,.int .u64 s.c,.int .u64 s.d]):=by
    show Blk _ _ _ _
    rw[←hw7]
    have:=Blk.new ((w5.alloc (.cells #[.string s0,.string s1,.slice xp2 xn2 xq2,.slice xp3 xn3 xq3,.slice (some ⟨b0,o,none⟩) (an4+1) q4,.slice xp5 xn5 xq5,.slice xp6 xn6 xq6] 28)).alloc (.cells #[.int .i64 0,.int .i64 0] 37)) 52 #[.string n,.int .u64 s.a,.int .u64 s.b,.int .u64 s.c,.int .u64 s.d]
    simpa using this
   have HS5:Hid (w.heap.size+2≤w5.heap.size):=by
    have:=HKbw5.out.lt
    show _≤_;omega
   have da0:=HKa7.out.cell 0 rfl
   have da1:=HKa7.out.cell 1 rfl
   have da2:=HKa7.out.cell 2 rfl
   have da3:=HKa7.out.cell 3 rfl
   have da4:=HKa7.out.cell 4 rfl
   have da5:=HKa7.out.cell 5 rfl
   have da6:=HKa7.out.cell 6 rfl
   have dx0:=HKx7.out.cell 0 rfl
   have dx1:=HKx7.out.cell 1 rfl
   have dx2:=HKx7.out.cell 2 rfl
   have dx3:=HKx7.out.cell 3 rfl
   have dx4:=HKx7.out.cell 4 rfl
   have dx5:=HKx7.out.cell 5 rfl
   have dx6:=HKx7.out.cell 6 rfl
   have fx:=HKx7.out.frozen 4
   have hlx:=HKx7.out.lt
   have HBw7:=hHi (below_tr HBw5.out hb57)
   clear hk hbx hdx hdt hc0 hb57
   go_wp2_with fail
   clear ca0 ca1 ca2 ca3 ca4 ca5 ca6 da0 da1 da2 da3 da4 da5 da6 dx0 dx1 dx2 dx3 dx4 dx5 dx6
   clear r0 r1 r2 r3 r4 fx
   obtain⟨w8,hw8⟩:∃w8,w7.setCell ⟨w5.heap.size,4,none⟩ (.slice (some ⟨b0,o,none⟩) an4 q4)=w8:=⟨_,rfl⟩
   have HKa8:Hid (Blk w8 w.heap.size 28 #[.string s0,.string s1,.slice ap2 an2 aq2,.slice ap3 an3 aq3,.slice ap4 an4 aq4,.slice ap5 an5 aq5,.slice ap6 an6 aq6]):=by show Blk _ _ _ _;rw[←hw8];exact HKa7.out.put _ _ _ (by have:=HS5.out;omega)
   have HKb8:Hid (Blk w8 (w.heap.size+1) 49 #[.int .u64 s.a,.int .u64 s.b,.int .u64 s.c,.int .u64 s.d]):=by show Blk _ _ _ _;rw[←hw8];exact HKb7.out.put _ _ _ (by have:=HS5.out;omega)
   have HKl8:Hid (Blk w8 (w5.heap.size+1+1) 52 #[.string n,.int .u64 s.a,.int .u64 s.b,.int .u64 s.c,.int .u64 s.d]):=by show Blk _ _ _ _;rw[←hw8];exact HKl7.out.put _ _ _ (by omega)
   have HKx8:Hid (Blk w8 w5.heap.size 28 #[.string s0,.string s1,.slice xp2 xn2 xq2,.slice xp3 xn3 xq3,.slice (some ⟨b0,o,none⟩) an4 q4,.slice xp5 xn5 xq5,.slice xp6 xn6 xq6]):=by show Blk _ _ _ _;rw[←hw8];exact HKx7.out.set 4 _
   have hb78:∀B,B≤w5.heap.size→Below B w7 w8:=fun B hB=>by rw[←hw8];exact gr_bel (grownBy_setCell w7 w5.heap.size 4 _) hB (by omega)
   have HB58:Hid (Below w5.heap.size w5 w8):=HB57.out.trans (hb78 _ (Nat.le_refl _))
   have HBw8:Hid (Below w.heap.size w w8):=HBw7.out.trans (hb78 _ (by have:=HS5.out;omega))
   rw[hw8]
   clear hw8 hb78 hw7 hlx
   refine (HAL.out w8 HBw8.out).mono ?_
   rintro e w9 ⟨rfl,hb⟩
   have HBw9:=hHi (below_tr HBw8.out hb)
   have HB59:=hHi (below_tr HB58.out hb)
   have hKa:=Blk.after HKa8.out hb
   have hKb:=Blk.after HKb8.out hb
   have hKl:=Blk.after HKl8.out hb
   have hKx:=Blk.after HKx8.out hb
   have ca0:=hKa.cell 0 rfl
   have ca1:=hKa.cell 1 rfl
   have ca2:=hKa.cell 2 rfl
   have ca3:=hKa.cell 3 rfl
   have ca4:=hKa.cell 4 rfl
   have ca5:=hKa.cell 5 rfl
   have ca6:=hKa.cell 6 rfl
   have cb0:=hKb.cell 0 rfl
   have cb1:=hKb.cell 1 rfl
   have cb2:=hKb.cell 2 rfl
   have cb3:=hKb.cell 3 rfl
   have cl0:=hKl.cell 0 rfl
   have cl1:=hKl.cell 1 rfl
   have cl2:=hKl.cell 2 rfl
   have cl3:=hKl.cell 3 rfl
   have cl4:=hKl.cell 4 rfl
   have cx0:=hKx.cell 0 rfl
   have cx1:=hKx.cell 1 rfl
   have cx2:=hKx.cell 2 rfl
   have cx3:=hKx.cell 3 rfl
   have cx4:=hKx.cell 4 rfl
   have cx5:=hKx.cell 5 rfl
   have cx6:=hKx.cell 6 rfl
   have E1:∀w,(Op.equalIn 9999 49 (.agg #[.int .u64 s.a,.int .u64 s.b,.int .u64 s.c,.int .u64 s.d]) (.agg #[.int .u64 s.a,.int .u64 s.b,.int .u64 s.c,.int .u64 s.d])).run Tryz.prog w=.ok true w:=fun w=>by
    rw[eq49e];simp[St.same]
   clear hb hKa hKb hKl hKx
   go_wp2_with fail
   refine (HSX.out _ _ w9 (HDT.out.nx HB59.out) (HDA.out.nx HBw9.out)).mono ?_
   rintro e w10 ⟨rfl,hb⟩
   have HBw10:=hHi (below_tr HBw9.out hb)
   clear hb
   clear ca0 ca1 ca2 ca3 ca4 ca5 ca6 cb0 cb1 cb2 cb3 cl0 cl1 cl2 cl3 cl4 cx0 cx1 cx2 cx3 cx4 cx5 cx6
   go_wp2
   go_ret
   exact⟨by first | rfl | simp,HBw10.out⟩
end Go.Proofs.YtcpakcffiopfjaaGreatDoor
