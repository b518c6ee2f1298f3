/- Which sorts are lexical, which ones a sort uses, where a constructor stands: the program's answers. -/
import Derived.Test.YtilpgpcgcpedjaaGreatKl
namespace Go.Proofs.YtilpgpcgcpedjaaGreat
open Go.RowKit
set_option linter.unusedVariables false
set_option linter.unusedSimpArgs false
set_option maxRecDepth 100000
set_option maxHeartbeats 16000000
theorem enter61 (args:Array Value) (W:World):(callFunc 61 args).run Tryz.prog W=.ok (.enter 61 args) W:=by kernel_rfl
theorem enter65 (args:Array Value) (W:World):(callFunc 65 args).run Tryz.prog W=.ok (.enter 65 args) W:=by kernel_rfl
theorem enter66 (args:Array Value) (W:World):(callFunc 66 args).run Tryz.prog W=.ok (.enter 66 args) W:=by kernel_rfl
theorem enter98 (args:Array Value) (W:World):(callFunc 98 args).run Tryz.prog W=.ok (.enter 98 args) W:=by kernel_rfl
theorem field88 (a b:Bool) (W:World):(Instr.field 88 (.agg #[.bool a,.bool b]) 0).run Tryz.prog W=.ok (.bool a) W:=by kernel_rfl
theorem lexC_any (l:List Pr) (s:ByteArray) (P B n:Nat) (W:World) (hs:s.size≤maxLen) (hB:W.cell? ⟨P,0,none⟩=some (.map (some B))) (hM:Mp W B n (kindF l)):Calls Tryz.prog 61 #[.string s,.pointer (some ⟨P,0,none⟩)] W fun e w'=>e=.returned (.bool (lexd l s))∧Below W.heap.size W w':=by
 have hlk:=hM.look Tryz.underlying70 (zero88 W) hs
 rw[kindF_get] at hlk
 have hfd:=field88
 go_enter Tryz.func61,Tryz.ntmps61
 go_wp2
 go_ret
 exact ⟨rfl,Below.refl _ _⟩
theorem useC_any (M:List ByteArray) (s:ByteArray) (P B:Nat) (W:World) (hs:s.size≤maxLen) (hB:W.cell? ⟨P,0,none⟩=some (.map (some B))) (hM:Mp W B M.length (metF M)):Calls Tryz.prog 66 #[.string s,.pointer (some ⟨P,0,none⟩)] W fun e w'=>e=.returned (.bool (decide (s∈M)))∧Below W.heap.size W w':=by
 have hlk:=hM.look Tryz.underlying72 (zero3 W) hs
 rw[metF_get] at hlk
 by_cases h:s∈M
 ·rw[if_pos h] at hlk
  have HD:Hid (decide (s∈M)=true):=decide_eq_true h
  rw[HD.out]
  clear h
  go_enter Tryz.func66,Tryz.ntmps66
  go_wp2
  go_ret
  exact ⟨rfl,Below.refl _ _⟩
 ·rw[if_neg h] at hlk
  have HD:Hid (decide (s∈M)=false):=decide_eq_false h
  rw[HD.out]
  clear h
  go_enter Tryz.func66,Tryz.ntmps66
  go_wp2
  go_ret
  exact ⟨rfl,Below.refl _ _⟩
theorem lexical_any (d:Df) (vs:List Value) (w:World) (h:DO w d vs):
  Calls Tryz.prog 20 #[.agg ⟨vs⟩] w fun e w'=>(∃va vc,e=.returned (.slice va (sthat (lexd d.prods) d.prods).length vc)∧NamesAt w' w.heap.size (sthat (lexd d.prods) d.prods) (.slice va (sthat (lexd d.prods) d.prods).length vc))∧Below w.heap.size w w':=by
 have HDO:=hHi h
 obtain⟨a2,p2,a3,p3,a4,p4,a5,p5,a6,p6,rfl,r2,_⟩:=h.form
 obtain⟨f,hf⟩:=h.sz
 have hz:d.prods.length≤140737488355328:=by have:=hf.p;omega
 obtain⟨w1,hw1⟩:∃qW,w.alloc (.cells #[.string d.start,.string d.layout,.slice a2 d.prods.length p2,.slice a3 d.chains.length p3,.slice a4 d.follows.length p4,.slice a5 d.rejects.length p5,.slice a6 d.boxes.length p6] 28)=qW:=⟨_,rfl⟩
 have HX1:=kN hw1
 have HB1:=kB hw1
 have HR:Hid (∀W,Below w.heap.size w W→Row W W.heap.size 5 (PrV W W.heap.size) a2 d.prods):=fun W hb=>r2.keep hb hb.size (fun _ _ _ h=>h.keep hb hb.size)
 have HK:=hU (sortKinds_any d a2 p2 (.slice a3 d.chains.length p3) (.slice a4 d.follows.length p4) (.slice a5 d.rejects.length p5) (.slice a6 d.boxes.length p6) w1 (HR.out w1 HB1.out) hz h.nm.prods)
 have HZ:=hHi hf.p
 clear r2 hf h hz
 go_enter Tryz.func20,Tryz.ntmps20
 obtain⟨d0,d1,d2,d3,d4,d5,d6⟩:=HX1.out.c7
 go_wp2_with fail
 refine hMo HK ?_
 rintro e w2 ⟨⟨B,n,rfl,hM,hB⟩,hb⟩
 have HB2:=hHi hb
 have HM2:=hHi hM
 have HX2:=kA HX1 HB2
 have HB12:=hHi (below_tr HB1.out HB2.out)
 clear hb hM hB HK d0 d1 d2 d3 d4 d5 d6
 obtain⟨w3,hw3⟩:∃qW,w2.alloc (.cells #[.map (some B)] 70)=qW:=⟨_,rfl⟩
 have HX3:=kN hw3
 have HB3:=kB hw3
 have HX13:=kA HX2 HB3
 have HM3:=Mp.below HM2 HB3
 have HB13:=hHi (below_tr HB12.out HB3.out)
 have HS:=hU (sortsThat_any 61 #[] #[.pointer (some ⟨w2.heap.size,0,none⟩)] (lexd d.prods) d a2 p2 (.slice a3 d.chains.length p3) (.slice a4 d.follows.length p4) (.slice a5 d.rejects.length p5) (.slice a6 d.boxes.length p6) w3 (HR.out w3 HB13.out) HZ.out HDO.out.nm.prods enter61 (fun s W hs hb=>lexC_any d.prods s w2.heap.size B n W hs ((HX3.out.after hb).cell 0 rfl) (Mp.below HM3 hb).out))
 obtain⟨d0,d1,d2,d3,d4,d5,d6⟩:=HX13.out.c7
 have p0:=HX3.out.cell 0 rfl
 go_wp2_with fail
 refine hMo HS ?_
 rintro e w4 ⟨⟨va,vc,rfl,hn⟩,hb⟩
 have HNA:=hHi hn
 have HB4:=hHi hb
 clear hn hb HS d0 d1 d2 d3 d4 d5 d6 p0
 go_wp2
 go_ret
 exact ⟨⟨va,vc,rfl,⟨row_mono HNA.out.row HB13.out.size⟩⟩,below_tr HB13.out HB4.out⟩
theorem leadsN_len (p:Pr):(leadsN p).length≤p.syms.length:=leadsS_len p.syms
theorem bareL_len (p:Pr):(bareL p).length≤p.syms.length:=by
 unfold bareL
 split
 ·rename_i s hs
  have h1:(needed p).length≤p.syms.length:=List.length_filter_le _ _
  rw[hs] at h1
  split
  ·simpa using h1
  ·simp
 ·simp
theorem leadsN_size {d:Df} (h:NmD d) {a b:ByteArray} (hs:Step d.prods leadsN a b):b.size≤maxLen:=by
 obtain⟨p,hp,_,hb⟩:=hs
 unfold leadsN at hb
 simp only[List.mem_filter,List.mem_map] at hb
 obtain⟨⟨s,hs,rfl⟩,_⟩:=hb
 exact (h.prods p hp).nms s hs
theorem bareL_size {d:Df} (h:NmD d) {a b:ByteArray} (hs:Step d.prods bareL a b):b.size≤maxLen:=by
 obtain⟨p,hp,_,hb⟩:=hs
 unfold bareL at hb
 split at hb
 ·rename_i s hs
  split at hb
  ·simp at hb
   subst hb
   have hm:s∈needed p:=by rw[hs];simp
   exact (h.prods p hp).nms s (List.mem_filter.1 hm).1
  ·cases hb
 ·cases hb
theorem uses_any (d:Df) (vs:List Value) (s:ByteArray) (w:World) (h:DO w d vs) (hs:s.size≤maxLen) (hfew:symsN d.prods≤1000000):
  Calls Tryz.prog 22 #[.agg ⟨vs⟩,.string s] w fun e w'=>(∃va vc,e=.returned (.slice va (sthat (farB d.prods leadsN s) d.prods).length vc)∧NamesAt w' w.heap.size (sthat (farB d.prods leadsN s) d.prods) (.slice va (sthat (farB d.prods leadsN s) d.prods).length vc))∧Below w.heap.size w w':=by
 have HDO:=hHi h
 obtain⟨a2,p2,a3,p3,a4,p4,a5,p5,a6,p6,rfl,r2,_⟩:=h.form
 obtain⟨f,hf⟩:=h.sz
 obtain⟨w1,hw1⟩:∃qW,w.alloc (.cells #[.string d.start,.string d.layout,.slice a2 d.prods.length p2,.slice a3 d.chains.length p3,.slice a4 d.follows.length p4,.slice a5 d.rejects.length p5,.slice a6 d.boxes.length p6] 28)=qW:=⟨_,rfl⟩
 have HX1:=kN hw1
 have HB1:=kB hw1
 have HR:Hid (∀W,Below w.heap.size w W→Row W W.heap.size 5 (PrV W W.heap.size) a2 d.prods):=fun W hb=>r2.keep hb hb.size (fun _ _ _ h=>h.keep hb hb.size)
 have HK:=hU (steps_any 65 leadsN leadsN_len d a2 p2 (.slice a3 d.chains.length p3) (.slice a4 d.follows.length p4) (.slice a5 d.rejects.length p5) (.slice a6 d.boxes.length p6) w1 (HR.out w1 HB1.out) hf.p hf.ps hfew h.nm.prods enter65 (fun p vs W hp hz=>named_any p vs W hp hz))
 have HZ:=hHi hf.p
 have HFW:=hHi hfew
 clear r2 hf h hfew
 go_enter Tryz.func22,Tryz.ntmps22
 obtain⟨d0,d1,d2,d3,d4,d5,d6⟩:=HX1.out.c7
 go_wp2_with fail
 refine hMo HK ?_
 rintro e w2 ⟨⟨B,m,lo,g,rfl,hM,hB,hlo⟩,hb⟩
 have HB2:=hHi hb
 have HX2:=kA HX1 HB2
 have HB12:=hHi (below_tr HB1.out HB2.out)
 have HRE:=hU (reach_any leadsN leadsN_len d.prods s w2 lo B m g hM HFW.out hs (fun a b h=>leadsN_size HDO.out.nm h))
 clear hb hM hB hlo HK d0 d1 d2 d3 d4 d5 d6
 go_wp2_with fail
 refine hMo HRE ?_
 rintro e w3 ⟨⟨B',M,rfl,hM,hF,_,_⟩,hb⟩
 have HB3:=hHi hb
 have HM3:=hHi hM
 have HFE:Hid ((fun x=>decide (x∈M))=farB d.prods leadsN s):=by
  show _=_
  funext x
  cases hx:farB d.prods leadsN s x
  ·exact decide_eq_false (fun h=>by rw[farB_iff.2 ((hF x).1 h)] at hx;cases hx)
  ·exact decide_eq_true ((hF x).2 (farB_iff.1 hx))
 have HX3:=kA HX2 HB3
 have HB13:=hHi (below_tr HB12.out HB3.out)
 clear hb hM hF HRE
 obtain⟨w4,hw4⟩:∃qW,w3.alloc (.cells #[.map (some B')] 72)=qW:=⟨_,rfl⟩
 have HX4:=kN hw4
 have HB4:=kB hw4
 have HX14:=kA HX3 HB4
 have HM4:=Mp.below HM3 HB4
 have HB14:=hHi (below_tr HB13.out HB4.out)
 have HS:=hU (sortsThat_any 66 #[] #[.pointer (some ⟨w3.heap.size,0,none⟩)] (farB d.prods leadsN s) d a2 p2 (.slice a3 d.chains.length p3) (.slice a4 d.follows.length p4) (.slice a5 d.rejects.length p5) (.slice a6 d.boxes.length p6) w4 (HR.out w4 HB14.out) HZ.out HDO.out.nm.prods enter66 (fun x W hs hb=>by rw[←HFE.out];exact useC_any M x w3.heap.size B' W hs ((HX4.out.after hb).cell 0 rfl) (Mp.below HM4 hb).out))
 obtain⟨d0,d1,d2,d3,d4,d5,d6⟩:=HX14.out.c7
 have p0:=HX4.out.cell 0 rfl
 go_wp2_with fail
 refine hMo HS ?_
 rintro e w5 ⟨⟨va,vc,rfl,hn⟩,hb⟩
 have HNA:=hHi hn
 have HB5:=hHi hb
 clear hn hb HS d0 d1 d2 d3 d4 d5 d6 p0
 go_wp2
 go_ret
 exact ⟨⟨va,vc,rfl,⟨row_mono HNA.out.row HB14.out.size⟩⟩,below_tr HB14.out HB5.out⟩
def consI (l:List Pr) (s:ByteArray):Int:=match firstCons l s with
 | some i=>(i:Int)
 | none=>-1
theorem cons_any (d:Df) (vs:List Value) (s:ByteArray) (w:World) (h:DO w d vs) (hs:s.size≤maxLen):
  Calls Tryz.prog 24 #[.agg ⟨vs⟩,.string s] w fun e w'=>e=.returned (.int .i64 (consI d.prods s))∧Below w.heap.size w w':=by
 obtain⟨a2,p2,a3,p3,a4,p4,a5,p5,a6,p6,rfl,r2,_⟩:=h.form
 obtain⟨f,hf⟩:=h.sz
 have hz:d.prods.length≤140737488355328:=by have:=hf.p;omega
 obtain⟨w1,hw1⟩:∃qW,w.alloc (.cells #[.string d.start,.string d.layout,.slice a2 d.prods.length p2,.slice a3 d.chains.length p3,.slice a4 d.follows.length p4,.slice a5 d.rejects.length p5,.slice a6 d.boxes.length p6] 28)=qW:=⟨_,rfl⟩
 have HX1:=kN hw1
 have HB1:=kB hw1
 have HK:=hU (consPlaces_any d a2 p2 (.slice a3 d.chains.length p3) (.slice a4 d.follows.length p4) (.slice a5 d.rejects.length p5) (.slice a6 d.boxes.length p6) w1 (r2.keep HB1.out HB1.out.size (fun _ _ _ h=>h.keep HB1.out HB1.out.size)) hz h.nm.prods)
 clear r2 hf h hz
 go_enter Tryz.func24,Tryz.ntmps24
 obtain⟨d0,d1,d2,d3,d4,d5,d6⟩:=HX1.out.c7
 go_wp2_with fail
 refine hMo HK ?_
 rintro e w2 ⟨⟨B,n,rfl,hM,hB⟩,hb⟩
 have HB2:=hHi hb
 have hlk:=hM.look_ok Tryz.underlying72 (zero3 w2) hs
 have HB12:=hHi (below_tr HB1.out HB2.out)
 clear hb hM hB HK d0 d1 d2 d3 d4 d5 d6
 unfold placeF at hlk
 cases hfc:firstCons d.prods s with
 | none=>
  have HC:Hid (consI d.prods s=-1):=by show _=_;unfold consI;rw[hfc]
  rw[hfc] at hlk
  simp only[Option.map_none,Option.getD_none,Option.isSome_none] at hlk
  clear hfc
  go_wp2
  go_ret
  rw[HC.out]
  exact ⟨rfl,HB12.out⟩
 | some i=>
  have HC:Hid (consI d.prods s=(i:Int)):=by show _=_;unfold consI;rw[hfc]
  rw[hfc] at hlk
  simp only[Option.map_some,Option.getD_some,Option.isSome_some] at hlk
  clear hfc
  go_wp2
  go_ret
  rw[HC.out]
  exact ⟨rfl,HB12.out⟩
end Go.Proofs.YtilpgpcgcpedjaaGreat
