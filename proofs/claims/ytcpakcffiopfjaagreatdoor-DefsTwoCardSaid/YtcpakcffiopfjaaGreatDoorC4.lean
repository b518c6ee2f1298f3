/- An item read. Items read, as many as there are. -/
import Derived.Test.YtcpakcffiopfjaaGreatDoorC3
import Derived.Test.YtcpakcffiopfjaaGreatDoorA1
namespace Go.Proofs.YtcpakcffiopfjaaGreatDoor
open Go.RowKit
set_option linter.unusedVariables false
set_option linter.unusedSimpArgs false
set_option maxRecDepth 100000
set_option maxHeartbeats 16000000
def RT (R rb hb ib wb:Nat) (D:List Value) (h:Nat) (W:World):PR (Nat×It)→Ending→World→Prop
 | .ok q L',e,w'=>(∃va vc,e=.returned (.agg #[.int .i64 q.2.kind,.string q.2.text,.int .i64 q.2.n,.slice va q.2.items.length vc])∧ItsAt w' (fun b=>W.heap.size≤b∧b<w'.heap.size) q.2.items (.slice va q.2.items.length vc))∧Env w' R rb hb ib wb q.1∧(h≤q.1∧q.1≤64)∧Rd w' R D L'∧Gr2 W w' R hb
 | .bad p c,e,w'=>e=FE p c∧Gr2 W w' R hb
theorem itemKB_ne {L:List Wd} (h:3≤itemKB L):(wd L).text≠[]:=by
 intro e
 unfold itemKB isT at h
 rw[e] at h
 by_cases h4:(wd L).kind=4
 ·rw[if_pos h4] at h;omega
 rw[if_neg h4] at h
 by_cases h3:(wd L).kind=3
 ·rw[if_pos h3] at h;omega
 rw[if_neg h3] at h
 simp at h
theorem rd_item1 (R rb hb ib wb:Nat) (D:List Value) (f:Nat) (_HIC:ItemsC R rb hb ib wb D f) (h:Nat) (L:List Wd) (w:World) (h64:h≤64) (_hf:66≤h+f) (hE:Env w R rb hb ib wb h) (hR:Rd w R D L) (hk:itemKB L=1) :
  Calls Tryz.prog 203 #[.pointer (some ⟨R,0,none⟩),.int .i64 1,.func (.func 200) #[] #[.pointer (some ⟨rb,0,none⟩),.pointer (some ⟨ib,0,none⟩)]] w (RT R rb hb ib wb D h w (itemR f 1 h L)):=by
 have HLE:Hid (h≤h∧h≤64):=⟨Nat.le_refl _,h64⟩
 clear h64
 have HLT:Hid _:=hR.lt
 have HR0:Hid (Rd w R D L):=hR
 have HG0:Hid (Gr2 w w R hb):=Gr2.refl _ _ _
 clear hR
 have Ker_0:Hid (Blk w rb 98 #[.pointer (some ⟨R,0,none⟩)]):=hE.r
 have Keh_0:Hid (Blk w hb 3 #[.int .i64 (h:Int)]):=hE.h
 have Kei_0:Hid (Blk w ib 199 #[.func (.func 201) #[] #[.pointer (some ⟨rb,0,none⟩),.pointer (some ⟨hb,0,none⟩),.pointer (some ⟨wb,0,none⟩)]]):=hE.i
 have Kew_0:Hid (Blk w wb 199 #[.func (.func 200) #[] #[.pointer (some ⟨rb,0,none⟩),.pointer (some ⟨ib,0,none⟩)]]):=hE.w
 have HZer:Hid (R<rb):=hE.lr
 have HZeh:Hid (R<hb):=hE.lh
 have HZei:Hid (R<ib):=hE.li
 have HZew:Hid (R<wb):=hE.lw
 have HLer:Hid (rb<w.heap.size):=Blk.lt hE.r
 have HLeh:Hid (hb<w.heap.size):=Blk.lt hE.h
 have HLei:Hid (ib<w.heap.size):=Blk.lt hE.i
 have HLew:Hid (wb<w.heap.size):=Blk.lt hE.w
 clear hE
 clear hk
 obtain⟨a1,ha1⟩:∃qW,w.alloc (.cells #[.int .i64 0,.string ⟨#[]⟩,.int .i64 0,.slice none 0 0] 124)=qW:=⟨_,rfl⟩
 have HN1:=kB ha1
 have HZ1:=hHi HG0.out.size
 have HR1:=hHi (HR0.out.below HN1.out)
 have HG1:=hHi (Gr2.below HG0.out HN1.out)
 have Ker_1:=kA Ker_0 HN1
 have Keh_1:=kA Keh_0 HN1
 have Kei_1:=kA Kei_0 HN1
 have Kew_1:=kA Kew_0 HN1
 have Kr_1:=kN ha1
 go_enter Tryz.func203,Tryz.ntmps203
 go_wp2_with fail
 obtain⟨a2,ha2⟩:∃qW,a1.alloc (.cells #[.int .i64 1,.string ⟨#[]⟩,.int .i64 0,.slice none 0 0] 124)=qW:=⟨_,rfl⟩
 rw[ha2]
 have HN2:=kB ha2
 have HZ2:=hHi HG1.out.size
 have HR2:=hHi (HR1.out.below HN2.out)
 have HG2:=hHi (Gr2.below HG1.out HN2.out)
 have Ker_2:=kA Ker_1 HN2
 have Keh_2:=kA Keh_1 HN2
 have Kei_2:=kA Kei_1 HN2
 have Kew_2:=kA Kew_1 HN2
 have Kr_2:=kA Kr_1 HN2
 have Ki_2:=kN ha2
 have HNE:Hid ((w.heap.size:Nat)≠a1.heap.size):=by have:=Blk.lt Kr_1.out;show _≠_;omega
 have HC3:=hU (rd_text R D L a2 HR2.out)
 cases hr3:textR L with
 | bad p3 c3=>
  rw[hr3] at HC3
  have HE3:=hHi hr3
  clear hr3
  refine hMo HC3 ?_
  rintro e wf ⟨rfl,hgf⟩
  simp only[FE]
  go_wp2
  refine⟨rfl,?_⟩
  have hfin:itemR f 1 h L=.bad p3 c3:=by unfold itemR;rw[if_pos rfl];rw[HE3.out];try rfl
  show RT R rb hb ib wb D h w (itemR f 1 h L) _ _
  rw[hfin]
  exact⟨rfl,Gr2.gr HG2.out hgf⟩
 | ok t L3=>
 rw[hr3] at HC3
 have HE3:=hHi hr3
 clear hr3
 refine hMo HC3 ?_
 rintro e a3 ⟨rfl,hr,hg⟩
 have HN3:=hHi hg
 have HR3:=hHi hr
 have HG3:=hHi (Gr2.gr HG2.out hg)
 clear hr hg
 have Ker_3:=kR Ker_2 HN3.out HZer.out
 have Keh_3:=kR Keh_2 HN3.out HZeh.out
 have Kei_3:=kR Kei_2 HN3.out HZei.out
 have Kew_3:=kR Kew_2 HN3.out HZew.out
 have Kr_3:=kZ Kr_2 HN3.out HLT.out HZ1.out
 have Ki_3:=kZ Ki_2 HN3.out HLT.out HZ2.out
 obtain⟨ci0_4,ci1_5,ci2_6,ci3_7⟩:=Ki_3.out.c4
 have zi_8:=Ki_3.out.frozen
 have li_8:=Ki_3.out.lt
 obtain⟨a9,ha9⟩:∃qW,a3.setCell ⟨a1.heap.size,1,none⟩ (.string t)=qW:=⟨_,rfl⟩
 have HN9:Hid (a3.grownBy a9 (some a1.heap.size)):=by show World.grownBy _ _ _;rw[←ha9];exact grownBy_setCell _ _ _ _
 have HR9:=hHi (Rd.kept HR3.out HN9.out (by have:=HLT.out;have:=HZ2.out;omega))
 have HG9:=hHi (Gr2.new HG3.out HN9.out HZ2.out)
 have Ker_9:=kK Ker_3 HN9.out (by have:=HLer.out;have:=HZ2.out;simp;omega)
 have Keh_9:=kK Keh_3 HN9.out (by have:=HLeh.out;have:=HZ2.out;simp;omega)
 have Kei_9:=kK Kei_3 HN9.out (by have:=HLei.out;have:=HZ2.out;simp;omega)
 have Kew_9:=kK Kew_3 HN9.out (by have:=HLew.out;have:=HZ2.out;simp;omega)
 have Kr_9:=kK Kr_3 HN9.out (by have:=HNE.out;simpa using this)
 have Ki_9:Hid (Blk a9 a1.heap.size 124 #[.int .i64 1,.string t,.int .i64 0,.slice none 0 0]):=by show Blk _ _ _ _;rw[←ha9];exact Blk.set Ki_3.out 1 _
 obtain⟨ci0_10,ci1_11,ci2_12,ci3_13⟩:=Ki_9.out.c4
 obtain⟨cr0_14,cr1_15,cr2_16,cr3_17⟩:=Kr_9.out.c4
 have zr_18:=Kr_9.out.frozen
 have lr_18:=Kr_9.out.lt
 go_wp2
 refine gen (fun W=>Blk W w.heap.size 124 _∧a9.grownBy W (some w.heap.size)) ⟨Blk.set4 Kr_9.out _ _ _ _,grset4 _ _ _ _ _ _⟩ ?_
 rintro W ⟨hb9,hgW⟩
 refine bodyPost_ret (results_cell_row rfl _ _ w.heap.size 124 _ (0,0) _ rfl hb9 Tryz.underlying124 rfl (by kernel_rfl)) rfl ?_
 have hfin:itemR f 1 h L=.ok (h,.mk 1 t 0 []) L3:=by unfold itemR;rw[if_pos rfl];rw[HE3.out];try dsimp only[PR.bind]
 show RT R rb hb ib wb D h w (itemR f 1 h L) _ _
 rw[hfin]
 have hle:w.heap.size≤w.heap.size:=HZ1.out
 refine⟨⟨_,_,rfl,ItsAt.nil _ _⟩,?_,HLE.out,Rd.kept HR9.out hgW (by have:=HLT.out;omega),Gr2.new HG9.out hgW hle⟩
 exact⟨Blk.kept Ker_9.out hgW (by have:=HLer.out;simp;omega),Blk.kept Keh_9.out hgW (by have:=HLeh.out;simp;omega),Blk.kept Kei_9.out hgW (by have:=HLei.out;simp;omega),Blk.kept Kew_9.out hgW (by have:=HLew.out;simp;omega),HZer.out,HZeh.out,HZei.out,HZew.out⟩
theorem rd_item2 (R rb hb ib wb:Nat) (D:List Value) (f:Nat) (_HIC:ItemsC R rb hb ib wb D f) (h:Nat) (L:List Wd) (w:World) (h64:h≤64) (_hf:66≤h+f) (hE:Env w R rb hb ib wb h) (hR:Rd w R D L) (hk:itemKB L=2) :
  Calls Tryz.prog 203 #[.pointer (some ⟨R,0,none⟩),.int .i64 2,.func (.func 200) #[] #[.pointer (some ⟨rb,0,none⟩),.pointer (some ⟨ib,0,none⟩)]] w (RT R rb hb ib wb D h w (itemR f 2 h L)):=by
 have HLE:Hid (h≤h∧h≤64):=⟨Nat.le_refl _,h64⟩
 clear h64
 have HLT:Hid _:=hR.lt
 have HR0:Hid (Rd w R D L):=hR
 have HG0:Hid (Gr2 w w R hb):=Gr2.refl _ _ _
 clear hR
 have Ker_0:Hid (Blk w rb 98 #[.pointer (some ⟨R,0,none⟩)]):=hE.r
 have Keh_0:Hid (Blk w hb 3 #[.int .i64 (h:Int)]):=hE.h
 have Kei_0:Hid (Blk w ib 199 #[.func (.func 201) #[] #[.pointer (some ⟨rb,0,none⟩),.pointer (some ⟨hb,0,none⟩),.pointer (some ⟨wb,0,none⟩)]]):=hE.i
 have Kew_0:Hid (Blk w wb 199 #[.func (.func 200) #[] #[.pointer (some ⟨rb,0,none⟩),.pointer (some ⟨ib,0,none⟩)]]):=hE.w
 have HZer:Hid (R<rb):=hE.lr
 have HZeh:Hid (R<hb):=hE.lh
 have HZei:Hid (R<ib):=hE.li
 have HZew:Hid (R<wb):=hE.lw
 have HLer:Hid (rb<w.heap.size):=Blk.lt hE.r
 have HLeh:Hid (hb<w.heap.size):=Blk.lt hE.h
 have HLei:Hid (ib<w.heap.size):=Blk.lt hE.i
 have HLew:Hid (wb<w.heap.size):=Blk.lt hE.w
 clear hE
 clear hk
 obtain⟨a1,ha1⟩:∃qW,w.alloc (.cells #[.int .i64 0,.string ⟨#[]⟩,.int .i64 0,.slice none 0 0] 124)=qW:=⟨_,rfl⟩
 have HN1:=kB ha1
 have HZ1:=hHi HG0.out.size
 have HR1:=hHi (HR0.out.below HN1.out)
 have HG1:=hHi (Gr2.below HG0.out HN1.out)
 have Ker_1:=kA Ker_0 HN1
 have Keh_1:=kA Keh_0 HN1
 have Kei_1:=kA Kei_0 HN1
 have Kew_1:=kA Kew_0 HN1
 have Kr_1:=kN ha1
 go_enter Tryz.func203,Tryz.ntmps203
 go_wp2_with fail
 obtain⟨a2,ha2⟩:∃qW,a1.alloc (.cells #[.int .i64 2,.string ⟨#[]⟩,.int .i64 0,.slice none 0 0] 124)=qW:=⟨_,rfl⟩
 rw[ha2]
 have HN2:=kB ha2
 have HZ2:=hHi HG1.out.size
 have HR2:=hHi (HR1.out.below HN2.out)
 have HG2:=hHi (Gr2.below HG1.out HN2.out)
 have Ker_2:=kA Ker_1 HN2
 have Keh_2:=kA Keh_1 HN2
 have Kei_2:=kA Kei_1 HN2
 have Kew_2:=kA Kew_1 HN2
 have Kr_2:=kA Kr_1 HN2
 have Ki_2:=kN ha2
 have HNE:Hid ((w.heap.size:Nat)≠a1.heap.size):=by have:=Blk.lt Kr_1.out;show _≠_;omega
 have HC3:=hU (rd_num R D L a2 HR2.out)
 cases hr3:numR L with
 | bad p3 c3=>
  rw[hr3] at HC3
  have HE3:=hHi hr3
  clear hr3
  refine hMo HC3 ?_
  rintro e wf ⟨rfl,hgf⟩
  simp only[FE]
  go_wp2
  refine⟨rfl,?_⟩
  have hfin:itemR f 2 h L=.bad p3 c3:=by unfold itemR;rw[if_neg (by decide)];rw[if_pos rfl];rw[HE3.out];try rfl
  show RT R rb hb ib wb D h w (itemR f 2 h L) _ _
  rw[hfin]
  exact⟨rfl,Gr2.gr HG2.out hgf⟩
 | ok n L3=>
 rw[hr3] at HC3
 have HE3:=hHi hr3
 clear hr3
 refine hMo HC3 ?_
 rintro e a3 ⟨rfl,hr,hg⟩
 have HN3:=hHi hg
 have HR3:=hHi hr
 have HG3:=hHi (Gr2.gr HG2.out hg)
 clear hr hg
 have Ker_3:=kR Ker_2 HN3.out HZer.out
 have Keh_3:=kR Keh_2 HN3.out HZeh.out
 have Kei_3:=kR Kei_2 HN3.out HZei.out
 have Kew_3:=kR Kew_2 HN3.out HZew.out
 have Kr_3:=kZ Kr_2 HN3.out HLT.out HZ1.out
 have Ki_3:=kZ Ki_2 HN3.out HLT.out HZ2.out
 obtain⟨ci0_4,ci1_5,ci2_6,ci3_7⟩:=Ki_3.out.c4
 have zi_8:=Ki_3.out.frozen
 have li_8:=Ki_3.out.lt
 obtain⟨a9,ha9⟩:∃qW,a3.setCell ⟨a1.heap.size,2,none⟩ (.int .i64 (n:Int))=qW:=⟨_,rfl⟩
 have HN9:Hid (a3.grownBy a9 (some a1.heap.size)):=by show World.grownBy _ _ _;rw[←ha9];exact grownBy_setCell _ _ _ _
 have HR9:=hHi (Rd.kept HR3.out HN9.out (by have:=HLT.out;have:=HZ2.out;omega))
 have HG9:=hHi (Gr2.new HG3.out HN9.out HZ2.out)
 have Ker_9:=kK Ker_3 HN9.out (by have:=HLer.out;have:=HZ2.out;simp;omega)
 have Keh_9:=kK Keh_3 HN9.out (by have:=HLeh.out;have:=HZ2.out;simp;omega)
 have Kei_9:=kK Kei_3 HN9.out (by have:=HLei.out;have:=HZ2.out;simp;omega)
 have Kew_9:=kK Kew_3 HN9.out (by have:=HLew.out;have:=HZ2.out;simp;omega)
 have Kr_9:=kK Kr_3 HN9.out (by have:=HNE.out;simpa using this)
 have Ki_9:Hid (Blk a9 a1.heap.size 124 #[.int .i64 2,.string ⟨#[]⟩,.int .i64 (n:Int),.slice none 0 0]):=by show Blk _ _ _ _;rw[←ha9];exact Blk.set Ki_3.out 2 _
 obtain⟨ci0_10,ci1_11,ci2_12,ci3_13⟩:=Ki_9.out.c4
 obtain⟨cr0_14,cr1_15,cr2_16,cr3_17⟩:=Kr_9.out.c4
 have zr_18:=Kr_9.out.frozen
 have lr_18:=Kr_9.out.lt
 go_wp2
 refine gen (fun W=>Blk W w.heap.size 124 _∧a9.grownBy W (some w.heap.size)) ⟨Blk.set4 Kr_9.out _ _ _ _,grset4 _ _ _ _ _ _⟩ ?_
 rintro W ⟨hb9,hgW⟩
 refine bodyPost_ret (results_cell_row rfl _ _ w.heap.size 124 _ (0,0) _ rfl hb9 Tryz.underlying124 rfl (by kernel_rfl)) rfl ?_
 have hfin:itemR f 2 h L=.ok (h,.mk 2 ⟨#[]⟩ n []) L3:=by unfold itemR;rw[if_neg (by decide)];rw[if_pos rfl];rw[HE3.out];try dsimp only[PR.bind]
 show RT R rb hb ib wb D h w (itemR f 2 h L) _ _
 rw[hfin]
 have hle:w.heap.size≤w.heap.size:=HZ1.out
 refine⟨⟨_,_,rfl,ItsAt.nil _ _⟩,?_,HLE.out,Rd.kept HR9.out hgW (by have:=HLT.out;omega),Gr2.new HG9.out hgW hle⟩
 exact⟨Blk.kept Ker_9.out hgW (by have:=HLer.out;simp;omega),Blk.kept Keh_9.out hgW (by have:=HLeh.out;simp;omega),Blk.kept Kei_9.out hgW (by have:=HLei.out;simp;omega),Blk.kept Kew_9.out hgW (by have:=HLew.out;simp;omega),HZer.out,HZeh.out,HZei.out,HZew.out⟩
theorem rd_item3 (R rb hb ib wb:Nat) (D:List Value) (f:Nat) (_HIC:ItemsC R rb hb ib wb D f) (h:Nat) (L:List Wd) (w:World) (h64:h≤64) (_hf:66≤h+f) (hE:Env w R rb hb ib wb h) (hR:Rd w R D L) (hk:itemKB L=3) :
  Calls Tryz.prog 203 #[.pointer (some ⟨R,0,none⟩),.int .i64 3,.func (.func 200) #[] #[.pointer (some ⟨rb,0,none⟩),.pointer (some ⟨ib,0,none⟩)]] w (RT R rb hb ib wb D h w (itemR f 3 h L)):=by
 have HLE:Hid (h≤h∧h≤64):=⟨Nat.le_refl _,h64⟩
 clear h64
 have HLT:Hid _:=hR.lt
 have HR0:Hid (Rd w R D L):=hR
 have HG0:Hid (Gr2 w w R hb):=Gr2.refl _ _ _
 clear hR
 have Ker_0:Hid (Blk w rb 98 #[.pointer (some ⟨R,0,none⟩)]):=hE.r
 have Keh_0:Hid (Blk w hb 3 #[.int .i64 (h:Int)]):=hE.h
 have Kei_0:Hid (Blk w ib 199 #[.func (.func 201) #[] #[.pointer (some ⟨rb,0,none⟩),.pointer (some ⟨hb,0,none⟩),.pointer (some ⟨wb,0,none⟩)]]):=hE.i
 have Kew_0:Hid (Blk w wb 199 #[.func (.func 200) #[] #[.pointer (some ⟨rb,0,none⟩),.pointer (some ⟨ib,0,none⟩)]]):=hE.w
 have HZer:Hid (R<rb):=hE.lr
 have HZeh:Hid (R<hb):=hE.lh
 have HZei:Hid (R<ib):=hE.li
 have HZew:Hid (R<wb):=hE.lw
 have HLer:Hid (rb<w.heap.size):=Blk.lt hE.r
 have HLeh:Hid (hb<w.heap.size):=Blk.lt hE.h
 have HLei:Hid (ib<w.heap.size):=Blk.lt hE.i
 have HLew:Hid (wb<w.heap.size):=Blk.lt hE.w
 clear hE
 have HK:=hHi hk
 clear hk
 obtain⟨a1,ha1⟩:∃qW,w.alloc (.cells #[.int .i64 0,.string ⟨#[]⟩,.int .i64 0,.slice none 0 0] 124)=qW:=⟨_,rfl⟩
 have HN1:=kB ha1
 have HZ1:=hHi HG0.out.size
 have HR1:=hHi (HR0.out.below HN1.out)
 have HG1:=hHi (Gr2.below HG0.out HN1.out)
 have Ker_1:=kA Ker_0 HN1
 have Keh_1:=kA Keh_0 HN1
 have Kei_1:=kA Kei_0 HN1
 have Kew_1:=kA Kew_0 HN1
 have Kr_1:=kN ha1
 go_enter Tryz.func203,Tryz.ntmps203
 go_wp2_with fail
 obtain⟨a2,ha2⟩:∃qW,a1.alloc (.cells #[.int .i64 3,.string ⟨#[]⟩,.int .i64 0,.slice none 0 0] 124)=qW:=⟨_,rfl⟩
 rw[ha2]
 have HN2:=kB ha2
 have HZ2:=hHi HG1.out.size
 have HR2:=hHi (HR1.out.below HN2.out)
 have HG2:=hHi (Gr2.below HG1.out HN2.out)
 have Ker_2:=kA Ker_1 HN2
 have Keh_2:=kA Keh_1 HN2
 have Kei_2:=kA Kei_1 HN2
 have Kew_2:=kA Kew_1 HN2
 have Kr_2:=kA Kr_1 HN2
 have Ki_2:=kN ha2
 have HP:=hU (rd_pass R D L a2 HR2.out (.inr (itemKB_ne (by rw[HK.out];decide))))
 refine hMo HP ?_
 rintro e a3 ⟨rfl,hr,hg⟩
 have HN3:=hHi hg
 have HR3:=hHi hr
 have HG3:=hHi (Gr2.gr HG2.out hg)
 clear hr hg
 have Ker_3:=kR Ker_2 HN3.out HZer.out
 have Keh_3:=kR Keh_2 HN3.out HZeh.out
 have Kei_3:=kR Kei_2 HN3.out HZei.out
 have Kew_3:=kR Kew_2 HN3.out HZew.out
 have Kr_3:=kZ Kr_2 HN3.out HLT.out HZ1.out
 have Ki_3:=kZ Ki_2 HN3.out HLT.out HZ2.out
 obtain⟨ci0_4,ci1_5,ci2_6,ci3_7⟩:=Ki_3.out.c4
 obtain⟨cr0_8,cr1_9,cr2_10,cr3_11⟩:=Kr_3.out.c4
 have zr_12:=Kr_3.out.frozen
 have lr_12:=Kr_3.out.lt
 go_wp2
 refine gen (fun W=>Blk W w.heap.size 124 _∧a3.grownBy W (some w.heap.size)) ⟨Blk.set4 Kr_3.out _ _ _ _,grset4 _ _ _ _ _ _⟩ ?_
 rintro W ⟨hb9,hgW⟩
 refine bodyPost_ret (results_cell_row rfl _ _ w.heap.size 124 _ (0,0) _ rfl hb9 Tryz.underlying124 rfl (by kernel_rfl)) rfl ?_
 have hfin:itemR f 3 h L=.ok (h,.mk 3 ⟨#[]⟩ 0 []) L.tail:=by unfold itemR;rw[if_neg (by decide)];rw[if_neg (by decide)];rw[if_neg (by decide)];rw[if_neg (by decide)];rfl
 show RT R rb hb ib wb D h w (itemR f 3 h L) _ _
 rw[hfin]
 have hle:w.heap.size≤w.heap.size:=HZ1.out
 refine⟨⟨_,_,rfl,ItsAt.nil _ _⟩,?_,HLE.out,Rd.kept HR3.out hgW (by have:=HLT.out;omega),Gr2.new HG3.out hgW hle⟩
 exact⟨Blk.kept Ker_3.out hgW (by have:=HLer.out;simp;omega),Blk.kept Keh_3.out hgW (by have:=HLeh.out;simp;omega),Blk.kept Kei_3.out hgW (by have:=HLei.out;simp;omega),Blk.kept Kew_3.out hgW (by have:=HLew.out;simp;omega),HZer.out,HZeh.out,HZei.out,HZew.out⟩
theorem rd_item4 (R rb hb ib wb:Nat) (D:List Value) (f:Nat) (_HIC:ItemsC R rb hb ib wb D f) (h:Nat) (L:List Wd) (w:World) (h64:h≤64) (_hf:66≤h+f) (hE:Env w R rb hb ib wb h) (hR:Rd w R D L) (hk:itemKB L=4) :
  Calls Tryz.prog 203 #[.pointer (some ⟨R,0,none⟩),.int .i64 4,.func (.func 200) #[] #[.pointer (some ⟨rb,0,none⟩),.pointer (some ⟨ib,0,none⟩)]] w (RT R rb hb ib wb D h w (itemR f 4 h L)):=by
 have HLE:Hid (h≤h∧h≤64):=⟨Nat.le_refl _,h64⟩
 clear h64
 have HLT:Hid _:=hR.lt
 have HR0:Hid (Rd w R D L):=hR
 have HG0:Hid (Gr2 w w R hb):=Gr2.refl _ _ _
 clear hR
 have Ker_0:Hid (Blk w rb 98 #[.pointer (some ⟨R,0,none⟩)]):=hE.r
 have Keh_0:Hid (Blk w hb 3 #[.int .i64 (h:Int)]):=hE.h
 have Kei_0:Hid (Blk w ib 199 #[.func (.func 201) #[] #[.pointer (some ⟨rb,0,none⟩),.pointer (some ⟨hb,0,none⟩),.pointer (some ⟨wb,0,none⟩)]]):=hE.i
 have Kew_0:Hid (Blk w wb 199 #[.func (.func 200) #[] #[.pointer (some ⟨rb,0,none⟩),.pointer (some ⟨ib,0,none⟩)]]):=hE.w
 have HZer:Hid (R<rb):=hE.lr
 have HZeh:Hid (R<hb):=hE.lh
 have HZei:Hid (R<ib):=hE.li
 have HZew:Hid (R<wb):=hE.lw
 have HLer:Hid (rb<w.heap.size):=Blk.lt hE.r
 have HLeh:Hid (hb<w.heap.size):=Blk.lt hE.h
 have HLei:Hid (ib<w.heap.size):=Blk.lt hE.i
 have HLew:Hid (wb<w.heap.size):=Blk.lt hE.w
 clear hE
 have HK:=hHi hk
 clear hk
 obtain⟨a1,ha1⟩:∃qW,w.alloc (.cells #[.int .i64 0,.string ⟨#[]⟩,.int .i64 0,.slice none 0 0] 124)=qW:=⟨_,rfl⟩
 have HN1:=kB ha1
 have HZ1:=hHi HG0.out.size
 have HR1:=hHi (HR0.out.below HN1.out)
 have HG1:=hHi (Gr2.below HG0.out HN1.out)
 have Ker_1:=kA Ker_0 HN1
 have Keh_1:=kA Keh_0 HN1
 have Kei_1:=kA Kei_0 HN1
 have Kew_1:=kA Kew_0 HN1
 have Kr_1:=kN ha1
 go_enter Tryz.func203,Tryz.ntmps203
 go_wp2_with fail
 obtain⟨a2,ha2⟩:∃qW,a1.alloc (.cells #[.int .i64 4,.string ⟨#[]⟩,.int .i64 0,.slice none 0 0] 124)=qW:=⟨_,rfl⟩
 rw[ha2]
 have HN2:=kB ha2
 have HZ2:=hHi HG1.out.size
 have HR2:=hHi (HR1.out.below HN2.out)
 have HG2:=hHi (Gr2.below HG1.out HN2.out)
 have Ker_2:=kA Ker_1 HN2
 have Keh_2:=kA Keh_1 HN2
 have Kei_2:=kA Kei_1 HN2
 have Kew_2:=kA Kew_1 HN2
 have Kr_2:=kA Kr_1 HN2
 have Ki_2:=kN ha2
 have HP:=hU (rd_pass R D L a2 HR2.out (.inr (itemKB_ne (by rw[HK.out];decide))))
 refine hMo HP ?_
 rintro e a3 ⟨rfl,hr,hg⟩
 have HN3:=hHi hg
 have HR3:=hHi hr
 have HG3:=hHi (Gr2.gr HG2.out hg)
 clear hr hg
 have Ker_3:=kR Ker_2 HN3.out HZer.out
 have Keh_3:=kR Keh_2 HN3.out HZeh.out
 have Kei_3:=kR Kei_2 HN3.out HZei.out
 have Kew_3:=kR Kew_2 HN3.out HZew.out
 have Kr_3:=kZ Kr_2 HN3.out HLT.out HZ1.out
 have Ki_3:=kZ Ki_2 HN3.out HLT.out HZ2.out
 obtain⟨ci0_4,ci1_5,ci2_6,ci3_7⟩:=Ki_3.out.c4
 obtain⟨cr0_8,cr1_9,cr2_10,cr3_11⟩:=Kr_3.out.c4
 have zr_12:=Kr_3.out.frozen
 have lr_12:=Kr_3.out.lt
 go_wp2
 refine gen (fun W=>Blk W w.heap.size 124 _∧a3.grownBy W (some w.heap.size)) ⟨Blk.set4 Kr_3.out _ _ _ _,grset4 _ _ _ _ _ _⟩ ?_
 rintro W ⟨hb9,hgW⟩
 refine bodyPost_ret (results_cell_row rfl _ _ w.heap.size 124 _ (0,0) _ rfl hb9 Tryz.underlying124 rfl (by kernel_rfl)) rfl ?_
 have hfin:itemR f 4 h L=.ok (h,.mk 4 ⟨#[]⟩ 0 []) L.tail:=by unfold itemR;rw[if_neg (by decide)];rw[if_neg (by decide)];rw[if_neg (by decide)];rw[if_neg (by decide)];rfl
 show RT R rb hb ib wb D h w (itemR f 4 h L) _ _
 rw[hfin]
 have hle:w.heap.size≤w.heap.size:=HZ1.out
 refine⟨⟨_,_,rfl,ItsAt.nil _ _⟩,?_,HLE.out,Rd.kept HR3.out hgW (by have:=HLT.out;omega),Gr2.new HG3.out hgW hle⟩
 exact⟨Blk.kept Ker_3.out hgW (by have:=HLer.out;simp;omega),Blk.kept Keh_3.out hgW (by have:=HLeh.out;simp;omega),Blk.kept Kei_3.out hgW (by have:=HLei.out;simp;omega),Blk.kept Kew_3.out hgW (by have:=HLew.out;simp;omega),HZer.out,HZeh.out,HZei.out,HZew.out⟩
theorem rd_item5 (R rb hb ib wb:Nat) (D:List Value) (f:Nat) (HIC:ItemsC R rb hb ib wb D f) (h:Nat) (L:List Wd) (w:World) (h64:h≤64) (hf:66≤h+f) (hE:Env w R rb hb ib wb h) (hR:Rd w R D L) (hk:itemKB L=5) :
  Calls Tryz.prog 203 #[.pointer (some ⟨R,0,none⟩),.int .i64 5,.func (.func 200) #[] #[.pointer (some ⟨rb,0,none⟩),.pointer (some ⟨ib,0,none⟩)]] w (RT R rb hb ib wb D h w (itemR f 5 h L)):=by
 have HWI:Hid (∀(L:List Wd) (W:World),Env W R rb hb ib wb h→Rd W R D L→Calls Tryz.prog 200 #[.pointer (some ⟨rb,0,none⟩),.pointer (some ⟨ib,0,none⟩)] W (RI R rb hb ib wb D h W (withinR f h L))):=fun L W hE hR=>rd_within R rb hb ib wb D f HIC h L W h64 hf hE hR
 clear HIC h64 hf
 have HLT:Hid _:=hR.lt
 have HR0:Hid (Rd w R D L):=hR
 have HG0:Hid (Gr2 w w R hb):=Gr2.refl _ _ _
 clear hR
 have Ker_0:Hid (Blk w rb 98 #[.pointer (some ⟨R,0,none⟩)]):=hE.r
 have Keh_0:Hid (Blk w hb 3 #[.int .i64 (h:Int)]):=hE.h
 have Kei_0:Hid (Blk w ib 199 #[.func (.func 201) #[] #[.pointer (some ⟨rb,0,none⟩),.pointer (some ⟨hb,0,none⟩),.pointer (some ⟨wb,0,none⟩)]]):=hE.i
 have Kew_0:Hid (Blk w wb 199 #[.func (.func 200) #[] #[.pointer (some ⟨rb,0,none⟩),.pointer (some ⟨ib,0,none⟩)]]):=hE.w
 have HZer:Hid (R<rb):=hE.lr
 have HZeh:Hid (R<hb):=hE.lh
 have HZei:Hid (R<ib):=hE.li
 have HZew:Hid (R<wb):=hE.lw
 have HLer:Hid (rb<w.heap.size):=Blk.lt hE.r
 have HLeh:Hid (hb<w.heap.size):=Blk.lt hE.h
 have HLei:Hid (ib<w.heap.size):=Blk.lt hE.i
 have HLew:Hid (wb<w.heap.size):=Blk.lt hE.w
 clear hE
 have HK:=hHi hk
 clear hk
 obtain⟨a1,ha1⟩:∃qW,w.alloc (.cells #[.int .i64 0,.string ⟨#[]⟩,.int .i64 0,.slice none 0 0] 124)=qW:=⟨_,rfl⟩
 have HN1:=kB ha1
 have HZ1:=hHi HG0.out.size
 have HR1:=hHi (HR0.out.below HN1.out)
 have HG1:=hHi (Gr2.below HG0.out HN1.out)
 have Ker_1:=kA Ker_0 HN1
 have Keh_1:=kA Keh_0 HN1
 have Kei_1:=kA Kei_0 HN1
 have Kew_1:=kA Kew_0 HN1
 have Kr_1:=kN ha1
 go_enter Tryz.func203,Tryz.ntmps203
 go_wp2_with fail
 obtain⟨a2,ha2⟩:∃qW,a1.alloc (.cells #[.int .i64 5,.string ⟨#[]⟩,.int .i64 0,.slice none 0 0] 124)=qW:=⟨_,rfl⟩
 rw[ha2]
 have HN2:=kB ha2
 have HZ2:=hHi HG1.out.size
 have HR2:=hHi (HR1.out.below HN2.out)
 have HG2:=hHi (Gr2.below HG1.out HN2.out)
 have Ker_2:=kA Ker_1 HN2
 have Keh_2:=kA Keh_1 HN2
 have Kei_2:=kA Kei_1 HN2
 have Kew_2:=kA Kew_1 HN2
 have Kr_2:=kA Kr_1 HN2
 have Ki_2:=kN ha2
 have HNE:Hid ((w.heap.size:Nat)≠a1.heap.size):=by have:=Blk.lt Kr_1.out;show _≠_;omega
 have HP:=hU (rd_pass R D L a2 HR2.out (.inr (itemKB_ne (by rw[HK.out];decide))))
 refine hMo HP ?_
 rintro e a3 ⟨rfl,hr,hg⟩
 have HN3:=hHi hg
 have HR3:=hHi hr
 have HG3:=hHi (Gr2.gr HG2.out hg)
 clear hr hg
 have Ker_3:=kR Ker_2 HN3.out HZer.out
 have Keh_3:=kR Keh_2 HN3.out HZeh.out
 have Kei_3:=kR Kei_2 HN3.out HZei.out
 have Kew_3:=kR Kew_2 HN3.out HZew.out
 have Kr_3:=kZ Kr_2 HN3.out HLT.out HZ1.out
 have Ki_3:=kZ Ki_2 HN3.out HLT.out HZ2.out
 have HC4:=hU (rd_num R D L.tail a3 HR3.out)
 go_wp2_with fail
 cases hr4:numR L.tail with
 | bad p4 c4=>
  rw[hr4] at HC4
  have HE4:=hHi hr4
  clear hr4
  refine hMo HC4 ?_
  rintro e wf ⟨rfl,hgf⟩
  simp only[FE]
  go_wp2
  refine⟨rfl,?_⟩
  have hfin:itemR f 5 h L=.bad p4 c4:=by unfold itemR;rw[if_neg (by decide)];rw[if_neg (by decide)];rw[if_pos rfl];rw[HE4.out];try rfl
  show RT R rb hb ib wb D h w (itemR f 5 h L) _ _
  rw[hfin]
  exact⟨rfl,Gr2.gr HG3.out hgf⟩
 | ok n L4=>
 rw[hr4] at HC4
 have HE4:=hHi hr4
 clear hr4
 refine hMo HC4 ?_
 rintro e a4 ⟨rfl,hr,hg⟩
 have HN4:=hHi hg
 have HR4:=hHi hr
 have HG4:=hHi (Gr2.gr HG3.out hg)
 clear hr hg
 have Ker_4:=kR Ker_3 HN4.out HZer.out
 have Keh_4:=kR Keh_3 HN4.out HZeh.out
 have Kei_4:=kR Kei_3 HN4.out HZei.out
 have Kew_4:=kR Kew_3 HN4.out HZew.out
 have Kr_4:=kZ Kr_3 HN4.out HLT.out HZ1.out
 have Ki_4:=kZ Ki_3 HN4.out HLT.out HZ2.out
 obtain⟨ci0_5,ci1_6,ci2_7,ci3_8⟩:=Ki_4.out.c4
 have zi_9:=Ki_4.out.frozen
 have li_9:=Ki_4.out.lt
 obtain⟨a10,ha10⟩:∃qW,a4.setCell ⟨a1.heap.size,2,none⟩ (.int .i64 (n:Int))=qW:=⟨_,rfl⟩
 have HN10:Hid (a4.grownBy a10 (some a1.heap.size)):=by show World.grownBy _ _ _;rw[←ha10];exact grownBy_setCell _ _ _ _
 have HR10:=hHi (Rd.kept HR4.out HN10.out (by have:=HLT.out;have:=HZ2.out;omega))
 have HG10:=hHi (Gr2.new HG4.out HN10.out HZ2.out)
 have Ker_10:=kK Ker_4 HN10.out (by have:=HLer.out;have:=HZ2.out;simp;omega)
 have Keh_10:=kK Keh_4 HN10.out (by have:=HLeh.out;have:=HZ2.out;simp;omega)
 have Kei_10:=kK Kei_4 HN10.out (by have:=HLei.out;have:=HZ2.out;simp;omega)
 have Kew_10:=kK Kew_4 HN10.out (by have:=HLew.out;have:=HZ2.out;simp;omega)
 have Kr_10:=kK Kr_4 HN10.out (by have:=HNE.out;simpa using this)
 have Ki_10:Hid (Blk a10 a1.heap.size 124 #[.int .i64 5,.string ⟨#[]⟩,.int .i64 (n:Int),.slice none 0 0]):=by show Blk _ _ _ _;rw[←ha10];exact Blk.set Ki_4.out 2 _
 have HC11:=hU (HWI.out L4 a10 (⟨Ker_10.out,Keh_10.out,Kei_10.out,Kew_10.out,HZer.out,HZeh.out,HZei.out,HZew.out⟩:Env a10 R rb hb ib wb h) HR10.out)
 go_wp2_with fail
 cases hr11:withinR f h L4 with
 | bad p11 c11=>
  rw[hr11] at HC11
  have HE11:=hHi hr11
  clear hr11
  refine hMo HC11 ?_
  rintro e wf ⟨rfl,hgf⟩
  simp only[FE]
  go_wp2
  refine⟨rfl,?_⟩
  have hfin:itemR f 5 h L=.bad p11 c11:=by unfold itemR;rw[if_neg (by decide)];rw[if_neg (by decide)];rw[if_pos rfl];rw[HE4.out];try dsimp only[PR.bind];rw[HE11.out];try rfl
  show RT R rb hb ib wb D h w (itemR f 5 h L) _ _
  rw[hfin]
  exact⟨rfl,Gr2.tr HG10.out hgf⟩
 | ok q L11=>
 rw[hr11] at HC11
 have HE11:=hHi hr11
 clear hr11
 refine hMo HC11 ?_
 rintro e a11 ⟨⟨vv,rfl,hits⟩,hE,hle,hr,hg⟩
 obtain⟨va,vc,rfl⟩:=hits.slice
 have HLE:Hid (h≤q.1∧q.1≤64):=hle
 clear hle
 have HBI:Hid (a1.heap.size<a10.heap.size):=Blk.lt Ki_10.out
 have HBR:Hid (w.heap.size<a10.heap.size):=Blk.lt Kr_10.out
 have HIT:Hid (ItsAt a11 (fun b=>a10.heap.size≤b∧b<a11.heap.size) q.2 (.slice va q.2.length vc)):=hits
 clear hits
 have HR11:=hHi hr
 have HG11:Hid (Gr2 w a11 R hb):=Gr2.tr HG10.out hg
 have Ker_11:Hid (Blk a11 rb 98 #[.pointer (some ⟨R,0,none⟩)]):=hE.r
 have Keh_11:Hid (Blk a11 hb 3 #[.int .i64 q.1]):=hE.h
 have Kei_11:Hid (Blk a11 ib 199 #[.func (.func 201) #[] #[.pointer (some ⟨rb,0,none⟩),.pointer (some ⟨hb,0,none⟩),.pointer (some ⟨wb,0,none⟩)]]):=hE.i
 have Kew_11:Hid (Blk a11 wb 199 #[.func (.func 200) #[] #[.pointer (some ⟨rb,0,none⟩),.pointer (some ⟨ib,0,none⟩)]]):=hE.w
 have Kr_11:Hid (Blk a11 w.heap.size 124 #[.int .i64 0,.string ⟨#[]⟩,.int .i64 0,.slice none 0 0]):=(hg.block _ (Blk.lt Kr_10.out) (by have:=HLT.out;have:=HZ1.out;omega) (by have:=HLeh.out;have:=HZ1.out;omega)).trans Kr_10.out
 have Ki_11:Hid (Blk a11 a1.heap.size 124 #[.int .i64 5,.string ⟨#[]⟩,.int .i64 (n:Int),.slice none 0 0]):=(hg.block _ (Blk.lt Ki_10.out) (by have:=HLT.out;have:=HZ2.out;omega) (by have:=HLeh.out;have:=HZ2.out;omega)).trans Ki_10.out
 clear hE hr hg
 obtain⟨ci0_12,ci1_13,ci2_14,ci3_15⟩:=Ki_11.out.c4
 have zi_16:=Ki_11.out.frozen
 have li_16:=Ki_11.out.lt
 obtain⟨a17,ha17⟩:∃qW,a11.setCell ⟨a1.heap.size,3,none⟩ (.slice va q.2.length vc)=qW:=⟨_,rfl⟩
 have HN17:Hid (a11.grownBy a17 (some a1.heap.size)):=by show World.grownBy _ _ _;rw[←ha17];exact grownBy_setCell _ _ _ _
 have HR17:=hHi (Rd.kept HR11.out HN17.out (by have:=HLT.out;have:=HZ2.out;omega))
 have HG17:=hHi (Gr2.new HG11.out HN17.out HZ2.out)
 have Ker_17:=kK Ker_11 HN17.out (by have:=HLer.out;have:=HZ2.out;simp;omega)
 have Keh_17:=kK Keh_11 HN17.out (by have:=HLeh.out;have:=HZ2.out;simp;omega)
 have Kei_17:=kK Kei_11 HN17.out (by have:=HLei.out;have:=HZ2.out;simp;omega)
 have Kew_17:=kK Kew_11 HN17.out (by have:=HLew.out;have:=HZ2.out;simp;omega)
 have Kr_17:=kK Kr_11 HN17.out (by have:=HNE.out;simpa using this)
 have Ki_17:Hid (Blk a17 a1.heap.size 124 #[.int .i64 5,.string ⟨#[]⟩,.int .i64 (n:Int),.slice va q.2.length vc]):=by show Blk _ _ _ _;rw[←ha17];exact Blk.set Ki_11.out 3 _
 have HIT2:Hid (ItsAt a17 (fun b=>a10.heap.size≤b∧b<a17.heap.size) q.2 (.slice va q.2.length vc)):=HIT.out.keep (fun b hb c=>World.cell?_of_block (a:=⟨b,c,none⟩) (HN17.out.block b hb.2 (by have:=HBI.out;simp;omega))) (fun b hb=>⟨hb.1,Nat.lt_of_lt_of_le hb.2 HN17.out.size⟩)
 obtain⟨ci0_18,ci1_19,ci2_20,ci3_21⟩:=Ki_17.out.c4
 obtain⟨cr0_22,cr1_23,cr2_24,cr3_25⟩:=Kr_17.out.c4
 have zr_26:=Kr_17.out.frozen
 have lr_26:=Kr_17.out.lt
 go_wp2
 refine gen (fun W=>Blk W w.heap.size 124 _∧a17.grownBy W (some w.heap.size)) ⟨Blk.set4 Kr_17.out _ _ _ _,grset4 _ _ _ _ _ _⟩ ?_
 rintro W ⟨hb9,hgW⟩
 refine bodyPost_ret (results_cell_row rfl _ _ w.heap.size 124 _ (0,0) _ rfl hb9 Tryz.underlying124 rfl (by kernel_rfl)) rfl ?_
 have hfin:itemR f 5 h L=.ok (q.1,.mk 5 ⟨#[]⟩ n q.2) L11:=by unfold itemR;rw[if_neg (by decide)];rw[if_neg (by decide)];rw[if_pos rfl];rw[HE4.out];try dsimp only[PR.bind];rw[HE11.out];try dsimp only[PR.bind]
 show RT R rb hb ib wb D h w (itemR f 5 h L) _ _
 rw[hfin]
 have hle:w.heap.size≤w.heap.size:=HZ1.out
 refine⟨⟨_,_,rfl,HIT2.out.keep (fun b hb c=>World.cell?_of_block (a:=⟨b,c,none⟩) (hgW.block b hb.2 (by have:=HBR.out;simp;omega))) (fun b hb=>⟨Nat.le_trans (Nat.le_of_lt HBR.out) hb.1,Nat.lt_of_lt_of_le hb.2 hgW.size⟩)⟩,?_,HLE.out,Rd.kept HR17.out hgW (by have:=HLT.out;omega),Gr2.new HG17.out hgW hle⟩
 exact⟨Blk.kept Ker_17.out hgW (by have:=HLer.out;simp;omega),Blk.kept Keh_17.out hgW (by have:=HLeh.out;simp;omega),Blk.kept Kei_17.out hgW (by have:=HLei.out;simp;omega),Blk.kept Kew_17.out hgW (by have:=HLew.out;simp;omega),HZer.out,HZeh.out,HZei.out,HZew.out⟩
theorem rd_item6 (R rb hb ib wb:Nat) (D:List Value) (f:Nat) (HIC:ItemsC R rb hb ib wb D f) (h:Nat) (L:List Wd) (w:World) (h64:h≤64) (hf:66≤h+f) (hE:Env w R rb hb ib wb h) (hR:Rd w R D L) (hk:itemKB L=6) :
  Calls Tryz.prog 203 #[.pointer (some ⟨R,0,none⟩),.int .i64 6,.func (.func 200) #[] #[.pointer (some ⟨rb,0,none⟩),.pointer (some ⟨ib,0,none⟩)]] w (RT R rb hb ib wb D h w (itemR f 6 h L)):=by
 have HWI:Hid (∀(L:List Wd) (W:World),Env W R rb hb ib wb h→Rd W R D L→Calls Tryz.prog 200 #[.pointer (some ⟨rb,0,none⟩),.pointer (some ⟨ib,0,none⟩)] W (RI R rb hb ib wb D h W (withinR f h L))):=fun L W hE hR=>rd_within R rb hb ib wb D f HIC h L W h64 hf hE hR
 clear HIC h64 hf
 have HLT:Hid _:=hR.lt
 have HR0:Hid (Rd w R D L):=hR
 have HG0:Hid (Gr2 w w R hb):=Gr2.refl _ _ _
 clear hR
 have Ker_0:Hid (Blk w rb 98 #[.pointer (some ⟨R,0,none⟩)]):=hE.r
 have Keh_0:Hid (Blk w hb 3 #[.int .i64 (h:Int)]):=hE.h
 have Kei_0:Hid (Blk w ib 199 #[.func (.func 201) #[] #[.pointer (some ⟨rb,0,none⟩),.pointer (some ⟨hb,0,none⟩),.pointer (some ⟨wb,0,none⟩)]]):=hE.i
 have Kew_0:Hid (Blk w wb 199 #[.func (.func 200) #[] #[.pointer (some ⟨rb,0,none⟩),.pointer (some ⟨ib,0,none⟩)]]):=hE.w
 have HZer:Hid (R<rb):=hE.lr
 have HZeh:Hid (R<hb):=hE.lh
 have HZei:Hid (R<ib):=hE.li
 have HZew:Hid (R<wb):=hE.lw
 have HLer:Hid (rb<w.heap.size):=Blk.lt hE.r
 have HLeh:Hid (hb<w.heap.size):=Blk.lt hE.h
 have HLei:Hid (ib<w.heap.size):=Blk.lt hE.i
 have HLew:Hid (wb<w.heap.size):=Blk.lt hE.w
 clear hE
 have HK:=hHi hk
 clear hk
 obtain⟨a1,ha1⟩:∃qW,w.alloc (.cells #[.int .i64 0,.string ⟨#[]⟩,.int .i64 0,.slice none 0 0] 124)=qW:=⟨_,rfl⟩
 have HN1:=kB ha1
 have HZ1:=hHi HG0.out.size
 have HR1:=hHi (HR0.out.below HN1.out)
 have HG1:=hHi (Gr2.below HG0.out HN1.out)
 have Ker_1:=kA Ker_0 HN1
 have Keh_1:=kA Keh_0 HN1
 have Kei_1:=kA Kei_0 HN1
 have Kew_1:=kA Kew_0 HN1
 have Kr_1:=kN ha1
 go_enter Tryz.func203,Tryz.ntmps203
 go_wp2_with fail
 obtain⟨a2,ha2⟩:∃qW,a1.alloc (.cells #[.int .i64 6,.string ⟨#[]⟩,.int .i64 0,.slice none 0 0] 124)=qW:=⟨_,rfl⟩
 rw[ha2]
 have HN2:=kB ha2
 have HZ2:=hHi HG1.out.size
 have HR2:=hHi (HR1.out.below HN2.out)
 have HG2:=hHi (Gr2.below HG1.out HN2.out)
 have Ker_2:=kA Ker_1 HN2
 have Keh_2:=kA Keh_1 HN2
 have Kei_2:=kA Kei_1 HN2
 have Kew_2:=kA Kew_1 HN2
 have Kr_2:=kA Kr_1 HN2
 have Ki_2:=kN ha2
 have HNE:Hid ((w.heap.size:Nat)≠a1.heap.size):=by have:=Blk.lt Kr_1.out;show _≠_;omega
 have HP:=hU (rd_pass R D L a2 HR2.out (.inr (itemKB_ne (by rw[HK.out];decide))))
 refine hMo HP ?_
 rintro e a3 ⟨rfl,hr,hg⟩
 have HN3:=hHi hg
 have HR3:=hHi hr
 have HG3:=hHi (Gr2.gr HG2.out hg)
 clear hr hg
 have Ker_3:=kR Ker_2 HN3.out HZer.out
 have Keh_3:=kR Keh_2 HN3.out HZeh.out
 have Kei_3:=kR Kei_2 HN3.out HZei.out
 have Kew_3:=kR Kew_2 HN3.out HZew.out
 have Kr_3:=kZ Kr_2 HN3.out HLT.out HZ1.out
 have Ki_3:=kZ Ki_2 HN3.out HLT.out HZ2.out
 have HC4:=hU (HWI.out L.tail a3 (⟨Ker_3.out,Keh_3.out,Kei_3.out,Kew_3.out,HZer.out,HZeh.out,HZei.out,HZew.out⟩:Env a3 R rb hb ib wb h) HR3.out)
 go_wp2_with fail
 cases hr4:withinR f h L.tail with
 | bad p4 c4=>
  rw[hr4] at HC4
  have HE4:=hHi hr4
  clear hr4
  refine hMo HC4 ?_
  rintro e wf ⟨rfl,hgf⟩
  simp only[FE]
  go_wp2
  refine⟨rfl,?_⟩
  have hfin:itemR f 6 h L=.bad p4 c4:=by unfold itemR;rw[if_neg (by decide)];rw[if_neg (by decide)];rw[if_neg (by decide)];rw[if_pos rfl];rw[HE4.out];try rfl
  show RT R rb hb ib wb D h w (itemR f 6 h L) _ _
  rw[hfin]
  exact⟨rfl,Gr2.tr HG3.out hgf⟩
 | ok q L4=>
 rw[hr4] at HC4
 have HE4:=hHi hr4
 clear hr4
 refine hMo HC4 ?_
 rintro e a4 ⟨⟨vv,rfl,hits⟩,hE,hle,hr,hg⟩
 obtain⟨va,vc,rfl⟩:=hits.slice
 have HLE:Hid (h≤q.1∧q.1≤64):=hle
 clear hle
 have HBI:Hid (a1.heap.size<a3.heap.size):=Blk.lt Ki_3.out
 have HBR:Hid (w.heap.size<a3.heap.size):=Blk.lt Kr_3.out
 have HIT:Hid (ItsAt a4 (fun b=>a3.heap.size≤b∧b<a4.heap.size) q.2 (.slice va q.2.length vc)):=hits
 clear hits
 have HR4:=hHi hr
 have HG4:Hid (Gr2 w a4 R hb):=Gr2.tr HG3.out hg
 have Ker_4:Hid (Blk a4 rb 98 #[.pointer (some ⟨R,0,none⟩)]):=hE.r
 have Keh_4:Hid (Blk a4 hb 3 #[.int .i64 q.1]):=hE.h
 have Kei_4:Hid (Blk a4 ib 199 #[.func (.func 201) #[] #[.pointer (some ⟨rb,0,none⟩),.pointer (some ⟨hb,0,none⟩),.pointer (some ⟨wb,0,none⟩)]]):=hE.i
 have Kew_4:Hid (Blk a4 wb 199 #[.func (.func 200) #[] #[.pointer (some ⟨rb,0,none⟩),.pointer (some ⟨ib,0,none⟩)]]):=hE.w
 have Kr_4:Hid (Blk a4 w.heap.size 124 #[.int .i64 0,.string ⟨#[]⟩,.int .i64 0,.slice none 0 0]):=(hg.block _ (Blk.lt Kr_3.out) (by have:=HLT.out;have:=HZ1.out;omega) (by have:=HLeh.out;have:=HZ1.out;omega)).trans Kr_3.out
 have Ki_4:Hid (Blk a4 a1.heap.size 124 #[.int .i64 6,.string ⟨#[]⟩,.int .i64 0,.slice none 0 0]):=(hg.block _ (Blk.lt Ki_3.out) (by have:=HLT.out;have:=HZ2.out;omega) (by have:=HLeh.out;have:=HZ2.out;omega)).trans Ki_3.out
 clear hE hr hg
 obtain⟨ci0_5,ci1_6,ci2_7,ci3_8⟩:=Ki_4.out.c4
 have zi_9:=Ki_4.out.frozen
 have li_9:=Ki_4.out.lt
 obtain⟨a10,ha10⟩:∃qW,a4.setCell ⟨a1.heap.size,3,none⟩ (.slice va q.2.length vc)=qW:=⟨_,rfl⟩
 have HN10:Hid (a4.grownBy a10 (some a1.heap.size)):=by show World.grownBy _ _ _;rw[←ha10];exact grownBy_setCell _ _ _ _
 have HR10:=hHi (Rd.kept HR4.out HN10.out (by have:=HLT.out;have:=HZ2.out;omega))
 have HG10:=hHi (Gr2.new HG4.out HN10.out HZ2.out)
 have Ker_10:=kK Ker_4 HN10.out (by have:=HLer.out;have:=HZ2.out;simp;omega)
 have Keh_10:=kK Keh_4 HN10.out (by have:=HLeh.out;have:=HZ2.out;simp;omega)
 have Kei_10:=kK Kei_4 HN10.out (by have:=HLei.out;have:=HZ2.out;simp;omega)
 have Kew_10:=kK Kew_4 HN10.out (by have:=HLew.out;have:=HZ2.out;simp;omega)
 have Kr_10:=kK Kr_4 HN10.out (by have:=HNE.out;simpa using this)
 have Ki_10:Hid (Blk a10 a1.heap.size 124 #[.int .i64 6,.string ⟨#[]⟩,.int .i64 0,.slice va q.2.length vc]):=by show Blk _ _ _ _;rw[←ha10];exact Blk.set Ki_4.out 3 _
 have HIT2:Hid (ItsAt a10 (fun b=>a3.heap.size≤b∧b<a10.heap.size) q.2 (.slice va q.2.length vc)):=HIT.out.keep (fun b hb c=>World.cell?_of_block (a:=⟨b,c,none⟩) (HN10.out.block b hb.2 (by have:=HBI.out;simp;omega))) (fun b hb=>⟨hb.1,Nat.lt_of_lt_of_le hb.2 HN10.out.size⟩)
 obtain⟨ci0_11,ci1_12,ci2_13,ci3_14⟩:=Ki_10.out.c4
 obtain⟨cr0_15,cr1_16,cr2_17,cr3_18⟩:=Kr_10.out.c4
 have zr_19:=Kr_10.out.frozen
 have lr_19:=Kr_10.out.lt
 go_wp2
 refine gen (fun W=>Blk W w.heap.size 124 _∧a10.grownBy W (some w.heap.size)) ⟨Blk.set4 Kr_10.out _ _ _ _,grset4 _ _ _ _ _ _⟩ ?_
 rintro W ⟨hb9,hgW⟩
 refine bodyPost_ret (results_cell_row rfl _ _ w.heap.size 124 _ (0,0) _ rfl hb9 Tryz.underlying124 rfl (by kernel_rfl)) rfl ?_
 have hfin:itemR f 6 h L=.ok (q.1,.mk 6 ⟨#[]⟩ 0 q.2) L4:=by unfold itemR;rw[if_neg (by decide)];rw[if_neg (by decide)];rw[if_neg (by decide)];rw[if_pos rfl];rw[HE4.out];try dsimp only[PR.bind]
 show RT R rb hb ib wb D h w (itemR f 6 h L) _ _
 rw[hfin]
 have hle:w.heap.size≤w.heap.size:=HZ1.out
 refine⟨⟨_,_,rfl,HIT2.out.keep (fun b hb c=>World.cell?_of_block (a:=⟨b,c,none⟩) (hgW.block b hb.2 (by have:=HBR.out;simp;omega))) (fun b hb=>⟨Nat.le_trans (Nat.le_of_lt HBR.out) hb.1,Nat.lt_of_lt_of_le hb.2 hgW.size⟩)⟩,?_,HLE.out,Rd.kept HR10.out hgW (by have:=HLT.out;omega),Gr2.new HG10.out hgW hle⟩
 exact⟨Blk.kept Ker_10.out hgW (by have:=HLer.out;simp;omega),Blk.kept Keh_10.out hgW (by have:=HLeh.out;simp;omega),Blk.kept Kei_10.out hgW (by have:=HLei.out;simp;omega),Blk.kept Kew_10.out hgW (by have:=HLew.out;simp;omega),HZer.out,HZeh.out,HZei.out,HZew.out⟩
theorem own_gr2 {W W':World} {base e size n R H:Nat} {v:Value} {xs:List Value} (h:W.ownsRow base e size v n xs) (hg:Gr2 W W' R H) (hR:R<base) (hH:H<base):W'.ownsRow base e size v n xs:=by
 refine⟨h.1,?_⟩
 rcases h.2 with h0 | ⟨g,cap,cur,hv,hbg,hgb,rest⟩
 ·exact .inl h0
 ·exact .inr ⟨g,cap,cur,hv,hbg,(hg.block g (heap_lt hgb) (by omega) (by omega)).trans hgb,rest⟩
theorem Its.grow {W W':World} {base R H:Nat} {lv:Value} {L:List (It×Value)} (h:Its W base lv L) (hg:Gr2 W W' R H) (hR:R<base) (hH:H<base):Its W' base lv L:=
 ⟨own_gr2 h.row hg hR hH,fun q hq=>(h.subs q hq).keep (fun b hb c=>World.cell?_of_block (a:=⟨b,c,none⟩) (hg.block b hb.2.1 (by omega) (by omega))) (fun _ hb=>⟨hb.1,Nat.lt_of_lt_of_le hb.2.1 hg.size,hb.2.2⟩)⟩
theorem Its.after {W W':World} {base:Nat} {lv:Value} {L:List (It×Value)} (h:Its W base lv L) (hg:Below W.heap.size W W'):Its W' base lv L:=
 ⟨own_after h.row hg,fun q hq=>(h.subs q hq).keep (fun b hb c=>hg.cell (p:=⟨b,c,none⟩) hb.2.1) (fun _ hb=>⟨hb.1,Nat.lt_of_lt_of_le hb.2.1 hg.size,hb.2.2⟩)⟩
theorem Its.nil (W:World) (base:Nat):Its W base (.slice none 0 0) []:=⟨World.ownsRow_nil _ _ _ _,fun q h=>by cases h⟩
theorem Its.push {W w7:World} {base B0 g1 cap:Nat} {lv:Value} {L:List (It×Value)} (h:Its W base lv L) {i:It} {v:Value} {tmp:Obj} (hv:ItsAt W (fun b=>B0≤b∧b<W.heap.size) i.items v) (hB:∀b,lv.ownBlock=some b→b<B0) (hb0:base≤B0)
  (hown:w7.ownsRow base 124 4 (.slice (some ⟨g1,0,none⟩) (L.length+1) cap) (L.length+1) (L.flatMap icell++icell (i,v))) (hgrow:(W.alloc tmp).grownBy w7 lv.ownBlock) (hat:lv.ownBlock=some g1∨g1=W.heap.size+1):Its w7 base (.slice (some ⟨g1,0,none⟩) (L.length+1) cap) (L++[(i,v)]):=by
 have hs:W.heap.size+1≤w7.heap.size:=by have:=hgrow.size;rw[World.size_alloc] at this;exact this
 have hcell:∀b,b<W.heap.size→some b≠lv.ownBlock→∀c,w7.cell? ⟨b,c,none⟩=W.cell? ⟨b,c,none⟩:=fun b hb hne c=>by
  have h1:=hgrow.block b (by rw[World.size_alloc];omega) hne
  have h2:(W.alloc tmp).heap[b]?=W.heap[b]?:=Below.heap_alloc _ _ _ hb
  exact World.cell?_of_block (a:=⟨b,c,none⟩) (h1.trans h2)
 refine⟨by rw[List.flatMap_append,List.length_append];simpa using hown,fun q hq=>?_⟩
 rcases List.mem_append.1 hq with hq | hq
 ·refine (h.subs q hq).keep (fun b hb c=>hcell b hb.2.1 hb.2.2 c) (fun b hb=>⟨hb.1,by omega,?_⟩)
  show some b≠some g1
  rcases hat with hat | hat
  ·rw[←hat];exact hb.2.2
  ·intro e;have:=Option.some.inj e;have:=hb.2.1;omega
 ·simp at hq
  subst hq
  refine hv.keep (fun b hb c=>hcell b hb.2 (fun e=>by have:=hB b e.symm;omega) c) (fun b hb=>⟨by omega,by omega,?_⟩)
  show some b≠some g1
  rcases hat with hat | hat
  ·intro e;have:=hB g1 hat;have:=Option.some.inj e;omega
  ·intro e;have:=Option.some.inj e;have:=hb.2;omega
theorem rd_item (R rb hb ib wb:Nat) (D:List Value) (f:Nat) (HIC:ItemsC R rb hb ib wb D f) (k h:Nat) (L:List Wd) (w:World) (h64:h≤64) (hf:66≤h+f) (hE:Env w R rb hb ib wb h) (hR:Rd w R D L) (hk:itemKB L=k) (h0:k≠0) :
  Calls Tryz.prog 203 #[.pointer (some ⟨R,0,none⟩),.int .i64 (k:Int),.func (.func 200) #[] #[.pointer (some ⟨rb,0,none⟩),.pointer (some ⟨ib,0,none⟩)]] w (RT R rb hb ib wb D h w (itemR f k h L)):=by
 have hle:=itemKB_le L
 obtain rfl | rfl | rfl | rfl | rfl | rfl:k=1∨k=2∨k=3∨k=4∨k=5∨k=6:=by omega
 ·exact rd_item1 R rb hb ib wb D f HIC h L w h64 hf hE hR hk
 ·exact rd_item2 R rb hb ib wb D f HIC h L w h64 hf hE hR hk
 ·exact rd_item3 R rb hb ib wb D f HIC h L w h64 hf hE hR hk
 ·exact rd_item4 R rb hb ib wb D f HIC h L w h64 hf hE hR hk
 ·exact rd_item5 R rb hb ib wb D f HIC h L w h64 hf hE hR hk
 ·exact rd_item6 R rb hb ib wb D f HIC h L w h64 hf hE hR hk
theorem info124:(Tryz.prog.info? 124).map (fun i=>(i.zero,i.size,i.bytes))=some (some (.agg #[.int .i64 0,.string ⟨#[]⟩,.int .i64 0,.slice none 0 0]),4,56):=by kernel_rfl
theorem items_step (R rb hb ib wb:Nat) (D:List Value) (f:Nat) (HIC:∀g,g<f→ItemsC R rb hb ib wb D g):ItemsC R rb hb ib wb D f:=by
 intro h L w h64 hf hE hR
 obtain⟨i0,hi,hz0,hz1,hz2⟩:=info_parts info124
 have HIT:Hid (∀g,g<f→∀(k h:Nat) (L:List Wd) (w:World),h≤64→66≤h+g→Env w R rb hb ib wb h→Rd w R D L→itemKB L=k→k≠0→Calls Tryz.prog 203 #[.pointer (some ⟨R,0,none⟩),.int .i64 (k:Int),.func (.func 200) #[] #[.pointer (some ⟨rb,0,none⟩),.pointer (some ⟨ib,0,none⟩)]] w (RT R rb hb ib wb D h w (itemR g k h L))):=fun g hg k h L w h1 h2 h3 h4 h5 h6=>rd_item R rb hb ib wb D g (HIC g hg) k h L w h1 h2 h3 h4 h5 h6
 have HE0:Hid (Env w R rb hb ib wb h):=hE
 have HR0:Hid (Rd w R D L):=hR
 have HLT:Hid _:=hR.lt
 have HLeh:Hid (hb<w.heap.size):=Blk.lt hE.h
 have HLer:Hid (rb<w.heap.size):=Blk.lt hE.r
 have HLei:Hid (ib<w.heap.size):=Blk.lt hE.i
 have HLew:Hid (wb<w.heap.size):=Blk.lt hE.w
 have HZer:Hid (R<rb):=hE.lr
 have HZeh:Hid (R<hb):=hE.lh
 have HZei:Hid (R<ib):=hE.li
 have HZew:Hid (R<wb):=hE.lw
 have HNrh:Hid (rb≠hb):=Blk.apart hE.r hE.h (by decide)
 have HNih:Hid (ib≠hb):=Blk.apart hE.i hE.h (by decide)
 have HNwh:Hid (wb≠hb):=Blk.apart hE.w hE.h (by decide)
 clear HIC hE hR
 go_enter Tryz.func201,Tryz.ntmps201
 go_wp2
 go_loopw[4,5] (fun lv _ W=>∃(f' h':Nat) (acc:List (It×Value)) (L':List Wd) (va:Option Addr) (vc:Nat),lv=.slice va acc.length vc∧Its W w.heap.size lv acc∧Env W R rb hb ib wb h'∧Rd W R D L'∧Gr2 w W R hb∧(h+acc.length≤h'∧h'≤64)∧(66≤h'+f'∧f'≤f)∧itemsR f h [] L=itemsR f' h' (acc.map (·.1)) L') (fun lv _ _=>65-lenV lv)
 case atStart=>exact⟨f,h,[],L,_,_,rfl,Its.nil _ _,HE0.out,HR0.out,Gr2.refl _ _ _,⟨by simp,h64⟩,⟨hf,Nat.le_refl _⟩,rfl⟩
 case round=>
  clear HE0 HR0 h64 hf
  obtain⟨f',h',acc,L',va,vc,rfl,hits,hE,hr,hg,⟨hh,hh64⟩,⟨hf1,hf2⟩,ht⟩:=hrel
  obtain⟨f',rfl⟩:∃f'',f'=f''+1:=⟨f' - 1,by omega⟩
  have HI1:Hid (Its wr w.heap.size (.slice va acc.length vc) acc):=hits
  have HT1:=hHi ht
  have HR50:=hHi hr
  have HG50:=hHi hg
  have HF1:Hid (66≤h'+(f'+1)∧f'+1≤f):=⟨hf1,hf2⟩
  have Ker_50:Hid (Blk wr rb 98 #[.pointer (some ⟨R,0,none⟩)]):=hE.r
  have Keh_50:Hid (Blk wr hb 3 #[.int .i64 (h':Int)]):=hE.h
  have Kei_50:Hid (Blk wr ib 199 #[.func (.func 201) #[] #[.pointer (some ⟨rb,0,none⟩),.pointer (some ⟨hb,0,none⟩),.pointer (some ⟨wb,0,none⟩)]]):=hE.i
  have Kew_50:Hid (Blk wr wb 199 #[.func (.func 200) #[] #[.pointer (some ⟨rb,0,none⟩),.pointer (some ⟨ib,0,none⟩)]]):=hE.w
  have HUN:Hid _:=items_eq f' h' (acc.map (·.1)) L'
  clear hits ht hr hg hf1 hf2 hE
  obtain⟨k,hk⟩:∃k,itemKB L'=k:=⟨_,rfl⟩
  rw[hk] at HUN
  have HK:=hHi hk
  have HKD:Hid (∀W,Rd W R D L'→Calls Tryz.prog 202 #[.pointer (some ⟨R,0,none⟩)] W fun e w'=>e=.returned (.int .i64 (k:Int))∧Below W.heap.size W w'):=fun W hr=>by have:=rd_itemKind R D L' W hr;rw[hk] at this;exact this
  clear hk
  have cer0_51:=Ker_50.out.cell 0 rfl
  go_wp2_with fail
  refine (HKD.out wr HR50.out).mono ?_
  rintro e a52 ⟨rfl,hb⟩
  have HN52:Hid (Below wr.heap.size wr a52):=hb
  clear hb
  have HR52:=hHi (HR50.out.below HN52.out)
  have HG52:=hHi (Gr2.below HG50.out HN52.out)
  have Ker_52:=kA Ker_50 HN52
  have Keh_52:=kA Keh_50 HN52
  have Kei_52:=kA Kei_50 HN52
  have Kew_52:=kA Kew_50 HN52
  have HI2:Hid (Its a52 w.heap.size (.slice va acc.length vc) acc):=HI1.out.after HN52.out
  by_cases k0:k=0
  case pos=>
   have hk0:((k:Int)==0)=true:=by simp;omega
   have HK0:=hHi k0
   clear k0
   go_wp2
   go_ret
   have hfin:itemsR f h [] L=.ok (h',acc.map (·.1)) L':=by rw[HT1.out,HUN.out,if_pos HK0.out]
   show RI R rb hb ib wb D h w (itemsR f h [] L) _ _
   rw[hfin]
   exact⟨⟨_,rfl,HI2.out.at' (by omega)⟩,(⟨Ker_52.out,Keh_52.out,Kei_52.out,Kew_52.out,HZer.out,HZeh.out,HZei.out,HZew.out⟩:Env a52 R rb hb ib wb h'),⟨by omega,hh64⟩,HR52.out,HG52.out⟩
  have hk0:((k:Int)==0)=false:=by simp;omega
  have HK0:=hHi k0
  clear k0
  have cer0_53:=Ker_52.out.cell 0 rfl
  have ceh0_54:=Keh_52.out.cell 0 rfl
  by_cases hroom:64≤h'
  case pos=>
   have HX:=hHi hroom
   have HB:=hU (room_bad R D L' h' 64 a52 HR52.out hroom)
   clear hroom
   go_wp2_with fail
   refine hMo HB ?_
   rintro e wf ⟨rfl,hbf⟩
   simp only[FE]
   go_wp2
   refine⟨rfl,?_⟩
   have hfin:itemsR f h [] L=.bad (wd L').fro 2:=by rw[HT1.out,HUN.out,if_neg HK0.out,if_pos HX.out]
   show RI R rb hb ib wb D h w (itemsR f h [] L) _ _
   rw[hfin]
   exact⟨rfl,Gr2.below HG52.out hbf⟩
  have HX:=hHi hroom
  have h63:h' < 64:=by omega
  have HB:=hU (room_ok R h' 64 a52 (by omega))
  clear hroom
  go_wp2_with fail
  refine hMo HB ?_
  rintro e wz9 ⟨rfl,hwz⟩
  have hwz:=hwz.symm
  subst hwz
  have zeh_56:=Keh_52.out.frozen
  have leh_56:=Keh_52.out.lt
  obtain⟨a55,ha55⟩:∃qW,a52.setCell ⟨hb,0,none⟩ (.int .i64 ((h':Int)+1))=qW:=⟨_,rfl⟩
  have HN55:Hid (a52.grownBy a55 (some hb)):=by show World.grownBy _ _ _;rw[←ha55];exact grownBy_setCell _ _ _ _
  have HR55:Hid (Rd a55 R D L'):=Rd.kept HR52.out HN55.out HZeh.out
  have HG55x:Hid (Gr2 w a55 R hb):=Gr2.gh HG52.out HN55.out
  have Ker_55:=kK Ker_52 HN55.out (by have:=HNrh.out;simpa using this)
  have Kei_55:=kK Kei_52 HN55.out (by have:=HNih.out;simpa using this)
  have Kew_55:=kK Kew_52 HN55.out (by have:=HNwh.out;simpa using this)
  have Keh_55:Hid (Blk a55 hb 3 #[.int .i64 ((h':Int)+1)]):=by show Blk _ _ _ _;rw[←ha55];exact Blk.set Keh_52.out 0 _
  have HI3:Hid (Its a55 w.heap.size (.slice va acc.length vc) acc):=HI2.out.grow (Gr2.gh (Gr2.refl _ R hb) HN55.out) HLT.out HLeh.out
  have cer0_57:=Ker_55.out.cell 0 rfl
  have cew0_58:=Kew_55.out.cell 0 rfl
  have HEn:Hid (Env a55 R rb hb ib wb (h'+1)):=⟨Ker_55.out,by have:=Keh_55.out;exact this,Kei_55.out,Kew_55.out,HZer.out,HZeh.out,HZei.out,HZew.out⟩
  have HC59:=hU (HIT.out f' (by have:=HF1.out;omega) k (h'+1) L' a55 (by omega) (by have:=HF1.out;omega) HEn.out HR55.out HK.out HK0.out)
  go_wp2_with fail
  cases hr59:itemR f' k (h'+1) L' with
  | bad p59 c59=>
   rw[hr59] at HC59
   have HE59:=hHi hr59
   clear hr59
   refine hMo HC59 ?_
   rintro e wf ⟨rfl,hgf⟩
   simp only[FE]
   go_wp2
   refine⟨rfl,?_⟩
   have hfin:itemsR f h [] L=.bad p59 c59:=by rw[HT1.out,HUN.out,if_neg HK0.out,if_neg HX.out,HE59.out];rfl
   show RI R rb hb ib wb D h w (itemsR f h [] L) _ _
   rw[hfin]
   exact⟨rfl,Gr2.tr HG55x.out hgf⟩
  | ok q L59=>
  rw[hr59] at HC59
  have HE59:=hHi hr59
  clear hr59
  refine hMo HC59 ?_
  rintro e a59 ⟨⟨xa,xc,rfl,hkids⟩,hE,hle,hr,hg⟩
  have HKI:Hid (ItsAt a59 (fun b=>a55.heap.size≤b∧b<a59.heap.size) q.2.items (.slice xa q.2.items.length xc)):=hkids
  have HE2:Hid (Env a59 R rb hb ib wb q.1):=hE
  have HLE:Hid (h'+1≤q.1∧q.1≤64):=hle
  have HR59:=hHi hr
  have HG59x:Hid (Gr2 w a59 R hb):=Gr2.tr HG55x.out hg
  have HI4:Hid (Its a59 w.heap.size (.slice va acc.length vc) acc):=HI3.out.grow hg HLT.out HLeh.out
  have HOB:Hid (∀b,(Value.slice va acc.length vc).ownBlock=some b→w.heap.size≤b∧b<a55.heap.size):=fun b hb=>HI3.out.row.lt b hb
  have HGS:=hHi HG59x.out.size
  have HGW:=hHi HG55x.out.size
  have HROW:=hU HI4.out.row
  clear hkids hE hle hr hg
  go_wp2_with (at_builtin;refine wpList_append_lies _ rfl _ _ 62 rfl w.heap.size 124 i0 _ 4 56 Tryz.underlying62 hi hz0 hz1 hz2 rfl (by decide) (.slice va acc.length vc) acc.length (acc.flatMap icell) rfl ((HROW.out ()).alloc _) ⟨a59.heap.size,0,none⟩ 1 1 (icell (q.2,.slice xa q.2.items.length xc)) rfl rfl ?ca1 ?ca2 (by decide) ?ca3 ?ca4 ?ca5 (a59.heap.size+1) (by simp) ?_)
  case ca1=>exact new_cells _ _ (icell (q.2,.slice xa q.2.items.length xc))
  case ca2=>intro u hu;simp[icell] at hu;rcases hu with rfl | rfl | rfl | rfl<;>rfl
  case ca3=>unfold maxLen;omega
  case ca4=>omega
  case ca5=>have:=HGS.out;simp;omega
  intro g1 cap1 w7 hown hgrow hat hlt7
  have HI5:Hid (Its w7 w.heap.size (.slice (some ⟨g1,0,none⟩) (acc.length+1) cap1) (acc++[(q.2,.slice xa q.2.items.length xc)])):=HI4.out.push HKI.out (fun b hb=>(HOB.out b hb).2) HGW.out hown hgrow hat
  have HR9:Hid (Rd w7 R D L59):=(HR59.out.below ((Below.refl _ _).alloc (Nat.le_refl _) _)).keptO hgrow (fun b hb=>Nat.lt_of_lt_of_le HLT.out (HOB.out b hb).1)
  have HG9:Hid (Gr2 w w7 R hb):=Gr2.newO (Gr2.below HG59x.out ((Below.refl _ _).alloc (Nat.le_refl _) _)) hgrow (fun b hb=>(HOB.out b hb).1)
  have HKP:∀b t cs,b<w.heap.size→Blk a59 b t cs→Blk w7 b t cs:=fun b t cs hb hB=>Blk.kept (W:=a59.alloc _) (Blk.alloc hB _) hgrow (fun e=>by have:=(HOB.out b e.symm).1;omega)
  have HE9:Hid (Env w7 R rb hb ib wb q.1):=⟨HKP _ _ _ HLer.out HE2.out.r,HKP _ _ _ HLeh.out HE2.out.h,HKP _ _ _ HLei.out HE2.out.i,HKP _ _ _ HLew.out HE2.out.w,HZer.out,HZeh.out,HZei.out,HZew.out⟩
  clear hown hgrow hat hlt7 HKP
  go_wp2
  go_roundw
  case rel=>exact⟨f',q.1,acc++[(q.2,.slice xa q.2.items.length xc)],L59,_,_,by rw[List.length_append];rfl,HI5.out,HE9.out,HR9.out,HG9.out,⟨by have:=HLE.out;rw[List.length_append];simp;omega,HLE.out.2⟩,⟨by have:=HLE.out;have:=HF1.out;omega,by have:=HF1.out;omega⟩,by rw[HT1.out,HUN.out,if_neg HK0.out,if_neg HX.out,HE59.out,List.map_append];rfl⟩
  case measure=>simp[lenV];omega
theorem items_any (R rb hb ib wb:Nat) (D:List Value):∀f,ItemsC R rb hb ib wb D f:=fun f=>Nat.strongRecOn f fun f ih=>items_step R rb hb ib wb D f ih
end Go.Proofs.YtcpakcffiopfjaaGreatDoor
