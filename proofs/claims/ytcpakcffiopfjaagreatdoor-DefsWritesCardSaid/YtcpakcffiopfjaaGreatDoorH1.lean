/- Items, copied: the document's. -/
import Derived.Test.YtcpakcffiopfjaaGreatDoorC4
import Derived.Test.YtcpakcffiopfjaaGreatDoorD1
namespace Go.Proofs.YtcpakcffiopfjaaGreatDoor
open Go.RowKit
set_option linter.unusedVariables false
set_option linter.unusedSimpArgs false
set_option maxRecDepth 100000
set_option maxHeartbeats 16000000
set_option linter.unusedVariables false
set_option linter.unusedSimpArgs false
set_option maxRecDepth 100000
set_option maxHeartbeats 8000000
theorem below_gr {B b:Nat} {W W':World} (hg:W.grownBy W' (some b)) (hb:B≤b) (hB:B≤W.heap.size):Below B W W':=⟨hg.os,hg.tape,hg.output,hg.size,fun c hc=>hg.block c (Nat.lt_of_lt_of_le hc hB) (by simp;omega)⟩
theorem below_grO {B:Nat} {o:Option Nat} {W W':World} (hg:W.grownBy W' o) (ho:∀b,o=some b→B≤b) (hB:B≤W.heap.size):Below B W W':=⟨hg.os,hg.tape,hg.output,hg.size,fun c hc=>hg.block c (Nat.lt_of_lt_of_le hc hB) (fun e=>by have:=ho c e.symm;omega)⟩
theorem below_al {B:Nat} {W:World} (o:Obj) (hB:B≤W.heap.size):Below B W (W.alloc o):=(Below.refl _ _).alloc hB _
theorem take_snoc {α β:Type} {f:β→α} {l:List α} {k:Nat} {x:α} {acc:List β} {y:β} (h:acc.map f=l.take k) (hx:l[k]?=some x) (hy:f y=x):(acc++[y]).map f=l.take (k+1):=by
 have e:=List.getElem?_eq_some_iff.1 hx
 rw[List.map_append,h,List.take_succ_eq_append_getElem e.1,e.2,List.map_singleton,hy]
theorem rcopyItems_step (V:It→List Value→Prop) (l:List It) (v:Value) (w:World) (h:Sl w w.heap.size 4 V l v) (hz:l.length*56≤140737488355328)
  (HV:Hid (∀x∈l,∀vs,V x vs→∃ua uc,vs=[.int .i64 x.kind,.string x.text,.int .i64 x.n,.slice ua x.items.length uc]∧∀W,Below w.heap.size w W→Calls Tryz.prog 25 #[.slice ua x.items.length uc] W fun e w'=>(∃va vc,e=.returned (.slice va x.items.length vc)∧ItsAt w' (fun b=>W.heap.size≤b∧b<w'.heap.size) x.items (.slice va x.items.length vc))∧Below W.heap.size W w')) :
  Calls Tryz.prog 25 #[v] w fun e w'=>(∃va vc,e=.returned (.slice va l.length vc)∧ItsAt w' (fun b=>w.heap.size≤b∧b<w'.heap.size) l (.slice va l.length vc))∧Below w.heap.size w w':=by
 obtain⟨i0,hi,hz0,hz1,hz2⟩:=info_parts info124
 obtain⟨a1,p1,rfl,_,hl1,hr1⟩:=h
 obtain⟨N,hN⟩:∃N,l.length=N:=⟨_,rfl⟩
 have HR1:=hHi hr1
 have HN:=hHi hN
 have HZ:Hid (N*56≤140737488355328):=by show _≤_;rw[←hN];exact hz
 rw[hN] at hl1 ⊢
 clear hr1 hN hz
 go_enter Tryz.func25,Tryz.ntmps25
 go_wp2
 go_loopw[3,4] (fun lv iv W=>∃(k:Nat) (acc:List (It×Value)) (va:Option Addr) (vc:Nat),k≤N∧acc.length=k∧lv=.slice va acc.length vc∧iv=.int .i64 k∧acc.map (·.1)=l.take k∧Its W w.heap.size (.slice va acc.length vc) acc∧Below w.heap.size w W) (fun _ iv _=>N-(intOf iv).toNat)
 case atStart=>exact⟨0,[],none,0,Nat.zero_le _,rfl,rfl,rfl,rfl,Its.nil _ _,Below.refl _ _⟩
 case round=>
  obtain⟨k,acc,va,vc,hk,hka,rfl,rfl,hm,hI,hB⟩:=hrel
  have HM:=hHi hm
  have HI:=hHi hI
  have HB:=hHi hB
  have HKA:=hHi hka
  clear hm hI hB hka
  by_cases hlt:k<N
  case pos=>
   obtain⟨x,hx⟩:∃x,l[k]?=some x:=⟨l[k]'(by rw[HN.out];exact hlt),by simp⟩
   obtain⟨b,o,us,hb,hlb,hus,hc⟩:=HR1.out k x hx
   obtain⟨ua,uc,rfl,hC⟩:=HV.out x (List.mem_of_getElem? hx) us hus
   subst hb
   have HX:=hHi hx
   have hq_:=hcb HB.out hlb hc
   have s0:=hq_ 0 _ rfl
   have s1:=hq_ 1 _ rfl
   have s2:=hq_ 2 _ rfl
   have s3:=hq_ 3 _ rfl
   rw[Nat.add_zero] at s0
   have hltI:(k:Int)<N:=by omega
   have HCC:Hid _:=hC
   clear hq_ hc hx hus hC
   obtain⟨w1,hw1⟩:∃qW,wr.alloc (.cells #[.int .i64 x.kind,.string x.text,.int .i64 x.n,.slice ua x.items.length uc] 124)=qW:=⟨_,rfl⟩
   have HN1:=kB hw1
   have HX1:=kN hw1
   have HB1:Hid (Below w.heap.size w w1):=below_tr HB.out HN1.out
   have HS1:Hid (w1.heap.size=wr.heap.size+1):=by show _=_;rw[←hw1];simp
   obtain⟨d0,d1,d2,d3⟩:=HX1.out.c4
   have HC:=hU (HCC.out w1 HB1.out)
   clear HCC
   go_wp2_with fail
   refine hMo HC ?_
   rintro e w2 ⟨⟨xa,xc,rfl,hk2⟩,hb2⟩
   have HB2:=hHi hb2
   have HK2:Hid (ItsAt w2 (fun b=>w1.heap.size≤b∧b<w2.heap.size) x.items (.slice xa x.items.length xc)):=hk2
   have HX2:=kA HX1 HB2
   clear hb2 hk2 d0 d1 d2 d3
   obtain⟨e0,e1,e2,e3⟩:=HX2.out.c4
   have zf:=HX2.out.frozen
   have lf:=HX2.out.lt
   obtain⟨w3,hw3⟩:∃qW,w2.setCell ⟨wr.heap.size,3,none⟩ (.slice xa x.items.length xc)=qW:=⟨_,rfl⟩
   have HN3:Hid (w2.grownBy w3 (some wr.heap.size)):=by show World.grownBy _ _ _;rw[←hw3];exact grownBy_setCell _ _ _ _
   have HX3:Hid (Blk w3 wr.heap.size 124 #[.int .i64 x.kind,.string x.text,.int .i64 x.n,.slice xa x.items.length xc]):=by show Blk _ _ _ _;rw[←hw3];exact Blk.set HX2.out 3 _
   have HK3:Hid (ItsAt w3 (fun b=>w1.heap.size≤b∧b<w3.heap.size) x.items (.slice xa x.items.length xc)):=HK2.out.keep (fun b hb q=>World.cell?_of_block (a:=⟨b,q,none⟩) (HN3.out.block b hb.2 (by have:=hb.1;have:=HS1.out;simp;omega))) (fun b hb=>⟨hb.1,Nat.lt_of_lt_of_le hb.2 HN3.out.size⟩)
   have HW3:Hid (Below wr.heap.size wr w3):=(below_tr HN1.out HB2.out).trans (below_gr HN3.out (Nat.le_refl _) (Nat.le_of_lt lf))
   have HI3:Hid (Its w3 w.heap.size (.slice va acc.length vc) acc):=HI.out.after HW3.out
   have HB3:Hid (Below w.heap.size w w3):=below_tr HB.out HW3.out
   have HOB:Hid (∀b,(Value.slice va acc.length vc).ownBlock=some b→w.heap.size≤b∧b<w1.heap.size):=fun b hb=>by have:=HI.out.row.lt b hb;have:=HS1.out;omega
   have HGW:Hid (w.heap.size≤w1.heap.size):=HB1.out.size
   have HROW:=hU HI3.out.row
   obtain⟨q0,q1,q2,q3⟩:=HX3.out.c4
   clear HC
   have h56:(acc.length+1)*56≤140737488355328:=by have:=HZ.out;have:=HKA.out;omega
   go_wp2_with (at_builtin;refine wpList_append_lies _ rfl _ _ 62 rfl w.heap.size 124 i0 _ 4 56 Tryz.underlying62 hi hz0 hz1 hz2 rfl (by decide) (.slice va acc.length vc) acc.length (acc.flatMap icell) rfl ((HROW.out ()).alloc _) ⟨w3.heap.size,0,none⟩ 1 1 (icell (x,.slice xa x.items.length xc)) rfl rfl ?ca1 ?ca2 (by decide) ?ca3 ?ca4 ?ca5 (w3.heap.size+1) (by simp) ?_)
   case ca1=>exact new_cells _ _ (icell (x,.slice xa x.items.length xc))
   case ca2=>intro u hu;simp[icell] at hu;rcases hu with rfl | rfl | rfl | rfl<;>rfl
   case ca3=>unfold maxLen;omega
   case ca4=>exact h56
   case ca5=>have:=HB3.out.size;simp;omega
   intro g1 cap1 w7 hown hgrow hat hlt7
   have HI5:Hid (Its w7 w.heap.size (.slice (some ⟨g1,0,none⟩) (acc.length+1) cap1) (acc++[(x,.slice xa x.items.length xc)])):=HI3.out.push HK3.out (fun b hb=>(HOB.out b hb).2) HGW.out hown hgrow hat
   have HB7:Hid (Below w.heap.size w w7):=HB3.out.trans ((below_al _ HB3.out.size).trans (below_grO hgrow (fun b hb=>(HOB.out b hb).1) (by have:=HB3.out.size;simp;omega)))
   clear hown hgrow hat hlt7 q0 q1 q2 q3 s0 s1 s2 s3
   go_wp2
   go_roundw
   case rel=>exact⟨k+1,acc++[(x,.slice xa x.items.length xc)],_,_,by omega,by rw[List.length_append,HKA.out];rfl,by rw[List.length_append];rfl,by go_num,take_snoc HM.out HX.out rfl,by rw[List.length_append];exact HI5.out,HB7.out⟩
   case measure=>simp[intOf];omega
  obtain rfl:k=N:=by omega
  have HE:Hid (acc.map (·.1)=l):=by show _=_;rw[HM.out,List.take_of_length_le (by rw[HN.out];exact Nat.le_refl _)]
  go_wp2
  go_ret
  have hat:=HI.out.at' (by have:=HKA.out;omega)
  rw[HE.out,HKA.out] at hat
  exact⟨⟨va,vc,by rw[HKA.out];rfl,hat⟩,HB.out⟩
theorem rcopyItems_any:∀(f:Nat) (l:List It) (v:Value) (w:World),Sl w w.heap.size 4 (ItV w w.heap.size f) l v→l.length*56≤140737488355328→(∀x∈l,ItZ f x)→
  Calls Tryz.prog 25 #[v] w fun e w'=>(∃va vc,e=.returned (.slice va l.length vc)∧ItsAt w' (fun b=>w.heap.size≤b∧b<w'.heap.size) l (.slice va l.length vc))∧Below w.heap.size w w'
 | 0,l,v,w,h,hz,hi=>rcopyItems_step _ l v w h hz (fun x hx _ hv=>hv.elim)
 | f+1,l,v,w,h,hz,hi=>rcopyItems_step _ l v w h hz (fun x hx vs hv=>by
  obtain⟨u,e,hs⟩:=hv
  obtain⟨ua,uc,rfl,hu⟩:=hs
  have hs:Sl w w.heap.size 4 (ItV w w.heap.size f) x.items (.slice ua x.items.length uc):=⟨ua,uc,rfl,hu⟩
  exact⟨ua,uc,e,fun W hW=>rcopyItems_any f x.items _ W (hs.keep hW hW.size (fun _ _ _ h=>h.keep hW hW.size)) (hi x hx).1 (hi x hx).2⟩)
end Go.Proofs.YtcpakcffiopfjaaGreatDoor
