/- An item read. Items read, as many as there are. -/
import Derived.Test.YtcpakcffiopfjaaGreatDoorC3
import Derived.Test.YtcpakcffiopfjaaGreatDoorA1
namespace Go.Proofs.YtcpakcffiopfjaaGreatDoor
open Go.RowKit
set_option linter.unusedVariables false
set_option linter.unusedSimpArgs false
set_option maxRecDepth 100000
set_option maxHeartbeats 16000000
set_option linter.unusedVariables false
set_option linter.unusedSimpArgs false
set_option maxRecDepth 100000
set_option maxHeartbeats 16000000
def RT (R rb hb ib wb:Nat) (D:List Value) (h:Nat) (W:World):PR (Nat×It)→Ending→World→Prop
 | .ok q L',e,w'=>(∃va vc,e=.returned (.agg #[.int .i64 q.2.kind,.string q.2.text,.int .i64 q.2.n,.slice va q.2.items.length vc])∧ItsAt w' (fun b=>W.heap.size≤b∧b<w'.heap.size) q.2.items (.slice va q.2.items.length vc))∧Env w' R rb hb ib wb q.1∧(h≤q.1∧q.1≤64)∧Rd w' R D L'∧Gr2 W w' R hb
 | .bad p c,e,w'=>e=FE p c∧Gr2 W w' R hb
theorem own_gr2 {W W':World} {base e size n R H:Nat} {v:Value} {xs:List Value} (h:W.ownsRow base e size v n xs) (hg:Gr2 W W' R H) (hR:R<base) (hH:H<base):W'.ownsRow base e size v n xs:=by
 refine⟨h.1,?_⟩
 rcases h.2 with h0 | ⟨g,cap,cur,hv,hbg,hgb,rest⟩
 ·exact .inl h0
 ·exact .inr ⟨g,cap,cur,hv,hbg,(hg.block g (heap_lt hgb) (by omega) (by omega)).trans hgb,rest⟩
theorem Its.grow {W W':World} {base R H:Nat} {lv:Value} {L:List (It×Value)} (h:Its W base lv L) (hg:Gr2 W W' R H) (hR:R<base) (hH:H<base):Its W' base lv L:=
 ⟨own_gr2 h.row hg hR hH,fun q hq=>(h.subs q hq).keep (fun b hb c=>World.cell?_of_block (a:=⟨b,c,none⟩) (hg.block b hb.2.1 (by omega) (by omega))) (fun _ hb=>⟨hb.1,Nat.lt_of_lt_of_le hb.2.1 hg.size,hb.2.2⟩)⟩
theorem Its.after {W W':World} {base:Nat} {lv:Value} {L:List (It×Value)} (h:Its W base lv L) (hg:Below W.heap.size W W'):Its W' base lv L:=
 ⟨own_after h.row hg,fun q hq=>(h.subs q hq).keep (fun b hb c=>hg.cell (p:=⟨b,c,none⟩) hb.2.1) (fun _ hb=>⟨hb.1,Nat.lt_of_lt_of_le hb.2.1 hg.size,hb.2.2⟩)⟩
theorem Its.nil (W:World) (base:Nat):Its W base (.slice none 0 0) []:=⟨World.ownsRow_nil _ _ _ _,fun q h=>by cases h⟩
theorem Its.push {W w7:World} {base B0 g1 cap:Nat} {lv:Value} {L:List (It×Value)} (h:Its W base lv L) {i:It} {v:Value} {tmp:Obj} (hv:ItsAt W (fun b=>B0≤b∧b<W.heap.size) i.items v) (hB:∀b,lv.ownBlock=some b→b<B0) (hb0:base≤B0)
  (hown:w7.ownsRow base 124 4 (.slice (some ⟨g1,0,none⟩) (L.length+1) cap) (L.length+1) (L.flatMap icell++icell (i,v))) (hgrow:(W.alloc tmp).grownBy w7 lv.ownBlock) (hat:lv.ownBlock=some g1∨g1=W.heap.size+1):Its w7 base (.slice (some ⟨g1,0,none⟩) (L.length+1) cap) (L++[(i,v)]):=by
 have hs:W.heap.size+1≤w7.heap.size:=by have:=hgrow.size;rw[World.size_alloc] at this;exact this
 have hcell:∀b,b<W.heap.size→some b≠lv.ownBlock→∀c,w7.cell? ⟨b,c,none⟩=W.cell? ⟨b,c,none⟩:=fun b hb hne c=>by
  have h1:=hgrow.block b (by rw[World.size_alloc];omega) hne
  have h2:(W.alloc tmp).heap[b]?=W.heap[b]?:=Below.heap_alloc _ _ _ hb
  exact World.cell?_of_block (a:=⟨b,c,none⟩) (h1.trans h2)
 refine⟨by rw[List.flatMap_append,List.length_append];simpa using hown,fun q hq=>?_⟩
 rcases List.mem_append.1 hq with hq | hq
 ·refine (h.subs q hq).keep (fun b hb c=>hcell b hb.2.1 hb.2.2 c) (fun b hb=>⟨hb.1,by omega,?_⟩)
  show some b≠some g1
  rcases hat with hat | hat
  ·rw[←hat];exact hb.2.2
  ·intro e;have:=Option.some.inj e;have:=hb.2.1;omega
 ·simp at hq
  subst hq
  refine hv.keep (fun b hb c=>hcell b hb.2 (fun e=>by have:=hB b e.symm;omega) c) (fun b hb=>⟨by omega,by omega,?_⟩)
  show some b≠some g1
  rcases hat with hat | hat
  ·intro e;have:=hB g1 hat;have:=Option.some.inj e;omega
  ·intro e;have:=Option.some.inj e;have:=hb.2;omega
theorem info124:(Tryz.prog.info? 124).map (fun i=>(i.zero,i.size,i.bytes))=some (some (.agg #[.int .i64 0,.string ⟨#[]⟩,.int .i64 0,.slice none 0 0]),4,56):=by kernel_rfl
end Go.Proofs.YtcpakcffiopfjaaGreatDoor
