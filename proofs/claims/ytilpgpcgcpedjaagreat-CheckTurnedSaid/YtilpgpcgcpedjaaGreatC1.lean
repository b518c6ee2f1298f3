/- A definition's text, read: plain, in the program's own order. The reader in memory: its words; the next word, passed, held against a text; a fault given up with. Words of a kind, passed or given up with; names, sets, numbers. Names, sets, numbers, texts read; symbols with a sign behind them. Texts in quotes read; symbols with a sign behind them; whether a symbol begins. Symbols read. A symbol read. Lists that are read, in rows of their own; the symbols of a production. What the next word says of a group. A group of a chain, read. Lists that lie in blocks of a set; rows of their own, read. Items read: what stands in brackets, one item. An item read. Items read, as many as there are. What a reader has read, in memory: five rows of their own, and what they lead to. Statements read: follow restrictions, rejects. Statements read: templates. Statements read: chains. Statements read: start and layout. Statements read: productions that are not lexical. Statements, one behind the other, read up to the end. -/
import Derived.Test.YtilpgpcgcpedjaaGreatB1
import Derived.Test.YtilpgpcgcpedjaaGreatA0
import Derived.Test.YtilpgpcgcpedjaaGreatB2
import Derived.OwnWalk
import Derived.Deep.AppendLies
import Derived.Deep.RegionHeld3
import Derived.Laws.EntriesVeiled
namespace Go.Proofs.YtilpgpcgcpedjaaGreat
open Go.RowKit
set_option linter.unusedVariables false
set_option linter.unusedSimpArgs false
set_option maxRecDepth 100000
set_option maxHeartbeats 16000000
section
set_option linter.unusedVariables false
set_option linter.unusedSimpArgs false
set_option maxRecDepth 100000
set_option maxHeartbeats 16000000
def ByV (n:Nat) (vs:List Value):Prop:=n<256∧vs=[.int .u8 (n:Int)]
theorem Sl.gr {w w':World} {R:Nat} {l:List Nat} {v:Value} (h:Sl w R 1 ByV l v) (hg:w.grownBy w' (some R)) (hR:R<w.heap.size):Sl w' R 1 ByV l v:=by
 have hb:Below R w w':=⟨hg.os,hg.tape,hg.output,hg.size,fun b hb=>hg.block b (Nat.lt_trans hb hR) (by simp;omega)⟩
 exact h.keep hb (Nat.le_refl _) (fun _ _ _ h=>h)
end
section
set_option linter.unusedVariables false
set_option linter.unusedSimpArgs false
set_option maxRecDepth 100000
set_option maxHeartbeats 16000000
theorem own_kept {W W':World} {base e size n b:Nat} {v:Value} {xs:List Value} (h:W.ownsRow base e size v n xs) (hg:W.grownBy W' (some b)) (hb:b<base):W'.ownsRow base e size v n xs:=row_kept_lt h hg hb
theorem own_after {W W':World} {base e size n:Nat} {v:Value} {xs:List Value} (h:W.ownsRow base e size v n xs) (hg:Below W.heap.size W W'):W'.ownsRow base e size v n xs:=row_below h hg
theorem own_slice {W:World} {base e size n:Nat} {v:Value} {xs:List Value} (h:W.ownsRow base e size v n xs):∃va vc,v=.slice va n vc:=row_slice h
def scell (x:Sy):List Value:=[.int .i64 x.kind,.string x.text,.int .u64 x.set.a,.int .u64 x.set.b,.int .u64 x.set.c,.int .u64 x.set.d,.string x.name,.string x.sep]
def scells (l:List Sy):List Value:=l.flatMap scell
structure SymsAt (W:World) (base:Nat) (l:List Sy) (v:Value):Prop where
 row:W.ownsRow base 62 8 v l.length (scells l)
 ok:∀x∈l,x.set.ok
theorem SymsAt.kept {W W':World} {base b:Nat} {l:List Sy} {v:Value} (h:SymsAt W base l v) (hg:W.grownBy W' (some b)) (hb:b<base):SymsAt W' base l v:=⟨own_kept h.row hg hb,h.ok⟩
theorem SymsAt.after {W W':World} {base:Nat} {l:List Sy} {v:Value} (h:SymsAt W base l v) (hg:Below W.heap.size W W'):SymsAt W' base l v:=⟨own_after h.row hg,h.ok⟩
theorem info134:(Tryz.prog.info? 62).map (fun i=>(i.zero,i.size,i.bytes))=some (some (.agg #[.int .i64 0,.string ⟨#[]⟩,.int .u64 0,.int .u64 0,.int .u64 0,.int .u64 0,.string ⟨#[]⟩,.string ⟨#[]⟩]),8,88):=by kernel_rfl
theorem new_cells (w:World) (t:TypeId) (l:List Value):∀j u,l[j]?=some u→(w.alloc (.cells l.toArray t)).cell? ((⟨w.heap.size,0,none⟩:Addr).add j)=some u:=by
 intro j u hj
 have e:(⟨w.heap.size,0,none⟩:Addr).add j=⟨w.heap.size,j,none⟩:=by unfold Addr.add;split<;>simp_all
 rw[e]
 exact cell_new j (by simpa using hj)
end
section
set_option linter.unusedVariables false
set_option linter.unusedSimpArgs false
set_option maxRecDepth 100000
set_option maxHeartbeats 16000000
def ncells (l:List ByteArray):List Value:=l.map fun s=>.string s
structure NamesAt (W:World) (base:Nat) (l:List ByteArray) (v:Value):Prop where
 row:W.ownsRow base 9 1 v l.length (ncells l)
theorem NamesAt.kept {W W':World} {base b:Nat} {l:List ByteArray} {v:Value} (h:NamesAt W base l v) (hg:W.grownBy W' (some b)) (hb:b<base):NamesAt W' base l v:=⟨own_kept h.row hg hb⟩
theorem NamesAt.after {W W':World} {base:Nat} {l:List ByteArray} {v:Value} (h:NamesAt W base l v) (hg:Below W.heap.size W W'):NamesAt W' base l v:=⟨own_after h.row hg⟩
theorem NamesAt.put {W W':World} {base b:Nat} {t:TypeId} {cs:Array Value} {l:List ByteArray} {v:Value} (h:NamesAt W base l v) (hg:W.grownBy W' (some b)) (hb:Blk W b t cs) (ht:t≠9):NamesAt W' base l v:=⟨h.row.kept hg (.inr (fun e=>hb.not_row ht h.row e.symm))⟩
theorem info9:(Tryz.prog.info? 9).map (fun i=>(i.zero,i.size,i.bytes))=some (some (.string ⟨#[]⟩),1,16):=by kernel_rfl
theorem below_dr (W:World):Below W.heap.size W W.drew:=⟨rfl,rfl,rfl,Nat.le_refl _,fun _ _=>rfl⟩
theorem flat_get {α:Type} {n:Nat} {cf:α→List Value} (hn:∀x,(cf x).length=n):∀(l:List α) (j:Nat) (x:α) (i:Nat) (u:Value),l[j]?=some x→(cf x)[i]?=some u→(l.flatMap cf)[j*n+i]?=some u
 | [],j,x,i,u,h,_=>by simp at h
 | y::l,0,x,i,u,h,hu=>by
  simp at h;subst h
  rw[List.flatMap_cons,Nat.zero_mul,Nat.zero_add,List.getElem?_append_left (by have:=(List.getElem?_eq_some_iff.1 hu).1;exact this)]
  exact hu
 | y::l,j+1,x,i,u,h,hu=>by
  rw[List.flatMap_cons,List.getElem?_append_right (by rw[hn];have:n≤(j+1)*n:=Nat.le_mul_of_pos_left n (by omega);omega),hn]
  rw[show (j+1)*n+i-n=j*n+i by rw[Nat.add_mul,Nat.one_mul];omega]
  exact flat_get hn l j x i u (by simpa using h) hu
theorem own_rows {α:Type} {n:Nat} {cf:α→List Value} (hn:∀x,(cf x).length=n) {W:World} {base e:Nat} {l:List α} {v:Value} (h:W.ownsRow base e n v l.length (l.flatMap cf)) {j:Nat} {x:α} (hj:l[j]?=some x):∃g cap,v=.slice (some ⟨g,0,none⟩) l.length cap∧base≤g∧g<W.heap.size∧∀i u,(cf x)[i]?=some u→W.cell? ⟨g,0+j*n+i,none⟩=some u:=by
 have hlt:=(List.getElem?_eq_some_iff.1 hj).1
 obtain⟨g,cap,rfl,hb,hg⟩:=h.form (by omega)
 refine⟨g,cap,rfl,hb,hg,fun i u hu=>?_⟩
 have h1:=flat_get hn l j x i u hj hu
 have h2:=h.cells (g:=g) rfl (j*n+i) u h1
 have e:(⟨g,0,none⟩:Addr).add (j*n+i)=⟨g,0+j*n+i,none⟩:=by unfold Addr.add;split<;>simp_all
 rw[←e];exact h2
def RowS {α:Type} (w:World) (S:Nat→Prop) (n:Nat) (V:α→List Value→Prop) (a:Option Addr) (l:List α):Prop:=
 ∀j x,l[j]?=some x→∃b o vs,a=some ⟨b,o,none⟩∧S b∧V x vs∧∀i v,vs[i]?=some v→w.cell? ⟨b,o+j*n+i,none⟩=some v
def SlS {α:Type} (w:World) (S:Nat→Prop) (n:Nat) (V:α→List Value→Prop) (l:List α) (v:Value):Prop:=
 ∃a c,v=.slice a l.length c∧l.length≤c∧l.length≤140737488355328∧RowS w S n V a l
theorem SlS.keep {α:Type} {w w':World} {S S':Nat→Prop} {n:Nat} {V V':α→List Value→Prop} {l:List α} {v:Value} (h:SlS w S n V l v) (hc:∀b,S b→∀q,w'.cell? ⟨b,q,none⟩=w.cell? ⟨b,q,none⟩) (hS:∀b,S b→S' b) (hV:∀x vs,V x vs→V' x vs):SlS w' S' n V' l v:=by
 obtain⟨a,c,e,h1,h2,h3⟩:=h
 refine⟨a,c,e,h1,h2,fun j x hj=>?_⟩
 obtain⟨b,o,vs,e,hs,hv,hcc⟩:=h3 j x hj
 exact⟨b,o,vs,e,hS b hs,hV x vs hv,fun i u hu=>(hc b hs _).trans (hcc i u hu)⟩
theorem SlS.sl {α:Type} {w:World} {S:Nat→Prop} {B n:Nat} {V V':α→List Value→Prop} {l:List α} {v:Value} (h:SlS w S n V l v) (hS:∀b,S b→b<B) (hV:∀x vs,V x vs→V' x vs):Sl w B n V' l v:=by
 obtain⟨a,c,e,h1,h2,h3⟩:=h
 refine⟨a,c,e,h1,h2,fun j x hj=>?_⟩
 obtain⟨b,o,vs,e,hs,hv,hcc⟩:=h3 j x hj
 exact⟨b,o,vs,e,hS b hs,hV x vs hv,hcc⟩
def ItS (w:World) (S:Nat→Prop):Nat→It→List Value→Prop
 | 0,_,_=>False
 | f+1,i,vs=>∃v,vs=[.int .i64 i.kind,.string i.text,.int .i64 i.n,v]∧SlS w S 4 (ItS w S f) i.items v
theorem ItS.keep {w w':World} {S S':Nat→Prop} (hc:∀b,S b→∀q,w'.cell? ⟨b,q,none⟩=w.cell? ⟨b,q,none⟩) (hS:∀b,S b→S' b):∀ {f:Nat} {i:It} {vs:List Value},ItS w S f i vs→ItS w' S' f i vs
 | 0,_,_,h=>h
 | f+1,i,vs,h=>by
  obtain⟨v,e,h⟩:=h
  exact⟨v,e,h.keep hc hS (fun _ _ h=>ItS.keep hc hS h)⟩
theorem ItS.up {w:World} {S:Nat→Prop}:∀ {f:Nat} {i:It} {vs:List Value},ItS w S f i vs→ItS w S (f+1) i vs
 | 0,_,_,h=>h.elim
 | f+1,i,vs,h=>by
  obtain⟨v,e,h⟩:=h
  exact⟨v,e,h.keep (fun _ _ _=>rfl) (fun _ h=>h) (fun _ _ h=>ItS.up h)⟩
theorem ItS.ups {w:World} {S:Nat→Prop} {f g:Nat} {i:It} {vs:List Value} (h:ItS w S f i vs) (hg:f≤g):ItS w S g i vs:=by
 induction hg with
 | refl=>exact h
 | step _ ih=>exact ih.up
theorem ItS.it {w:World} {S:Nat→Prop} {B:Nat} (hS:∀b,S b→b<B):∀ {f:Nat} {i:It} {vs:List Value},ItS w S f i vs→ItV w B f i vs
 | 0,_,_,h=>h
 | f+1,i,vs,h=>by
  obtain⟨v,e,h⟩:=h
  exact⟨v,e,h.sl hS (fun _ _ h=>ItS.it hS h)⟩
def ItsAt (w:World) (S:Nat→Prop) (l:List It) (v:Value):Prop:=∃f,SlS w S 4 (ItS w S f) l v
theorem ItsAt.keep {w w':World} {S S':Nat→Prop} {l:List It} {v:Value} (h:ItsAt w S l v) (hc:∀b,S b→∀q,w'.cell? ⟨b,q,none⟩=w.cell? ⟨b,q,none⟩) (hS:∀b,S b→S' b):ItsAt w' S' l v:=by
 obtain⟨f,h⟩:=h
 exact⟨f,h.keep hc hS (fun _ _ h=>h.keep hc hS)⟩
theorem ItsAt.nil (w:World) (S:Nat→Prop):ItsAt w S [] (.slice none 0 0):=⟨0,none,0,rfl,Nat.le_refl _,by simp,fun j x hj=>by simp at hj⟩
theorem ItsAt.slice {w:World} {S:Nat→Prop} {l:List It} {v:Value} (h:ItsAt w S l v):∃a c,v=.slice a l.length c:=by
 obtain⟨f,a,c,e,_⟩:=h
 exact⟨a,c,e⟩
def icell (q:It×Value):List Value:=[.int .i64 q.1.kind,.string q.1.text,.int .i64 q.1.n,q.2]
structure Its (W:World) (base:Nat) (lv:Value) (L:List (It×Value)):Prop where
 row:W.ownsRow base 98 4 lv L.length (L.flatMap icell)
 subs:∀q∈L,ItsAt W (fun b=>base≤b∧b<W.heap.size∧some b≠lv.ownBlock) q.1.items q.2
theorem its_fuel {W:World} {S:Nat→Prop}:∀ {L:List (It×Value)},(∀q∈L,ItsAt W S q.1.items q.2)→∃f,∀q∈L,SlS W S 4 (ItS W S f) q.1.items q.2
 | [],_=>⟨0,fun q h=>by cases h⟩
 | x::L,h=>by
  obtain⟨f,hf⟩:=its_fuel (L:=L) (fun q hq=>h q (List.mem_cons_of_mem _ hq))
  obtain⟨g,hg⟩:=h x (by simp)
  refine⟨f+g,fun q hq=>?_⟩
  rcases List.mem_cons.1 hq with rfl | hq
  ·exact hg.keep (fun _ _ _=>rfl) (fun _ h=>h) (fun _ _ h=>h.ups (by omega))
  ·exact (hf q hq).keep (fun _ _ _=>rfl) (fun _ h=>h) (fun _ _ h=>h.ups (by omega))
theorem Its.at' {W:World} {base:Nat} {lv:Value} {L:List (It×Value)} (h:Its W base lv L) (hl:L.length≤140737488355328):ItsAt W (fun b=>base≤b∧b<W.heap.size) (L.map (·.1)) lv:=by
 obtain⟨f,hf⟩:=its_fuel h.subs
 obtain⟨va,vc,rfl⟩:=own_slice h.row
 refine⟨f+1,va,vc,by rw[List.length_map],?_,by rw[List.length_map];exact hl,fun j x hj=>?_⟩
 ·rw[List.length_map]
  rcases h.row.2 with ⟨e,e2⟩ | ⟨g,cap,cur,e,_,_,hcap,_⟩
  ·omega
  ·cases e;exact hcap
 ·rw[List.getElem?_map,Option.map_eq_some_iff] at hj
  obtain⟨q,hq,rfl⟩:=hj
  obtain⟨g,cap,e,hb,hg,hc⟩:=own_rows (cf:=icell) (fun _=>rfl) h.row hq
  cases e
  refine⟨g,0,icell q,rfl,⟨hb,hg⟩,⟨q.2,rfl,?_⟩,hc⟩
  exact (hf q (List.mem_of_getElem? hq)).keep (fun _ _ _=>rfl) (fun b h=>⟨h.1,h.2.1⟩) (fun _ _ h=>h.keep (fun _ _ _=>rfl) (fun b h=>⟨h.1,h.2.1⟩))
structure Gr2 (w w':World) (R H:Nat):Prop where
 os:w'.os=w.os
 tape:w'.tape=w.tape
 output:w'.output=w.output
 size:w.heap.size≤w'.heap.size
 block:∀b,b<w.heap.size→b≠R→b≠H→w'.heap[b]?=w.heap[b]?
theorem Gr2.refl (w:World) (R H:Nat):Gr2 w w R H:=⟨rfl,rfl,rfl,Nat.le_refl _,fun _ _ _ _=>rfl⟩
theorem Gr2.tr {u v w:World} {R H:Nat} (h:Gr2 u v R H) (k:Gr2 v w R H):Gr2 u w R H:=⟨k.os.trans h.os,k.tape.trans h.tape,k.output.trans h.output,Nat.le_trans h.size k.size,fun b hb h1 h2=>(k.block b (Nat.lt_of_lt_of_le hb h.size) h1 h2).trans (h.block b hb h1 h2)⟩
theorem Gr2.gr {u v w:World} {R H:Nat} (h:Gr2 u v R H) (k:v.grownBy w (some R)):Gr2 u w R H:=h.tr ⟨k.os,k.tape,k.output,k.size,fun b hb h1 _=>k.block b hb (by simpa using h1)⟩
theorem Gr2.below {u v w:World} {R H:Nat} (h:Gr2 u v R H) (k:Below v.heap.size v w):Gr2 u w R H:=h.tr ⟨k.os,k.tape,k.output,k.size,fun b hb _ _=>k.block b hb⟩
theorem Gr2.new {u v w:World} {R H b:Nat} (h:Gr2 u v R H) (k:v.grownBy w (some b)) (hb:u.heap.size≤b):Gr2 u w R H:=⟨k.os.trans h.os,k.tape.trans h.tape,k.output.trans h.output,Nat.le_trans h.size k.size,fun c hc h1 h2=>(k.block c (Nat.lt_of_lt_of_le hc h.size) (by simp;omega)).trans (h.block c hc h1 h2)⟩
end
section
set_option linter.unusedVariables false
set_option linter.unusedSimpArgs false
set_option maxRecDepth 100000
set_option maxHeartbeats 16000000
theorem own_gr2 {W W':World} {base e size n R H:Nat} {v:Value} {xs:List Value} (h:W.ownsRow base e size v n xs) (hg:Gr2 W W' R H) (hR:R<base) (hH:H<base):W'.ownsRow base e size v n xs:=by
 refine⟨h.1,?_⟩
 rcases h.2 with h0 | ⟨g,cap,cur,hv,hbg,hgb,rest⟩
 ·exact .inl h0
 ·exact .inr ⟨g,cap,cur,hv,hbg,(hg.block g (heap_lt hgb) (by omega) (by omega)).trans hgb,rest⟩
theorem Its.grow {W W':World} {base R H:Nat} {lv:Value} {L:List (It×Value)} (h:Its W base lv L) (hg:Gr2 W W' R H) (hR:R<base) (hH:H<base):Its W' base lv L:=
 ⟨own_gr2 h.row hg hR hH,fun q hq=>(h.subs q hq).keep (fun b hb c=>World.cell?_of_block (a:=⟨b,c,none⟩) (hg.block b hb.2.1 (by omega) (by omega))) (fun _ hb=>⟨hb.1,Nat.lt_of_lt_of_le hb.2.1 hg.size,hb.2.2⟩)⟩
theorem Its.after {W W':World} {base:Nat} {lv:Value} {L:List (It×Value)} (h:Its W base lv L) (hg:Below W.heap.size W W'):Its W' base lv L:=
 ⟨own_after h.row hg,fun q hq=>(h.subs q hq).keep (fun b hb c=>hg.cell (p:=⟨b,c,none⟩) hb.2.1) (fun _ hb=>⟨hb.1,Nat.lt_of_lt_of_le hb.2.1 hg.size,hb.2.2⟩)⟩
theorem Its.nil (W:World) (base:Nat):Its W base (.slice none 0 0) []:=⟨World.ownsRow_nil _ _ _ _,fun q h=>by cases h⟩
theorem Its.push {W w7:World} {base B0 g1 cap:Nat} {lv:Value} {L:List (It×Value)} (h:Its W base lv L) {i:It} {v:Value} {tmp:Obj} (hv:ItsAt W (fun b=>B0≤b∧b<W.heap.size) i.items v) (hB:∀b,lv.ownBlock=some b→b<B0) (hb0:base≤B0)
  (hown:w7.ownsRow base 98 4 (.slice (some ⟨g1,0,none⟩) (L.length+1) cap) (L.length+1) (L.flatMap icell++icell (i,v))) (hgrow:(W.alloc tmp).grownBy w7 lv.ownBlock) (hat:lv.ownBlock=some g1∨g1=W.heap.size+1):Its w7 base (.slice (some ⟨g1,0,none⟩) (L.length+1) cap) (L++[(i,v)]):=by
 have hs:W.heap.size+1≤w7.heap.size:=by have:=hgrow.size;rw[World.size_alloc] at this;exact this
 have hcell:∀b,b<W.heap.size→some b≠lv.ownBlock→∀c,w7.cell? ⟨b,c,none⟩=W.cell? ⟨b,c,none⟩:=fun b hb hne c=>by
  have h1:=hgrow.block b (by rw[World.size_alloc];omega) hne
  have h2:(W.alloc tmp).heap[b]?=W.heap[b]?:=Below.heap_alloc _ _ _ hb
  exact World.cell?_of_block (a:=⟨b,c,none⟩) (h1.trans h2)
 refine⟨by rw[List.flatMap_append,List.length_append];simpa using hown,fun q hq=>?_⟩
 rcases List.mem_append.1 hq with hq | hq
 ·refine (h.subs q hq).keep (fun b hb c=>hcell b hb.2.1 hb.2.2 c) (fun b hb=>⟨hb.1,by omega,?_⟩)
  show some b≠some g1
  rcases hat with hat | hat
  ·rw[←hat];exact hb.2.2
  ·intro e;have:=Option.some.inj e;have:=hb.2.1;omega
 ·simp at hq
  subst hq
  refine hv.keep (fun b hb c=>hcell b hb.2 (fun e=>by have:=hB b e.symm;omega) c) (fun b hb=>⟨by omega,by omega,?_⟩)
  show some b≠some g1
  rcases hat with hat | hat
  ·intro e;have:=hB g1 hat;have:=Option.some.inj e;omega
  ·intro e;have:=Option.some.inj e;have:=hb.2;omega
theorem info124:(Tryz.prog.info? 98).map (fun i=>(i.zero,i.size,i.bytes))=some (some (.agg #[.int .i64 0,.string ⟨#[]⟩,.int .i64 0,.slice none 0 0]),4,56):=by kernel_rfl
end
section
set_option linter.unusedVariables false
set_option linter.unusedSimpArgs false
set_option maxRecDepth 100000
set_option maxHeartbeats 16000000
def SS (base hi:Nat) (vs:List Value) (b:Nat):Prop:=base≤b∧b<hi∧∀v∈vs,some b≠v.ownBlock
def GrS (w:World) (S:Nat→Prop) (g:Gr) (vs:List Value):Prop:=∃v,vs=[.int .i64 g.assoc,v]∧SlS w S 1 StrV g.cons v
theorem GrS.keep {w w':World} {S S':Nat→Prop} (hc:∀b,S b→∀q,w'.cell? ⟨b,q,none⟩=w.cell? ⟨b,q,none⟩) (hS:∀b,S b→S' b) {g:Gr} {vs:List Value} (h:GrS w S g vs):GrS w' S' g vs:=by
 obtain⟨v,e,h⟩:=h
 exact⟨v,e,h.keep hc hS (fun _ _ h=>h)⟩
def pcell (q:Pr×Value):List Value:=[.bool q.1.lex,.string q.1.sort,.string q.1.cons,.bool q.1.bracket,q.2]
def ccell (q:List Gr×Value):List Value:=[q.2]
def gcell (q:Gr×Value):List Value:=[.int .i64 q.1.assoc,q.2]
def fcell (f:Fo):List Value:=[.string f.sort,.int .u64 f.set.a,.int .u64 f.set.b,.int .u64 f.set.c,.int .u64 f.set.d]
def rcell (r:Re):List Value:=[.string r.sort,.string r.by']
def bxcell (q:Bo×Value):List Value:=[.string q.1.cons,q.2]
structure DefIn (W:World) (base hi:Nat) (d:Df) (v2 v3 v4 v5 v6:Value) (Lp:List (Pr×Value)) (Lc:List (List Gr×Value)) (Lb:List (Bo×Value)):Prop where
 rp:W.ownsRow base 44 5 v2 Lp.length (Lp.flatMap pcell)
 rc:W.ownsRow base 66 1 v3 Lc.length (Lc.flatMap ccell)
 rf:W.ownsRow base 54 5 v4 d.follows.length (d.follows.flatMap fcell)
 rr:W.ownsRow base 56 2 v5 d.rejects.length (d.rejects.flatMap rcell)
 rb:W.ownsRow base 59 2 v6 Lb.length (Lb.flatMap bxcell)
 ep:Lp.map (·.1)=d.prods
 ec:Lc.map (·.1)=d.chains
 eb:Lb.map (·.1)=d.boxes
 sp:∀q∈Lp,SlS W (SS base hi [v2,v3,v4,v5,v6]) 8 SyV q.1.syms q.2
 sc:∀q∈Lc,SlS W (SS base hi [v2,v3,v4,v5,v6]) 2 (GrS W (SS base hi [v2,v3,v4,v5,v6])) q.1 q.2
 sb:∀q∈Lb,ItsAt W (SS base hi [v2,v3,v4,v5,v6]) q.1.items q.2
 ok:∀f∈d.follows,f.set.ok
 lo:∀v∈[v2,v3,v4,v5,v6],∀b,v.ownBlock=some b→b<hi
 up:hi≤W.heap.size
theorem own_same {W W':World} {base hi e size n:Nat} {v:Value} {xs:List Value} (h:W.ownsRow base e size v n xs) (hl:∀b,v.ownBlock=some b→b<hi) (hb:∀b,base≤b→b<hi→W'.heap[b]?=W.heap[b]?):W'.ownsRow base e size v n xs:=by
 refine⟨h.1,?_⟩
 rcases h.2 with h0 | ⟨g,cap,cur,hv,hbg,hgb,rest⟩
 ·exact .inl h0
 ·exact .inr ⟨g,cap,cur,hv,hbg,(hb g hbg (hl g (by rw[hv];rfl))).trans hgb,rest⟩
section
variable {W W':World} {base hi:Nat} {d:Df} {v2 v3 v4 v5 v6:Value} {Lp:List (Pr×Value)} {Lc:List (List Gr×Value)} {Lb:List (Bo×Value)}
theorem DefIn.keep (h:DefIn W base hi d v2 v3 v4 v5 v6 Lp Lc Lb) (hb:∀b,base≤b→b<hi→W'.heap[b]?=W.heap[b]?) (hs:W.heap.size≤W'.heap.size):DefIn W' base hi d v2 v3 v4 v5 v6 Lp Lc Lb:=by
 have hc:∀b,SS base hi [v2,v3,v4,v5,v6] b→∀q,W'.cell? ⟨b,q,none⟩=W.cell? ⟨b,q,none⟩:=fun b h q=>World.cell?_of_block (a:=⟨b,q,none⟩) (hb b h.1 h.2.1)
 have hi':∀b,SS base hi [v2,v3,v4,v5,v6] b→SS base hi [v2,v3,v4,v5,v6] b:=fun _ h=>h
 exact⟨own_same h.rp (h.lo v2 (by simp)) hb,own_same h.rc (h.lo v3 (by simp)) hb,own_same h.rf (h.lo v4 (by simp)) hb,own_same h.rr (h.lo v5 (by simp)) hb,own_same h.rb (h.lo v6 (by simp)) hb,h.ep,h.ec,h.eb,fun q hq=>(h.sp q hq).keep hc hi' (fun _ _ h=>h),fun q hq=>(h.sc q hq).keep hc hi' (fun _ _ h=>h.keep hc hi'),fun q hq=>(h.sb q hq).keep hc hi',h.ok,h.lo,Nat.le_trans h.up hs⟩
theorem DefIn.below (h:DefIn W base hi d v2 v3 v4 v5 v6 Lp Lc Lb) (hb:Below W.heap.size W W'):DefIn W' base hi d v2 v3 v4 v5 v6 Lp Lc Lb:=h.keep (fun b _ hlt=>hb.block b (Nat.lt_of_lt_of_le hlt h.up)) hb.size
theorem DefIn.gr {R:Nat} (h:DefIn W base hi d v2 v3 v4 v5 v6 Lp Lc Lb) (hg:W.grownBy W' (some R)) (hR:R<base∨hi≤R):DefIn W' base hi d v2 v3 v4 v5 v6 Lp Lc Lb:=h.keep (fun b h1 h2=>hg.block b (Nat.lt_of_lt_of_le h2 h.up) (by simp;omega)) hg.size
end
theorem DefIn.push_prod {W w7:World} {base hi g1 cap:Nat} {d:Df} {v2 v3 v4 v5 v6:Value} {Lp:List (Pr×Value)} {Lc:List (List Gr×Value)} {Lb:List (Bo×Value)} {tmp:Obj} (h:DefIn W base hi d v2 v3 v4 v5 v6 Lp Lc Lb) (p:Pr) (sv:Value) (hf:SlS W (fun b=>hi≤b∧b<W.heap.size) 8 SyV p.syms sv) (hbh:base≤hi)
  (hown:w7.ownsRow base 44 5 (.slice (some ⟨g1,0,none⟩) (Lp.length+1) cap) (Lp.length+1) (Lp.flatMap pcell++pcell (p,sv))) (hgrow:(W.alloc tmp).grownBy w7 v2.ownBlock) (hat:v2.ownBlock=some g1∨g1=W.heap.size+1) (hlt:g1<w7.heap.size):DefIn w7 base w7.heap.size { d with prods:=d.prods++[p] } (.slice (some ⟨g1,0,none⟩) (Lp.length+1) cap) v3 v4 v5 v6 (Lp++[(p,sv)]) Lc Lb:=by
 have hs:W.heap.size+1≤w7.heap.size:=by have:=hgrow.size;rw[World.size_alloc] at this;exact this
 have hup:=h.up
 have hcell:∀b,b<W.heap.size→some b≠v2.ownBlock→∀c,w7.cell? ⟨b,c,none⟩=W.cell? ⟨b,c,none⟩:=fun b hb hne c=>by
  have h1:=hgrow.block b (by rw[World.size_alloc];omega) hne
  have h2:(W.alloc tmp).heap[b]?=W.heap[b]?:=Below.heap_alloc _ _ _ hb
  exact World.cell?_of_block (a:=⟨b,c,none⟩) (h1.trans h2)
 have hl:=h.lo
 have hS:∀b,SS base hi [v2,v3,v4,v5,v6] b→SS base w7.heap.size [(.slice (some ⟨g1,0,none⟩) (Lp.length+1) cap),v3,v4,v5,v6] b:=fun b hb=>⟨hb.1,by have:=hb.2.1;omega,fun u hu=>by
  have h3:=hb.2.2
  simp only[List.mem_cons,List.not_mem_nil,or_false] at hu h3
  rcases hu with hu | hu | hu | hu | hu
  ·rw[hu];show some b≠some g1
   rcases hat with hat | hat
   ·rw[←hat];exact h3 _ (by simp)
   ·intro e;have:=Option.some.inj e;have:=hb.2.1;omega
  ·rw[hu];exact h3 _ (by simp)
  ·rw[hu];exact h3 _ (by simp)
  ·rw[hu];exact h3 _ (by simp)
  ·rw[hu];exact h3 _ (by simp)⟩
 have hC:∀b,SS base hi [v2,v3,v4,v5,v6] b→∀c,w7.cell? ⟨b,c,none⟩=W.cell? ⟨b,c,none⟩:=fun b hb c=>hcell b (by have:=hb.2.1;omega) (hb.2.2 v2 (by simp)) c
 have hSn:∀b,(hi≤b∧b<W.heap.size)→SS base w7.heap.size [(.slice (some ⟨g1,0,none⟩) (Lp.length+1) cap),v3,v4,v5,v6] b:=fun b hb=>⟨by omega,by omega,fun u hu=>by
  simp only[List.mem_cons,List.not_mem_nil,or_false] at hu
  rcases hu with hu | hu | hu | hu | hu
  ·rw[hu];show some b≠some g1
   rcases hat with hat | hat
   ·intro e;have:=Option.some.inj e;have:=hl v2 (by simp) g1 hat;omega
   ·intro e;have:=Option.some.inj e;omega
  ·rw[hu];intro e;have:=hl v3 (by simp) b e.symm;omega
  ·rw[hu];intro e;have:=hl v4 (by simp) b e.symm;omega
  ·rw[hu];intro e;have:=hl v5 (by simp) b e.symm;omega
  ·rw[hu];intro e;have:=hl v6 (by simp) b e.symm;omega⟩
 have hCn:∀b,(hi≤b∧b<W.heap.size)→∀c,w7.cell? ⟨b,c,none⟩=W.cell? ⟨b,c,none⟩:=fun b hb c=>hcell b hb.2 (fun e=>by have:=hl v2 (by simp) b e.symm;omega) c
 have k1:=(h.rc.alloc tmp).kept hgrow (row_ne (h.rc.alloc tmp) (h.rp.alloc tmp) (by decide))
 have k2:=(h.rf.alloc tmp).kept hgrow (row_ne (h.rf.alloc tmp) (h.rp.alloc tmp) (by decide))
 have k3:=(h.rr.alloc tmp).kept hgrow (row_ne (h.rr.alloc tmp) (h.rp.alloc tmp) (by decide))
 have k4:=(h.rb.alloc tmp).kept hgrow (row_ne (h.rb.alloc tmp) (h.rp.alloc tmp) (by decide))
 refine⟨by rw[List.flatMap_append,List.length_append];simpa using hown,k1,k2,k3,k4,by rw[List.map_append,h.ep];rfl,h.ec,h.eb,?_,?_,?_,?_,?_,Nat.le_refl _⟩
 ·exact fun q hq=>by
   rcases List.mem_append.1 hq with hq | hq
   ·exact (h.sp q hq).keep hC hS (fun _ _ h=>h)
   ·simp at hq;subst hq;exact hf.keep hCn hSn (fun _ _ h=>h)
 ·exact fun q hq=>(h.sc q hq).keep hC hS (fun _ _ h=>h.keep hC hS)
 ·exact fun q hq=>(h.sb q hq).keep hC hS
 ·exact h.ok
 ·intro u hu b hb
  simp only[List.mem_cons,List.not_mem_nil,or_false] at hu
  rcases hu with hu | hu | hu | hu | hu
  ·rw[hu] at hb;cases hb;exact hlt
  ·rw[hu] at hb;have:=hl v3 (by simp) b hb;omega
  ·rw[hu] at hb;have:=hl v4 (by simp) b hb;omega
  ·rw[hu] at hb;have:=hl v5 (by simp) b hb;omega
  ·rw[hu] at hb;have:=hl v6 (by simp) b hb;omega
theorem DefIn.push_chain {W w7:World} {base hi g1 cap:Nat} {d:Df} {v2 v3 v4 v5 v6:Value} {Lp:List (Pr×Value)} {Lc:List (List Gr×Value)} {Lb:List (Bo×Value)} {tmp:Obj} (h:DefIn W base hi d v2 v3 v4 v5 v6 Lp Lc Lb) (p:List Gr) (sv:Value) (hf:SlS W (fun b=>hi≤b∧b<W.heap.size) 2 (GrS W (fun b=>hi≤b∧b<W.heap.size)) p sv) (hbh:base≤hi)
  (hown:w7.ownsRow base 66 1 (.slice (some ⟨g1,0,none⟩) (Lc.length+1) cap) (Lc.length+1) (Lc.flatMap ccell++ccell (p,sv))) (hgrow:(W.alloc tmp).grownBy w7 v3.ownBlock) (hat:v3.ownBlock=some g1∨g1=W.heap.size+1) (hlt:g1<w7.heap.size):DefIn w7 base w7.heap.size { d with chains:=d.chains++[p] } v2 (.slice (some ⟨g1,0,none⟩) (Lc.length+1) cap) v4 v5 v6 Lp (Lc++[(p,sv)]) Lb:=by
 have hs:W.heap.size+1≤w7.heap.size:=by have:=hgrow.size;rw[World.size_alloc] at this;exact this
 have hup:=h.up
 have hcell:∀b,b<W.heap.size→some b≠v3.ownBlock→∀c,w7.cell? ⟨b,c,none⟩=W.cell? ⟨b,c,none⟩:=fun b hb hne c=>by
  have h1:=hgrow.block b (by rw[World.size_alloc];omega) hne
  have h2:(W.alloc tmp).heap[b]?=W.heap[b]?:=Below.heap_alloc _ _ _ hb
  exact World.cell?_of_block (a:=⟨b,c,none⟩) (h1.trans h2)
 have hl:=h.lo
 have hS:∀b,SS base hi [v2,v3,v4,v5,v6] b→SS base w7.heap.size [v2,(.slice (some ⟨g1,0,none⟩) (Lc.length+1) cap),v4,v5,v6] b:=fun b hb=>⟨hb.1,by have:=hb.2.1;omega,fun u hu=>by
  have h3:=hb.2.2
  simp only[List.mem_cons,List.not_mem_nil,or_false] at hu h3
  rcases hu with hu | hu | hu | hu | hu
  ·rw[hu];exact h3 _ (by simp)
  ·rw[hu];show some b≠some g1
   rcases hat with hat | hat
   ·rw[←hat];exact h3 _ (by simp)
   ·intro e;have:=Option.some.inj e;have:=hb.2.1;omega
  ·rw[hu];exact h3 _ (by simp)
  ·rw[hu];exact h3 _ (by simp)
  ·rw[hu];exact h3 _ (by simp)⟩
 have hC:∀b,SS base hi [v2,v3,v4,v5,v6] b→∀c,w7.cell? ⟨b,c,none⟩=W.cell? ⟨b,c,none⟩:=fun b hb c=>hcell b (by have:=hb.2.1;omega) (hb.2.2 v3 (by simp)) c
 have hSn:∀b,(hi≤b∧b<W.heap.size)→SS base w7.heap.size [v2,(.slice (some ⟨g1,0,none⟩) (Lc.length+1) cap),v4,v5,v6] b:=fun b hb=>⟨by omega,by omega,fun u hu=>by
  simp only[List.mem_cons,List.not_mem_nil,or_false] at hu
  rcases hu with hu | hu | hu | hu | hu
  ·rw[hu];intro e;have:=hl v2 (by simp) b e.symm;omega
  ·rw[hu];show some b≠some g1
   rcases hat with hat | hat
   ·intro e;have:=Option.some.inj e;have:=hl v3 (by simp) g1 hat;omega
   ·intro e;have:=Option.some.inj e;omega
  ·rw[hu];intro e;have:=hl v4 (by simp) b e.symm;omega
  ·rw[hu];intro e;have:=hl v5 (by simp) b e.symm;omega
  ·rw[hu];intro e;have:=hl v6 (by simp) b e.symm;omega⟩
 have hCn:∀b,(hi≤b∧b<W.heap.size)→∀c,w7.cell? ⟨b,c,none⟩=W.cell? ⟨b,c,none⟩:=fun b hb c=>hcell b hb.2 (fun e=>by have:=hl v3 (by simp) b e.symm;omega) c
 have k0:=(h.rp.alloc tmp).kept hgrow (row_ne (h.rp.alloc tmp) (h.rc.alloc tmp) (by decide))
 have k2:=(h.rf.alloc tmp).kept hgrow (row_ne (h.rf.alloc tmp) (h.rc.alloc tmp) (by decide))
 have k3:=(h.rr.alloc tmp).kept hgrow (row_ne (h.rr.alloc tmp) (h.rc.alloc tmp) (by decide))
 have k4:=(h.rb.alloc tmp).kept hgrow (row_ne (h.rb.alloc tmp) (h.rc.alloc tmp) (by decide))
 refine⟨k0,by rw[List.flatMap_append,List.length_append];simpa using hown,k2,k3,k4,h.ep,by rw[List.map_append,h.ec];rfl,h.eb,?_,?_,?_,?_,?_,Nat.le_refl _⟩
 ·exact fun q hq=>(h.sp q hq).keep hC hS (fun _ _ h=>h)
 ·exact fun q hq=>by
   rcases List.mem_append.1 hq with hq | hq
   ·exact (h.sc q hq).keep hC hS (fun _ _ h=>h.keep hC hS)
   ·simp at hq;subst hq;exact hf.keep hCn hSn (fun _ _ h=>h.keep hCn hSn)
 ·exact fun q hq=>(h.sb q hq).keep hC hS
 ·exact h.ok
 ·intro u hu b hb
  simp only[List.mem_cons,List.not_mem_nil,or_false] at hu
  rcases hu with hu | hu | hu | hu | hu
  ·rw[hu] at hb;have:=hl v2 (by simp) b hb;omega
  ·rw[hu] at hb;cases hb;exact hlt
  ·rw[hu] at hb;have:=hl v4 (by simp) b hb;omega
  ·rw[hu] at hb;have:=hl v5 (by simp) b hb;omega
  ·rw[hu] at hb;have:=hl v6 (by simp) b hb;omega
theorem DefIn.push_box {W w7:World} {base hi g1 cap:Nat} {d:Df} {v2 v3 v4 v5 v6:Value} {Lp:List (Pr×Value)} {Lc:List (List Gr×Value)} {Lb:List (Bo×Value)} {tmp:Obj} (h:DefIn W base hi d v2 v3 v4 v5 v6 Lp Lc Lb) (p:Bo) (sv:Value) (hf:ItsAt W (fun b=>hi≤b∧b<W.heap.size) p.items sv) (hbh:base≤hi)
  (hown:w7.ownsRow base 59 2 (.slice (some ⟨g1,0,none⟩) (Lb.length+1) cap) (Lb.length+1) (Lb.flatMap bxcell++bxcell (p,sv))) (hgrow:(W.alloc tmp).grownBy w7 v6.ownBlock) (hat:v6.ownBlock=some g1∨g1=W.heap.size+1) (hlt:g1<w7.heap.size):DefIn w7 base w7.heap.size { d with boxes:=d.boxes++[p] } v2 v3 v4 v5 (.slice (some ⟨g1,0,none⟩) (Lb.length+1) cap) Lp Lc (Lb++[(p,sv)]):=by
 have hs:W.heap.size+1≤w7.heap.size:=by have:=hgrow.size;rw[World.size_alloc] at this;exact this
 have hup:=h.up
 have hcell:∀b,b<W.heap.size→some b≠v6.ownBlock→∀c,w7.cell? ⟨b,c,none⟩=W.cell? ⟨b,c,none⟩:=fun b hb hne c=>by
  have h1:=hgrow.block b (by rw[World.size_alloc];omega) hne
  have h2:(W.alloc tmp).heap[b]?=W.heap[b]?:=Below.heap_alloc _ _ _ hb
  exact World.cell?_of_block (a:=⟨b,c,none⟩) (h1.trans h2)
 have hl:=h.lo
 have hS:∀b,SS base hi [v2,v3,v4,v5,v6] b→SS base w7.heap.size [v2,v3,v4,v5,(.slice (some ⟨g1,0,none⟩) (Lb.length+1) cap)] b:=fun b hb=>⟨hb.1,by have:=hb.2.1;omega,fun u hu=>by
  have h3:=hb.2.2
  simp only[List.mem_cons,List.not_mem_nil,or_false] at hu h3
  rcases hu with hu | hu | hu | hu | hu
  ·rw[hu];exact h3 _ (by simp)
  ·rw[hu];exact h3 _ (by simp)
  ·rw[hu];exact h3 _ (by simp)
  ·rw[hu];exact h3 _ (by simp)
  ·rw[hu];show some b≠some g1
   rcases hat with hat | hat
   ·rw[←hat];exact h3 _ (by simp)
   ·intro e;have:=Option.some.inj e;have:=hb.2.1;omega⟩
 have hC:∀b,SS base hi [v2,v3,v4,v5,v6] b→∀c,w7.cell? ⟨b,c,none⟩=W.cell? ⟨b,c,none⟩:=fun b hb c=>hcell b (by have:=hb.2.1;omega) (hb.2.2 v6 (by simp)) c
 have hSn:∀b,(hi≤b∧b<W.heap.size)→SS base w7.heap.size [v2,v3,v4,v5,(.slice (some ⟨g1,0,none⟩) (Lb.length+1) cap)] b:=fun b hb=>⟨by omega,by omega,fun u hu=>by
  simp only[List.mem_cons,List.not_mem_nil,or_false] at hu
  rcases hu with hu | hu | hu | hu | hu
  ·rw[hu];intro e;have:=hl v2 (by simp) b e.symm;omega
  ·rw[hu];intro e;have:=hl v3 (by simp) b e.symm;omega
  ·rw[hu];intro e;have:=hl v4 (by simp) b e.symm;omega
  ·rw[hu];intro e;have:=hl v5 (by simp) b e.symm;omega
  ·rw[hu];show some b≠some g1
   rcases hat with hat | hat
   ·intro e;have:=Option.some.inj e;have:=hl v6 (by simp) g1 hat;omega
   ·intro e;have:=Option.some.inj e;omega⟩
 have hCn:∀b,(hi≤b∧b<W.heap.size)→∀c,w7.cell? ⟨b,c,none⟩=W.cell? ⟨b,c,none⟩:=fun b hb c=>hcell b hb.2 (fun e=>by have:=hl v6 (by simp) b e.symm;omega) c
 have k0:=(h.rp.alloc tmp).kept hgrow (row_ne (h.rp.alloc tmp) (h.rb.alloc tmp) (by decide))
 have k1:=(h.rc.alloc tmp).kept hgrow (row_ne (h.rc.alloc tmp) (h.rb.alloc tmp) (by decide))
 have k2:=(h.rf.alloc tmp).kept hgrow (row_ne (h.rf.alloc tmp) (h.rb.alloc tmp) (by decide))
 have k3:=(h.rr.alloc tmp).kept hgrow (row_ne (h.rr.alloc tmp) (h.rb.alloc tmp) (by decide))
 refine⟨k0,k1,k2,k3,by rw[List.flatMap_append,List.length_append];simpa using hown,h.ep,h.ec,by rw[List.map_append,h.eb];rfl,?_,?_,?_,?_,?_,Nat.le_refl _⟩
 ·exact fun q hq=>(h.sp q hq).keep hC hS (fun _ _ h=>h)
 ·exact fun q hq=>(h.sc q hq).keep hC hS (fun _ _ h=>h.keep hC hS)
 ·exact fun q hq=>by
   rcases List.mem_append.1 hq with hq | hq
   ·exact (h.sb q hq).keep hC hS
   ·simp at hq;subst hq;exact hf.keep hCn hSn
 ·exact h.ok
 ·intro u hu b hb
  simp only[List.mem_cons,List.not_mem_nil,or_false] at hu
  rcases hu with hu | hu | hu | hu | hu
  ·rw[hu] at hb;have:=hl v2 (by simp) b hb;omega
  ·rw[hu] at hb;have:=hl v3 (by simp) b hb;omega
  ·rw[hu] at hb;have:=hl v4 (by simp) b hb;omega
  ·rw[hu] at hb;have:=hl v5 (by simp) b hb;omega
  ·rw[hu] at hb;cases hb;exact hlt
theorem DefIn.df {W:World} {base hi:Nat} {d:Df} {v2 v3 v4 v5 v6:Value} {Lp:List (Pr×Value)} {Lc:List (List Gr×Value)} {Lb:List (Bo×Value)} (h:DefIn W base hi d v2 v3 v4 v5 v6 Lp Lc Lb) (hlp:Lp.length≤1000000) (hlc:Lc.length≤1000000) (hlf:d.follows.length≤1000000) (hlr:d.rejects.length≤1000000) (hlb:Lb.length≤1000000):∃f,DfV W W.heap.size f d [.string d.start,.string d.layout,v2,v3,v4,v5,v6]:=by
 have hS:∀b,SS base hi [v2,v3,v4,v5,v6] b→b<W.heap.size:=fun b hb=>Nat.lt_of_lt_of_le hb.2.1 h.up
 have cap:∀ {e size n:Nat} {v:Value} {xs:List Value},W.ownsRow base e size v n xs→∃a c,v=.slice a n c∧n≤c:=fun h=>by
  rcases h.2 with ⟨rfl,rfl⟩ | ⟨g,cap,cur,rfl,_,_,hcap,_⟩
  ·exact⟨none,0,rfl,Nat.le_refl _⟩
  ·exact⟨_,cap,rfl,hcap⟩
 have rowOf:∀ {α β:Type} {e size:Nat} {v:Value} {cf:α→List Value} {l:List α} (g:α→β) (V:β→List Value→Prop),(∀x,(cf x).length=size)→W.ownsRow base e size v l.length (l.flatMap cf)→(∀x∈l,V (g x) (cf x))→l.length≤1000000→Sl W W.heap.size size V (l.map g) v:=fun {α β e size v cf l} g V hn hr hv hle=>by
  obtain⟨a,c,rfl,hc⟩:=cap hr
  refine⟨a,c,by rw[List.length_map],by rw[List.length_map];exact hc,by rw[List.length_map];omega,fun j x hj=>?_⟩
  rw[List.getElem?_map,Option.map_eq_some_iff] at hj
  obtain⟨y,hy,rfl⟩:=hj
  obtain⟨g',cap',e',_,hg',hcl⟩:=own_rows hn hr hy
  cases e'
  exact⟨g',0,cf y,rfl,hg',hv y (List.mem_of_getElem? hy),hcl⟩
 obtain⟨fb,hfb⟩:∃f,∀q∈Lb,SlS W (SS base hi [v2,v3,v4,v5,v6]) 4 (ItS W (SS base hi [v2,v3,v4,v5,v6]) f) q.1.items q.2:=by
  have:∀ {L:List (Bo×Value)},(∀q∈L,ItsAt W (SS base hi [v2,v3,v4,v5,v6]) q.1.items q.2)→∃f,∀q∈L,SlS W (SS base hi [v2,v3,v4,v5,v6]) 4 (ItS W (SS base hi [v2,v3,v4,v5,v6]) f) q.1.items q.2:=fun {L}=>by
   induction L with
   | nil=>intro _;exact⟨0,fun q h=>by cases h⟩
   | cons x L ih=>
    intro h
    obtain⟨f,hf⟩:=ih (fun q hq=>h q (List.mem_cons_of_mem _ hq))
    obtain⟨g,hg⟩:=h x (by simp)
    refine⟨f+g,fun q hq=>?_⟩
    rcases List.mem_cons.1 hq with rfl | hq
    ·exact hg.keep (fun _ _ _=>rfl) (fun _ h=>h) (fun _ _ h=>h.ups (by omega))
    ·exact (hf q hq).keep (fun _ _ _=>rfl) (fun _ h=>h) (fun _ _ h=>h.ups (by omega))
  exact this h.sb
 refine⟨fb,v2,v3,v4,v5,v6,rfl,?_,?_,?_,?_,?_⟩
 ·rw[←h.ep]
  exact rowOf (cf:=pcell) (fun q=>q.1) (PrV W W.heap.size) (fun _=>rfl) h.rp (fun q hq=>⟨q.2,rfl,(h.sp q hq).sl hS (fun _ _ h=>h)⟩) hlp
 ·rw[←h.ec]
  exact rowOf (cf:=ccell) (fun q=>q.1) (ChV W W.heap.size) (fun _=>rfl) h.rc (fun q hq=>⟨q.2,rfl,(h.sc q hq).sl hS (fun _ _ h=>by obtain⟨v,e,h⟩:=h;exact⟨v,e,h.sl hS (fun _ _ h=>h)⟩)⟩) hlc
 ·have:=rowOf (cf:=fcell) (l:=d.follows) (fun x=>x) FoV (fun _=>rfl) h.rf (fun x hx=>⟨h.ok x hx,rfl⟩) hlf
  rwa [List.map_id'] at this
 ·have:=rowOf (cf:=rcell) (l:=d.rejects) (fun x=>x) ReV (fun _=>rfl) h.rr (fun x _=>rfl) hlr
  rwa [List.map_id'] at this
 ·rw[←h.eb]
  exact rowOf (cf:=bxcell) (fun q=>q.1) (BoV W W.heap.size fb) (fun _=>rfl) h.rb (fun q hq=>⟨q.2,rfl,(hfb q hq).sl hS (fun _ _ h=>h.it hS)⟩) hlb
def NT (w:World) (b:Nat):Prop:=∀cs e,w.heap[b]?=some (.cells cs e (0,0))→¬(e=57∨e=58∨e=52∨e=73∨e=64)
structure FrS (w w':World) (R:Nat):Prop where
 os:w'.os=w.os
 tape:w'.tape=w.tape
 output:w'.output=w.output
 size:w.heap.size≤w'.heap.size
 block:∀b,b<w.heap.size→b≠R→(NT w b∨b<R)→w'.heap[b]?=w.heap[b]?
theorem FrS.of {w w':World} {R:Nat} (h:w.grownBy w' (some R)):FrS w w' R:=⟨h.os,h.tape,h.output,h.size,fun b hb hne _=>h.block b hb (by simpa using hne)⟩
theorem NT.gr {w w':World} {R b:Nat} (h:NT w b) (hf:FrS w w' R) (hb:b<w.heap.size) (hne:b≠R):NT w' b:=fun cs e he=>h cs e ((hf.block b hb hne (.inl h)).symm.trans he)
theorem FrS.tr {u v w:World} {R:Nat} (h:FrS u v R) (k:FrS v w R):FrS u w R:=⟨k.os.trans h.os,k.tape.trans h.tape,k.output.trans h.output,Nat.le_trans h.size k.size,fun b hb hne hn=>(k.block b (Nat.lt_of_lt_of_le hb h.size) hne (hn.imp (fun q=>q.gr h hb hne) (fun q=>q))).trans (h.block b hb hne hn)⟩
theorem FrS.push {w cur w7:World} {R e size n:Nat} {v:Value} {xs:List Value} {tmp:Obj} (h:FrS w cur R) (hrow:cur.ownsRow (R+1) e size v n xs) (he:e=57∨e=58∨e=52∨e=73∨e=64) (hgrow:(cur.alloc tmp).grownBy w7 v.ownBlock):FrS w w7 R:=by
 have hs:cur.heap.size+1≤w7.heap.size:=by have:=hgrow.size;rw[World.size_alloc] at this;exact this
 refine⟨hgrow.os.trans h.os,hgrow.tape.trans h.tape,hgrow.output.trans h.output,by have:=h.size;omega,fun b hb hne hn=>?_⟩
 have hb2:b<cur.heap.size:=Nat.lt_of_lt_of_le hb h.size
 have h2:(cur.alloc tmp).heap[b]?=cur.heap[b]?:=Below.heap_alloc _ _ _ hb2
 refine (hgrow.block b (by rw[World.size_alloc];omega) (fun e'=>?_)).trans (h2.trans (h.block b hb hne hn))
 rcases hrow.2 with ⟨hv,_⟩ | ⟨g,cap,cs,hv,hRg,hg,_⟩
 ·rw[hv] at e';simp[Value.ownBlock] at e'
 ·rw[hv] at e'
  obtain rfl:b=g:=by simpa [Value.ownBlock] using e'
  rcases hn with hn | hn
  ·exact hn cs e ((h.block b hb hne (.inl hn)).symm.trans hg) he
  ·omega
theorem FrS.set {w cur:World} {R i:Nat} (h:FrS w cur R) (v:Value):FrS w (cur.setCell ⟨R,i,none⟩ v) R:=h.tr (FrS.of (grownBy_setCell _ _ _ _))
theorem info52:(Tryz.prog.info? 54).map (fun i=>(i.zero,i.size,i.bytes))=some (some (.agg #[.string ⟨#[]⟩,.int .u64 0,.int .u64 0,.int .u64 0,.int .u64 0]),5,48):=by kernel_rfl
theorem info73:(Tryz.prog.info? 56).map (fun i=>(i.zero,i.size,i.bytes))=some (some (.agg #[.string ⟨#[]⟩,.string ⟨#[]⟩]),2,32):=by kernel_rfl
end
section
set_option linter.unusedVariables false
set_option linter.unusedSimpArgs false
set_option maxRecDepth 100000
set_option maxHeartbeats 16000000
theorem Gr2.one {w W W':World} {R H:Nat} (h:w.grownBy W (some R)) (k:Gr2 W W' R H) (hH:w.heap.size≤H):w.grownBy W' (some R):=⟨k.os.trans h.os,k.tape.trans h.tape,k.output.trans h.output,Nat.le_trans h.size k.size,fun b hb hne=>(k.block b (Nat.lt_of_lt_of_le hb h.size) (by simpa using hne) (by omega)).trans (h.block b hb hne)⟩
theorem info64:(Tryz.prog.info? 59).map (fun i=>(i.zero,i.size,i.bytes))=some (some (.agg #[.string ⟨#[]⟩,.slice none 0 0]),2,40):=by kernel_rfl
structure Grs (W:World) (base:Nat) (lv:Value) (L:List (Gr×Value)):Prop where
 row:W.ownsRow base 68 2 lv L.length (L.flatMap gcell)
 subs:∀q∈L,NamesAt W base q.1.cons q.2
theorem Grs.nil (W:World) (base:Nat):Grs W base (.slice none 0 0) []:=⟨World.ownsRow_nil _ _ _ _,fun q h=>by cases h⟩
theorem Grs.kept {W W':World} {base b:Nat} {lv:Value} {L:List (Gr×Value)} (h:Grs W base lv L) (hg:W.grownBy W' (some b)) (hb:b<base):Grs W' base lv L:=⟨own_kept h.row hg hb,fun q hq=>(h.subs q hq).kept hg hb⟩
theorem Grs.after {W W':World} {base:Nat} {lv:Value} {L:List (Gr×Value)} (h:Grs W base lv L) (hg:Below W.heap.size W W'):Grs W' base lv L:=⟨own_after h.row hg,fun q hq=>(h.subs q hq).after hg⟩
theorem Grs.push {W w7:World} {base g1 cap:Nat} {lv:Value} {L:List (Gr×Value)} {tmp:Obj} (h:Grs W base lv L) {g:Gr} {v:Value} (hv:NamesAt W base g.cons v) (hown:w7.ownsRow base 68 2 (.slice (some ⟨g1,0,none⟩) (L.length+1) cap) (L.length+1) (L.flatMap gcell++gcell (g,v))) (hgrow:(W.alloc tmp).grownBy w7 lv.ownBlock):Grs w7 base (.slice (some ⟨g1,0,none⟩) (L.length+1) cap) (L++[(g,v)]):=by
 refine⟨by rw[List.flatMap_append,List.length_append];simpa using hown,fun q hq=>?_⟩
 have hk:∀q:Gr×Value,NamesAt W base q.1.cons q.2→NamesAt w7 base q.1.cons q.2:=fun q hq=>⟨(hq.row.alloc tmp).kept hgrow (row_ne (hq.row.alloc tmp) (h.row.alloc tmp) (by decide))⟩
 rcases List.mem_append.1 hq with hq | hq
 ·exact hk q (h.subs q hq)
 ·simp at hq;subst hq;exact hk (g,v) hv
theorem own_cap {W:World} {base e size n:Nat} {v:Value} {xs:List Value} (h:W.ownsRow base e size v n xs):∃a c,v=.slice a n c∧n≤c:=by
 rcases h.2 with ⟨rfl,rfl⟩ | ⟨g,cap,cur,rfl,_,_,hcap,_⟩
 ·exact⟨none,0,rfl,Nat.le_refl _⟩
 ·exact⟨_,cap,rfl,hcap⟩
theorem info61:(Tryz.prog.info? 68).map (fun i=>(i.zero,i.size,i.bytes))=some (some (.agg #[.int .i64 0,.slice none 0 0]),2,32):=by kernel_rfl
theorem info58:(Tryz.prog.info? 66).map (fun i=>(i.zero,i.size,i.bytes))=some (some (.slice none 0 0),1,24):=by kernel_rfl
end
section
set_option linter.unusedVariables false
set_option linter.unusedSimpArgs false
set_option maxRecDepth 100000
set_option maxHeartbeats 16000000
theorem info57:(Tryz.prog.info? 44).map (fun i=>(i.zero,i.size,i.bytes))=some (some (.agg #[.bool false,.string ⟨#[]⟩,.string ⟨#[]⟩,.bool false,.slice none 0 0]),5,72):=by kernel_rfl
end
section
set_option linter.unusedVariables false
set_option linter.unusedSimpArgs false
set_option maxRecDepth 100000
set_option maxHeartbeats 16000000
theorem FrS.map {w w':World} {R b clock:Nat} {es:Array MapEntry} (h:FrS w w' R) (hm:w.heap[b]?=some (.map es clock)) (hne:b≠R):w'.heap[b]?=some (.map es clock):=by
 have hlt:b<w.heap.size:=(Array.getElem?_eq_some_iff.1 hm).1
 exact (h.block b hlt hne (.inl (fun cs e he=>by rw[hm] at he;cases he))).trans hm
end
end Go.Proofs.YtilpgpcgcpedjaaGreat
