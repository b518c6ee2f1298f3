/- An argument that is a definition. -/
import Derived.Test.YtilpgpcgcpedjaaGreatA0
import Derived.OpenShut
import Derived.ShutString
import Derived.ChangeOld
import Derived.Below
import Derived.SizedLaws
import Derived.Deep.SlicePairs
namespace Go.Proofs.YtilpgpcgcpedjaaGreat
open Go.RowKit
set_option linter.unusedVariables false
set_option linter.unusedSimpArgs false
set_option maxRecDepth 100000
set_option maxHeartbeats 16000000
set_option linter.unusedVariables false
set_option linter.unusedSimpArgs false
set_option maxRecDepth 100000
set_option maxHeartbeats 16000000
open Go.ChangeShapes Go.WideShapes Go.ChangeAt Go.RowKit Go.Deep
theorem cells3:Tryz.prog.cellsOf 3=1:=by kernel_rfl
theorem cells4:Tryz.prog.cellsOf 4=1:=by kernel_rfl
theorem cells9:Tryz.prog.cellsOf 9=1:=by kernel_rfl
theorem cells22:Tryz.prog.cellsOf 22=1:=by kernel_rfl
theorem cells23:Tryz.prog.cellsOf 23=1:=by kernel_rfl
theorem cells24:Tryz.prog.cellsOf 24=1:=by kernel_rfl
theorem cells25:Tryz.prog.cellsOf 25=1:=by kernel_rfl
theorem cells26:Tryz.prog.cellsOf 26=1:=by kernel_rfl
theorem cells28:Tryz.prog.cellsOf 28=7:=by kernel_rfl
theorem cells47:Tryz.prog.cellsOf 50=1:=by kernel_rfl
theorem cells49:Tryz.prog.cellsOf 52=4:=by kernel_rfl
theorem cells52:Tryz.prog.cellsOf 54=5:=by kernel_rfl
theorem cells55:Tryz.prog.cellsOf 42=1:=by kernel_rfl
theorem cells57:Tryz.prog.cellsOf 44=5:=by kernel_rfl
theorem cells58:Tryz.prog.cellsOf 66=1:=by kernel_rfl
theorem cells59:Tryz.prog.cellsOf 36=1:=by kernel_rfl
theorem cells61:Tryz.prog.cellsOf 68=2:=by kernel_rfl
theorem cells62:Tryz.prog.cellsOf 57=1:=by kernel_rfl
theorem cells64:Tryz.prog.cellsOf 59=2:=by kernel_rfl
theorem cells73:Tryz.prog.cellsOf 56=2:=by kernel_rfl
theorem cells124:Tryz.prog.cellsOf 98=4:=by kernel_rfl
theorem cells134:Tryz.prog.cellsOf 62=8:=by kernel_rfl
theorem bytes9:Tryz.prog.bytesOf 9=16:=by kernel_rfl
theorem bytes52:Tryz.prog.bytesOf 54=48:=by kernel_rfl
theorem bytes57:Tryz.prog.bytesOf 44=72:=by kernel_rfl
theorem bytes58:Tryz.prog.bytesOf 66=24:=by kernel_rfl
theorem bytes61:Tryz.prog.bytesOf 68=32:=by kernel_rfl
theorem bytes64:Tryz.prog.bytesOf 59=40:=by kernel_rfl
theorem bytes73:Tryz.prog.bytesOf 56=32:=by kernel_rfl
theorem bytes124:Tryz.prog.bytesOf 98=56:=by kernel_rfl
theorem bytes134:Tryz.prog.bytesOf 62=88:=by kernel_rfl
theorem under47:Tryz.prog.underlying 50=some (.int .u64):=by kernel_rfl
theorem word_ok {x:Int} (h:(Lit.int .u64 x).wf=true):∃n:Nat,x=(n:Int)∧n<18446744073709551616:=by
 have:=bounds_u64 h
 exact⟨x.toNat,by omega,by omega⟩
theorem cell_lt' {w:World} {b o:Nat} {v:Value} (h:w.cell? ⟨b,o,none⟩=some v):b<w.heap.size:=by
 rcases Nat.lt_or_ge b w.heap.size with h' | h'
 ·exact h'
 ·simp[World.cell?,Array.getElem?_eq_none h'] at h
def ItZ:Nat→It→Prop
 | 0,_=>False
 | f+1,i=>i.items.length*56≤140737488355328∧∀x∈i.items,ItZ f x
theorem ItZ.up:∀ {f:Nat} {i:It},ItZ f i→ItZ (f+1) i
 | 0,_,h=>h.elim
 | _+1,_,h=>⟨h.1,fun x hx=>ItZ.up (h.2 x hx)⟩
theorem ItZ.ups {f g:Nat} {i:It} (h:ItZ f i) (hg:f≤g):ItZ g i:=by
 induction hg with
 | refl=>exact h
 | step _ ih=>exact ih.up
def BoZ (f:Nat) (b:Bo):Prop:=b.items.length*56≤140737488355328∧∀x∈b.items,ItZ f x
structure SzD (f:Nat) (d:Df):Prop where
 p:d.prods.length*72≤140737488355328
 c:d.chains.length*24≤140737488355328
 fo:d.follows.length*48≤140737488355328
 r:d.rejects.length*32≤140737488355328
 b:d.boxes.length*40≤140737488355328
 ps:∀p∈d.prods,p.syms.length*88≤140737488355328
 cs:∀c∈d.chains,c.length*32≤140737488355328∧∀g∈c,g.cons.length*16≤140737488355328
 bs:∀b∈d.boxes,BoZ f b
theorem BoZ.ups {f g:Nat} {b:Bo} (h:BoZ f b) (hg:f≤g):BoZ g b:=⟨h.1,fun x hx=>(h.2 x hx).ups hg⟩
theorem list_of {α:Type} [Inhabited α] {n:Nat} {p:Nat→α→Prop} (h:∀i,i<n→∃x,p i x):∃l:List α,l.length=n∧∀i x,l[i]?=some x→p i x:=by
 obtain⟨f,hf⟩:=choose_lt h
 refine⟨(List.range n).map f,by simp,fun i x hx=>?_⟩
 have hi:i<n:=by have:=(List.getElem?_eq_some_iff.1 hx).1;simpa using this
 have:x=f i:=by
  rw[List.getElem?_map,List.getElem?_range hi] at hx
  simpa using hx.symm
 subst this
 exact hf i hi
theorem weights_all {H:Type} {P:Program} {e:TypeId} {ds:List (DataW H)} {d:DataW H} (h:d∈ds):∀n∈d.weights P e,n∈DataW.weightsAll P e ds:=by
 induction ds with
 | nil=>cases h
 | cons x l ih=>
  intro n hn
  simp only[DataW.weightsAll,List.mem_append]
  rcases List.mem_cons.1 h with rfl | h
  ·exact .inl hn
  ·exact .inr (ih h n hn)
section
variable {H:Type} {enc:TypeId×Value→H} {w:World} {base:Nat} {spare:Nat→Bool} {held:Bool}
theorem open_sl {α:Type} [Inhabited α] {s e:TypeId} {n nb fuel:Nat} {V:α→List Value→Prop} (hs:Tryz.prog.underlying s=some (.slice e)) (hn:Tryz.prog.cellsOf e=n) (hn0:0<n) (hb:Tryz.prog.bytesOf e=nb) (hb0:0<nb) {v:Value} {x:DataW H×List MemPlace} (h:DataW.trod enc Tryz.prog w base spare held fuel s [v]=some x) (hw:∀k∈x.1.weights Tryz.prog s,k≤reachBytes)
  (hop:∀(m:Nat) (cs:List Value) (y:DataW H×List MemPlace),m<fuel→cs.length=n→DataW.trod enc Tryz.prog w base spare held m e cs=some y→(∀k∈y.1.weights Tryz.prog e,k≤reachBytes)→∃d,V d cs):∃l:List α,Sl w w.heap.size n V l v∧l.length*nb≤140737488355328:=by
 have hr:=reachBytes_lt
 rcases DataW.trod_slice hs h with ⟨h0,_⟩ | ⟨a,len,cap,elems,rest,m,rfl,h0,hx,_,hl,hm,hlen,hel,hsp,hns⟩
 ·simp at h0
  exact⟨[],⟨none,0,h0,Nat.le_refl _,Nat.zero_le _,fun j s hj=>by cases hj⟩,by simp⟩
 ·simp at h0
  have hx1:x.1=.slice (elems.map (·.1)) (rest.map (·.1)):=by rw[hx]
  rw[hx1] at hw
  simp only[DataW.weights,hs,hb] at hw
  have hz:=hw _ List.mem_cons_self
  rw[List.length_map,List.length_map,hlen] at hz
  have each:∀i,i<len→∃d:α,∃cs:List Value,cs.length=n∧V d cs∧∀j u,cs[j]?=some u→w.cell? (a.add (i*n+j))=some u:=by
   intro i hi
   have h1:=hel i hi
   rw[List.getElem?_eq_getElem (by omega),Option.bind_eq_some_iff] at h1
   obtain⟨cs',h1,h2⟩:=h1
   rw[hn] at h1
   obtain⟨_,hlen',hcell⟩:=World.cells?_some h1
   obtain⟨d,hd⟩:=hop m cs' _ (by omega) hlen' h2 (fun q hq=>hw q (List.mem_cons_of_mem _ (List.mem_append.2 (.inl (weights_all (List.mem_map.2 ⟨elems[i],List.getElem_mem _,rfl⟩) q hq)))))
   refine⟨d,cs',hlen',hd,fun j u hj=>?_⟩
   have hj':=(List.getElem?_eq_some_iff.1 hj).1
   have k:=hcell j (by omega)
   simp only[add_add] at k
   exact k.trans hj
  obtain⟨l,hll,hlp⟩:=list_of each
  subst hll
  have hlnb:l.length≤l.length*nb:=Nat.le_mul_of_pos_right _ hb0
  have hlr:l.length*nb≤(l.length+rest.length)*nb:=Nat.mul_le_mul_right _ (by omega)
  refine⟨l,⟨some a,cap,h0,hl,by omega,fun j d hj=>?_⟩,by omega⟩
  obtain⟨cs,hcl,hV,hc⟩:=hlp j d hj
  have hj0:=(List.getElem?_eq_some_iff.1 hj).1
  obtain⟨cs0,hcl0,_,hc0⟩:=hlp 0 l[0] (by simp)
  have f0:=hc0 0 cs0[0] (by simp)
  obtain⟨b,off,spot⟩:=a
  have hspot:spot=none:=by simpa [Addr.add] using World.cell?_spot f0
  subst hspot
  have g0:=hc 0 cs[0] (by simp)
  rw[Addr.add_lit] at g0
  refine⟨b,off,cs,rfl,cell_lt' g0,hV,fun i v hi=>?_⟩
  have g:=hc i v hi
  rw[Addr.add_lit] at g
  rw[Nat.add_assoc]
  exact g
theorem sl_all {α:Type} {B n:Nat} {V:α→List Value→Prop} {P:α→Prop} {l:List α} {v:Value} (h:Sl w B n (fun x vs=>V x vs∧P x) l v):Sl w B n V l v∧∀x∈l,P x:=by
 refine⟨h.keep (Below.refl _ _) (Nat.le_refl _) (fun _ _ _ h=>h.1),fun x hx=>?_⟩
 obtain⟨a,c,_,_,_,hr⟩:=h
 obtain⟨j,hj⟩:=List.getElem?_of_mem hx
 obtain⟨_,_,_,_,_,hv,_⟩:=hr j x hj
 exact hv.2
theorem open_set4 {fuel:Nat} {c0 c1 c2 c3:Value} {x:DataW H×List MemPlace} (hf:DataW.trod enc Tryz.prog w base spare held fuel 52 [c0,c1,c2,c3]=some x) :
  ∃s:St,s.ok∧c0=.int .u64 s.a∧c1=.int .u64 s.b∧c2=.int .u64 s.c∧c3=.int .u64 s.d:=by
 obtain⟨xs,m,_,_,_,hxl,hx⟩:=DataW.trod_array Tryz.underlying52 hf
 have k:∀i,i<4→∃y,DataW.trod enc Tryz.prog w base spare held m 50 ((([c0,c1,c2,c3]:List Value).drop i).take 1)=some y:=by
  intro i hi
  have h1:=hx i hi
  rw[cells47,Nat.mul_one,List.getElem?_eq_getElem (by omega)] at h1
  exact⟨_,h1⟩
 obtain⟨y0,q0⟩:=k 0 (by omega)
 obtain⟨y1,q1⟩:=k 1 (by omega)
 obtain⟨y2,q2⟩:=k 2 (by omega)
 obtain⟨y3,q3⟩:=k 3 (by omega)
 obtain⟨n0,e0,_,w0⟩:=DataW.trod_int under47 q0
 obtain⟨n1,e1,_,w1⟩:=DataW.trod_int under47 q1
 obtain⟨n2,e2,_,w2⟩:=DataW.trod_int under47 q2
 obtain⟨n3,e3,_,w3⟩:=DataW.trod_int under47 q3
 simp at e0 e1 e2 e3
 obtain⟨m0,rfl,b0⟩:=word_ok w0
 obtain⟨m1,rfl,b1⟩:=word_ok w1
 obtain⟨m2,rfl,b2⟩:=word_ok w2
 obtain⟨m3,rfl,b3⟩:=word_ok w3
 exact⟨⟨m0,m1,m2,m3⟩,⟨b0,b1,b2,b3⟩,e0,e1,e2,e3⟩
theorem open_sym {fuel:Nat} {cs:List Value} {x:DataW H×List MemPlace} (hl:cs.length=8) (hf:DataW.trod enc Tryz.prog w base spare held fuel 62 cs=some x) (_hw:∀k∈x.1.weights Tryz.prog 62,k≤reachBytes) :
  ∃y:Sy,SyV y cs∧y.name.size≤maxLen:=by
 obtain⟨xs,m,hm,hd,_,hxl,hx⟩:=DataW.trod_struct Tryz.underlying62 hf
 have hxl':xs.length=5:=hxl
 match cs,hl with
 | [c0,c1,c2,c3,c4,c5,c6,c7],_=>
  have g0:DataW.trod enc Tryz.prog w base spare held m 3 ((([c0,c1,c2,c3,c4,c5,c6,c7]:List Value).drop 0).take (Tryz.prog.cellsOf 3))=xs[0]?:=hx 0 _ rfl
  have g1:DataW.trod enc Tryz.prog w base spare held m 9 ((([c0,c1,c2,c3,c4,c5,c6,c7]:List Value).drop 1).take (Tryz.prog.cellsOf 9))=xs[1]?:=hx 1 _ rfl
  have g2:DataW.trod enc Tryz.prog w base spare held m 52 ((([c0,c1,c2,c3,c4,c5,c6,c7]:List Value).drop 2).take (Tryz.prog.cellsOf 52))=xs[2]?:=hx 2 _ rfl
  have g3:DataW.trod enc Tryz.prog w base spare held m 9 ((([c0,c1,c2,c3,c4,c5,c6,c7]:List Value).drop 6).take (Tryz.prog.cellsOf 9))=xs[3]?:=hx 3 _ rfl
  have g4:DataW.trod enc Tryz.prog w base spare held m 9 ((([c0,c1,c2,c3,c4,c5,c6,c7]:List Value).drop 7).take (Tryz.prog.cellsOf 9))=xs[4]?:=hx 4 _ rfl
  match xs,hxl' with
  | [x0,x1,x2,x3,x4],_=>
   rw[cells3] at g0
   rw[cells9] at g1
   rw[cells49] at g2
   rw[cells9] at g3
   rw[cells9] at g4
   obtain⟨a,e0,_,_⟩:=DataW.trod_int Tryz.underlying3 g0
   obtain⟨b,e1,_⟩:=DataW.trod_string Tryz.underlying9 g1
   obtain⟨t,ht,e2,e2b,e2c,e2d⟩:=open_set4 (c0:=c2) (c1:=c3) (c2:=c4) (c3:=c5) g2
   obtain⟨d,e3,_,z3⟩:=DataW.trod_string Tryz.underlying9 g3
   obtain⟨e,e4,_⟩:=DataW.trod_string Tryz.underlying9 g4
   simp at e0 e1 e3 e4
   exact⟨⟨a,b,t,d,e⟩,⟨ht,by rw[e0,e1,e2,e2b,e2c,e2d,e3,e4]⟩,z3⟩
theorem open_prod {fuel:Nat} {cs:List Value} {x:DataW H×List MemPlace} (hl:cs.length=5) (hf:DataW.trod enc Tryz.prog w base spare held fuel 44 cs=some x) (hw:∀k∈x.1.weights Tryz.prog 44,k≤reachBytes) :
  ∃y:Pr,PrV w w.heap.size y cs∧y.syms.length*88≤140737488355328∧y.sort.size≤maxLen∧y.cons.size≤maxLen∧∀s∈y.syms,s.name.size≤maxLen:=by
 obtain⟨xs,m,hm,hd,_,hxl,hx⟩:=DataW.trod_struct Tryz.underlying44 hf
 have hxl':xs.length=5:=hxl
 match cs,hl with
 | [c0,c1,c2,c3,c4],_=>
  have g0:DataW.trod enc Tryz.prog w base spare held m 4 ((([c0,c1,c2,c3,c4]:List Value).drop 0).take (Tryz.prog.cellsOf 4))=xs[0]?:=hx 0 _ rfl
  have g1:DataW.trod enc Tryz.prog w base spare held m 9 ((([c0,c1,c2,c3,c4]:List Value).drop 1).take (Tryz.prog.cellsOf 9))=xs[1]?:=hx 1 _ rfl
  have g2:DataW.trod enc Tryz.prog w base spare held m 9 ((([c0,c1,c2,c3,c4]:List Value).drop 2).take (Tryz.prog.cellsOf 9))=xs[2]?:=hx 2 _ rfl
  have g3:DataW.trod enc Tryz.prog w base spare held m 4 ((([c0,c1,c2,c3,c4]:List Value).drop 3).take (Tryz.prog.cellsOf 4))=xs[3]?:=hx 3 _ rfl
  have g4:DataW.trod enc Tryz.prog w base spare held m 42 ((([c0,c1,c2,c3,c4]:List Value).drop 4).take (Tryz.prog.cellsOf 42))=xs[4]?:=hx 4 _ rfl
  match xs,hxl' with
  | [x0,x1,x2,x3,x4],_=>
   rw[cells4] at g0
   rw[cells9] at g1
   rw[cells9] at g2
   rw[cells4] at g3
   rw[cells55] at g4
   have hd1:x.1=.agg [x0.1,x1.1,x2.1,x3.1,x4.1]:=by simpa using (Prod.ext_iff.1 hd).1
   rw[hd1] at hw
   simp only[DataW.weights,Tryz.underlying44,DataW.weightsEach,List.map_cons,List.map_nil,List.mem_append] at hw
   obtain⟨a,e0,_⟩:=DataW.trod_bool Tryz.underlying4 g0
   obtain⟨b,e1,_,z1⟩:=DataW.trod_string Tryz.underlying9 g1
   obtain⟨d,e2,_,z2⟩:=DataW.trod_string Tryz.underlying9 g2
   obtain⟨e,e3,_⟩:=DataW.trod_bool Tryz.underlying4 g3
   obtain⟨l,hl,hz⟩:=open_sl (V:=fun y cs=>SyV y cs∧y.name.size≤maxLen) Tryz.underlying42 cells134 (by omega) bytes134 (by omega) (v:=c4) g4 (fun q hq=>hw q (.inr (.inr (.inr (.inr (.inl hq)))))) (fun m cs y _ hl h hw=>open_sym hl h hw)
   obtain⟨hl,ha⟩:=sl_all hl
   simp at e0 e1 e2 e3
   exact⟨⟨a,b,d,e,l⟩,⟨c4,by rw[e0,e1,e2,e3],hl⟩,hz,z1,z2,ha⟩
theorem open_str {fuel:Nat} {cs:List Value} {x:DataW H×List MemPlace} (hf:DataW.trod enc Tryz.prog w base spare held fuel 9 cs=some x):∃y:ByteArray,StrV y cs∧y.size≤maxLen:=by
 obtain⟨b,e,_,z⟩:=DataW.trod_string Tryz.underlying9 hf
 exact⟨b,e,z⟩
instance:Inhabited ByteArray:=⟨⟨#[]⟩⟩
theorem open_group {fuel:Nat} {cs:List Value} {x:DataW H×List MemPlace} (hl:cs.length=2) (hf:DataW.trod enc Tryz.prog w base spare held fuel 68 cs=some x) (hw:∀k∈x.1.weights Tryz.prog 68,k≤reachBytes) :
  ∃y:Gr,GrV w w.heap.size y cs∧y.cons.length*16≤140737488355328∧∀s∈y.cons,s.size≤maxLen:=by
 obtain⟨xs,m,hm,hd,_,hxl,hx⟩:=DataW.trod_struct Tryz.underlying68 hf
 have hxl':xs.length=2:=hxl
 match cs,hl with
 | [c0,c1],_=>
  have g0:DataW.trod enc Tryz.prog w base spare held m 3 ((([c0,c1]:List Value).drop 0).take (Tryz.prog.cellsOf 3))=xs[0]?:=hx 0 _ rfl
  have g1:DataW.trod enc Tryz.prog w base spare held m 36 ((([c0,c1]:List Value).drop 1).take (Tryz.prog.cellsOf 36))=xs[1]?:=hx 1 _ rfl
  match xs,hxl' with
  | [x0,x1],_=>
   rw[cells3] at g0
   rw[cells59] at g1
   have hd1:x.1=.agg [x0.1,x1.1]:=by simpa using (Prod.ext_iff.1 hd).1
   rw[hd1] at hw
   simp only[DataW.weights,Tryz.underlying68,DataW.weightsEach,List.map_cons,List.map_nil,List.mem_append] at hw
   obtain⟨a,e0,_,_⟩:=DataW.trod_int Tryz.underlying3 g0
   obtain⟨l,hl,hz⟩:=open_sl (V:=fun y cs=>StrV y cs∧y.size≤maxLen) Tryz.underlying36 cells9 (by omega) bytes9 (by omega) (v:=c1) g1 (fun q hq=>hw q (.inr (.inl hq))) (fun m cs y _ hl h hw=>open_str h)
   obtain⟨hl,ha⟩:=sl_all hl
   simp at e0
   exact⟨⟨a,l⟩,⟨c1,by rw[e0],hl⟩,hz,ha⟩
theorem open_chain {fuel:Nat} {cs:List Value} {x:DataW H×List MemPlace} (hl:cs.length=1) (hf:DataW.trod enc Tryz.prog w base spare held fuel 66 cs=some x) (hw:∀k∈x.1.weights Tryz.prog 66,k≤reachBytes):∃y:List Gr,ChV w w.heap.size y cs∧y.length*32≤140737488355328∧∀g∈y,g.cons.length*16≤140737488355328∧∀s∈g.cons,s.size≤maxLen:=by
 match cs,hl with
 | [v],_=>
  obtain⟨l,hl,hz⟩:=open_sl (V:=fun g cs=>GrV w w.heap.size g cs∧g.cons.length*16≤140737488355328∧∀s∈g.cons,s.size≤maxLen) Tryz.underlying66 cells61 (by omega) bytes61 (by omega) hf hw (fun m cs y _ hl h hw=>open_group hl h hw)
  obtain⟨hl,ha⟩:=sl_all hl
  exact⟨l,⟨v,rfl,hl⟩,hz,ha⟩
theorem open_follow {fuel:Nat} {cs:List Value} {x:DataW H×List MemPlace} (hl:cs.length=5) (hf:DataW.trod enc Tryz.prog w base spare held fuel 54 cs=some x) (_hw:∀k∈x.1.weights Tryz.prog 54,k≤reachBytes) :
  ∃y:Fo,FoV y cs∧y.sort.size≤maxLen:=by
 obtain⟨xs,m,hm,hd,_,hxl,hx⟩:=DataW.trod_struct Tryz.underlying54 hf
 have hxl':xs.length=2:=hxl
 match cs,hl with
 | [c0,c1,c2,c3,c4],_=>
  have g0:DataW.trod enc Tryz.prog w base spare held m 9 ((([c0,c1,c2,c3,c4]:List Value).drop 0).take (Tryz.prog.cellsOf 9))=xs[0]?:=hx 0 _ rfl
  have g1:DataW.trod enc Tryz.prog w base spare held m 52 ((([c0,c1,c2,c3,c4]:List Value).drop 1).take (Tryz.prog.cellsOf 52))=xs[1]?:=hx 1 _ rfl
  match xs,hxl' with
  | [x0,x1],_=>
   rw[cells9] at g0
   rw[cells49] at g1
   obtain⟨a,e0,_,z0⟩:=DataW.trod_string Tryz.underlying9 g0
   obtain⟨t,ht,e1,e1b,e1c,e1d⟩:=open_set4 (c0:=c1) (c1:=c2) (c2:=c3) (c3:=c4) g1
   simp at e0
   exact⟨⟨a,t⟩,⟨ht,by rw[e0,e1,e1b,e1c,e1d]⟩,z0⟩
theorem open_reject {fuel:Nat} {cs:List Value} {x:DataW H×List MemPlace} (hl:cs.length=2) (hf:DataW.trod enc Tryz.prog w base spare held fuel 56 cs=some x) (_hw:∀k∈x.1.weights Tryz.prog 56,k≤reachBytes) :
  ∃y:Re,ReV y cs∧y.sort.size≤maxLen∧y.by'.size≤maxLen:=by
 obtain⟨xs,m,hm,hd,_,hxl,hx⟩:=DataW.trod_struct Tryz.underlying56 hf
 have hxl':xs.length=2:=hxl
 match cs,hl with
 | [c0,c1],_=>
  have g0:DataW.trod enc Tryz.prog w base spare held m 9 ((([c0,c1]:List Value).drop 0).take (Tryz.prog.cellsOf 9))=xs[0]?:=hx 0 _ rfl
  have g1:DataW.trod enc Tryz.prog w base spare held m 9 ((([c0,c1]:List Value).drop 1).take (Tryz.prog.cellsOf 9))=xs[1]?:=hx 1 _ rfl
  match xs,hxl' with
  | [x0,x1],_=>
   rw[cells9] at g0
   rw[cells9] at g1
   obtain⟨a,e0,_,z0⟩:=DataW.trod_string Tryz.underlying9 g0
   obtain⟨b,e1,_,z1⟩:=DataW.trod_string Tryz.underlying9 g1
   simp at e0 e1
   exact⟨⟨a,b⟩,by show _=_;rw[e0,e1],z0,z1⟩
theorem open_item0 {fuel:Nat} {cs:List Value} {x:DataW H×List MemPlace} (hl:cs.length=4) (hf:DataW.trod enc Tryz.prog w base spare held fuel 98 cs=some x) (hw:∀k∈x.1.weights Tryz.prog 98,k≤reachBytes) {V:It→List Value→Prop} (hop:∀(m:Nat) (cs:List Value) (y:DataW H×List MemPlace),m<fuel→cs.length=4→DataW.trod enc Tryz.prog w base spare held m 98 cs=some y→(∀k∈y.1.weights Tryz.prog 98,k≤reachBytes)→∃d,V d cs) :
  ∃a b d v,∃l:List It,cs=[.int .i64 a,.string b,.int .i64 d,v]∧Sl w w.heap.size 4 V l v∧l.length*56≤140737488355328:=by
 obtain⟨xs,m,hm,hd,_,hxl,hx⟩:=DataW.trod_struct Tryz.underlying98 hf
 have hxl':xs.length=4:=hxl
 match cs,hl with
 | [c0,c1,c2,c3],_=>
  have g0:DataW.trod enc Tryz.prog w base spare held m 3 ((([c0,c1,c2,c3]:List Value).drop 0).take (Tryz.prog.cellsOf 3))=xs[0]?:=hx 0 _ rfl
  have g1:DataW.trod enc Tryz.prog w base spare held m 9 ((([c0,c1,c2,c3]:List Value).drop 1).take (Tryz.prog.cellsOf 9))=xs[1]?:=hx 1 _ rfl
  have g2:DataW.trod enc Tryz.prog w base spare held m 3 ((([c0,c1,c2,c3]:List Value).drop 2).take (Tryz.prog.cellsOf 3))=xs[2]?:=hx 2 _ rfl
  have g3:DataW.trod enc Tryz.prog w base spare held m 57 ((([c0,c1,c2,c3]:List Value).drop 3).take (Tryz.prog.cellsOf 57))=xs[3]?:=hx 3 _ rfl
  match xs,hxl' with
  | [x0,x1,x2,x3],_=>
   rw[cells3] at g0
   rw[cells9] at g1
   rw[cells3] at g2
   rw[cells62] at g3
   have hd1:x.1=.agg [x0.1,x1.1,x2.1,x3.1]:=by simpa using (Prod.ext_iff.1 hd).1
   rw[hd1] at hw
   simp only[DataW.weights,Tryz.underlying98,DataW.weightsEach,List.map_cons,List.map_nil,List.mem_append] at hw
   obtain⟨a,e0,_,_⟩:=DataW.trod_int Tryz.underlying3 g0
   obtain⟨b,e1,_⟩:=DataW.trod_string Tryz.underlying9 g1
   obtain⟨d,e2,_,_⟩:=DataW.trod_int Tryz.underlying3 g2
   obtain⟨l,hl,hz⟩:=open_sl (V:=V) Tryz.underlying57 cells124 (by omega) bytes124 (by omega) (v:=c3) g3 (fun q hq=>hw q (.inr (.inr (.inr (.inl hq))))) (fun m cs y hlt hl h hw=>hop m cs y (by omega) hl h hw)
   simp at e0 e1 e2
   exact⟨a,b,d,c3,l,by rw[e0,e1,e2],hl,hz⟩
theorem ItV.up {w:World} {B:Nat}:∀ {f:Nat} {i:It} {vs:List Value},ItV w B f i vs→ItV w B (f+1) i vs
 | 0,_,_,h=>h.elim
 | f+1,i,vs,h=>by
  obtain⟨v,e,a,c,h1,h2,h3,h4⟩:=h
  refine⟨v,e,a,c,h1,h2,h3,fun j x hj=>?_⟩
  obtain⟨b,o,us,k1,k2,k3,k4⟩:=h4 j x hj
  exact⟨b,o,us,k1,k2,k3.up,k4⟩
theorem ItV.ups {w:World} {B:Nat} {f g:Nat} {i:It} {vs:List Value} (h:ItV w B f i vs) (hg:f≤g):ItV w B g i vs:=by
 induction hg with
 | refl=>exact h
 | step _ ih=>exact ih.up
theorem open_item:∀(fuel:Nat) {cs:List Value} {x:DataW H×List MemPlace},cs.length=4→DataW.trod enc Tryz.prog w base spare held fuel 98 cs=some x→(∀k∈x.1.weights Tryz.prog 98,k≤reachBytes)→∃y:It,ItV w w.heap.size (fuel+1) y cs∧ItZ (fuel+1) y:=by
 intro fuel
 induction fuel using Nat.strongRecOn with
 | ind fuel ih=>
 intro cs x hl hf hw
 obtain⟨a,b,d,v,l,e,h,hz⟩:=open_item0 (V:=fun y cs=>ItV w w.heap.size fuel y cs∧ItZ fuel y) hl hf hw (fun m cs y hlt hl h hw=>by
  obtain⟨y,hy,hq⟩:=ih m hlt hl h hw
  exact⟨y,hy.ups (by omega),hq.ups (by omega)⟩)
 obtain⟨h,ha⟩:=sl_all h
 exact⟨.mk a b d l,⟨v,e,h⟩,hz,ha⟩
theorem open_box {fuel:Nat} {cs:List Value} {x:DataW H×List MemPlace} (hl:cs.length=2) (hf:DataW.trod enc Tryz.prog w base spare held fuel 59 cs=some x) (hw:∀k∈x.1.weights Tryz.prog 59,k≤reachBytes) :
  ∃y:Bo,BoV w w.heap.size (fuel+1) y cs∧BoZ (fuel+1) y∧y.cons.size≤maxLen:=by
 obtain⟨xs,m,hm,hd,_,hxl,hx⟩:=DataW.trod_struct Tryz.underlying59 hf
 have hxl':xs.length=2:=hxl
 match cs,hl with
 | [c0,c1],_=>
  have g0:DataW.trod enc Tryz.prog w base spare held m 9 ((([c0,c1]:List Value).drop 0).take (Tryz.prog.cellsOf 9))=xs[0]?:=hx 0 _ rfl
  have g1:DataW.trod enc Tryz.prog w base spare held m 57 ((([c0,c1]:List Value).drop 1).take (Tryz.prog.cellsOf 57))=xs[1]?:=hx 1 _ rfl
  match xs,hxl' with
  | [x0,x1],_=>
   rw[cells9] at g0
   rw[cells62] at g1
   have hd1:x.1=.agg [x0.1,x1.1]:=by simpa using (Prod.ext_iff.1 hd).1
   rw[hd1] at hw
   simp only[DataW.weights,Tryz.underlying59,DataW.weightsEach,List.map_cons,List.map_nil,List.mem_append] at hw
   obtain⟨a,e0,_,z0⟩:=DataW.trod_string Tryz.underlying9 g0
   obtain⟨l,hl,hz⟩:=open_sl (V:=fun y cs=>ItV w w.heap.size (fuel+1) y cs∧ItZ (fuel+1) y) Tryz.underlying57 cells124 (by omega) bytes124 (by omega) (v:=c1) g1 (fun q hq=>hw q (.inr (.inl hq))) (fun m cs y hlt hl h hw=>(open_item m hl h hw).imp (fun y hy=>⟨hy.1.ups (by omega),hy.2.ups (by omega)⟩))
   obtain⟨hl,ha⟩:=sl_all hl
   simp at e0
   exact⟨⟨a,l⟩,⟨c1,by rw[e0],hl⟩,⟨hz,ha⟩,z0⟩
theorem BoV.ups {w:World} {B:Nat} {f g:Nat} {b:Bo} {vs:List Value} (h:BoV w B f b vs) (hg:f≤g):BoV w B g b vs:=by
 obtain⟨v,e,a,c,h1,h2,h3,h4⟩:=h
 refine⟨v,e,a,c,h1,h2,h3,fun j x hj=>?_⟩
 obtain⟨b,o,us,k1,k2,k3,k4⟩:=h4 j x hj
 exact⟨b,o,us,k1,k2,k3.ups hg,k4⟩
structure NmZ (d:Df):Prop where
 start:d.start.size≤maxLen
 layout:d.layout.size≤maxLen
 prods:∀p∈d.prods,p.sort.size≤maxLen∧p.cons.size≤maxLen∧∀s∈p.syms,s.name.size≤maxLen
 chains:∀c∈d.chains,∀g∈c,∀s∈g.cons,s.size≤maxLen
 follows:∀f∈d.follows,f.sort.size≤maxLen
 rejects:∀r∈d.rejects,r.sort.size≤maxLen∧r.by'.size≤maxLen
 boxes:∀b∈d.boxes,b.cons.size≤maxLen
theorem open_def0 {fuel:Nat} {cs:List Value} {x:DataW H×List MemPlace} (hl:cs.length=7) (hf:DataW.trod enc Tryz.prog w base spare held fuel 28 cs=some x) (hw:∀k∈x.1.weights Tryz.prog 28,k≤reachBytes) :
  ∃y:Df,DfV w w.heap.size (fuel+1) y cs∧SzD (fuel+1) y∧NmZ y:=by
 obtain⟨xs,m,hm,hd,_,hxl,hx⟩:=DataW.trod_struct Tryz.underlying28 hf
 have hxl':xs.length=7:=hxl
 match cs,hl with
 | [c0,c1,c2,c3,c4,c5,c6],_=>
  have g0:DataW.trod enc Tryz.prog w base spare held m 9 ((([c0,c1,c2,c3,c4,c5,c6]:List Value).drop 0).take (Tryz.prog.cellsOf 9))=xs[0]?:=hx 0 _ rfl
  have g1:DataW.trod enc Tryz.prog w base spare held m 9 ((([c0,c1,c2,c3,c4,c5,c6]:List Value).drop 1).take (Tryz.prog.cellsOf 9))=xs[1]?:=hx 1 _ rfl
  have g2:DataW.trod enc Tryz.prog w base spare held m 22 ((([c0,c1,c2,c3,c4,c5,c6]:List Value).drop 2).take (Tryz.prog.cellsOf 22))=xs[2]?:=hx 2 _ rfl
  have g3:DataW.trod enc Tryz.prog w base spare held m 23 ((([c0,c1,c2,c3,c4,c5,c6]:List Value).drop 3).take (Tryz.prog.cellsOf 23))=xs[3]?:=hx 3 _ rfl
  have g4:DataW.trod enc Tryz.prog w base spare held m 24 ((([c0,c1,c2,c3,c4,c5,c6]:List Value).drop 4).take (Tryz.prog.cellsOf 24))=xs[4]?:=hx 4 _ rfl
  have g5:DataW.trod enc Tryz.prog w base spare held m 25 ((([c0,c1,c2,c3,c4,c5,c6]:List Value).drop 5).take (Tryz.prog.cellsOf 25))=xs[5]?:=hx 5 _ rfl
  have g6:DataW.trod enc Tryz.prog w base spare held m 26 ((([c0,c1,c2,c3,c4,c5,c6]:List Value).drop 6).take (Tryz.prog.cellsOf 26))=xs[6]?:=hx 6 _ rfl
  match xs,hxl' with
  | [x0,x1,x2,x3,x4,x5,x6],_=>
   rw[cells9] at g0
   rw[cells9] at g1
   rw[cells22] at g2
   rw[cells23] at g3
   rw[cells24] at g4
   rw[cells25] at g5
   rw[cells26] at g6
   have hd1:x.1=.agg [x0.1,x1.1,x2.1,x3.1,x4.1,x5.1,x6.1]:=by simpa using (Prod.ext_iff.1 hd).1
   rw[hd1] at hw
   simp only[DataW.weights,Tryz.underlying28,DataW.weightsEach,List.map_cons,List.map_nil,List.mem_append] at hw
   obtain⟨a,e0,_,z0⟩:=DataW.trod_string Tryz.underlying9 g0
   obtain⟨b,e1,_,z1⟩:=DataW.trod_string Tryz.underlying9 g1
   obtain⟨l2,hl2,hz2⟩:=open_sl (V:=fun y cs=>PrV w w.heap.size y cs∧y.syms.length*88≤140737488355328∧y.sort.size≤maxLen∧y.cons.size≤maxLen∧∀s∈y.syms,s.name.size≤maxLen) Tryz.underlying22 cells57 (by omega) bytes57 (by omega) (v:=c2) g2 (fun q hq=>hw q (.inr (.inr (.inl hq)))) (fun m cs y _ hl h hw=>open_prod hl h hw)
   obtain⟨l3,hl3,hz3⟩:=open_sl (V:=fun y cs=>ChV w w.heap.size y cs∧y.length*32≤140737488355328∧∀g∈y,g.cons.length*16≤140737488355328∧∀s∈g.cons,s.size≤maxLen) Tryz.underlying23 cells58 (by omega) bytes58 (by omega) (v:=c3) g3 (fun q hq=>hw q (.inr (.inr (.inr (.inl hq))))) (fun m cs y _ hl h hw=>open_chain hl h hw)
   obtain⟨l4,hl4,hz4⟩:=open_sl (V:=fun y cs=>FoV y cs∧y.sort.size≤maxLen) Tryz.underlying24 cells52 (by omega) bytes52 (by omega) (v:=c4) g4 (fun q hq=>hw q (.inr (.inr (.inr (.inr (.inl hq)))))) (fun m cs y _ hl h hw=>open_follow hl h hw)
   obtain⟨l5,hl5,hz5⟩:=open_sl (V:=fun y cs=>ReV y cs∧y.sort.size≤maxLen∧y.by'.size≤maxLen) Tryz.underlying25 cells73 (by omega) bytes73 (by omega) (v:=c5) g5 (fun q hq=>hw q (.inr (.inr (.inr (.inr (.inr (.inl hq))))))) (fun m cs y _ hl h hw=>open_reject hl h hw)
   obtain⟨l6,hl6,hz6⟩:=open_sl (V:=fun y cs=>BoV w w.heap.size (fuel+1) y cs∧BoZ (fuel+1) y∧y.cons.size≤maxLen) Tryz.underlying26 cells64 (by omega) bytes64 (by omega) (v:=c6) g6 (fun q hq=>hw q (.inr (.inr (.inr (.inr (.inr (.inr (.inl hq)))))))) (fun m cs y hlt hl h hw=>(open_box hl h hw).imp (fun y hy=>⟨hy.1.ups (by omega),hy.2.1.ups (by omega),hy.2.2⟩))
   obtain⟨hl2,ha2⟩:=sl_all hl2
   obtain⟨hl3,ha3⟩:=sl_all hl3
   obtain⟨hl4,ha4⟩:=sl_all hl4
   obtain⟨hl5,ha5⟩:=sl_all hl5
   obtain⟨hl6,ha6⟩:=sl_all hl6
   simp at e0 e1
   exact⟨⟨a,b,l2,l3,l4,l5,l6⟩,⟨c2,c3,c4,c5,c6,by rw[e0,e1],hl2,hl3,hl4,hl5,hl6⟩,⟨hz2,hz3,hz4,hz5,hz6,fun p hp=>(ha2 p hp).1,fun c hc=>⟨(ha3 c hc).1,fun g hg=>((ha3 c hc).2 g hg).1⟩,fun b hb=>(ha6 b hb).1⟩,⟨z0,z1,fun p hp=>(ha2 p hp).2,fun c hc g hg=>((ha3 c hc).2 g hg).2,ha4,ha5,fun b hb=>(ha6 b hb).2⟩⟩
theorem open_def_sz {r:Reach} {b0:Nat} {v:Value} {d:DataW H} {p:List MemPlace} (hv:Value.okWide Tryz.prog w r b0 28 v) (h:DataW.Trod enc Tryz.prog w base spare held 28 v d p) (hw:∀n∈d.weights Tryz.prog 28,n≤reachBytes) :
  ∃(D:Df) (vs:List Value),v=.agg vs.toArray∧DA w D vs∧(∃f,SzD f D)∧NmZ D:=by
 simp only[Value.okWide,Tryz.underlying28] at hv
 obtain⟨cs,rfl,hsz,_⟩:=hv
 rw[cells28] at hsz
 obtain⟨fuel,hf⟩:=h
 obtain⟨D,hD,hz,hn⟩:=open_def0 (cs:=cs.toList) (by simpa using hsz) (by simpa [Value.cells] using hf) hw
 exact⟨D,cs.toList,by simp,⟨_,hD⟩,⟨_,hz⟩,hn⟩
theorem open_def {r:Reach} {b0:Nat} {v:Value} {d:DataW H} {p:List MemPlace} (hv:Value.okWide Tryz.prog w r b0 28 v) (h:DataW.Trod enc Tryz.prog w base spare held 28 v d p) (hw:∀n∈d.weights Tryz.prog 28,n≤reachBytes):∃(D:Df) (vs:List Value),v=.agg vs.toArray∧DA w D vs:=by
 obtain⟨D,vs,e,h,_⟩:=open_def_sz hv h hw
 exact⟨D,vs,e,h⟩
end
end Go.Proofs.YtilpgpcgcpedjaaGreat
