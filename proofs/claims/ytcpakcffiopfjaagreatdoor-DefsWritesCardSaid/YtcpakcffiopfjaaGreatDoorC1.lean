/- A definition's text, read: plain, in the program's own order. The reader in memory: its words; the next word, passed, held against a text; a fault given up with. Words of a kind, passed or given up with; names, sets, numbers. Names, sets, numbers, texts read; symbols with a sign behind them. Texts in quotes read; symbols with a sign behind them; whether a symbol begins. -/
import Derived.Test.YtcpakcffiopfjaaGreatDoorB1
import Derived.Test.YtcpakcffiopfjaaGreatDoorA6
import Derived.Test.YtcpakcffiopfjaaGreatDoorB2
import Derived.Test.YtcpakcffiopfjaaGreatDoorA0
import Derived.Test.YtcpakcffiopfjaaGreatDoorA1
namespace Go.Proofs.YtcpakcffiopfjaaGreatDoor
open Go.RowKit
set_option linter.unusedVariables false
set_option linter.unusedSimpArgs false
set_option maxRecDepth 100000
set_option maxHeartbeats 16000000
set_option linter.unusedVariables false
set_option linter.unusedSimpArgs false
set_option maxRecDepth 100000
set_option maxHeartbeats 16000000
inductive PR (α:Type) where
 | ok (a:α) (L:List Wd)
 | bad (p c:Nat)
def PR.bind {α β:Type}:PR α→(α→List Wd→PR β)→PR β
 | .ok a L,k=>k a L
 | .bad p c,_=>.bad p c
instance:Inhabited Wd:=⟨⟨0,[],[],⟨0,0,0,0⟩,0,0,0,0⟩⟩
def wd (L:List Wd):Wd:=L.headD default
def strB (l:List UInt8):ByteArray:=⟨l.toArray⟩
def bytB (l:List Nat):ByteArray:=⟨(l.map Nat.toUInt8).toArray⟩
def isT (t:List UInt8) (L:List Wd):Bool:=(wd L).text==t
def wantR (t:List UInt8) (L:List Wd):PR Unit:=if isT t L then .ok () L.tail else .bad (wd L).fro 30
def takeR (k:Nat) (L:List Wd):PR Wd:=if (wd L).kind=k then .ok (wd L) L.tail else .bad (wd L).fro 30
def nameR (L:List Wd):PR ByteArray:=(takeR 1 L).bind fun x L=>.ok (strB x.text) L
def setR (L:List Wd):PR St:=(takeR 5 L).bind fun x L=>.ok x.set L
def numR (L:List Wd):PR Nat:=(takeR 3 L).bind fun x L=>.ok x.n L
def textR (L:List Wd):PR ByteArray:=if (wd L).kind=4∧32<(wd L).bytes.length then .bad (wd L).fro 2 else (takeR 4 L).bind fun x L=>.ok (bytB x.bytes) L
def oftenR (s:Sy) (L:List Wd):PR Sy:=
 if isT [63] L then .ok ⟨4,s.text,s.set,s.name,s.sep⟩ L.tail
 else if isT [42] L then .ok ⟨5,s.text,s.set,s.name,s.sep⟩ L.tail
 else if isT [43] L then .ok ⟨6,s.text,s.set,s.name,s.sep⟩ L.tail
 else .ok s L
def bracesR (L:List Wd):PR Sy:=
 (wantR [123] L).bind fun _ L=>(nameR L).bind fun n L=>
 if (wd L).kind=4∧(wd L).bytes.length=0 then .bad (wd L).fro 30
 else (textR L).bind fun p L=>(wantR [125] L).bind fun _ L=>
 if isT [42] L=false∧isT [43] L=false then .bad (wd L).fro 30
 else oftenR ⟨0,⟨#[]⟩,⟨0,0,0,0⟩,n,p⟩ L
def symR (L:List Wd):PR Sy:=
 if (wd L).kind=4 then (textR L).bind fun t L=>.ok ⟨1,t,⟨0,0,0,0⟩,⟨#[]⟩,⟨#[]⟩⟩ L
 else if (wd L).kind=1 then (nameR L).bind fun n L=>oftenR ⟨3,⟨#[]⟩,⟨0,0,0,0⟩,n,⟨#[]⟩⟩ L
 else if (wd L).kind=5 then (setR L).bind fun s L=>oftenR ⟨2,⟨#[]⟩,s,⟨#[]⟩,⟨#[]⟩⟩ L
 else bracesR L
def atSymB (L:List Wd):Bool:=decide ((wd L).kind=4)||decide ((wd L).kind=1)||decide ((wd L).kind=5)||isT [123] L
def symsR:Nat→List Sy→List Wd→PR (List Sy)
 | 0,_,_=>.bad 0 0
 | f+1,acc,L=>if atSymB L then (if 12≤acc.length then .bad (wd L).fro 2 else (symR L).bind fun s L=>symsR f (acc++[s]) L) else .ok acc L
def syms1 (L:List Wd):PR (List Sy):=(symR L).bind fun s L=>symsR 13 [s] L
def assocB (L:List Wd):Int:=if isT [108,101,102,116] L then 1 else if isT [114,105,103,104,116] L then 2 else if isT [110,111,110] L then 3 else 0
def namesR:Nat→List ByteArray→List Wd→PR (List ByteArray)
 | 0,_,_=>.bad 0 0
 | f+1,acc,L=>if (wd L).kind=1 then (if 16≤acc.length then .bad (wd L).fro 2 else (nameR L).bind fun n L=>namesR f (acc++[n]) L) else .ok acc L
def groupR (h:Nat) (L:List Wd):PR Gr:=
 if assocB L=0∧(wd L).kind≠1 then .bad (wd L).fro 30
 else if 16≤h then .bad (wd L).fro 2
 else (nameR (if assocB L=0 then L else L.tail)).bind fun n L'=>(namesR 17 [n] L').bind fun ns L'=>.ok ⟨assocB L,ns⟩ L'
def groupsR:Nat→List Gr→List Wd→PR (List Gr)
 | 0,_,_=>.bad 0 0
 | f+1,acc,L=>(groupR acc.length L).bind fun g L=>if isT [62] L then groupsR f (acc++[g]) L.tail else .ok (acc++[g]) L
def itemKB (L:List Wd):Nat:=
 if (wd L).kind=4 then 1 else if (wd L).kind=3 then 2
 else if isT [95] L then 3 else if isT [47] L then 4 else if isT [110,101,115,116] L then 5 else if isT [103,114,111,117,112] L then 6 else 0
def itemsR:Nat→Nat→List It→List Wd→PR (Nat×List It)
 | 0,_,_,_=>.bad 0 0
 | f+1,h,acc,L=>
  if itemKB L=0 then .ok (h,acc) L
  else if 64≤h then .bad (wd L).fro 2
  else if itemKB L=1 then (textR L).bind fun t L=>itemsR f (h+1) (acc++[.mk 1 t 0 []]) L
  else if itemKB L=2 then (numR L).bind fun n L=>itemsR f (h+1) (acc++[.mk 2 ⟨#[]⟩ n []]) L
  else if itemKB L=3 then itemsR f (h+1) (acc++[.mk 3 ⟨#[]⟩ 0 []]) L.tail
  else if itemKB L=4 then itemsR f (h+1) (acc++[.mk 4 ⟨#[]⟩ 0 []]) L.tail
  else if itemKB L=5 then (numR L.tail).bind fun n L=>(wantR [40] L).bind fun _ L=>(itemsR f (h+1) [] L).bind fun q L=>(wantR [41] L).bind fun _ L=>itemsR f q.1 (acc++[.mk 5 ⟨#[]⟩ n q.2]) L
  else (wantR [40] L.tail).bind fun _ L=>(itemsR f (h+1) [] L).bind fun q L=>(wantR [41] L).bind fun _ L=>itemsR f q.1 (acc++[.mk 6 ⟨#[]⟩ 0 q.2]) L
def lexR:Nat→ByteArray→ByteArray→List Pr→List Wd→PR (List Pr)
 | 0,_,_,_,_=>.bad 0 0
 | f+1,s,c,ps,L=>(syms1 L).bind fun y L=>
  if isT [124] L then (if 200≤ps.length+1 then .bad (wd L).fro 2 else lexR f s c (ps++[⟨true,s,c,false,y⟩]) L.tail)
  else .ok (ps++[⟨true,s,c,false,y⟩]) L
def consR (L:List Wd):PR ByteArray:=if isT [46] L then nameR L.tail else .ok ⟨#[]⟩ L
def lexicalR (d:Df) (L:List Wd):PR Df:=
 if 200≤d.prods.length then .bad (wd L).fro 2
 else (nameR L.tail).bind fun s L=>(consR L).bind fun c L=>(wantR [61] L).bind fun _ L=>(lexR 201 s c d.prods L).bind fun ps L=>.ok { d with prods:=ps } L
def plainR (d:Df) (L:List Wd):PR Df:=
 if 200≤d.prods.length then .bad (wd L).fro 2
 else (nameR L.tail).bind fun s L=>(consR L).bind fun c L=>(wantR [61] L).bind fun _ L=>(syms1 L).bind fun y L=>
 if em c then (wantR [98,114,97,99,107,101,116] L).bind fun _ L=>.ok { d with prods:=d.prods++[⟨false,s,c,true,y⟩] } L
 else .ok { d with prods:=d.prods++[⟨false,s,c,false,y⟩] } L
def stmtR (d:Df) (L:List Wd):PR Df:=
 if isT [115,116,97,114,116] L then (if em d.start then (nameR L.tail).bind fun n L=>.ok { d with start:=n } L else .bad (wd L).fro 31)
 else if isT [108,97,121,111,117,116] L then (if em d.layout then (nameR L.tail).bind fun n L=>.ok { d with layout:=n } L else .bad (wd L).fro 31)
 else if isT [108,101,120] L then lexicalR d L
 else if isT [99,102] L then plainR d L
 else if isT [112,114,105,111] L then (groupsR 17 [] L.tail).bind fun c L=>.ok { d with chains:=d.chains++[c] } L
 else if isT [102,111,108,108,111,119] L then (nameR L.tail).bind fun s L=>(setR L).bind fun x L=>.ok { d with follows:=d.follows++[⟨s,x⟩] } L
 else if isT [114,101,106,101,99,116] L then (nameR L.tail).bind fun s L=>(nameR L).bind fun b L=>.ok { d with rejects:=d.rejects++[⟨s,b⟩] } L
 else if isT [98,111,120] L then (nameR L.tail).bind fun s L=>(wantR [61] L).bind fun _ L=>(itemsR 66 0 [] L).bind fun q L=>.ok { d with boxes:=d.boxes++[⟨s,q.2⟩] } L
 else .bad (wd L).fro 30
def stmtsR:Nat→Df→List Wd→PR Df
 | 0,_,_=>.bad 0 0
 | f+1,d,L=>if (wd L).kind=7 then .ok d L else (stmtR d L).bind fun d L=>(wantR [59] L).bind fun _ L=>stmtsR f d L
def Df0:Df:=⟨⟨#[]⟩,⟨#[]⟩,[],[],[],[],[]⟩
def parR (s:List UInt8):PR Df:=if (scan s).2.2=0 then stmtsR ((scan s).1.length+1) Df0 (scan s).1 else .bad (scan s).2.1 (scan s).2.2
def Fin' (L:List Wd):Prop:=∃A e,L=A++[e]∧e.kind=7∧e.text=[]
theorem Fin'.head {L:List Wd} (h:Fin' L):∃x L',L=x::L':=by
 obtain⟨A,e,rfl,_⟩:=h
 cases A with
 | nil=>exact⟨e,[],rfl⟩
 | cons x A=>exact⟨x,A++[e],rfl⟩
theorem Fin'.tail {x:Wd} {L:List Wd} (h:Fin' (x::L)) (hx:x.kind≠7∨x.text≠[]):Fin' L:=by
 obtain⟨A,e,h,h1,h2⟩:=h
 cases A with
 | nil=>
  simp at h
  obtain⟨rfl,_⟩:=h
  rcases hx with hx | hx
  ·exact absurd h1 hx
  ·exact absurd h2 hx
 | cons y A=>
  simp at h
  exact⟨A,e,h.2,h1,h2⟩
def ByV (n:Nat) (vs:List Value):Prop:=n<256∧vs=[.int .u8 (n:Int)]
def WdV (w:World) (B:Nat) (x:Wd) (vs:List Value):Prop:=x.set.ok∧∃v,vs=wcell x v∧Sl w B 1 ByV x.bytes v
theorem WdV.keep {w w':World} {B B':Nat} (hb:Below B w w') (hB:B≤B') {x:Wd} {vs:List Value} (h:WdV w B x vs):WdV w' B' x vs:=by
 obtain⟨h0,v,e,h⟩:=h
 exact⟨h0,v,e,h.keep hb hB (fun _ _ _ h=>h)⟩
structure Rd (W:World) (R:Nat) (D:List Value) (L:List Wd):Prop where
 at':∃a c,Blk W R 100 ⟨.slice a L.length c::D⟩∧L.length≤c∧Row W R 11 (WdV W R) a L
 fin:Fin' L
 len:L.length≤65537
theorem Rd.lt {W:World} {R:Nat} {D:List Value} {L:List Wd} (h:Rd W R D L):R<W.heap.size:=by
 obtain⟨a,c,h,_⟩:=h.at'
 exact h.lt
theorem Rd.below {W W':World} {R:Nat} {D:List Value} {L:List Wd} (h:Rd W R D L) (hb:Below W.heap.size W W'):Rd W' R D L:=by
 obtain⟨a,c,h1,h2,h3⟩:=h.at'
 have hb':Below R W W':=hb.mono (Nat.le_of_lt h.lt)
 exact⟨⟨a,c,h1.after hb,h2,h3.keep hb' (Nat.le_refl _) (fun _ _ _ h=>h.keep hb' (Nat.le_refl _))⟩,h.fin,h.len⟩
theorem Rd.head {W:World} {R:Nat} {D:List Value} {L:List Wd} (h:Rd W R D L):∃L' c b o v,L=wd L::L'∧Blk W R 100 ⟨.slice (some ⟨b,o,none⟩) (L'.length+1) c::D⟩∧L'.length+1≤c∧L'.length≤65536∧b<R∧(wd L).set.ok∧(∀i u,(wcell (wd L) v)[i]?=some u→W.cell? ⟨b,o+i,none⟩=some u)∧Sl W R 1 ByV (wd L).bytes v∧Row W R 11 (WdV W R) (some ⟨b,o+11,none⟩) L'∧Fin' L:=by
 obtain⟨x,L',rfl⟩:=h.fin.head
 obtain⟨a,c,h1,h2,h3⟩:=h.at'
 obtain⟨b,o,us,rfl,hb,⟨hok,v,rfl,hs⟩,hc⟩:=h3 0 x rfl
 refine⟨L',c,b,o,v,rfl,h1,h2,by have:=h.len;simp at this;omega,hb,hok,fun i u hu=>by have:=hc i u hu;rw[Nat.zero_mul,Nat.add_zero] at this;exact this,hs,?_,h.fin⟩
 intro j y hj
 obtain⟨b',o',us,e,hb',hv,hc'⟩:=h3 (j+1) y (by simpa using hj)
 cases e
 refine⟨b,o+11,us,rfl,hb,hv,fun i u hu=>?_⟩
 have:=hc' i u hu
 rw[show o+11+j*11+i=o+(j+1)*11+i by omega]
 exact this
theorem Rd.next {W:World} {R:Nat} {D:List Value} {L':List Wd} {a:Option Addr} {c:Nat} {v:Value} (h:Blk W R 100 ⟨v::D⟩) (hc:L'.length≤c) (hr:L'≠[]→Row W R 11 (WdV W R) a L') (hf:Fin' L') (hl:L'.length≤65536):Rd (W.setCell ⟨R,0,none⟩ (.slice a L'.length c)) R D L':=by
 have hb:Below R W (W.setCell ⟨R,0,none⟩ (.slice a L'.length c)):=by
  have hg:=grownBy_setCell W R 0 (.slice a L'.length c)
  exact⟨hg.os,hg.tape,hg.output,hg.size,fun b hb=>hg.block b (Nat.lt_trans hb h.lt) (by simp;omega)⟩
 have h1:=h.set 0 (.slice a L'.length c)
 obtain⟨x,L'',rfl⟩:=hf.head
 exact⟨⟨a,c,h1,hc,(hr (by simp)).keep hb (Nat.le_refl _) (fun _ _ _ h=>h.keep hb (Nat.le_refl _))⟩,hf,by omega⟩
def FE (p c:Nat):Ending:=.panicked [{ v:=.iface 37 (.agg #[.int .i64 (p:Int),.int .i64 (c:Int)]),recovered:=false }]
theorem grown_below {w W W':World} {R:Nat} (h:w.grownBy W (some R)) (hb:Below W.heap.size W W'):w.grownBy W' (some R):=
 ⟨hb.os.trans h.os,hb.tape.trans h.tape,hb.output.trans h.output,Nat.le_trans h.size hb.size,fun b hlt hne=>(hb.block b (Nat.lt_of_lt_of_le hlt h.size)).trans (h.block b hlt hne)⟩
abbrev wval (x:Wd) (v:Value):Value:=.agg #[.int .i64 x.kind,.string (strB x.text),v,.int .u64 x.set.a,.int .u64 x.set.b,.int .u64 x.set.c,.int .u64 x.set.d,.int .i64 x.n,.int .i64 x.fro,.int .i64 x.line,.int .i64 x.col]
theorem rd_word (R:Nat) (D:List Value) (L:List Wd) (w:World) (h:Rd w R D L) :
  Calls Tryz.prog 104 #[.pointer (some ⟨R,0,none⟩)] w fun e w'=>(∃ba bc,e=.returned (wval (wd L) (.slice ba (wd L).bytes.length bc))∧Sl w R 1 ByV (wd L).bytes (.slice ba (wd L).bytes.length bc))∧Below w.heap.size w w':=by
 obtain⟨L',c,b,o,v,_,hB,hc,hl,hb,_,hcl,hs,_,_⟩:=h.head
 have hR:=hB.lt
 have h0:=hB.cell 0 rfl
 have hs0:=hs
 obtain⟨ba,bc,rfl,_⟩:=hs0
 generalize (wd L)=x at *
 have e0:=hcl 0 _ rfl
 have e1:=hcl 1 _ rfl
 have e2:=hcl 2 _ rfl
 have e3:=hcl 3 _ rfl
 have e4:=hcl 4 _ rfl
 have e5:=hcl 5 _ rfl
 have e6:=hcl 6 _ rfl
 have e7:=hcl 7 _ rfl
 have e8:=hcl 8 _ rfl
 have e9:=hcl 9 _ rfl
 have e10:=hcl 10 _ rfl
 rw[Nat.add_zero] at e0
 have hbs:b<w.heap.size:=by omega
 have HS:=hHi hs
 clear hcl h hB hs
 go_enter Tryz.func104,Tryz.ntmps104
 go_wp2
 refine bodyPost_ret (results_cell_row rfl _ _ w.heap.size 104 (wcell x (.slice ba x.bytes.length bc)).toArray (0,0) _ rfl ?hg Tryz.underlying104 rfl (by kernel_rfl)) rfl ?_
 case hg=>exact World.alloc_heap_new _ _
 exact⟨⟨ba,bc,rfl,HS.out⟩,(Below.refl _ _).alloc (Nat.le_refl _) _⟩
theorem rd_pass (R:Nat) (D:List Value) (L:List Wd) (w:World) (h:Rd w R D L) (hx:(wd L).kind≠7∨(wd L).text≠[]) :
  Calls Tryz.prog 155 #[.pointer (some ⟨R,0,none⟩)] w fun e w'=>e=.returned (.tuple #[])∧Rd w' R D L.tail∧w.grownBy w' (some R):=by
 obtain⟨L',c,b,o,v,hL,hB,hc,hl,hb,_,_,_,hr,hf⟩:=h.head
 have hf':Fin' L':=by
  rw[hL] at hf
  exact hf.tail hx
 have ht:L.tail=L':=by rw[hL];rfl
 rw[ht]
 have hR:=hB.lt
 have h0:=hB.cell 0 rfl
 have hz:=hB.frozen 0
 have hn:1≤L'.length:=by
  obtain⟨x,l,rfl⟩:=hf'.head
  simp
 have hc1:¬c=1:=by omega
 have HF:Hid (Rd (w.setCell ⟨R,0,none⟩ (.slice (some ⟨b,o+11,none⟩) L'.length (c-1))) R D L'∧w.grownBy (w.setCell ⟨R,0,none⟩ (.slice (some ⟨b,o+11,none⟩) L'.length (c-1))) (some R)):=⟨Rd.next hB (by omega) (fun hn=>hr) hf' hl,grownBy_setCell _ _ _ _⟩
 generalize L'.length=n at *
 clear h hB hL hf hf' ht hx hr
 go_enter Tryz.func155,Tryz.ntmps155
 go_wp2
 go_end0
 exact⟨rfl,HF.out.1,HF.out.2⟩
section
variable (x0 x1 x2 x3 x4 x5 x6 x7 x8 x9 x10:Value) (w:World)
theorem fld_kind:(Instr.field 104 (.agg #[x0,x1,x2,x3,x4,x5,x6,x7,x8,x9,x10]) 0).run Tryz.prog w=.ok x0 w:=by kernel_rfl
theorem fld_text:(Instr.field 104 (.agg #[x0,x1,x2,x3,x4,x5,x6,x7,x8,x9,x10]) 1).run Tryz.prog w=.ok x1 w:=by kernel_rfl
theorem fld_bytes:(Instr.field 104 (.agg #[x0,x1,x2,x3,x4,x5,x6,x7,x8,x9,x10]) 2).run Tryz.prog w=.ok x2 w:=by kernel_rfl
theorem fld_set:(Instr.field 104 (.agg #[x0,x1,x2,x3,x4,x5,x6,x7,x8,x9,x10]) 3).run Tryz.prog w=.ok (.agg #[x3,x4,x5,x6]) w:=by kernel_rfl
theorem fld_at:(Instr.field 104 (.agg #[x0,x1,x2,x3,x4,x5,x6,x7,x8,x9,x10]) 5).run Tryz.prog w=.ok x8 w:=by kernel_rfl
end
theorem rd_fail (R:Nat) (D:List Value) (L:List Wd) (c:Nat) (w:World) (h:Rd w R D L) :
  Calls Tryz.prog 105 #[.pointer (some ⟨R,0,none⟩),.int .i64 (c:Int)] w fun e w'=>e=FE (wd L).fro c∧Below w.heap.size w w':=by
 have HW:=hU (rd_word R D L w h)
 have hpn:∀(t:TypeId) (v:Value) (w:World),(Instr.panic (.iface t v)).run Tryz.prog w=.halt (.panic (.iface t v)) w:=fun _ _ _=>rfl
 have hfd:=fld_at
 clear h
 generalize wd L=x at *
 go_enter Tryz.func105,Tryz.ntmps105
 go_wp2_with fail
 refine hMo HW ?_
 rintro e w1 ⟨⟨ba,bc,rfl,_⟩,hb⟩
 go_wp2
 refine⟨rfl,?_⟩
 exact⟨rfl,hb⟩
theorem rd_is (R:Nat) (D:List Value) (L:List Wd) (t:List UInt8) (w:World) (h:Rd w R D L) :
  Calls Tryz.prog 183 #[.pointer (some ⟨R,0,none⟩),.string (strB t)] w fun e w'=>e=.returned (.bool (isT t L))∧Below w.heap.size w w':=by
 have HW:=hU (rd_word R D L w h)
 have HE:Hid (isT t L=true→(wd L).text=t):=fun h=>by simpa [isT] using h
 have HN:Hid (isT t L=false→¬strB (wd L).text=strB t):=fun h e=>by
  have:(wd L).text=t:=by simpa [strB] using e
  simp[isT,this] at h
 have hfd:=fld_text
 clear h
 cases hq:isT t L with
 | true=>
  have ht:=HE.out hq
  generalize wd L=x at *
  simp only[wval] at HW
  rw[ht] at HW
  clear hq ht HE HN
  generalize strB t=s at *
  go_enter Tryz.func183,Tryz.ntmps183
  go_wp2_with fail
  refine hMo HW ?_
  rintro e w1 ⟨⟨ba,bc,rfl,_⟩,hb⟩
  go_wp2
  go_ret
  exact⟨rfl,hb⟩
 | false=>
  have q1:=str_ne (HN.out hq)
  have q2:=str_bne (HN.out hq)
  generalize wd L=x at *
  clear hq HE HN
  generalize strB t=s at *
  go_enter Tryz.func183,Tryz.ntmps183
  go_wp2_with fail
  refine hMo HW ?_
  rintro e w1 ⟨⟨ba,bc,rfl,_⟩,hb⟩
  go_wp2
  go_ret
  exact⟨rfl,hb⟩
def RC {α:Type} (R:Nat) (D:List Value) (w:World) (enc:α→Value):PR α→Ending→World→Prop
 | .ok a L',e,w'=>e=.returned (enc a)∧Rd w' R D L'∧w.grownBy w' (some R)
 | .bad p c,e,w'=>e=FE p c∧w.grownBy w' (some R)
theorem gr_b {w w':World} (R:Nat) (h:Below w.heap.size w w'):w.grownBy w' (some R):=⟨h.os,h.tape,h.output,h.size,fun b hb _=>h.block b hb⟩
theorem room_ok (R:Nat) (h m:Nat) (w:World) (hlt:h<m) :
  Calls Tryz.prog 181 #[.pointer (some ⟨R,0,none⟩),.int .i64 (h:Int),.int .i64 (m:Int)] w fun e w'=>e=.returned (.tuple #[])∧w'=w:=by
 have hI:¬(h:Int)≥(m:Int):=by omega
 clear hlt
 go_enter Tryz.func181,Tryz.ntmps181
 go_wp2
 go_end0
 exact⟨rfl,rfl⟩
theorem room_bad (R:Nat) (D:List Value) (L:List Wd) (h m:Nat) (w:World) (hR:Rd w R D L) (hlt:m≤h) :
  Calls Tryz.prog 181 #[.pointer (some ⟨R,0,none⟩),.int .i64 (h:Int),.int .i64 (m:Int)] w fun e w'=>e=FE (wd L).fro 2∧Below w.heap.size w w':=by
 have hI:(h:Int)≥(m:Int):=by omega
 have HF:=hU (rd_fail R D L 2 w hR)
 clear hlt hR
 go_enter Tryz.func181,Tryz.ntmps181
 go_wp2_with fail
 refine hMo HF ?_
 rintro e wf ⟨rfl,hbf⟩
 simp only[FE]
 go_wp2
 refine⟨rfl,?_⟩
 exact⟨rfl,hbf⟩
theorem skip_no (R:Nat) (D:List Value) (L:List Wd) (t:List UInt8) (w:World) (h:Rd w R D L) (ht:isT t L=false) :
  Calls Tryz.prog 160 #[.pointer (some ⟨R,0,none⟩),.string (strB t)] w fun e w'=>e=.returned (.bool false)∧Below w.heap.size w w':=by
 have HI:=hU (rd_is R D L t w h)
 rw[ht] at HI
 clear h ht
 generalize strB t=s at *
 go_enter Tryz.func160,Tryz.ntmps160
 go_wp2_with fail
 refine hMo HI ?_
 rintro e w1 ⟨rfl,hb⟩
 go_wp2
 go_ret
 exact⟨rfl,hb⟩
theorem isT_ne {t:List UInt8} {L:List Wd} (h:isT t L=true) (ht:t≠[]):(wd L).text≠[]:=by
 have:(wd L).text=t:=by simpa [isT] using h
 rw[this];exact ht
theorem skip_yes (R:Nat) (D:List Value) (L:List Wd) (t:List UInt8) (w:World) (h:Rd w R D L) (ht:isT t L=true) (hne:t≠[]) :
  Calls Tryz.prog 160 #[.pointer (some ⟨R,0,none⟩),.string (strB t)] w fun e w'=>e=.returned (.bool true)∧Rd w' R D L.tail∧w.grownBy w' (some R):=by
 have HI:=hU (rd_is R D L t w h)
 have HP:Hid (∀W,Below w.heap.size w W→Calls Tryz.prog 155 #[.pointer (some ⟨R,0,none⟩)] W fun e w'=>e=.returned (.tuple #[])∧Rd w' R D L.tail∧W.grownBy w' (some R)):=fun W hb=>rd_pass R D L W (h.below hb) (.inr (isT_ne ht hne))
 rw[ht] at HI
 clear h ht hne
 generalize strB t=s at *
 go_enter Tryz.func160,Tryz.ntmps160
 go_wp2_with fail
 refine hMo HI ?_
 rintro e w1 ⟨rfl,hb⟩
 have HB:=hHi hb
 clear hb
 go_wp2_with fail
 refine (HP.out _ HB.out).mono ?_
 rintro e w2 ⟨rfl,hr,hg⟩
 have HR:=hHi hr
 have HG:=hHi hg
 clear hr hg
 go_wp2
 go_ret
 exact⟨rfl,HR.out,gr_tr (gr_b R HB.out) HG.out⟩
theorem rd_want (R:Nat) (D:List Value) (L:List Wd) (t:List UInt8) (w:World) (h:Rd w R D L) (hne:t≠[]) :
  Calls Tryz.prog 106 #[.pointer (some ⟨R,0,none⟩),.string (strB t)] w fun e w'=>RC R D w (fun _=>.tuple #[]) (wantR t L) e w':=by
 cases ht:isT t L with
 | true=>
  have HP:Hid (wantR t L=.ok () L.tail):=by show _=_;unfold wantR;rw[ht];rfl
  have HS:=hU (skip_yes R D L t w h ht hne)
  clear h ht hne
  rw[HP.out]
  generalize strB t=s at *
  go_enter Tryz.func106,Tryz.ntmps106
  go_wp2_with fail
  refine hMo HS ?_
  rintro e w2 ⟨rfl,hr,hg⟩
  have HR:=hHi hr
  have HG:=hHi hg
  clear hr hg
  go_wp2
  go_end0
  exact⟨rfl,HR.out,HG.out⟩
 | false=>
  have HP:Hid (wantR t L=.bad (wd L).fro 30):=by show _=_;unfold wantR;rw[ht];rfl
  have HS:=hU (skip_no R D L t w h ht)
  have HF:Hid (∀W,Below w.heap.size w W→Calls Tryz.prog 105 #[.pointer (some ⟨R,0,none⟩),.int .i64 30] W fun e w'=>e=FE (wd L).fro 30∧Below W.heap.size W w'):=fun W hb=>rd_fail R D L 30 W (h.below hb)
  clear h ht hne
  rw[HP.out]
  generalize strB t=s at *
  go_enter Tryz.func106,Tryz.ntmps106
  go_wp2_with fail
  refine hMo HS ?_
  rintro e w1 ⟨rfl,hb⟩
  have HB:=hHi hb
  clear hb
  go_wp2_with fail
  refine (HF.out _ HB.out).mono ?_
  rintro e wf ⟨rfl,hbf⟩
  simp only[FE]
  go_wp2
  refine⟨rfl,?_⟩
  exact⟨rfl,gr_b R (below_tr HB.out hbf)⟩
theorem take_bad (R:Nat) (D:List Value) (L:List Wd) (k:Nat) (w:World) (h:Rd w R D L) (hk:¬(wd L).kind=k) :
  Calls Tryz.prog 185 #[.pointer (some ⟨R,0,none⟩),.int .i64 (k:Int)] w fun e w'=>e=FE (wd L).fro 30∧w.grownBy w' (some R):=by
 have hlt:=h.lt
 obtain⟨w0,hw0⟩:∃w0,w.alloc (.cells wz 104)=w0:=⟨_,rfl⟩
 have b0:Below w.heap.size w w0:=by rw[←hw0];exact (Below.refl _ _).alloc (Nat.le_refl _) _
 have HW:=hU (rd_word R D L w0 (h.below b0))
 have HF:Hid (∀W,Below w.heap.size w W→Calls Tryz.prog 105 #[.pointer (some ⟨R,0,none⟩),.int .i64 30] W fun e w'=>e=FE (wd L).fro 30∧Below W.heap.size W w'):=fun W hb=>rd_fail R D L 30 W (h.below hb)
 have q1:(((wd L).kind:Int) != (k:Int))=true:=by simp;omega
 have q2:¬((wd L).kind:Int)=(k:Int):=by omega
 have HB0:=hHi b0
 clear h hk b0 hlt
 generalize wd L=x at *
 unfold wz at hw0
 go_enter Tryz.func185,Tryz.ntmps185
 go_wp2_with fail
 refine hMo HW ?_
 rintro e w1 ⟨⟨ba,bc,rfl,_⟩,hb⟩
 have HB1:Hid _:=below_tr HB0.out hb
 clear hb
 obtain⟨w2,hw2⟩:∃w2,w1.alloc (.cells #[.int .i64 x.kind,.string (strB x.text),.slice ba x.bytes.length bc,.int .u64 x.set.a,.int .u64 x.set.b,.int .u64 x.set.c,.int .u64 x.set.d,.int .i64 x.n,.int .i64 x.fro,.int .i64 x.line,.int .i64 x.col] 104)=w2:=⟨_,rfl⟩
 have b2:Below w1.heap.size w1 w2:=by rw[←hw2];exact (Below.refl _ _).alloc (Nat.le_refl _) _
 have g0:w2.cell? ⟨w1.heap.size,0,none⟩=some (.int .i64 x.kind):=by rw[←hw2];exact cell_new 0 rfl
 have HB2:Hid _:=below_tr HB1.out b2
 clear b2
 go_wp2_with fail
 refine (HF.out _ HB2.out).mono ?_
 rintro e wf ⟨rfl,hbf⟩
 simp only[FE]
 go_wp2
 refine⟨rfl,?_⟩
 exact⟨rfl,gr_b R (below_tr HB2.out hbf)⟩
theorem take_ok (R:Nat) (D:List Value) (L:List Wd) (k:Nat) (w:World) (h:Rd w R D L) (hk:(wd L).kind=k) (h7:k≠7) :
  Calls Tryz.prog 185 #[.pointer (some ⟨R,0,none⟩),.int .i64 (k:Int)] w fun e w'=>(∃ba bc,e=.returned (wval (wd L) (.slice ba (wd L).bytes.length bc))∧Sl w R 1 ByV (wd L).bytes (.slice ba (wd L).bytes.length bc))∧Rd w' R D L.tail∧w.grownBy w' (some R):=by
 have hlt:=h.lt
 obtain⟨w0,hw0⟩:∃w0,w.alloc (.cells wz 104)=w0:=⟨_,rfl⟩
 have b0:Below w.heap.size w w0:=by rw[←hw0];exact (Below.refl _ _).alloc (Nat.le_refl _) _
 have B0:Blk w0 w.heap.size 104 wz:=by rw[←hw0];exact Blk.new w 104 wz
 have HW:=hU (rd_word R D L w0 (h.below b0))
 have HSL:Hid (∀v,Sl w0 R 1 ByV (wd L).bytes v→Sl w R 1 ByV (wd L).bytes v):=fun v hs=>by
  obtain⟨a,c,e,h1,h2,h3⟩:=hs
  refine⟨a,c,e,h1,h2,fun j y hj=>?_⟩
  obtain⟨b,o,us,e1,hb,hv,hc⟩:=h3 j y hj
  exact⟨b,o,us,e1,hb,hv,fun i u hu=>(b0.cell (p:=⟨b,o+j*1+i,none⟩) (Nat.lt_trans hb hlt)).symm.trans (hc i u hu)⟩
 have HP:Hid (∀W,Below w.heap.size w W→Calls Tryz.prog 155 #[.pointer (some ⟨R,0,none⟩)] W fun e w'=>e=.returned (.tuple #[])∧Rd w' R D L.tail∧W.grownBy w' (some R)):=fun W hb=>rd_pass R D L W (h.below hb) (.inl (by rw[hk];exact h7))
 have q1:(((wd L).kind:Int) != (k:Int))=false:=by simp;omega
 have HB0:=hHi b0
 have HLT:=hHi hlt
 clear h hk b0 hlt h7
 generalize wd L=x at *
 unfold wz at hw0
 have HBB:=hHi B0
 clear B0
 go_enter Tryz.func185,Tryz.ntmps185
 go_wp2_with fail
 refine hMo HW ?_
 rintro e w1 ⟨⟨ba,bc,rfl,hs⟩,hb⟩
 have HS1:Hid _:=HSL.out _ hs
 have HB1:Hid _:=below_tr HB0.out hb
 have HBk:=kA HBB (hHi hb)
 clear hb hs
 obtain⟨w2,hw2⟩:∃w2,w1.alloc (.cells #[.int .i64 x.kind,.string (strB x.text),.slice ba x.bytes.length bc,.int .u64 x.set.a,.int .u64 x.set.b,.int .u64 x.set.c,.int .u64 x.set.d,.int .i64 x.n,.int .i64 x.fro,.int .i64 x.line,.int .i64 x.col] 104)=w2:=⟨_,rfl⟩
 have b2:Below w1.heap.size w1 w2:=by rw[←hw2];exact (Below.refl _ _).alloc (Nat.le_refl _) _
 have HB5:=kN hw2
 have HB4:=kA HBk (hHi b2)
 have g0:w2.cell? ⟨w1.heap.size,0,none⟩=some (.int .i64 x.kind):=by rw[←hw2];exact cell_new 0 rfl
 have HB2:Hid _:=below_tr HB1.out b2
 clear b2
 go_wp2_with fail
 refine (HP.out _ HB2.out).mono ?_
 rintro e w3 ⟨rfl,hr,hg⟩
 have k4:=Blk.kept HB4.out hg (by have:=HLT.out;simp;omega)
 have k5:=Blk.kept HB5.out hg (by have:=HLT.out;have:=HB1.out.size;simp;omega)
 have HR:=hHi hr
 have HG:Hid _:=gr_tr (gr_b R HB2.out) hg
 clear hr hg g0
 unfold wz at k4
 obtain⟨e0,e1,e2,e3,e4,e5,e6,e7,e8,e9,e10⟩:=k5.word
 obtain⟨f0,f1,f2,f3,f4,f5,f6,f7,f8,f9,f10⟩:=k4.word
 have hf:=k4.frozen
 have hl:=k4.lt
 have HK4:=hHi k4
 clear k4 k5
 go_wp2
 refine gen (fun W=>Blk W w.heap.size 104 _∧w3.grownBy W (some w.heap.size)) ⟨Blk.set11 (W:=w3) HK4.out _ _ _ _ _ _ _ _ _ _ _,?_⟩ ?_
 ·exact gr_tr (gr_tr (gr_tr (gr_tr (gr_tr (gr_tr (gr_tr (gr_tr (gr_tr (gr_tr (gr_set _ _ _ _) (gr_set _ _ _ _)) (gr_set _ _ _ _)) (gr_set _ _ _ _)) (gr_set _ _ _ _)) (gr_set _ _ _ _)) (gr_set _ _ _ _)) (gr_set _ _ _ _)) (gr_set _ _ _ _)) (gr_set _ _ _ _)) (gr_set _ _ _ _)
 rintro W ⟨hb,hgW⟩
 refine bodyPost_ret (results_cell_row rfl _ _ w.heap.size 104 _ (0,0) _ rfl hb Tryz.underlying104 rfl (by kernel_rfl)) rfl ?_
 have hlt:=HLT.out
 have hbel:Below w3.heap.size w3 W∨True:=.inr trivial
 have hnew:w.heap.size<w3.heap.size:=hl
 refine⟨⟨ba,bc,rfl,HS1.out⟩,?_,?_⟩
 ·obtain⟨a,c,h1,h2,h3⟩:=HR.out.at'
  have hbR:Below R w3 W:=⟨hgW.os,hgW.tape,hgW.output,hgW.size,fun b hb=>hgW.block b (by omega) (by simp;omega)⟩
  exact⟨⟨a,c,h1.kept hgW (by simp;omega),h2,h3.keep hbR (Nat.le_refl _) (fun _ _ _ h=>h.keep hbR (Nat.le_refl _))⟩,HR.out.fin,HR.out.len⟩
 ·exact⟨hgW.os.trans HG.out.os,hgW.tape.trans HG.out.tape,hgW.output.trans HG.out.output,Nat.le_trans HG.out.size hgW.size,fun b hb hne=>(hgW.block b (Nat.lt_of_lt_of_le hb HG.out.size) (by simp;omega)).trans (HG.out.block b hb hne)⟩
theorem Rd.kept {W W':World} {R b:Nat} {D:List Value} {L:List Wd} (h:Rd W R D L) (hg:W.grownBy W' (some b)) (hb:R<b):Rd W' R D L:=by
 obtain⟨a,c,h1,h2,h3⟩:=h.at'
 have hbR:Below R W W':=⟨hg.os,hg.tape,hg.output,hg.size,fun k hk=>hg.block k (Nat.lt_trans hk h.lt) (by simp;omega)⟩
 exact⟨⟨a,c,h1.kept hg (by simp;omega),h2,h3.keep hbR (Nat.le_refl _) (fun _ _ _ h=>h.keep hbR (Nat.le_refl _))⟩,h.fin,h.len⟩
theorem gr_new {w W W':World} {R b:Nat} (h:w.grownBy W (some R)) (hg:W.grownBy W' (some b)) (hb:w.heap.size≤b):w.grownBy W' (some R):=
 ⟨hg.os.trans h.os,hg.tape.trans h.tape,hg.output.trans h.output,Nat.le_trans h.size hg.size,fun k hk hne=>(hg.block k (Nat.lt_of_lt_of_le hk h.size) (by simp;omega)).trans (h.block k hk hne)⟩
theorem Rd.okset {W:World} {R:Nat} {D:List Value} {L:List Wd} (h:Rd W R D L):(wd L).set.ok:=by
 obtain⟨L',c,b,o,v,_,_,_,_,_,h,_⟩:=h.head
 exact h
theorem Blk.set8 {W:World} {b:Nat} {t:TypeId} {x0 x1 x2 x3 x4 x5 x6 x7:Value} (h:Blk W b t #[x0,x1,x2,x3,x4,x5,x6,x7]) (v0 v1 v2 v3 v4 v5 v6 v7:Value):Blk ((((((((W.setCell ⟨b,0,none⟩ v0).setCell ⟨b,1,none⟩ v1).setCell ⟨b,2,none⟩ v2).setCell ⟨b,3,none⟩ v3).setCell ⟨b,4,none⟩ v4).setCell ⟨b,5,none⟩ v5).setCell ⟨b,6,none⟩ v6).setCell ⟨b,7,none⟩ v7) b t #[v0,v1,v2,v3,v4,v5,v6,v7]:=by
 have h0:=h.set 0 v0
 simp only[List.setIfInBounds_toArray,List.set_cons_zero] at h0
 have h1:=h0.set 1 v1
 simp only[List.setIfInBounds_toArray,List.set_cons_zero,List.set_cons_succ] at h1
 have h2:=h1.set 2 v2
 simp only[List.setIfInBounds_toArray,List.set_cons_zero,List.set_cons_succ] at h2
 have h3:=h2.set 3 v3
 simp only[List.setIfInBounds_toArray,List.set_cons_zero,List.set_cons_succ] at h3
 have h4:=h3.set 4 v4
 simp only[List.setIfInBounds_toArray,List.set_cons_zero,List.set_cons_succ] at h4
 have h5:=h4.set 5 v5
 simp only[List.setIfInBounds_toArray,List.set_cons_zero,List.set_cons_succ] at h5
 have h6:=h5.set 6 v6
 simp only[List.setIfInBounds_toArray,List.set_cons_zero,List.set_cons_succ] at h6
 have h7:=h6.set 7 v7
 simp only[List.setIfInBounds_toArray,List.set_cons_zero,List.set_cons_succ] at h7
 exact h7
theorem grset8 (W:World) (b:Nat) (v0 v1 v2 v3 v4 v5 v6 v7:Value):W.grownBy ((((((((W.setCell ⟨b,0,none⟩ v0).setCell ⟨b,1,none⟩ v1).setCell ⟨b,2,none⟩ v2).setCell ⟨b,3,none⟩ v3).setCell ⟨b,4,none⟩ v4).setCell ⟨b,5,none⟩ v5).setCell ⟨b,6,none⟩ v6).setCell ⟨b,7,none⟩ v7) (some b):=gr_tr (gr_tr (gr_tr (gr_tr (gr_tr (gr_tr (gr_tr (gr_set _ _ _ _) (gr_set _ _ _ _)) (gr_set _ _ _ _)) (gr_set _ _ _ _)) (gr_set _ _ _ _)) (gr_set _ _ _ _)) (gr_set _ _ _ _)) (gr_set _ _ _ _)
theorem Blk.set4 {W:World} {b:Nat} {t:TypeId} {x0 x1 x2 x3:Value} (h:Blk W b t #[x0,x1,x2,x3]) (v0 v1 v2 v3:Value):Blk ((((W.setCell ⟨b,0,none⟩ v0).setCell ⟨b,1,none⟩ v1).setCell ⟨b,2,none⟩ v2).setCell ⟨b,3,none⟩ v3) b t #[v0,v1,v2,v3]:=by
 have h0:=h.set 0 v0
 simp only[List.setIfInBounds_toArray,List.set_cons_zero] at h0
 have h1:=h0.set 1 v1
 simp only[List.setIfInBounds_toArray,List.set_cons_zero,List.set_cons_succ] at h1
 have h2:=h1.set 2 v2
 simp only[List.setIfInBounds_toArray,List.set_cons_zero,List.set_cons_succ] at h2
 have h3:=h2.set 3 v3
 simp only[List.setIfInBounds_toArray,List.set_cons_zero,List.set_cons_succ] at h3
 exact h3
theorem grset4 (W:World) (b:Nat) (v0 v1 v2 v3:Value):W.grownBy ((((W.setCell ⟨b,0,none⟩ v0).setCell ⟨b,1,none⟩ v1).setCell ⟨b,2,none⟩ v2).setCell ⟨b,3,none⟩ v3) (some b):=gr_tr (gr_tr (gr_tr (gr_set _ _ _ _) (gr_set _ _ _ _)) (gr_set _ _ _ _)) (gr_set _ _ _ _)
theorem by_conv {W:World} {R:Nat} {a:Option Addr} {c:Nat} {l:List Nat} (h:Sl W R 1 ByV l (.slice a l.length c)):(convert 67 9 (.slice a l.length c)).run Tryz.prog W=.ok (.string (bytB l)) W:=by
 obtain⟨a',c',e,_,_,h⟩:=h
 cases e
 have hs:strOfNums (l.map (fun n:Nat=>(n:Int)))=bytB l:=by
  unfold strOfNums bytB
  rw[List.map_map]
  rfl
 rw[←hs]
 cases hL:l.length with
 | zero=>
  obtain rfl:=List.eq_nil_of_length_eq_zero hL
  rw[run_convert_bytes_string W 67 9 5 a 0 c Tryz.underlying67 Tryz.underlying5 Tryz.underlying9]
  cases a with
  | none=>simp[Conv.bytesToString];rfl
  | some x=>
   have hld:(loadCells x 0).run Tryz.prog W=.ok (([]:List Int).map (Value.int .u8)).toArray W:=run_loadCells_list W x [] (fun j v hj=>by simp at hj)
   rw[run_bytesToString W x 0 c [] hld];rfl
 | succ n=>
  obtain⟨b,o,us,rfl,_,_,_⟩:=h 0 (l[0]'(by omega)) (by simp)
  rw[←hL]
  refine run_convert_bytes_arg W 67 5 Tryz.underlying67 Tryz.underlying5 b o l.length c (l.map (fun n:Nat=>(n:Int))) (by simp) (fun i hi=>?_) 9 Tryz.underlying9
  obtain⟨b',o',us,e,_,⟨_,hus⟩,hc⟩:=h i (l[i]'hi) (by simp)
  cases e
  subst hus
  have:=hc 0 _ rfl
  rw[Nat.mul_one,Nat.add_zero] at this
  rw[this]
  simp[List.getD_eq_getElem?_getD,List.getElem?_eq_getElem hi]
theorem Sl.gr {w w':World} {R:Nat} {l:List Nat} {v:Value} (h:Sl w R 1 ByV l v) (hg:w.grownBy w' (some R)) (hR:R<w.heap.size):Sl w' R 1 ByV l v:=by
 have hb:Below R w w':=⟨hg.os,hg.tape,hg.output,hg.size,fun b hb=>hg.block b (Nat.lt_trans hb hR) (by simp;omega)⟩
 exact h.keep hb (Nat.le_refl _) (fun _ _ _ h=>h)
theorem rd_name (R:Nat) (D:List Value) (L:List Wd) (w:World) (h:Rd w R D L) :
  Calls Tryz.prog 156 #[.pointer (some ⟨R,0,none⟩)] w fun e w'=>RC R D w (fun s=>.string s) (nameR L) e w':=by
 by_cases hk:(wd L).kind=1
 ·have HP:Hid (nameR L=.ok (strB (wd L).text) L.tail):=by show _=_;unfold nameR takeR;rw[if_pos hk];rfl
  have HT:Hid (∀W,Rd W R D L→Calls Tryz.prog 185 #[.pointer (some ⟨R,0,none⟩),.int .i64 1] W fun e w'=>(∃ba bc,e=.returned (wval (wd L) (.slice ba (wd L).bytes.length bc))∧Sl W R 1 ByV (wd L).bytes (.slice ba (wd L).bytes.length bc))∧Rd w' R D L.tail∧W.grownBy w' (some R)):=fun W h=>take_ok R D L 1 W h hk (by decide)
  have hfd:=fld_text
  have HR:=hHi h
  clear h hk
  rw[HP.out]
  generalize wd L=x at *
  go_enter Tryz.func156,Tryz.ntmps156
  go_wp2_with fail
  refine (HT.out _ HR.out).mono ?_
  rintro e w1 ⟨⟨ba,bc,rfl,hs⟩,hr,hg⟩
  have HR1:=hHi hr
  have HG1:=hHi hg
  clear hr hg hs
  go_wp2
  go_ret
  exact⟨rfl,HR1.out,HG1.out⟩
 ·have HP:Hid (nameR L=.bad (wd L).fro 30):=by show _=_;unfold nameR takeR;rw[if_neg hk];rfl
  have HT:Hid (∀W,Rd W R D L→Calls Tryz.prog 185 #[.pointer (some ⟨R,0,none⟩),.int .i64 1] W fun e w'=>e=FE (wd L).fro 30∧W.grownBy w' (some R)):=fun W h=>take_bad R D L 1 W h hk
  have HR:=hHi h
  clear h hk
  rw[HP.out]
  generalize wd L=x at *
  go_enter Tryz.func156,Tryz.ntmps156
  go_wp2_with fail
  refine (HT.out _ HR.out).mono ?_
  rintro e wf ⟨rfl,hgf⟩
  simp only[FE]
  go_wp2
  refine⟨rfl,?_⟩
  exact⟨rfl,hgf⟩
theorem rd_set (R:Nat) (D:List Value) (L:List Wd) (w:World) (h:Rd w R D L) :
  Calls Tryz.prog 157 #[.pointer (some ⟨R,0,none⟩)] w fun e w'=>RC R D w (fun s:St=>.agg #[.int .u64 s.a,.int .u64 s.b,.int .u64 s.c,.int .u64 s.d]) (setR L) e w':=by
 by_cases hk:(wd L).kind=5
 ·have HP:Hid (setR L=.ok ((wd L).set) L.tail):=by show _=_;unfold setR takeR;rw[if_pos hk];rfl
  have HT:Hid (∀W,Rd W R D L→Calls Tryz.prog 185 #[.pointer (some ⟨R,0,none⟩),.int .i64 5] W fun e w'=>(∃ba bc,e=.returned (wval (wd L) (.slice ba (wd L).bytes.length bc))∧Sl W R 1 ByV (wd L).bytes (.slice ba (wd L).bytes.length bc))∧Rd w' R D L.tail∧W.grownBy w' (some R)):=fun W h=>take_ok R D L 5 W h hk (by decide)
  have hfd:=fld_set
  have HR:=hHi h
  clear h hk
  rw[HP.out]
  generalize wd L=x at *
  go_enter Tryz.func157,Tryz.ntmps157
  obtain⟨w0,hw0⟩:∃w0,w.alloc (.cells #[.int .u64 0,.int .u64 0,.int .u64 0,.int .u64 0] 49)=w0:=⟨_,rfl⟩
  have HN:=kB hw0
  have HK:=kN hw0
  have HLT:Hid _:=HR.out.lt
  go_wp2_with fail
  refine (HT.out _ (Rd.below HR.out HN.out)).mono ?_
  rintro e w1 ⟨⟨ba,bc,rfl,hs⟩,hr,hg⟩
  have k1:=Blk.kept HK.out hg (by have:=HLT.out;simp;omega)
  have c0:=k1.cell 0 rfl
  have c1:=k1.cell 1 rfl
  have c2:=k1.cell 2 rfl
  have c3:=k1.cell 3 rfl
  have hf:=k1.frozen
  have hl:=k1.lt
  have HK1:=hHi k1
  have HR1:=hHi hr
  have HG1:Hid _:=gr_tr (gr_b R HN.out) hg
  clear hr hg hs k1
  go_wp2
  refine gen (fun W=>Blk W w.heap.size 49 _∧w1.grownBy W (some w.heap.size)) ⟨Blk.set4 HK1.out _ _ _ _,grset4 _ _ _ _ _ _⟩ ?_
  rintro W ⟨hb,hgW⟩
  refine bodyPost_ret (results_cell_row rfl _ _ w.heap.size 49 _ (0,0) _ rfl hb Tryz.underlying49 rfl (by kernel_rfl)) rfl ?_
  exact⟨rfl,Rd.kept HR1.out hgW HLT.out,gr_new HG1.out hgW (Nat.le_refl _)⟩
 ·have HP:Hid (setR L=.bad (wd L).fro 30):=by show _=_;unfold setR takeR;rw[if_neg hk];rfl
  have HT:Hid (∀W,Rd W R D L→Calls Tryz.prog 185 #[.pointer (some ⟨R,0,none⟩),.int .i64 5] W fun e w'=>e=FE (wd L).fro 30∧W.grownBy w' (some R)):=fun W h=>take_bad R D L 5 W h hk
  have HR:=hHi h
  clear h hk
  rw[HP.out]
  generalize wd L=x at *
  go_enter Tryz.func157,Tryz.ntmps157
  go_wp2_with fail
  refine (HT.out _ (Rd.below HR.out ((Below.refl _ _).alloc (Nat.le_refl _) _))).mono ?_
  rintro e wf ⟨rfl,hgf⟩
  simp only[FE]
  go_wp2
  refine⟨rfl,?_⟩
  exact⟨rfl,gr_tr (gr_b R ((Below.refl _ _).alloc (Nat.le_refl _) _)) hgf⟩
abbrev symv (x:Sy):Value:=.agg #[.int .i64 x.kind,.string x.text,.int .u64 x.set.a,.int .u64 x.set.b,.int .u64 x.set.c,.int .u64 x.set.d,.string x.name,.string x.sep]
theorem rd_text (R:Nat) (D:List Value) (L:List Wd) (w:World) (h:Rd w R D L) :
  Calls Tryz.prog 213 #[.pointer (some ⟨R,0,none⟩)] w fun e w'=>RC R D w (fun s=>.string s) (textR L) e w':=by
 have HW:=hU (rd_word R D L w h)
 have HLT:Hid _:=h.lt
 have hfd:=fld_bytes
 by_cases hk:(wd L).kind=4
 ·have hkI:(((wd L).kind:Int)==4)=true:=by simp;omega
  by_cases hl:32<(wd L).bytes.length
  ·have HP:Hid (textR L=.bad (wd L).fro 2):=by show _=_;unfold textR;rw[if_pos ⟨hk,hl⟩]
   have HF:Hid (∀W,Below w.heap.size w W→Calls Tryz.prog 105 #[.pointer (some ⟨R,0,none⟩),.int .i64 2] W fun e w'=>e=FE (wd L).fro 2∧Below W.heap.size W w'):=fun W hb=>rd_fail R D L 2 W (h.below hb)
   have hlI:((wd L).bytes.length:Int)>32:=by omega
   rw[HP.out]
   clear h hk hl
   generalize wd L=x at *
   generalize x.bytes.length=n at *
   go_enter Tryz.func213,Tryz.ntmps213
   go_wp2_with fail
   refine hMo HW ?_
   rintro e w1 ⟨⟨ba,bc,rfl,_⟩,hb⟩
   obtain⟨w2,hw2⟩:∃q,w1.alloc (.cells #[.int .i64 x.kind,.string (strB x.text),.slice ba n bc,.int .u64 x.set.a,.int .u64 x.set.b,.int .u64 x.set.c,.int .u64 x.set.d,.int .i64 x.n,.int .i64 x.fro,.int .i64 x.line,.int .i64 x.col] 104)=q:=⟨_,rfl⟩
   have b2:Below w1.heap.size w1 w2:=by rw[←hw2];exact (Below.refl _ _).alloc (Nat.le_refl _) _
   have c0:w2.cell? ⟨w1.heap.size,0,none⟩=some (.int .i64 x.kind):=by rw[←hw2];exact cell_new 0 rfl
   have c2:w2.cell? ⟨w1.heap.size,2,none⟩=some (.slice ba n bc):=by rw[←hw2];exact cell_new 2 rfl
   have HB2:Hid _:=below_tr hb b2
   clear hb b2
   go_wp2_with fail
   refine (HF.out _ HB2.out).mono ?_
   rintro e wf ⟨rfl,hbf⟩
   simp only[FE]
   go_wp2
   refine⟨rfl,?_⟩
   exact⟨rfl,gr_b R (below_tr HB2.out hbf)⟩
  ·have HP:Hid (textR L=.ok (bytB (wd L).bytes) L.tail):=by show _=_;unfold textR takeR;rw[if_neg (fun h=>hl h.2),if_pos hk];rfl
   have HT:Hid (∀W,Below w.heap.size w W→Calls Tryz.prog 185 #[.pointer (some ⟨R,0,none⟩),.int .i64 4] W fun e w'=>(∃ba bc,e=.returned (wval (wd L) (.slice ba (wd L).bytes.length bc))∧Sl W R 1 ByV (wd L).bytes (.slice ba (wd L).bytes.length bc))∧Rd w' R D L.tail∧W.grownBy w' (some R)):=fun W hb=>take_ok R D L 4 W (h.below hb) hk (by decide)
   have hlI:¬((wd L).bytes.length:Int)>32:=by omega
   rw[HP.out]
   clear h hk hl
   generalize wd L=x at *
   go_enter Tryz.func213,Tryz.ntmps213
   go_wp2_with fail
   refine hMo HW ?_
   rintro e w1 ⟨⟨ba,bc,rfl,_⟩,hb⟩
   obtain⟨w2,hw2⟩:∃q,w1.alloc (.cells #[.int .i64 x.kind,.string (strB x.text),.slice ba x.bytes.length bc,.int .u64 x.set.a,.int .u64 x.set.b,.int .u64 x.set.c,.int .u64 x.set.d,.int .i64 x.n,.int .i64 x.fro,.int .i64 x.line,.int .i64 x.col] 104)=q:=⟨_,rfl⟩
   have b2:Below w1.heap.size w1 w2:=by rw[←hw2];exact (Below.refl _ _).alloc (Nat.le_refl _) _
   have c0:w2.cell? ⟨w1.heap.size,0,none⟩=some (.int .i64 x.kind):=by rw[←hw2];exact cell_new 0 rfl
   have c2:w2.cell? ⟨w1.heap.size,2,none⟩=some (.slice ba x.bytes.length bc):=by rw[←hw2];exact cell_new 2 rfl
   have HB2:Hid _:=below_tr hb b2
   clear hb b2
   go_wp2_with fail
   refine (HT.out _ HB2.out).mono ?_
   rintro e w3 ⟨⟨ba2,bc2,rfl,hs⟩,hr,hg⟩
   have hcv:=by_conv (hs.gr hg (Nat.lt_of_lt_of_le HLT.out HB2.out.size))
   have HR3:=hHi hr
   have HG3:Hid _:=gr_tr (gr_b R HB2.out) hg
   clear hs hr hg c0 c2
   go_wp2
   go_ret
   exact⟨rfl,HR3.out,HG3.out⟩
 ·have HP:Hid (textR L=.bad (wd L).fro 30):=by show _=_;unfold textR takeR;rw[if_neg (fun h=>hk h.1),if_neg hk];rfl
  have HT:Hid (∀W,Below w.heap.size w W→Calls Tryz.prog 185 #[.pointer (some ⟨R,0,none⟩),.int .i64 4] W fun e w'=>e=FE (wd L).fro 30∧W.grownBy w' (some R)):=fun W hb=>take_bad R D L 4 W (h.below hb) hk
  have hkI:(((wd L).kind:Int)==4)=false:=by simp;omega
  rw[HP.out]
  clear h hk
  generalize wd L=x at *
  go_enter Tryz.func213,Tryz.ntmps213
  go_wp2_with fail
  refine hMo HW ?_
  rintro e w1 ⟨⟨ba,bc,rfl,_⟩,hb⟩
  obtain⟨w2,hw2⟩:∃q,w1.alloc (.cells #[.int .i64 x.kind,.string (strB x.text),.slice ba x.bytes.length bc,.int .u64 x.set.a,.int .u64 x.set.b,.int .u64 x.set.c,.int .u64 x.set.d,.int .i64 x.n,.int .i64 x.fro,.int .i64 x.line,.int .i64 x.col] 104)=q:=⟨_,rfl⟩
  have b2:Below w1.heap.size w1 w2:=by rw[←hw2];exact (Below.refl _ _).alloc (Nat.le_refl _) _
  have c0:w2.cell? ⟨w1.heap.size,0,none⟩=some (.int .i64 x.kind):=by rw[←hw2];exact cell_new 0 rfl
  have HB2:Hid _:=below_tr hb b2
  clear hb b2
  go_wp2_with fail
  refine (HT.out _ HB2.out).mono ?_
  rintro e wf ⟨rfl,hgf⟩
  simp only[FE]
  go_wp2
  refine⟨rfl,?_⟩
  exact⟨rfl,gr_tr (gr_b R HB2.out) hgf⟩
theorem rd_atSym (R:Nat) (D:List Value) (L:List Wd) (w:World) (h:Rd w R D L) :
  Calls Tryz.prog 198 #[.pointer (some ⟨R,0,none⟩)] w fun e w'=>e=.returned (.bool (atSymB L))∧Below w.heap.size w w':=by
 have HW:=hU (rd_word R D L w h)
 have HI:Hid (∀W,Below w.heap.size w W→Calls Tryz.prog 183 #[.pointer (some ⟨R,0,none⟩),.string ⟨#[123]⟩] W fun e w'=>e=.returned (.bool (isT [123] L))∧Below W.heap.size W w'):=fun W hb=>rd_is R D L [123] W (h.below hb)
 have hfd:=fld_kind
 have HD1:Hid (atSymB L=(decide ((wd L).kind=4)||decide ((wd L).kind=1)||decide ((wd L).kind=5)||isT [123] L)):=rfl
 generalize atSymB L=Q at *
 generalize isT [123] L=T at *
 clear h
 generalize wd L=x at *
 by_cases k4:x.kind=4
 case pos=>
  have hk4:((x.kind:Int)==4)=true:=by simp;omega
  rw[decide_eq_true k4] at HD1
  clear k4
  go_enter Tryz.func198,Tryz.ntmps198
  go_wp2_with fail
  refine hMo HW ?_
  rintro e w1 ⟨⟨ba,bc,rfl,_⟩,hb⟩
  go_wp2
  go_ret
  exact⟨by rw[HD1.out];simp,hb⟩
 have hk4:((x.kind:Int)==4)=false:=by simp;omega
 rw[decide_eq_false k4] at HD1
 clear k4
 by_cases k1:x.kind=1
 case pos=>
  have hk1:((x.kind:Int)==1)=true:=by simp;omega
  rw[decide_eq_true k1] at HD1
  clear k1
  go_enter Tryz.func198,Tryz.ntmps198
  go_wp2_with fail
  refine hMo HW ?_
  rintro e w1 ⟨⟨ba,bc,rfl,_⟩,hb⟩
  go_wp2
  go_ret
  exact⟨by rw[HD1.out];simp,hb⟩
 have hk1:((x.kind:Int)==1)=false:=by simp;omega
 rw[decide_eq_false k1] at HD1
 clear k1
 by_cases k5:x.kind=5
 case pos=>
  have hk5:((x.kind:Int)==5)=true:=by simp;omega
  rw[decide_eq_true k5] at HD1
  clear k5
  go_enter Tryz.func198,Tryz.ntmps198
  go_wp2_with fail
  refine hMo HW ?_
  rintro e w1 ⟨⟨ba,bc,rfl,_⟩,hb⟩
  go_wp2
  go_ret
  exact⟨by rw[HD1.out];simp,hb⟩
 have hk5:((x.kind:Int)==5)=false:=by simp;omega
 rw[decide_eq_false k5] at HD1
 clear k5
 go_enter Tryz.func198,Tryz.ntmps198
 go_wp2_with fail
 refine hMo HW ?_
 rintro e w1 ⟨⟨ba,bc,rfl,_⟩,hb⟩
 have HB:=hHi hb
 clear hb
 go_wp2_with fail
 refine (HI.out _ HB.out).mono ?_
 rintro e w2 ⟨rfl,hb⟩
 have HB2:Hid _:=below_tr HB.out hb
 clear hb
 go_wp2
 go_ret
 exact⟨by rw[HD1.out];rfl,HB2.out⟩
theorem rd_often (R:Nat) (D:List Value) (L:List Wd) (s:Sy) (w:World) (h:Rd w R D L) :
  Calls Tryz.prog 214 #[.pointer (some ⟨R,0,none⟩),symv s] w fun e w'=>RC R D w symv (oftenR s L) e w':=by
 have HD1:Hid (oftenR s L=if isT [63] L then .ok ⟨4,s.text,s.set,s.name,s.sep⟩ L.tail else if isT [42] L then .ok ⟨5,s.text,s.set,s.name,s.sep⟩ L.tail else if isT [43] L then .ok ⟨6,s.text,s.set,s.name,s.sep⟩ L.tail else .ok s L):=rfl
 generalize oftenR s L=Q at *
 have HLT:Hid _:=h.lt
 have HR0:Hid (Rd w R D L):=h
 have HG0:Hid (w.grownBy w (some R)):=gr_refl _ _
 clear h
 obtain⟨a1,ha1⟩:∃q,w.alloc (.cells #[.int .i64 s.kind,.string s.text,.int .u64 s.set.a,.int .u64 s.set.b,.int .u64 s.set.c,.int .u64 s.set.d,.string s.name,.string s.sep] 134)=q:=⟨_,rfl⟩
 have HN1:=kB ha1
 have HZ1:=hHi HG0.out.size
 have HR1:=hHi (HR0.out.below HN1.out)
 have HG1:=hHi (grown_below HG0.out HN1.out)
 have Kb_1:=kN ha1
 obtain⟨a2,ha2⟩:∃q,a1.alloc (.cells #[.int .i64 0,.string ⟨#[]⟩,.int .u64 0,.int .u64 0,.int .u64 0,.int .u64 0,.string ⟨#[]⟩,.string ⟨#[]⟩] 134)=q:=⟨_,rfl⟩
 have HN2:=kB ha2
 have HZ2:=hHi HG1.out.size
 have HR2:=hHi (HR1.out.below HN2.out)
 have HG2:=hHi (grown_below HG1.out HN2.out)
 have Kb_2:=kA Kb_1 HN2
 have Kr_2:=kN ha2
 cases q63:isT [63] L with
 | true=>
  rw[q63] at HD1
  have Q63:=hHi q63
  clear q63
  go_enter Tryz.func214,Tryz.ntmps214
  go_wp2_with fail
  refine (skip_yes R D L [63] a2 HR2.out Q63.out (by simp)).mono ?_
  rintro e a3 ⟨rfl,hr,hg⟩
  have HN3:=hHi hg
  have HR3:=hHi hr
  have HG3:=hHi (gr_tr HG2.out hg)
  clear hr hg
  have Kb_3:=kZ Kb_2 HN3.out HLT.out HZ1.out
  have Kr_3:=kZ Kr_2 HN3.out HLT.out HZ2.out
  obtain⟨cb0_4,cb1_5,cb2_6,cb3_7,cb4_8,cb5_9,cb6_10,cb7_11⟩:=Kb_3.out.c8
  have zb_12:=Kb_3.out.frozen
  have lb_12:=Kb_3.out.lt
  have HNE:Hid ((a1.heap.size:Nat)≠w.heap.size):=by have:=Kb_3.out;have h1:=Blk.lt Kb_1.out;show a1.heap.size≠w.heap.size;omega
  obtain⟨a13,ha13⟩:∃q,a3.setCell ⟨w.heap.size,0,none⟩ (.int .i64 4)=q:=⟨_,rfl⟩
  have HN13:Hid (a3.grownBy a13 (some w.heap.size)):=by show World.grownBy _ _ _;rw[←ha13];exact grownBy_setCell _ _ _ _
  have HR13:Hid (Rd a13 R D L.tail):=Rd.kept HR3.out HN13.out HLT.out
  have HG13:Hid (w.grownBy a13 (some R)):=gr_new HG3.out HN13.out (Nat.le_refl _)
  have Kb_13:Hid (Blk a13 w.heap.size 134 #[.int .i64 4,.string s.text,.int .u64 s.set.a,.int .u64 s.set.b,.int .u64 s.set.c,.int .u64 s.set.d,.string s.name,.string s.sep]):=by show Blk _ _ _ _;rw[←ha13];exact Blk.set Kb_3.out 0 _
  have Kr_13:=kK Kr_3 HN13.out (by have:=HNE.out;simpa using this)
  obtain⟨cb0_14,cb1_15,cb2_16,cb3_17,cb4_18,cb5_19,cb6_20,cb7_21⟩:=Kb_13.out.c8
  obtain⟨cr0_22,cr1_23,cr2_24,cr3_25,cr4_26,cr5_27,cr6_28,cr7_29⟩:=Kr_13.out.c8
  have zr_30:=Kr_13.out.frozen
  have lr_30:=Kr_13.out.lt
  go_wp2
  refine gen (fun W=>Blk W a1.heap.size 134 _∧a13.grownBy W (some a1.heap.size)) ⟨Blk.set8 (W:=a13) Kr_13.out _ _ _ _ _ _ _ _,grset8 _ _ _ _ _ _ _ _ _ _⟩ ?_
  rintro W ⟨hb,hgW⟩
  refine bodyPost_ret (results_cell_row rfl _ _ a1.heap.size 134 _ (0,0) _ rfl hb Tryz.underlying134 rfl (by kernel_rfl)) rfl ?_
  show RC R D w symv Q _ _
  rw[HD1.out]
  exact⟨rfl,Rd.kept HR13.out hgW (by have:=HLT.out;have:=HZ2.out;omega),gr_new HG13.out hgW HZ2.out⟩
 | false=>
 rw[q63] at HD1
 cases q42:isT [42] L with
 | true=>
  rw[q42] at HD1
  have Q63:=hHi q63
  clear q63
  have Q42:=hHi q42
  clear q42
  go_enter Tryz.func214,Tryz.ntmps214
  go_wp2_with fail
  refine (skip_no R D L [63] a2 HR2.out Q63.out).mono ?_
  rintro e a3 ⟨rfl,hb⟩
  have HN3:Hid (Below a2.heap.size a2 a3):=hb
  clear hb
  have HR3:=hHi (HR2.out.below HN3.out)
  have HG3:=hHi (grown_below HG2.out HN3.out)
  have Kb_3:=kA Kb_2 HN3
  have Kr_3:=kA Kr_2 HN3
  go_wp2_with fail
  refine (skip_yes R D L [42] a3 HR3.out Q42.out (by simp)).mono ?_
  rintro e a4 ⟨rfl,hr,hg⟩
  have HN4:=hHi hg
  have HR4:=hHi hr
  have HG4:=hHi (gr_tr HG3.out hg)
  clear hr hg
  have Kb_4:=kZ Kb_3 HN4.out HLT.out HZ1.out
  have Kr_4:=kZ Kr_3 HN4.out HLT.out HZ2.out
  obtain⟨cb0_5,cb1_6,cb2_7,cb3_8,cb4_9,cb5_10,cb6_11,cb7_12⟩:=Kb_4.out.c8
  have zb_13:=Kb_4.out.frozen
  have lb_13:=Kb_4.out.lt
  have HNE:Hid ((a1.heap.size:Nat)≠w.heap.size):=by have:=Kb_4.out;have h1:=Blk.lt Kb_1.out;show a1.heap.size≠w.heap.size;omega
  obtain⟨a14,ha14⟩:∃q,a4.setCell ⟨w.heap.size,0,none⟩ (.int .i64 5)=q:=⟨_,rfl⟩
  have HN14:Hid (a4.grownBy a14 (some w.heap.size)):=by show World.grownBy _ _ _;rw[←ha14];exact grownBy_setCell _ _ _ _
  have HR14:Hid (Rd a14 R D L.tail):=Rd.kept HR4.out HN14.out HLT.out
  have HG14:Hid (w.grownBy a14 (some R)):=gr_new HG4.out HN14.out (Nat.le_refl _)
  have Kb_14:Hid (Blk a14 w.heap.size 134 #[.int .i64 5,.string s.text,.int .u64 s.set.a,.int .u64 s.set.b,.int .u64 s.set.c,.int .u64 s.set.d,.string s.name,.string s.sep]):=by show Blk _ _ _ _;rw[←ha14];exact Blk.set Kb_4.out 0 _
  have Kr_14:=kK Kr_4 HN14.out (by have:=HNE.out;simpa using this)
  obtain⟨cb0_15,cb1_16,cb2_17,cb3_18,cb4_19,cb5_20,cb6_21,cb7_22⟩:=Kb_14.out.c8
  obtain⟨cr0_23,cr1_24,cr2_25,cr3_26,cr4_27,cr5_28,cr6_29,cr7_30⟩:=Kr_14.out.c8
  have zr_31:=Kr_14.out.frozen
  have lr_31:=Kr_14.out.lt
  go_wp2
  refine gen (fun W=>Blk W a1.heap.size 134 _∧a14.grownBy W (some a1.heap.size)) ⟨Blk.set8 (W:=a14) Kr_14.out _ _ _ _ _ _ _ _,grset8 _ _ _ _ _ _ _ _ _ _⟩ ?_
  rintro W ⟨hb,hgW⟩
  refine bodyPost_ret (results_cell_row rfl _ _ a1.heap.size 134 _ (0,0) _ rfl hb Tryz.underlying134 rfl (by kernel_rfl)) rfl ?_
  show RC R D w symv Q _ _
  rw[HD1.out]
  exact⟨rfl,Rd.kept HR14.out hgW (by have:=HLT.out;have:=HZ2.out;omega),gr_new HG14.out hgW HZ2.out⟩
 | false=>
 rw[q42] at HD1
 cases q43:isT [43] L with
 | true=>
  rw[q43] at HD1
  have Q63:=hHi q63
  clear q63
  have Q42:=hHi q42
  clear q42
  have Q43:=hHi q43
  clear q43
  go_enter Tryz.func214,Tryz.ntmps214
  go_wp2_with fail
  refine (skip_no R D L [63] a2 HR2.out Q63.out).mono ?_
  rintro e a3 ⟨rfl,hb⟩
  have HN3:Hid (Below a2.heap.size a2 a3):=hb
  clear hb
  have HR3:=hHi (HR2.out.below HN3.out)
  have HG3:=hHi (grown_below HG2.out HN3.out)
  have Kb_3:=kA Kb_2 HN3
  have Kr_3:=kA Kr_2 HN3
  go_wp2_with fail
  refine (skip_no R D L [42] a3 HR3.out Q42.out).mono ?_
  rintro e a4 ⟨rfl,hb⟩
  have HN4:Hid (Below a3.heap.size a3 a4):=hb
  clear hb
  have HR4:=hHi (HR3.out.below HN4.out)
  have HG4:=hHi (grown_below HG3.out HN4.out)
  have Kb_4:=kA Kb_3 HN4
  have Kr_4:=kA Kr_3 HN4
  go_wp2_with fail
  refine (skip_yes R D L [43] a4 HR4.out Q43.out (by simp)).mono ?_
  rintro e a5 ⟨rfl,hr,hg⟩
  have HN5:=hHi hg
  have HR5:=hHi hr
  have HG5:=hHi (gr_tr HG4.out hg)
  clear hr hg
  have Kb_5:=kZ Kb_4 HN5.out HLT.out HZ1.out
  have Kr_5:=kZ Kr_4 HN5.out HLT.out HZ2.out
  obtain⟨cb0_6,cb1_7,cb2_8,cb3_9,cb4_10,cb5_11,cb6_12,cb7_13⟩:=Kb_5.out.c8
  have zb_14:=Kb_5.out.frozen
  have lb_14:=Kb_5.out.lt
  have HNE:Hid ((a1.heap.size:Nat)≠w.heap.size):=by have:=Kb_5.out;have h1:=Blk.lt Kb_1.out;show a1.heap.size≠w.heap.size;omega
  obtain⟨a15,ha15⟩:∃q,a5.setCell ⟨w.heap.size,0,none⟩ (.int .i64 6)=q:=⟨_,rfl⟩
  have HN15:Hid (a5.grownBy a15 (some w.heap.size)):=by show World.grownBy _ _ _;rw[←ha15];exact grownBy_setCell _ _ _ _
  have HR15:Hid (Rd a15 R D L.tail):=Rd.kept HR5.out HN15.out HLT.out
  have HG15:Hid (w.grownBy a15 (some R)):=gr_new HG5.out HN15.out (Nat.le_refl _)
  have Kb_15:Hid (Blk a15 w.heap.size 134 #[.int .i64 6,.string s.text,.int .u64 s.set.a,.int .u64 s.set.b,.int .u64 s.set.c,.int .u64 s.set.d,.string s.name,.string s.sep]):=by show Blk _ _ _ _;rw[←ha15];exact Blk.set Kb_5.out 0 _
  have Kr_15:=kK Kr_5 HN15.out (by have:=HNE.out;simpa using this)
  obtain⟨cb0_16,cb1_17,cb2_18,cb3_19,cb4_20,cb5_21,cb6_22,cb7_23⟩:=Kb_15.out.c8
  obtain⟨cr0_24,cr1_25,cr2_26,cr3_27,cr4_28,cr5_29,cr6_30,cr7_31⟩:=Kr_15.out.c8
  have zr_32:=Kr_15.out.frozen
  have lr_32:=Kr_15.out.lt
  go_wp2
  refine gen (fun W=>Blk W a1.heap.size 134 _∧a15.grownBy W (some a1.heap.size)) ⟨Blk.set8 (W:=a15) Kr_15.out _ _ _ _ _ _ _ _,grset8 _ _ _ _ _ _ _ _ _ _⟩ ?_
  rintro W ⟨hb,hgW⟩
  refine bodyPost_ret (results_cell_row rfl _ _ a1.heap.size 134 _ (0,0) _ rfl hb Tryz.underlying134 rfl (by kernel_rfl)) rfl ?_
  show RC R D w symv Q _ _
  rw[HD1.out]
  exact⟨rfl,Rd.kept HR15.out hgW (by have:=HLT.out;have:=HZ2.out;omega),gr_new HG15.out hgW HZ2.out⟩
 | false=>
 rw[q43] at HD1
 have Q63:=hHi q63
 clear q63
 have Q42:=hHi q42
 clear q42
 have Q43:=hHi q43
 clear q43
 go_enter Tryz.func214,Tryz.ntmps214
 go_wp2_with fail
 refine (skip_no R D L [63] a2 HR2.out Q63.out).mono ?_
 rintro e a3 ⟨rfl,hb⟩
 have HN3:Hid (Below a2.heap.size a2 a3):=hb
 clear hb
 have HR3:=hHi (HR2.out.below HN3.out)
 have HG3:=hHi (grown_below HG2.out HN3.out)
 have Kb_3:=kA Kb_2 HN3
 have Kr_3:=kA Kr_2 HN3
 go_wp2_with fail
 refine (skip_no R D L [42] a3 HR3.out Q42.out).mono ?_
 rintro e a4 ⟨rfl,hb⟩
 have HN4:Hid (Below a3.heap.size a3 a4):=hb
 clear hb
 have HR4:=hHi (HR3.out.below HN4.out)
 have HG4:=hHi (grown_below HG3.out HN4.out)
 have Kb_4:=kA Kb_3 HN4
 have Kr_4:=kA Kr_3 HN4
 go_wp2_with fail
 refine (skip_no R D L [43] a4 HR4.out Q43.out).mono ?_
 rintro e a5 ⟨rfl,hb⟩
 have HN5:Hid (Below a4.heap.size a4 a5):=hb
 clear hb
 have HR5:=hHi (HR4.out.below HN5.out)
 have HG5:=hHi (grown_below HG4.out HN5.out)
 have Kb_5:=kA Kb_4 HN5
 have Kr_5:=kA Kr_4 HN5
 obtain⟨cb0_6,cb1_7,cb2_8,cb3_9,cb4_10,cb5_11,cb6_12,cb7_13⟩:=Kb_5.out.c8
 obtain⟨cr0_14,cr1_15,cr2_16,cr3_17,cr4_18,cr5_19,cr6_20,cr7_21⟩:=Kr_5.out.c8
 have zr_22:=Kr_5.out.frozen
 have lr_22:=Kr_5.out.lt
 go_wp2
 refine gen (fun W=>Blk W a1.heap.size 134 _∧a5.grownBy W (some a1.heap.size)) ⟨Blk.set8 (W:=a5) Kr_5.out _ _ _ _ _ _ _ _,grset8 _ _ _ _ _ _ _ _ _ _⟩ ?_
 rintro W ⟨hb,hgW⟩
 refine bodyPost_ret (results_cell_row rfl _ _ a1.heap.size 134 _ (0,0) _ rfl hb Tryz.underlying134 rfl (by kernel_rfl)) rfl ?_
 show RC R D w symv Q _ _
 rw[HD1.out]
 exact⟨rfl,Rd.kept HR5.out hgW (by have:=HLT.out;have:=HZ2.out;omega),gr_new HG5.out hgW HZ2.out⟩
end Go.Proofs.YtcpakcffiopfjaaGreatDoor
