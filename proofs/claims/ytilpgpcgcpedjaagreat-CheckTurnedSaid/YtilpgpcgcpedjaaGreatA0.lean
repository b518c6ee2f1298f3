/- Facts kept out of sight of a walk. Plain facts on sets of bytes as four words, with no program in them: what each operation does bit by bit. Plain facts: the steps of counting a word's bits by masks and sums come to the number of its bits. What the functions that put sets together answer, at every set and in every memory: each call returns, and turns nothing that was there. What Size, Of and the comparison of sets answer, at every input and in every memory: each call returns, and turns nothing that was there. Definitions, plain and in memory. Symbols, follows and rejects held against one another. What Within, Minus and Range answer, at every input and in every memory: each call returns, and turns nothing that was there. What the signs of a set's bytes are: isPlain, escape.Write at the signs of sets, and sign, at every byte. Going through a set's bytes: the iterator that All hands back tells the set's bytes, rising, to whatever loop goes over it. What the document's own answers for sets compute: a byte asked for, a byte more, a list, a range, at every input and in every memory. The document's own answers Of and Range: the sets that they build byte by byte. Contracts of the library's shelf, laid at this program. A strings.Builder that the call itself holds: what writing a byte and a string does to it, and to nothing else but rows of bytes. A block of memory that holds just these cells, and how it stays as it is. A region's moves, put shortly. Reading a sign: escape.digit and escape.Read at the signs of sets, at every text. Reading a sign at a place of a text: readSign, at every text and place. Reading an item of a set's text: readItem, at every text and place. Reading the items of a set's text: readItems, at every text and place. Reading a set's text: Parse, at every text. The words of a text, as plain functions over lists of bytes: spans, texts in quotes, sets, words, the scan. Names and keys: what a letter or a digit is, how far they go, isWhole, IsName, IsKey, at every text. The document's own names and keys; the law WordsNames, walked. Texts in quotes: isPlain, the signs, readQuoted and Unquote at every text. readQuoted and Unquote, at every text of at most 65536 bytes, and Unquote at every text. Unquote, at every text. Quote, at every row of bytes of at most 65536. Storing a word and a fault into their boxes. A word's parts: remarks, the ends of sets, new words, names and keys. Reading a word: names and keys, numbers, texts, sets. Reading a word: texts and sets. Reading a word: sets, and every word. (*scanner).skip, at every text and place. readWord, at every text of at most 65536 bytes. (*scanner).pass: a word gets its place, and the scanner goes over it. Rows of words in memory; how many bytes a word has. Where a fault of a set, of a text or of a word can lie. Scan, at every text. -/
import Derived.Test.YtilpgpcgcpedjaaGreatProg
import Derived.Below
import Derived.WalkKit
import Derived.Laws.BitsAllLaws
import Derived.WalkSpells
import Derived.WalkLawsBesides
import Derived.ProofKit
import Derived.Deep.RegionHeld3
import Derived.RegionTactic
import Derived.ChangeAlike
import Derived.Deep.DrawnRows
import Derived.Deep.RegionWith
import Derived.BigRegion
import Derived.Lib.Bytealg
import Derived.BigQuiet
import Derived.RangeFuncNested
import Derived.RangeFuncBound
import Derived.RangeFuncCalls
import Derived.RangeFuncLeaves
import Derived.RangeFuncBox
import Derived.Shelf.Abstract
import Derived.Shelf.RegionOpen
import Derived.OwnWalkIn
import Derived.TacticsInMore
import Derived.LoopNIn
import Derived.LoopIn
import Derived.Maps.AppendAt
import Derived.Shelf.Strings.Builder1
import Derived.Shelf.Strconv.Clone
import Derived.Shelf.Strings.Prefix
import Derived.Shelf.Strings.Search1
import Derived.Shelf.Strings.Search2
import Derived.Shelf.Strings.Search3
import Derived.Shelf.Small.Strs
import Derived.Shelf.LaysM
import Derived.Lib.Builder
import Derived.Lib.AppendStr
import Derived.Lib.UnsafeStr
import Derived.Lib.OthersKept
import Derived.Lib.VarintMem
import Derived.Laws.Externs
import Derived.Deep.AppendSrc
import Derived.Laws.RangeAny
import Derived.LoopTactic
import Derived.OwnWalk
namespace Go.Proofs.YtilpgpcgcpedjaaGreat
open Go.RowKit
set_option linter.unusedVariables false
set_option linter.unusedSimpArgs false
set_option maxRecDepth 100000
set_option maxHeartbeats 16000000
section
set_option linter.unusedVariables false
set_option linter.unusedSimpArgs false
set_option maxRecDepth 100000
set_option maxHeartbeats 16000000
theorem hHi {p:Prop} (h:p):Hid p:=h
theorem hU {p:Prop} (h:p):Hid (Unit→p):=fun _=>h
theorem hMo {P:Program} {f:Nat} {a:Array Value} {w:World} {Q Q':Ending→World→Prop} (h:Hid (Unit→Calls P f a w Q)) (k:∀e w',Q e w'→Q' e w'):Calls P f a w Q':=(h.out ()).mono k
theorem hcb {w W:World} {B b m:Nat} {l:Nat→Option Value} (hB:Below B w W) (hlt:b<B) (hc:∀i u,l i=some u→w.cell? ⟨b,m+i,none⟩=some u) (i:Nat) (u:Value) (h:l i=some u):W.cell? ⟨b,m+i,none⟩=some u:=(hB.cell (p:=⟨b,m+i,none⟩) hlt).trans (hc i u h)
structure St where
 a:Nat
 b:Nat
 c:Nat
 d:Nat
def St.ok (s:St):Prop:=s.a<18446744073709551616∧s.b<18446744073709551616∧s.c<18446744073709551616∧s.d<18446744073709551616
def St.zero:St:=⟨0,0,0,0⟩
def St.add (s:St) (n:Nat):St:=
 if n/64=0 then { s with a:=s.a ||| 2 ^ (n%64) } else if n/64=1 then { s with b:=s.b ||| 2 ^ (n%64) }
 else if n/64=2 then { s with c:=s.c ||| 2 ^ (n%64) } else { s with d:=s.d ||| 2 ^ (n%64) }
def mk (m:Nat):Nat→Nat
 | 0=>0
 | k+1=>m+256*mk m k
def f2 (k x:Nat):Nat:=(x/4 &&& mk 51 k)+(x &&& mk 51 k)
def g1 (b:Nat):Nat:=(b/2 &&& 85)+(b &&& 85)
def g2 (b:Nat):Nat:=(b/4 &&& 51)+(b &&& 51)
theorem ret_bool {a b:Bool} (h:a=b):Ending.returned (.bool a)=.returned (.bool b):=by rw[h]
theorem ret_int {k:IntKind} {a b:Int} (h:a=b):Ending.returned (.int k a)=.returned (.int k b):=by rw[h]
def St.same (s t:St):Bool:=s.a==t.a&&s.b==t.b&&s.c==t.c&&s.d==t.d
theorem St.same_eq (s t:St):(s.same t=true)↔s=t:=by
 cases s;cases t;simp[St.same,and_assoc]
structure Sy where
 kind:Int
 text:ByteArray
 set:St
 name:ByteArray
 sep:ByteArray
structure Pr where
 lex:Bool
 sort:ByteArray
 cons:ByteArray
 bracket:Bool
 syms:List Sy
structure Gr where
 assoc:Int
 cons:List ByteArray
structure Fo where
 sort:ByteArray
 set:St
structure Re where
 sort:ByteArray
 by':ByteArray
inductive It where
 | mk (kind:Int) (text:ByteArray) (n:Int) (items:List It)
def It.kind:It→Int | .mk k _ _ _=>k
def It.text:It→ByteArray | .mk _ t _ _=>t
def It.n:It→Int | .mk _ _ n _=>n
def It.items:It→List It | .mk _ _ _ l=>l
structure Bo where
 cons:ByteArray
 items:List It
structure Df where
 start:ByteArray
 layout:ByteArray
 prods:List Pr
 chains:List (List Gr)
 follows:List Fo
 rejects:List Re
 boxes:List Bo
instance:Inhabited St:=⟨⟨0,0,0,0⟩⟩
instance:Inhabited Sy:=⟨⟨0,⟨#[]⟩,default,⟨#[]⟩,⟨#[]⟩⟩⟩
instance:Inhabited Pr:=⟨⟨false,⟨#[]⟩,⟨#[]⟩,false,[]⟩⟩
instance:Inhabited Gr:=⟨⟨0,[]⟩⟩
instance:Inhabited Fo:=⟨⟨⟨#[]⟩,default⟩⟩
instance:Inhabited Re:=⟨⟨⟨#[]⟩,⟨#[]⟩⟩⟩
instance:Inhabited It:=⟨.mk 0 ⟨#[]⟩ 0 []⟩
instance:Inhabited Bo:=⟨⟨⟨#[]⟩,[]⟩⟩
def Row {α:Type} (w:World) (B n:Nat) (V:α→List Value→Prop) (a:Option Addr) (l:List α):Prop:=
 ∀j x,l[j]?=some x→∃b o vs,a=some ⟨b,o,none⟩∧b<B∧V x vs∧∀i v,vs[i]?=some v→w.cell? ⟨b,o+j*n+i,none⟩=some v
theorem Row.keep {α:Type} {w w':World} {B B' n:Nat} {V V':α→List Value→Prop} {a:Option Addr} {l:List α} (h:Row w B n V a l) (hb:Below B w w') (hB:B≤B') (hV:∀x vs,x∈l→V x vs→V' x vs):Row w' B' n V' a l:=fun j x hj=>by
 obtain⟨b,o,vs,e,hlt,hv,hc⟩:=h j x hj
 exact⟨b,o,vs,e,by omega,hV x vs (List.mem_of_getElem? hj) hv,fun i v hi=>(hb.cell (p:=⟨b,o+j*n+i,none⟩) hlt).trans (hc i v hi)⟩
def Sl {α:Type} (w:World) (B n:Nat) (V:α→List Value→Prop) (l:List α) (v:Value):Prop:=
 ∃a c,v=.slice a l.length c∧l.length≤c∧l.length≤140737488355328∧Row w B n V a l
theorem Sl.keep {α:Type} {w w':World} {B B' n:Nat} {V V':α→List Value→Prop} {l:List α} {v:Value} (h:Sl w B n V l v) (hb:Below B w w') (hB:B≤B') (hV:∀x vs,x∈l→V x vs→V' x vs):Sl w' B' n V' l v:=by
 obtain⟨a,c,e,h1,h2,h3⟩:=h
 exact⟨a,c,e,h1,h2,h3.keep hb hB hV⟩
def SyV (x:Sy) (vs:List Value):Prop:=x.set.ok∧vs=[.int .i64 x.kind,.string x.text,.int .u64 x.set.a,.int .u64 x.set.b,.int .u64 x.set.c,.int .u64 x.set.d,.string x.name,.string x.sep]
def PrV (w:World) (B:Nat) (p:Pr) (vs:List Value):Prop:=∃v,vs=[.bool p.lex,.string p.sort,.string p.cons,.bool p.bracket,v]∧Sl w B 8 SyV p.syms v
def StrV (s:ByteArray) (vs:List Value):Prop:=vs=[.string s]
def GrV (w:World) (B:Nat) (g:Gr) (vs:List Value):Prop:=∃v,vs=[.int .i64 g.assoc,v]∧Sl w B 1 StrV g.cons v
def ChV (w:World) (B:Nat) (c:List Gr) (vs:List Value):Prop:=∃v,vs=[v]∧Sl w B 2 (GrV w B) c v
def FoV (f:Fo) (vs:List Value):Prop:=f.set.ok∧vs=[.string f.sort,.int .u64 f.set.a,.int .u64 f.set.b,.int .u64 f.set.c,.int .u64 f.set.d]
def ReV (r:Re) (vs:List Value):Prop:=vs=[.string r.sort,.string r.by']
def ItV (w:World) (B:Nat):Nat→It→List Value→Prop
 | 0,_,_=>False
 | f+1,i,vs=>∃v,vs=[.int .i64 i.kind,.string i.text,.int .i64 i.n,v]∧Sl w B 4 (ItV w B f) i.items v
def BoV (w:World) (B f:Nat) (b:Bo) (vs:List Value):Prop:=∃v,vs=[.string b.cons,v]∧Sl w B 4 (ItV w B f) b.items v
def DfV (w:World) (B f:Nat) (d:Df) (vs:List Value):Prop:=∃v2 v3 v4 v5 v6,vs=[.string d.start,.string d.layout,v2,v3,v4,v5,v6]∧Sl w B 5 (PrV w B) d.prods v2∧Sl w B 1 (ChV w B) d.chains v3∧Sl w B 5 FoV d.follows v4∧Sl w B 2 ReV d.rejects v5∧Sl w B 2 (BoV w B f) d.boxes v6
section
variable {w w':World} {B B':Nat}
theorem PrV.keep (hb:Below B w w') (hB:B≤B') {p:Pr} {vs:List Value} (h:PrV w B p vs):PrV w' B' p vs:=by
 obtain⟨v,e,h⟩:=h
 exact⟨v,e,h.keep hb hB (fun _ _ _ h=>h)⟩
theorem GrV.keep (hb:Below B w w') (hB:B≤B') {p:Gr} {vs:List Value} (h:GrV w B p vs):GrV w' B' p vs:=by
 obtain⟨v,e,h⟩:=h
 exact⟨v,e,h.keep hb hB (fun _ _ _ h=>h)⟩
theorem ChV.keep (hb:Below B w w') (hB:B≤B') {p:List Gr} {vs:List Value} (h:ChV w B p vs):ChV w' B' p vs:=by
 obtain⟨v,e,h⟩:=h
 exact⟨v,e,h.keep hb hB (fun _ _ _ h=>h.keep hb hB)⟩
theorem ItV.keep (hb:Below B w w') (hB:B≤B'):∀ {f:Nat} {p:It} {vs:List Value},ItV w B f p vs→ItV w' B' f p vs
 | 0,_,_,h=>h
 | f+1,p,vs,h=>by
  obtain⟨v,e,h⟩:=h
  exact⟨v,e,h.keep hb hB (fun _ _ _ h=>h.keep hb hB)⟩
theorem BoV.keep (hb:Below B w w') (hB:B≤B') {f:Nat} {p:Bo} {vs:List Value} (h:BoV w B f p vs):BoV w' B' f p vs:=by
 obtain⟨v,e,h⟩:=h
 exact⟨v,e,h.keep hb hB (fun _ _ _ h=>h.keep hb hB)⟩
theorem DfV.keep (hb:Below B w w') (hB:B≤B') {f:Nat} {d:Df} {vs:List Value} (h:DfV w B f d vs):DfV w' B' f d vs:=by
 obtain⟨v2,v3,v4,v5,v6,e,h2,h3,h4,h5,h6⟩:=h
 exact⟨v2,v3,v4,v5,v6,e,h2.keep hb hB (fun _ _ _ h=>h.keep hb hB),h3.keep hb hB (fun _ _ _ h=>h.keep hb hB),h4.keep hb hB (fun _ _ _ h=>h),h5.keep hb hB (fun _ _ _ h=>h),h6.keep hb hB (fun _ _ _ h=>h.keep hb hB)⟩
end
structure DA (w:World) (d:Df) (vs:List Value):Prop where
 at':∃f,DfV w w.heap.size f d vs
theorem DA.nx {w w':World} {d:Df} {vs:List Value} (hb:Below w.heap.size w w') (h:DA w d vs):DA w' d vs:=by
 obtain⟨f,h⟩:=h.at'
 exact⟨f,h.keep hb hb.size⟩
section
theorem str_iff {x y:ByteArray}:x.toList=y.toList↔x=y:=by
 rw[ByteArray.toList_eq,ByteArray.toList_eq]
 constructor
 ·intro h
  obtain⟨⟨a⟩⟩:=x
  obtain⟨⟨b⟩⟩:=y
  simp at h
  rw[h]
 ·intro h;rw[h]
theorem eqStr (d:Nat) (x y:ByteArray) (w:World):(Op.equalIn (d+1) 9 (.string x) (.string y)).run Tryz.prog w=.ok (x==y) w:=by
 rw[Op.equalIn]
 simp[Sem.run_bind,run_underlying Tryz.underlying9,Result.andThen_ok,go_sem]
theorem eq49e (s t:St) (w:World):(Op.equalIn 9999 52 (.agg #[.int .u64 s.a,.int .u64 s.b,.int .u64 s.c,.int .u64 s.d]) (.agg #[.int .u64 t.a,.int .u64 t.b,.int .u64 t.c,.int .u64 t.d])).run Tryz.prog w=.ok (s.same t) w:=by
 have hp:∀(x0 x1 x2 x3:Value) w,((part 50 #[x0,x1,x2,x3] 0).run Tryz.prog w=.ok x0 w)∧((part 50 #[x0,x1,x2,x3] 1).run Tryz.prog w=.ok x1 w)∧((part 50 #[x0,x1,x2,x3] 2).run Tryz.prog w=.ok x2 w)∧((part 50 #[x0,x1,x2,x3] 3).run Tryz.prog w=.ok x3 w):=by
  intro x0 x1 x2 x3 w
  refine⟨?_,?_,?_,?_⟩<;>kernel_rfl
 have hz:∀w,(sizeOf 50).run Tryz.prog w=.ok 1 w:=fun w=>by kernel_rfl
 have he:∀(a b:Nat) w,(Op.equalIn 9998 50 (.int .u64 a) (.int .u64 b)).run Tryz.prog w=.ok ((a:Int)==(b:Int)) w:=fun a b w=>run_equalIn_int w 9997 50 .u64 .u64 a b Tryz.underlying50
 rw[show (9999:Nat)=9998+1 from rfl]
 rw[Op.equalIn]
 simp only[Sem.run_bind,run_underlying Tryz.underlying52,Result.andThen_ok]
 simp[Std.Legacy.Range.forIn_eq_forIn_range',List.range',hz,hp,he]
 unfold St.same
 by_cases h0:s.a=t.a
 ·by_cases h1:s.b=t.b
  ·by_cases h2:s.c=t.c
   ·by_cases h3:s.d=t.d
    ·simp[h0,h1,h2,h3]
    ·have e:¬((s.d:Int)=(t.d:Int)):=by omega
     simp[h0,h1,h2,h3,e]
   ·have e:¬((s.c:Int)=(t.c:Int)):=by omega
    simp[h0,h1,h2,e]
  ·have e:¬((s.b:Int)=(t.b:Int)):=by omega
   simp[h0,h1,e]
 ·have e:¬((s.a:Int)=(t.a:Int)):=by omega
  simp[h0,e]
theorem eq134 (x y:Sy) (w:World):(Op.equalIn 10000 62 (.agg #[.int .i64 x.kind,.string x.text,.int .u64 x.set.a,.int .u64 x.set.b,.int .u64 x.set.c,.int .u64 x.set.d,.string x.name,.string x.sep]) (.agg #[.int .i64 y.kind,.string y.text,.int .u64 y.set.a,.int .u64 y.set.b,.int .u64 y.set.c,.int .u64 y.set.d,.string y.name,.string y.sep])).run Tryz.prog w=.ok (x.kind==y.kind&&x.text==y.text&&x.set.same y.set&&x.name==y.name&&x.sep==y.sep) w:=by
 have hp:∀(x0 x1 x2 x3 x4 x5 x6 x7:Value) w,((part 3 #[x0,x1,x2,x3,x4,x5,x6,x7] 0).run Tryz.prog w=.ok x0 w)∧((part 9 #[x0,x1,x2,x3,x4,x5,x6,x7] 1).run Tryz.prog w=.ok x1 w)∧((part 52 #[x0,x1,x2,x3,x4,x5,x6,x7] 2).run Tryz.prog w=.ok (.agg #[x2,x3,x4,x5]) w)∧((part 9 #[x0,x1,x2,x3,x4,x5,x6,x7] 6).run Tryz.prog w=.ok x6 w)∧((part 9 #[x0,x1,x2,x3,x4,x5,x6,x7] 7).run Tryz.prog w=.ok x7 w):=by
  intro x0 x1 x2 x3 x4 x5 x6 x7 w
  refine⟨?_,?_,?_,?_,?_⟩<;>kernel_rfl
 have h0:Tryz.prog.stoodInHeld 62=false:=by kernel_rfl
 have he:∀(a b:Int) w,(Op.equalIn 9999 3 (.int .i64 a) (.int .i64 b)).run Tryz.prog w=.ok (a==b) w:=fun a b w=>run_equalIn_int w 9998 3 .i64 .i64 a b Tryz.underlying3
 have hs:∀(a b:ByteArray) w,(Op.equalIn 9999 9 (.string a) (.string b)).run Tryz.prog w=.ok (a==b) w:=fun a b w=>eqStr 9998 a b w
 rw[show (10000:Nat)=9999+1 from rfl]
 rw[Op.equalIn]
 simp only[Sem.run_bind,run_underlying Tryz.underlying62,Result.andThen_ok]
 simp[h0,hp,he,hs,eq49e]
 generalize (x.text==y.text)=p1
 generalize x.set.same y.set=p2
 generalize (x.name==y.name)=p3
 generalize (x.sep==y.sep)=p4
 by_cases h0:x.kind=y.kind
 ·cases p1<;>cases p2<;>cases p3<;>cases p4<;>simp[h0]
 ·simp[h0]
theorem ba_eq {x y:ByteArray}:(x==y)=true↔x=y:=by
 have h:(x==y)=(x.data==y.data):=by first | rfl | (cases x;cases y;rfl)
 rw[h,beq_iff_eq]
 constructor
 ·intro e;cases x;cases y;simp at e;rw[e]
 ·intro e;rw[e]
open Classical in
theorem symEq (x y:Sy) (w:World):(Op.equalIn 10000 62 (.agg #[.int .i64 x.kind,.string x.text,.int .u64 x.set.a,.int .u64 x.set.b,.int .u64 x.set.c,.int .u64 x.set.d,.string x.name,.string x.sep]) (.agg #[.int .i64 y.kind,.string y.text,.int .u64 y.set.a,.int .u64 y.set.b,.int .u64 y.set.c,.int .u64 y.set.d,.string y.name,.string y.sep])).run Tryz.prog w=.ok (decide (x=y)) w:=by
 rw[eq134]
 congr 1
 rw[Bool.eq_iff_iff]
 simp only[Bool.and_eq_true,ba_eq,St.same_eq,beq_iff_eq,decide_eq_true_eq]
 constructor
 ·rintro⟨⟨⟨⟨h0,h1⟩,h2⟩,h3⟩,h4⟩
  cases x;cases y;simp_all
 ·intro h;subst h;exact⟨⟨⟨⟨rfl,rfl⟩,rfl⟩,rfl⟩,rfl⟩
end
end
section
set_option linter.unusedVariables false
set_option linter.unusedSimpArgs false
set_option maxRecDepth 100000
set_option maxHeartbeats 16000000
section
theorem setCell_drewN (w:World) (n:Nat) (a:Addr) (v:Value):(w.drewN n).setCell a v=(w.setCell a v).drewN n:=rfl
attribute [local go_sem] setCell_drewN
end
section
open Go.RowKit Go.Shelf
attribute [local go_sem] Oper.semAt_some
def SBox (s:St) (B:Nat) (W:World):Prop:=W.heap[B]?=some (.cells #[.int .u64 s.a,.int .u64 s.b,.int .u64 s.c,.int .u64 s.d] 52 (0,0))
theorem SBox.new (s:St) (W:World):SBox s W.heap.size (W.alloc (.cells #[.int .u64 s.a,.int .u64 s.b,.int .u64 s.c,.int .u64 s.d] 52)):=World.alloc_heap_new W _
theorem SBox.lt {s:St} {B:Nat} {W:World} (h:SBox s B W):B<W.heap.size:=(Array.getElem?_eq_some_iff.1 h).1
theorem SBox.cells {s:St} {B:Nat} {W:World} (h:SBox s B W):W.cell? ⟨B,0,none⟩=some (.int .u64 s.a)∧W.cell? ⟨B,1,none⟩=some (.int .u64 s.b)∧W.cell? ⟨B,2,none⟩=some (.int .u64 s.c)∧W.cell? ⟨B,3,none⟩=some (.int .u64 s.d):=by
 refine⟨?_,?_,?_,?_⟩<;>simp[World.cell?,show W.heap[B]?=_ from h]
theorem SBox.kept {s:St} {B:Nat} {W W':World} {row:Option Nat} (h:SBox s B W) (hg:W.grownBy W' row) (hne:some B≠row):SBox s B W':=(hg.block B h.lt hne).trans h
theorem SBox.alloc {s:St} {B:Nat} {W:World} (h:SBox s B W) (o:Obj):SBox s B (W.alloc o):=h.kept (World.grownBy_alloc W o none) (by simp)
theorem SBox.not_row {s:St} {B:Nat} {W:World} (h:SBox s B W) {e:TypeId} (hte:(52:TypeId)≠e) {base size k:Nat} {v:Value} {xs:List Value} (hr:W.ownsRow base e size v k xs):some B≠v.ownBlock:=by
 rcases hr.2 with ⟨rfl,_⟩ | ⟨g,cap,cur,rfl,_,hgb,_⟩
 ·simp[Value.ownBlock]
 ·intro e'
  obtain rfl:B=g:=by simpa [Value.ownBlock] using e'
  have:=(show W.heap[B]?=_ from h).symm.trans hgb
  simp at this
  exact hte this.2
end

theorem SBox.below {s:St} {B:Nat} {W W':World} (h:SBox s B W) (hb:Below W.heap.size W W'):SBox s B W':=(hb.block B h.lt).trans h
theorem SBox.frozen {s:St} {B:Nat} {W:World} (h:SBox s B W):∀o,W.frozen? ⟨B,o,none⟩=false:=fun o=>by simp[World.frozen?,show W.heap[B]?=_ from h]
theorem SBox.zero (W:World):SBox St.zero W.heap.size (W.alloc (.cells #[.int .u64 0,.int .u64 0,.int .u64 0,.int .u64 0] 52)):=World.alloc_heap_new W _
section
open Go.Shelf Go.RowKit Go.Lib
end
theorem heap_lt {w:World} {b:Nat} {o:Obj} (h:w.heap[b]?=some o):b<w.heap.size:=(Array.getElem?_eq_some_iff.1 h).1
def Blk (W:World) (b:Nat) (t:TypeId) (cs:Array Value):Prop:=W.heap[b]?=some (.cells cs t (0,0))
section
variable {W W':World} {b:Nat} {t:TypeId} {cs:Array Value}
theorem Blk.lt (h:Blk W b t cs):b<W.heap.size:=heap_lt h
theorem Blk.cell (h:Blk W b t cs) (i:Nat) {v:Value} (hv:cs[i]?=some v):W.cell? ⟨b,i,none⟩=some v:=by
 simp[World.cell?,show W.heap[b]?=_ from h,hv]
theorem Blk.frozen (h:Blk W b t cs) (i:Nat):W.frozen? ⟨b,i,none⟩=false:=by simp[World.frozen?,show W.heap[b]?=_ from h]
theorem Blk.new (W:World) (t:TypeId) (cs:Array Value):Blk (W.alloc (.cells cs t)) W.heap.size t cs:=World.alloc_heap_new W _
theorem Blk.kept {row:Option Nat} (h:Blk W b t cs) (hg:W.grownBy W' row) (hne:some b≠row):Blk W' b t cs:=(hg.block b h.lt hne).trans h
theorem Blk.alloc (h:Blk W b t cs) (o:Obj):Blk (W.alloc o) b t cs:=h.kept (World.grownBy_alloc W o none) (by simp)
theorem Blk.below {B:Nat} (h:Blk W b t cs) (hb:Below B W W') (hB:b<B):Blk W' b t cs:=(hb.block b hB).trans h
theorem Blk.after (h:Blk W b t cs) (hb:Below W.heap.size W W'):Blk W' b t cs:=h.below hb h.lt
theorem Blk.set (h:Blk W b t cs) (i:Nat) (v:Value):Blk (W.setCell ⟨b,i,none⟩ v) b t (cs.setIfInBounds i v):=by
 obtain⟨hlt,hk⟩:=Array.getElem?_eq_some_iff.1 h
 show (W.heap.modify b _)[b]?=_
 rw[Array.getElem?_eq_getElem (by rw[Array.size_modify];exact hlt),Array.getElem_modify_self,hk]
 rfl
theorem grownBy_setCell (W:World) (b i:Nat) (v:Value):W.grownBy (W.setCell ⟨b,i,none⟩ v) (some b):=
 ⟨rfl,rfl,rfl,(KeepsWalks.setCell W _ v).size,fun k _ hk=>Below.heap_setCell _ _ _ k (fun e=>hk (by rw[e]))⟩
theorem Blk.put (h:Blk W b t cs) (b' i:Nat) (v:Value) (hne:b≠b'):Blk (W.setCell ⟨b',i,none⟩ v) b t cs:=h.kept (grownBy_setCell W b' i v) (fun e=>hne (Option.some.inj e))
theorem Blk.not_row (h:Blk W b t cs) {e:TypeId} (hte:t≠e) {base size k:Nat} {v:Value} {xs:List Value} (hr:W.ownsRow base e size v k xs):some b≠v.ownBlock:=by
 rcases hr.2 with ⟨rfl,_⟩ | ⟨g,cap,cur,rfl,_,hgb,_⟩
 ·simp[Value.ownBlock]
 ·intro e'
  obtain rfl:b=g:=by simpa [Value.ownBlock] using e'
  have:=(show W.heap[b]?=_ from h).symm.trans hgb
  simp at this
  exact hte this.2
end
theorem row_below {B:Nat} {e:TypeId} {k:Nat} {v:Value} {n:Nat} {xs:List Value} {W W':World} (h:W.ownsRow B e k v n xs) (hb:Below W.heap.size W W'):W'.ownsRow B e k v n xs:=by
 refine⟨h.1,?_⟩
 rcases h.2 with h0 | ⟨g,cap,cur,hv,hbg,hg,rest⟩
 ·exact .inl h0
 ·exact .inr ⟨g,cap,cur,hv,hbg,(hb.block g (heap_lt hg)).trans hg,rest⟩
theorem row_mono {B B':Nat} {e:TypeId} {k:Nat} {v:Value} {n:Nat} {xs:List Value} {W:World} (h:W.ownsRow B e k v n xs) (hb:B'≤B):W.ownsRow B' e k v n xs:=by
 refine⟨h.1,?_⟩
 rcases h.2 with h0 | ⟨g,cap,cur,hv,hbg,rest⟩
 ·exact .inl h0
 ·exact .inr ⟨g,cap,cur,hv,Nat.le_trans hb hbg,rest⟩
section
variable {P:Program} {md:_} {ops:Array Oper} {Q:_} {S:World→Prop}
theorem tk (i:Nat) {oi:Oper} {v:Value} {fuel:Nat} {listed:Array Bool} {a:Act} {w:World} (hi:ops[i]?=some oi) (hS:S w)
  (h:wpAnyH P md ops Q S fuel (listed.setIfInBounds i true) (a.put oi.dst v) w)
  (hs:Region.noSelect ops=true:=by kernel_rfl) (hf:Region.free md ops listed i=true:=by kernel_rfl) (hr:(Region.ready md ops listed).contains i=true:=by kernel_rfl)
  (hQ:∀c a w,Q (.panic c) (a.put oi.dst v) w→Q (.panic c) a w:=by exact fun _ _ _ h=>h) (hw:Region.wanted oi (yielded ops a.tmps)=true:=by rfl)
  (hy:∀w,S w→(execOp a.eval oi).run P w=.ok (.value v) w:=by (intro w hSw;(try dsimp only at hSw);go_simp<;>with_reducible rfl)):wpAnyH P md ops Q S (fuel+1) listed a w:=
 wpAnyH_take hi hs hf hr hQ (.inl ⟨hw,hy⟩) hS h
theorem rd1 (i:Nat) {o:Oper} {fuel:Nat} {listed:Array Bool} {a:Act} {w:World} (ho:ops[i]?=some o) (h:∀K':Act→World→Prop,Shut (∀a w,S w→(S w→wpAnyH P md ops Q S fuel (listed.setIfInBounds i true) a w)→K' a w)→if Region.wanted o (yielded ops a.tmps)=true then Oper.wp P o a w K' Q else K' (a.put o.dst undef) w)
  (hr:Region.ready md ops listed=[i]:=by kernel_rfl):wpAnyH P md ops Q S (fuel+1) listed a w:=
 wpAnyH_ready hr (by simp) (AllReadyH.cons ho h AllReadyH.nil)
end
theorem Blk.c2 {W:World} {b:Nat} {t:TypeId} {v0 v1:Value} (h:Blk W b t #[v0,v1]):W.cell? ⟨b,0,none⟩=some v0∧W.cell? ⟨b,1,none⟩=some v1:=
 ⟨h.cell 0 rfl,h.cell 1 rfl⟩
theorem Blk.c4 {W:World} {b:Nat} {t:TypeId} {v0 v1 v2 v3:Value} (h:Blk W b t #[v0,v1,v2,v3]):W.cell? ⟨b,0,none⟩=some v0∧W.cell? ⟨b,1,none⟩=some v1∧W.cell? ⟨b,2,none⟩=some v2∧W.cell? ⟨b,3,none⟩=some v3:=
 ⟨h.cell 0 rfl,h.cell 1 rfl,h.cell 2 rfl,h.cell 3 rfl⟩
theorem Blk.c5 {W:World} {b:Nat} {t:TypeId} {v0 v1 v2 v3 v4:Value} (h:Blk W b t #[v0,v1,v2,v3,v4]):W.cell? ⟨b,0,none⟩=some v0∧W.cell? ⟨b,1,none⟩=some v1∧W.cell? ⟨b,2,none⟩=some v2∧W.cell? ⟨b,3,none⟩=some v3∧W.cell? ⟨b,4,none⟩=some v4:=
 ⟨h.cell 0 rfl,h.cell 1 rfl,h.cell 2 rfl,h.cell 3 rfl,h.cell 4 rfl⟩
theorem Blk.c7 {W:World} {b:Nat} {t:TypeId} {v0 v1 v2 v3 v4 v5 v6:Value} (h:Blk W b t #[v0,v1,v2,v3,v4,v5,v6]):W.cell? ⟨b,0,none⟩=some v0∧W.cell? ⟨b,1,none⟩=some v1∧W.cell? ⟨b,2,none⟩=some v2∧W.cell? ⟨b,3,none⟩=some v3∧W.cell? ⟨b,4,none⟩=some v4∧W.cell? ⟨b,5,none⟩=some v5∧W.cell? ⟨b,6,none⟩=some v6:=
 ⟨h.cell 0 rfl,h.cell 1 rfl,h.cell 2 rfl,h.cell 3 rfl,h.cell 4 rfl,h.cell 5 rfl,h.cell 6 rfl⟩
theorem kA {W W':World} {b:Nat} {t:TypeId} {cs:Array Value} (h:Hid (Blk W b t cs)) (k:Hid (Below W.heap.size W W')):Hid (Blk W' b t cs):=Blk.after h.out k.out
theorem kN {w W:World} {t:TypeId} {cs:Array Value} (h:w.alloc (.cells cs t)=W):Hid (Blk W w.heap.size t cs):=h▸Blk.new w t cs
theorem kB {w W:World} {o:Obj} (h:w.alloc o=W):Hid (Below w.heap.size w W):=h▸(Below.refl _ _).alloc (Nat.le_refl _) _
end
section
set_option linter.unusedVariables false
set_option linter.unusedSimpArgs false
set_option maxRecDepth 100000
set_option maxHeartbeats 16000000
def bt (x:ByteArray) (i:Nat):Nat:=(x.data.getD i 0).toNat
theorem bt_eq (x:ByteArray) (i:Nat) (h:i<x.size):x[i].toNat=bt x i:=by
 unfold bt;rw[Array.getD_eq_getD_getElem?,Array.getElem?_eq_getElem h];rfl
theorem bt_lt (x:ByteArray) (i:Nat):bt x i<256:=UInt8.toNat_lt _
theorem SBox.bel {s:St} {B:Nat} {W W':World} (h:SBox s B W) (hb:Below W.heap.size W W'):SBox s B W':=(hb.block B h.lt).trans h
def great (n:Nat):Bool:=decide (65≤n)&&decide (n≤90)
def small (n:Nat):Bool:=decide (97≤n)&&decide (n≤122)
def digB (n:Nat):Bool:=decide (48≤n)&&decide (n≤57)
def alnum (n:Nat):Bool:=great n||small n||digB n
def lspan (p:Nat→Bool):List UInt8→Nat
 | []=>0
 | c::l=>if p c.toNat then lspan p l+1 else 0
theorem bt_list (x:ByteArray) (i:Nat):bt x i=(x.data.toList.getD i 0).toNat:=by
 unfold bt;simp
theorem list_len (x:ByteArray):x.data.toList.length=x.size:=by simp
theorem drop_at (x:ByteArray) (i:Nat) (h:i<x.size):x.data.toList.drop i=x[i]::x.data.toList.drop (i+1):=by
 have:i<x.data.toList.length:=by rw[list_len];exact h
 rw[List.drop_eq_getElem_cons this];rfl
theorem drop_end (x:ByteArray) (i:Nat) (h:x.size≤i):x.data.toList.drop i=[]:=List.drop_eq_nil_of_le (by rw[list_len];exact h)
theorem ba_list (x:ByteArray):x=⟨x.data.toList.toArray⟩:=by simp
theorem great_any (n:Nat) (w:World):Calls Tryz.prog 122 #[.int .i32 n] w fun e w'=>e=.returned (.bool (great n))∧w'=w:=by
 have H:Hid (great n=(decide (65≤n)&&decide (n≤90))):=rfl
 go_enter Tryz.func122,Tryz.ntmps122
 go_wp2
 all_goals go_ret
 all_goals (refine⟨ret_bool ?_,rfl⟩;rw[H.out])
 all_goals (rw[Bool.eq_iff_iff];simp;try omega)
theorem small_any (n:Nat) (w:World):Calls Tryz.prog 167 #[.int .i32 n] w fun e w'=>e=.returned (.bool (small n))∧w'=w:=by
 have H:Hid (small n=(decide (97≤n)&&decide (n≤122))):=rfl
 go_enter Tryz.func167,Tryz.ntmps167
 go_wp2
 all_goals go_ret
 all_goals (refine⟨ret_bool ?_,rfl⟩;rw[H.out])
 all_goals (rw[Bool.eq_iff_iff];simp;try omega)
theorem digB_any (n:Nat) (w:World):Calls Tryz.prog 168 #[.int .i32 n] w fun e w'=>e=.returned (.bool (digB n))∧w'=w:=by
 have H:Hid (digB n=(decide (48≤n)&&decide (n≤57))):=rfl
 go_enter Tryz.func168,Tryz.ntmps168
 go_wp2
 all_goals go_ret
 all_goals (refine⟨ret_bool ?_,rfl⟩;rw[H.out])
 all_goals (rw[Bool.eq_iff_iff];simp;try omega)
theorem iter_below (w:World) (x:ByteArray) (p:Nat):Below w.heap.size w (w.iter x p):=(Below.refl _ _).alloc (Nat.le_refl _) _
theorem alnum_low {n:Nat} (h:alnum n=true):n<128:=by
 unfold alnum great small digB at h;simp at h;omega
theorem decode_no (p:Nat→Bool) (hp:∀n,p n=true→n<128) (x:ByteArray) (i:Nat) (h:i<x.size) (hn:p x[i].toNat=false):p (Utf8.decode x i).1=false:=by
 by_cases ha:x[i].toNat<128
 ·rw[decode_ascii x i h ha];exact hn
 ·have:=(decode_high x i h (by omega)).1
  cases e:p (Utf8.decode x i).1 with
  | false=>rfl
  | true=>have:=hp _ e;omega
theorem alnum_or {n:Nat} (h:alnum n=true):great n=true∨(great n=false∧small n=true)∨(great n=false∧small n=false∧digB n=true):=by
 unfold alnum at h
 generalize great n=a at *
 generalize small n=b at *
 generalize digB n=c at *
 revert a b c
 decide
theorem alnum_parts {n:Nat} (h:alnum n=false):great n=false∧small n=false∧digB n=false:=by
 unfold alnum at h;simpa [and_assoc] using h
theorem spanL_any (x:ByteArray) (w:World):Calls Tryz.prog 155 #[.string x] w fun e w'=>e=.returned (.int .i64 (lspan alnum x.data.toList))∧Below w.heap.size w w':=by
 go_enter Tryz.func155,Tryz.ntmps155
 go_wp2
 go_loopw[2] (fun r w'=>∃pos:Nat,w'=w.iter x pos∧pos≤x.size∧pos+lspan alnum (x.data.toList.drop pos)=lspan alnum x.data.toList∧r=r) (fun _ w'=>x.size-w'.iterPos w.heap.size)
 case atStart=>exact⟨0,rfl,Nat.zero_le _,by simp,rfl⟩
 case round=>
  obtain⟨pos,rfl,hp,hsp,-⟩:=hrel
  by_cases hlt:pos<x.size
  ·have hnx:∀ty,(Instr.next (.pointer (some ⟨w.heap.size,0,none⟩)) true ty).run Tryz.prog (w.iter x pos)=_:=fun ty=>run_next_any w x pos ty hlt
   have HG:Hid _:=fun w=>great_any (Utf8.decode x pos).1 w
   have HS:Hid _:=fun w=>small_any (Utf8.decode x pos).1 w
   have HD:Hid _:=fun w=>digB_any (Utf8.decode x pos).1 w
   rw[drop_at x pos hlt] at hsp
   simp only[lspan] at hsp
   by_cases hd:alnum x[pos].toNat=true
   ·have ha:=alnum_low hd
    have hdec:=decode_ascii x pos hlt ha
    rw[hdec] at hnx HG HS HD
    simp only[hd,if_true] at hsp
    clear hdec
    have hor:=alnum_or hd
    clear hd
    rcases hor with h1 | ⟨h1,h2⟩ | ⟨h1,h2,h3⟩
    all_goals (try rw[h1] at HG)
    all_goals (try rw[h2] at HS)
    all_goals (try rw[h3] at HD)
    all_goals (try clear h1)
    all_goals (try clear h2)
    all_goals (try clear h3)
    all_goals
     go_wp2_with (first | (go_at_call 122;refine (HG.out _).mono ?_;rintro e w' ⟨rfl,rfl⟩) | (go_at_call 167;refine (HS.out _).mono ?_;rintro e w' ⟨rfl,rfl⟩) | (go_at_call 168;refine (HD.out _).mono ?_;rintro e w' ⟨rfl,rfl⟩))
     go_roundw
     case rel=>exact⟨pos+1,rfl,by omega,by omega,trivial⟩
     case measure=>simp;omega
   ·have hd':alnum x[pos].toNat=false:=by simpa using hd
    have hz:=decode_no alnum (fun _=>alnum_low) x pos hlt hd'
    obtain⟨z1,z2,z3⟩:=alnum_parts hz
    rw[z1] at HG
    rw[z2] at HS
    rw[z3] at HD
    simp only[hd',Bool.false_eq_true,if_false] at hsp
    have HE:Hid (lspan alnum x.data.toList=pos):=by show _=_;omega
    clear hsp hz hd hd' z1 z2 z3
    generalize (Utf8.decode x pos).1=rn at *
    generalize (Utf8.decode x pos).2=wd at *
    go_wp2_with (first | (go_at_call 122;refine (HG.out _).mono ?_;rintro e w' ⟨rfl,rfl⟩) | (go_at_call 167;refine (HS.out _).mono ?_;rintro e w' ⟨rfl,rfl⟩) | (go_at_call 168;refine (HD.out _).mono ?_;rintro e w' ⟨rfl,rfl⟩))
    go_ret
    exact⟨ret_int (by rw[HE.out]),iter_below _ _ _⟩
  ·have hnx:∀ty,(Instr.next (.pointer (some ⟨w.heap.size,0,none⟩)) true ty).run Tryz.prog (w.iter x pos)=_:=fun ty=>run_next_end w x pos ty hlt
   rw[drop_end x pos (by omega)] at hsp
   have HE:Hid (lspan alnum x.data.toList=x.size):=by simp only[lspan] at hsp;show _=_;omega
   clear hsp
   go_wp2
   go_ret
   exact⟨ret_int (by rw[HE.out]),iter_below _ _ _⟩
def whole (l:List UInt8):Bool:=decide (l.length≤32)&&decide (lspan alnum l=l.length)
theorem whole_any (x:ByteArray) (w:World):Calls Tryz.prog 123 #[.string x] w fun e w'=>e=.returned (.bool (whole x.data.toList))∧Below w.heap.size w w':=by
 have HS:Hid _:=fun w=>spanL_any x w
 have H:Hid (whole x.data.toList=(decide (x.size≤32)&&decide (lspan alnum x.data.toList=x.size))):=by show _=_;unfold whole;rw[list_len]
 generalize lspan alnum x.data.toList=k at *
 by_cases h1:x.size≤32
 ·have h1':(x.size:Int)≤32:=by omega
  go_enter Tryz.func123,Tryz.ntmps123
  go_wp2_with (go_at_call 155;refine (HS.out _).mono ?_;rintro e w' ⟨rfl,hb⟩)
  go_ret
  refine⟨ret_bool ?_,hb⟩
  rw[H.out,Bool.eq_iff_iff];simp[h1];try omega
 ·have h1':¬(x.size:Int)≤32:=by omega
  go_enter Tryz.func123,Tryz.ntmps123
  go_wp2
  go_ret
  refine⟨ret_bool ?_,Below.refl _ _⟩
  rw[H.out];simp[h1]
def nameB (p:Nat→Bool) (l:List UInt8):Bool:=decide (l≠[])&&p (l.getD 0 0).toNat&&whole l
theorem str_empty (x:ByteArray) (h:x.size=0):x=⟨#[]⟩:=by
 rw[ba_list x,List.eq_nil_of_length_eq_zero ((list_len x).trans h)]
theorem ne_empty (x:ByteArray) (h:¬x.size=0):x.toList.isEmpty=false:=by
 rw[ByteArray.toList_eq]
 cases e:x.data.toList with
 | nil=>have:=list_len x;rw[e] at this;exact absurd this.symm h
 | cons c l=>rfl
theorem isName_any (x:ByteArray) (w:World):Calls Tryz.prog 76 #[.string x] w fun e w'=>e=.returned (.bool (nameB great x.data.toList))∧Below w.heap.size w w':=by
 by_cases h0:x.size=0
 ·obtain rfl:=str_empty x h0
  go_enter Tryz.func76,Tryz.ntmps76
  go_wp2
  go_ret
  exact⟨ret_bool (by decide),Below.refl _ _⟩
 ·have hne:=ne_empty x h0
  have hne':¬x.toList=[]:=by intro h;rw[h] at hne;cases hne
  have hnl:x.data.toList≠[]:=by intro h;have:=list_len x;rw[h] at this;exact h0 this.symm
  have k0:0<x.size:=by omega
  have b0:=bt_eq x 0 k0
  have HG:Hid _:=fun w=>great_any (bt x 0) w
  have HW:Hid _:=fun w=>whole_any x w
  have H:Hid (nameB great x.data.toList=(great (bt x 0)&&whole x.data.toList)):=by show _=_;unfold nameB;rw[bt_list];simp[hnl]
  have hl:=bt_lt x 0
  generalize whole x.data.toList=k at *
  generalize hg:great (bt x 0)=g at *
  clear hg
  generalize bt x 0=c at *
  cases g
  ·go_enter Tryz.func76,Tryz.ntmps76
   go_wp2_with (go_at_call 122;refine (HG.out _).mono ?_;rintro e w' ⟨rfl,rfl⟩)
   go_ret
   exact⟨ret_bool (by rw[H.out];rfl),Below.refl _ _⟩
  ·go_enter Tryz.func76,Tryz.ntmps76
   go_wp2_with (first | (go_at_call 122;refine (HG.out _).mono ?_;rintro e w' ⟨rfl,rfl⟩) | (go_at_call 123;refine (HW.out _).mono ?_;rintro e w' ⟨rfl,hb⟩))
   go_ret
   exact⟨ret_bool (by rw[H.out];rfl),hb⟩
def cls (n:Nat):Nat:=if great n then 1 else if small n then 2 else if digB n then 3 else 0
end
section
set_option linter.unusedVariables false
set_option linter.unusedSimpArgs false
set_option maxRecDepth 100000
set_option maxHeartbeats 16000000
section
attribute [local go_sem] setCell_drewN
end
def RowB (w:World) (a:Option Addr) (L:List Nat):Prop:=∀i,i<L.length→∃bk o,a=some ⟨bk,o,none⟩∧bk<w.heap.size∧w.cell? ⟨bk,o+i,none⟩=some (.int .u8 ((L.getD i 0:Nat):Int))
theorem RowB.below {w w':World} {a:Option Addr} {L:List Nat} (h:RowB w a L) {B:Nat} (hb:Below B w w') (hB:w.heap.size≤B):RowB w' a L:=by
 intro i hi
 obtain⟨bk,o,e,hl,hc⟩:=h i hi
 exact⟨bk,o,e,Nat.lt_of_lt_of_le hl hb.size,(hb.cell (p:=⟨bk,o+i,none⟩) (Nat.lt_of_lt_of_le hl hB)).trans hc⟩
theorem gen {P:World→Prop} (R:World→Prop) {W:World} (h:R W) (k:∀W,R W→P W):P W:=k W h
end
section
set_option linter.unusedVariables false
set_option linter.unusedSimpArgs false
set_option maxRecDepth 100000
set_option maxHeartbeats 16000000
abbrev nb (t:ByteArray) (n:Int):Array Value:=#[.int .i64 3,.string t,.slice none 0 0,.int .u64 0,.int .u64 0,.int .u64 0,.int .u64 0,.int .i64 n,.int .i64 0,.int .i64 0,.int .i64 0]
theorem Blk.drew {W:World} {b:Nat} {t:TypeId} {cs:Array Value} (h:Blk W b t cs):Blk W.drew b t cs:=h
theorem row_slice {W:World} {base:Nat} {e:TypeId} {size:Nat} {v:Value} {n:Nat} {xs:List Value} (h:W.ownsRow base e size v n xs):∃a c,v=.slice a n c:=by
 rcases h.2 with ⟨rfl,rfl⟩ | ⟨g,cap,cur,rfl,_⟩
 ·exact⟨none,0,rfl⟩
 ·exact⟨_,_,rfl⟩
section
attribute [local go_sem] setCell_drewN
end
end
section
set_option linter.unusedVariables false
set_option linter.unusedSimpArgs false
set_option maxRecDepth 100000
set_option maxHeartbeats 16000000
section
variable {W W':World} {base:Nat} {lv:Value}
theorem row_kept_lt {e:TypeId} {size:Nat} {v:Value} {n:Nat} {xs:List Value} {b:Nat} (h:W.ownsRow base e size v n xs) (hg:W.grownBy W' (some b)) (hb:b<base):W'.ownsRow base e size v n xs:=by
 refine h.kept hg ?_
 cases hv:v.ownBlock with
 | none=>exact .inl rfl
 | some g=>right;intro e;have:=(h.lt g hv).1;simp at e;omega
theorem row_ne {b1 b2:Nat} {e1 e2:TypeId} {s1 s2:Nat} {v1 v2:Value} {n1 n2:Nat} {x1 x2:List Value} (h1:W.ownsRow b1 e1 s1 v1 n1 x1) (h2:W.ownsRow b2 e2 s2 v2 n2 x2) (hne:e1≠e2):v1.ownBlock=none∨v1.ownBlock≠v2.ownBlock:=by
 rcases h1.2 with ⟨rfl,_⟩ | ⟨g,cap,cur,rfl,_,hg,_⟩
 ·exact .inl rfl
 ·right
  rcases h2.2 with ⟨rfl,_⟩ | ⟨g',cap',cur',rfl,_,hg',_⟩
  ·simp[Value.ownBlock]
  ·simp only[Value.ownBlock]
   intro e
   obtain rfl:g=g':=by simpa using e
   have:=hg.symm.trans hg'
   simp at this
   exact hne this.2
end
end
end Go.Proofs.YtilpgpcgcpedjaaGreat
