/- What is wrong with a definition, plainly: its sorts, where its names lead, and the first thing that is wrong. -/
import Derived.Test.YtilpgpcgcpedjaaGreatA0
namespace Go.Proofs.YtilpgpcgcpedjaaGreat
open Go.RowKit
set_option linter.unusedVariables false
set_option linter.unusedSimpArgs false
set_option maxRecDepth 100000
set_option maxHeartbeats 16000000
abbrev Nm:=ByteArray
def no:Nm:=⟨#[]⟩
theorem ba_beq (a b:ByteArray):(a==b)=(a.data==b.data):=rfl
instance:ReflBEq ByteArray where
 rfl {a}:=by rw[ba_beq];simp
instance:LawfulBEq ByteArray where
 eq_of_beq {a b} h:=by
  rw[ba_beq] at h
  cases a;cases b
  simpa using h
def addN (o:List Nm) (s:Nm):List Nm:=if s∈o then o else o++[s]
def srt (l:List Pr):List Nm:=l.foldl (fun o p=>addN o p.sort) []
theorem srt_snoc (l:List Pr) (p:Pr):srt (l++[p])=addN (srt l) p.sort:=by simp[srt]
theorem mem_addN {o:List Nm} {s x:Nm}:x∈addN o s↔x∈o∨x=s:=by
 unfold addN
 split
 ·rename_i h
  constructor
  ·exact Or.inl
  ·rintro(h1|rfl)
   ·exact h1
   ·exact h
 ·simp
theorem mem_foldl (l:List Pr):∀(o:List Nm) (x:Nm),x∈l.foldl (fun o p=>addN o p.sort) o↔x∈o∨∃p∈l,p.sort=x:=by
 induction l with
 | nil=>simp
 | cons p l ih=>
  intro o x
  rw[List.foldl_cons,ih,mem_addN]
  constructor
  ·rintro((h|rfl)|⟨q,hq,rfl⟩)
   ·exact Or.inl h
   ·exact Or.inr ⟨p,by simp,rfl⟩
   ·exact Or.inr ⟨q,by simp[hq],rfl⟩
  ·rintro(h|⟨q,hq,rfl⟩)
   ·exact Or.inl (Or.inl h)
   ·rcases List.mem_cons.1 hq with rfl|hq
    ·exact Or.inl (Or.inr rfl)
    ·exact Or.inr ⟨q,hq,rfl⟩
theorem mem_srt {l:List Pr} {x:Nm}:x∈srt l↔∃p∈l,p.sort=x:=by
 unfold srt
 rw[mem_foldl]
 simp
def lexd (l:List Pr) (s:Nm):Bool:=l.any fun p=>decide (p.sort=s)&&p.lex
def plnd (l:List Pr) (s:Nm):Bool:=l.any fun p=>decide (p.sort=s)&&!p.lex
def sortsThat (d:Df) (f:Nm→Bool):List Nm:=(srt d.prods).filter f
def consOf (p:Pr):Nm:=if p.lex then no else p.cons
def firstCons (l:List Pr) (s:Nm):Option Nat:=l.findIdx? fun p=>decide (consOf p=s∧s≠no)
def lit (s:Sy):Bool:=decide (s.kind=1)
def omit' (s:Sy):Bool:=decide (s.kind=4∨s.kind=5)
def holesL (l:List Sy):List Nat:=(List.range l.length).filter fun i=>!lit l[i]!
def leadsN (p:Pr):List Nm:=(p.syms.map (·.name)).filter fun s=>decide (s≠no)
def needed (p:Pr):List Sy:=p.syms.filter fun s=>!omit' s
def bareL (p:Pr):List Nm:=match needed p with
 | [s]=>if s.name≠no∧(s.kind=3∨s.kind=6) then [s.name] else []
 | _=>[]
def Step (l:List Pr) (L:Pr→List Nm) (a b:Nm):Prop:=∃p∈l,p.sort=a∧b∈L p
inductive Far (l:List Pr) (L:Pr→List Nm):Nm→Nm→Prop
 | one {a b:Nm}:Step l L a b→Far l L a b
 | more {a b c:Nm}:Far l L a b→Step l L b c→Far l L a c
open Classical in
noncomputable def farB (l:List Pr) (L:Pr→List Nm) (a b:Nm):Bool:=decide (Far l L a b)
theorem farB_iff {l:List Pr} {L:Pr→List Nm} {a b:Nm}:farB l L a b=true↔Far l L a b:=by simp[farB]
theorem Far.head {l:List Pr} {L:Pr→List Nm} {a b c:Nm} (h:Step l L a b) (g:Far l L b c):Far l L a c:=by
 induction g with
 | one g=>exact .more (.one h) g
 | more _ g ih=>exact .more ih g
theorem Far.trans {l:List Pr} {L:Pr→List Nm} {a b c:Nm} (h:Far l L a b) (g:Far l L b c):Far l L a c:=by
 induction g with
 | one g=>exact .more h g
 | more _ g ih=>exact .more ih g
theorem Far.mem {l:List Pr} {L:Pr→List Nm} {a b:Nm} (S:Nm→Prop) (h:Far l L a b) (h0:∀x,Step l L a x→S x) (h1:∀x y,S x→Step l L x y→S y):S b:=by
 induction h with
 | one h=>exact h0 _ h
 | more _ h ih=>exact h1 _ _ ih h
noncomputable def usesB (d:Df) (a b:Nm):Bool:=farB d.prods leadsN a b
noncomputable def cycB (d:Df) (a:Nm):Bool:=farB d.prods bareL a a
-- the lines
def namesAll (d:Df):List Nm:=d.prods.flatMap leadsN++d.follows.map (·.sort)++d.rejects.flatMap fun r=>[r.sort,r.by']
def kindBad (d:Df) (p:Pr):Bool:=if p.lex then p.syms.any fun s=>decide (s.name≠no∧lexd d.prods s.name=false∨s.sep≠no) else p.syms.any fun s=>decide (¬s.kind=1∧(s.name=no∨s.name=d.layout))
def brOK (p:Pr):Bool:=match holesL p.syms with
 | [i]=>decide ((p.syms[i]!).kind=3∧(p.syms[i]!).name=p.sort∧0<i∧i+1<p.syms.length)
 | _=>false
def omitN (p:Pr):Nat:=(p.syms.filter omit').length
def litBytes (p:Pr):Nat:=((p.syms.filter lit).map fun s=>s.text.size).sum
def sizeP (d:Df) (p:Pr):Nat:=(holesL p.syms).length+litBytes p+if p.lex=false∧d.layout≠no then p.syms.length-1 else 0
def longBad (d:Df) (p:Pr):Bool:=decide (4<omitN p∨80<sizeP d p)
def nullBad (p:Pr):Bool:=decide (omitN p=p.syms.length)||p.syms.any fun s=>decide (s.kind=1∧s.text=no)
def said (d:Df) (s:Nm):Bool:=d.rejects.any (fun r=>decide (r.sort=s))||d.follows.any fun f=>decide (f.sort=s)
open Classical in
noncomputable def meets (d:Df) (s:Nm):Bool:=said d s||decide (∃x,usesB d s x=true∧said d x=true)
noncomputable def rejBad (d:Df) (b:List Re) (r:Re):Bool:=!lexd d.prods r.sort||!lexd d.prods r.by'||decide (r.sort=r.by')||b.any (fun q=>decide (q.sort=r.sort))||meets d r.by'
def firstWith {α:Type} (f:List α→α→Bool):List α→List α→Option α
 | _,[]=>none
 | b,x::l=>if f b x then some x else firstWith f (b++[x]) l
def isCons (d:Df) (s:Nm):Bool:=(firstCons d.prods s).isSome
def chainBad (d:Df) (c:List Gr):Option Nm:=firstWith (fun b s=>decide (s∈b)||!isCons d s) [] (c.flatMap (·.cons))
def prioBad (d:Df):Option Nm:=d.chains.findSome? (chainBad d)
mutual
def farIt:It→Bool
 | .mk k _ n l=>decide (k=5∧40<n)||farIts l
def farIts:List It→Bool
 | []=>false
 | i::l=>farIt i||farIts l
end
mutual
def lvIt:It→List (Int×Nm×Int)
 | .mk k t n l=>(if k=1∨k=2 then [(k,t,n)] else [])++lvIts l
def lvIts:List It→List (Int×Nm×Int)
 | []=>[]
 | i::l=>lvIt i++lvIts l
end
def symLv:Nat→List Sy→List (Int×Nm×Int)
 | _,[]=>[]
 | h,s::l=>if s.kind=1 then (1,s.text,0)::symLv h l else (2,no,((h+1:Nat):Int))::symLv (h+1) l
def fitsB (b:Bo) (p:Pr):Bool:=!farIts b.items&&decide (lvIts b.items=symLv 0 p.syms)
def boxBad (d:Df) (b:List Bo) (x:Bo):Bool:=b.any (fun y=>decide (y.cons=x.cons))||match firstCons d.prods x.cons with
 | none=>true
 | some i=>match d.prods[i]? with
  | some p=>!fitsB x p
  | none=>true
def consBad (l:List Pr):Option Nm:=(firstWith (fun b p=>decide (consOf p≠no)&&b.any fun q=>decide (consOf q=consOf p)) [] l).map (·.cons)
def tell (c:Int) (o:Option Nm):Option (Int×Nm):=o.map fun s=>(c,s)
noncomputable def line (d:Df):Nat→Option (Int×Nm)
 | 0=>tell 42 ((srt d.prods).find? fun s=>lexd d.prods s&&plnd d.prods s)
 | 1=>if decide (d.start∈srt d.prods)=false∨lexd d.prods d.start=true then some (40,d.start) else none
 | 2=>if d.layout≠no∧lexd d.prods d.layout=false then some (41,d.layout) else none
 | 3=>tell 43 ((namesAll d).find? fun s=>decide (s∉srt d.prods))
 | 4=>tell 44 ((d.prods.find? (kindBad d)).map (·.sort))
 | 5=>tell 45 (consBad d.prods)
 | 6=>tell 46 ((d.prods.find? fun p=>p.bracket&&!brOK p).map (·.sort))
 | 7=>tell 2 ((d.prods.find? (longBad d)).map (·.sort))
 | 8=>tell 47 ((d.prods.find? nullBad).map (·.sort))
 | 9=>tell 48 ((srt d.prods).find? (cycB d))
 | 10=>tell 49 ((firstWith (rejBad d) [] d.rejects).map (·.sort))
 | 11=>tell 50 (prioBad d)
 | 12=>tell 51 ((d.follows.find? fun f=>f.set.same .zero).map (·.sort))
 | 13=>tell 52 ((firstWith (boxBad d) [] d.boxes).map (·.cons))
 | _=>none
noncomputable def lines (d:Df) (k:Nat):Option (Int×Nm):=(List.range k).findSome? (line d)
noncomputable def chk (d:Df) (r:Bool):Int×Nm:=if r then (lines d 14).getD (0,no) else (3,no)
end Go.Proofs.YtilpgpcgcpedjaaGreat
