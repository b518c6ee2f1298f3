/- What Within, Minus and Range answer, at every input and in every memory: each call returns, and turns nothing that was there. What the signs of a set's bytes are: isPlain, escape.Write at the signs of sets, and sign, at every byte. Going through a set's bytes: the iterator that All hands back tells the set's bytes, rising, to whatever loop goes over it. What the document's own answers for sets compute: a byte asked for, a byte more, a list, a range, at every input and in every memory. The document's own answers Of and Range: the sets that they build byte by byte. Contracts of the library's shelf, laid at this program. A strings.Builder that the call itself holds: what writing a byte and a string does to it, and to nothing else but rows of bytes. A block of memory that holds just these cells, and how it stays as it is. A region's moves, put shortly. -/
import Derived.Test.YtcpakcffiopfjaaGreatDoorProg
import Derived.Test.YtcpakcffiopfjaaGreatDoorA0
import Derived.Deep.RegionHeld3
import Derived.RegionTactic
import Derived.ChangeAlike
import Derived.Deep.DrawnRows
import Derived.Deep.RegionWith
import Derived.BigRegion
import Derived.Lib.Bytealg
import Derived.BigQuiet
import Derived.RangeFuncNested
import Derived.RangeFuncBound
import Derived.RangeFuncCalls
import Derived.RangeFuncLeaves
import Derived.RangeFuncBox
import Derived.Shelf.Abstract
import Derived.Shelf.RegionOpen
import Derived.WalkKit
import Derived.OwnWalkIn
import Derived.TacticsInMore
import Derived.LoopNIn
import Derived.LoopIn
import Derived.Maps.AppendAt
import Derived.Shelf.Strings.Builder1
import Derived.Shelf.Strconv.Clone
import Derived.Shelf.Strings.Prefix
import Derived.Shelf.Strings.Search1
import Derived.Shelf.Strings.Search2
import Derived.Shelf.Strings.Search3
import Derived.Shelf.Small.Strs
import Derived.Shelf.LaysM
import Derived.WalkSpells
import Derived.WalkLawsBesides
import Derived.Lib.Builder
import Derived.Lib.AppendStr
import Derived.Lib.UnsafeStr
import Derived.Lib.OthersKept
import Derived.Lib.VarintMem
import Derived.Laws.Externs
import Derived.Deep.AppendSrc
namespace Go.Proofs.YtcpakcffiopfjaaGreatDoor
open Go.RowKit
set_option linter.unusedVariables false
set_option linter.unusedSimpArgs false
set_option maxRecDepth 100000
set_option maxHeartbeats 16000000
set_option linter.unusedVariables false
set_option linter.unusedSimpArgs false
set_option maxRecDepth 100000
set_option maxHeartbeats 16000000
section
theorem setCell_drewN (w:World) (n:Nat) (a:Addr) (v:Value):(w.drewN n).setCell a v=(w.setCell a v).drewN n:=rfl
theorem below_of {w W w2:World} (h:Below w.heap.size w W) (hb:Below W.heap.size W w2):Below w.heap.size w w2:=h.trans (hb.mono h.size)
attribute [local go_sem] setCell_drewN
def rng (lo:Nat):Nat→St
 | 0=>St.zero
 | k+1=>(rng lo k).add (lo+k)
theorem rng_ok (lo:Nat):∀k,(rng lo k).ok
 | 0=>St.zero_ok
 | k+1=>St.add_ok (rng_ok lo k) _
theorem range_any (lo hi:Nat) (w:World) (h1:hi≤255) (h2:lo≤hi) :
  Calls Tryz.prog 220 #[.int .i64 lo,.int .i64 hi] w fun e w'=>e=.returned (.tuple #[.agg #[.int .u64 (rng lo (hi+1-lo)).a,.int .u64 (rng lo (hi+1-lo)).b,.int .u64 (rng lo (hi+1-lo)).c,.int .u64 (rng lo (hi+1-lo)).d],.int .i64 0])∧Below w.heap.size w w':=by
 have g1:decide ((lo:Int)<0)=false:=by simp
 have g2:decide ((255:Int)<(hi:Int))=false:=by simp;omega
 have g3:decide ((hi:Int)<(lo:Int))=false:=by simp;omega
 go_enter Tryz.func220,Tryz.ntmps220
 go_wp2
 go_loopw[7] (fun i wr=>∃(k:Nat) (t:St) (nq:Nat),lo+k≤hi+1∧i=.int .i64 (lo+k:Nat)∧t=rng lo k∧wr=((w.alloc (.cells #[.int .u64 0,.int .u64 0,.int .u64 0,.int .u64 0] 49)).alloc (.cells #[.int .u64 t.a,.int .u64 t.b,.int .u64 t.c,.int .u64 t.d] 49)).drewN nq) (fun i _=>hi+1-(intOf i).toNat)
 case atStart=>exact⟨0,St.zero,0,by omega,rfl,rfl,rfl⟩
 case round=>
  obtain⟨k,t,nq,hk,rfl,ht,rfl⟩:=hrel
  have hok:t.ok:=by rw[ht];exact rng_ok lo k
  by_cases hlt:lo+k≤hi
  ·have HT:Hid (t.add (lo+k)=rng lo (k+1)):=by show _=_;rw[ht];rfl
   clear ht
   have HV:Hid (lo+k+1=lo+(k+1)):=by show _=_;omega
   generalize lo+k=v at *
   have hq:v/64=0∨v/64=1∨v/64=2∨v/64=3:=by omega
   have b0:=or_pow t.a (v%64) hok.1 (Nat.mod_lt _ (by omega))
   have b1:=or_pow t.b (v%64) hok.2.1 (Nat.mod_lt _ (by omega))
   have b2:=or_pow t.c (v%64) hok.2.2.1 (Nat.mod_lt _ (by omega))
   have b3:=or_pow t.d (v%64) hok.2.2.2 (Nat.mod_lt _ (by omega))
   rcases hq with hq | hq | hq | hq
   ·have E:Hid _:=St.add0 t v hq
    go_wp2
    go_region
    go_wp2
    exact⟨⟨k+1,t.add v,nq+1,by have:=HV.out;omega,by rw[←HV.out];go_num,HT.out,by rw[E.out]⟩,by simp[intOf];omega⟩
   ·have E:Hid _:=St.add1 t v hq
    go_wp2
    go_region
    go_wp2
    exact⟨⟨k+1,t.add v,nq+1,by have:=HV.out;omega,by rw[←HV.out];go_num,HT.out,by rw[E.out]⟩,by simp[intOf];omega⟩
   ·have E:Hid _:=St.add2 t v hq
    go_wp2
    go_region
    go_wp2
    exact⟨⟨k+1,t.add v,nq+1,by have:=HV.out;omega,by rw[←HV.out];go_num,HT.out,by rw[E.out]⟩,by simp[intOf];omega⟩
   ·have E:Hid _:=St.add3 t v hq
    go_wp2
    go_region
    go_wp2
    exact⟨⟨k+1,t.add v,nq+1,by have:=HV.out;omega,by rw[←HV.out];go_num,HT.out,by rw[E.out]⟩,by simp[intOf];omega⟩
  ·have e:hi+1-lo=k:=by omega
   subst ht
   go_wp2
   refine bodyPost_ret (v:=.tuple #[.agg #[.int .u64 (rng lo k).a,.int .u64 (rng lo k).b,.int .u64 (rng lo k).c,.int .u64 (rng lo k).d],.int .i64 0]) (by simp[results,Tryz.results220,go_sem]) rfl ⟨by rw[e],?_⟩
   exact below_drewN (((Below.refl _ _).alloc (Nat.le_refl _) _).alloc (by simp<;>omega) _) _
theorem range_bad (lo hi:Int) (w:World) (h:lo<0∨255<hi∨hi<lo) :
  Calls Tryz.prog 220 #[.int .i64 lo,.int .i64 hi] w fun e w'=>e=.returned (.tuple #[.agg #[.int .u64 0,.int .u64 0,.int .u64 0,.int .u64 0],.int .i64 10])∧Below w.heap.size w w':=by
 by_cases h1:lo<0
 ·go_enter Tryz.func220,Tryz.ntmps220
  go_wp2
  refine bodyPost_ret (v:=.tuple #[.agg #[.int .u64 0,.int .u64 0,.int .u64 0,.int .u64 0],.int .i64 10]) (by simp[results,Tryz.results220,go_sem]) rfl ⟨rfl,?_⟩
  exact (Below.refl _ _).alloc (Nat.le_refl _) _
 ·by_cases h2:255<hi
  ·have g1:decide (lo<0)=false:=by simp;omega
   go_enter Tryz.func220,Tryz.ntmps220
   go_wp2
   refine bodyPost_ret (v:=.tuple #[.agg #[.int .u64 0,.int .u64 0,.int .u64 0,.int .u64 0],.int .i64 10]) (by simp[results,Tryz.results220,go_sem]) rfl ⟨rfl,?_⟩
   exact (Below.refl _ _).alloc (Nat.le_refl _) _
  ·have h3:hi<lo:=by omega
   have g1:decide (lo<0)=false:=by simp;omega
   have g2:decide (255<hi)=false:=by simp;omega
   go_enter Tryz.func220,Tryz.ntmps220
   go_wp2
   refine bodyPost_ret (v:=.tuple #[.agg #[.int .u64 0,.int .u64 0,.int .u64 0,.int .u64 0],.int .i64 10]) (by simp[results,Tryz.results220,go_sem]) rfl ⟨rfl,?_⟩
   exact (Below.refl _ _).alloc (Nat.le_refl _) _
end
theorem ret_str {a b:ByteArray} (h:a=b):Ending.returned (.string a)=.returned (.string b):=by rw[h]
theorem idx_any (s:ByteArray) (n:Nat) (w:World) :
  Calls Tryz.prog 114 #[.string s,.int .u8 n] w fun e w'=>e=.returned (.int .i64 (Lib.indexByte s.data.toList n.toUInt8))∧w'=w:=by
 go_enter Tryz.func114,Tryz.ntmps114
 go_wp2
 rw[run_callFunc_extern Tryz.func192 (by kernel_rfl) (by kernel_rfl) (by kernel_rfl) (e:=Extern.BytealgIndexByte.indexByte) (by kernel_rfl),Lib.run_indexByteString]
 simp only[Result.andThen]
 rw[Oper.upon_value]
 go_wp2
 go_ret
 exact⟨rfl,rfl⟩
def plain (n:Nat):Bool:=decide (33≤n)&&decide (n≤126)&&decide (Lib.indexByte [10,9,13,32,91,93,92,45,94] n.toUInt8<0)
theorem plain_any (n:Nat) (w:World) (hn:n<256) :
  Calls Tryz.prog 119 #[.int .u8 n] w fun e w'=>e=.returned (.bool (plain n))∧w'=w:=by
 have H:Hid (plain n=(decide (33≤n)&&decide (n≤126)&&decide (Lib.indexByte [10,9,13,32,91,93,92,45,94] n.toUInt8<0))):=rfl
 by_cases h1:33≤n
 ·by_cases h2:n≤126
  ·go_enter Tryz.func119,Tryz.ntmps119
   go_wp2_with (go_at_call 114;refine (idx_any _ _ _).mono ?_;rintro e w' ⟨rfl,rfl⟩)
   go_ret
   refine⟨ret_bool ?_,rfl⟩
   rw[H.out];simp[h1,h2]
  ·go_enter Tryz.func119,Tryz.ntmps119
   go_wp2
   go_ret
   refine⟨ret_bool ?_,rfl⟩
   rw[H.out];simp[h1,h2]
 ·go_enter Tryz.func119,Tryz.ntmps119
  go_wp2
  go_ret
  refine⟨ret_bool ?_,rfl⟩
  rw[H.out];simp[h1]
theorem spec_le (n:Nat):Lib.indexByte [10,9,13,32,91,93,92,45,94] n.toUInt8<9:=by
 have:∀c:Fin 256,Lib.indexByte [10,9,13,32,91,93,92,45,94] (UInt8.ofNat c.val)<9:=by decide +kernel
 have h:=this ⟨n%256,Nat.mod_lt _ (by omega)⟩
 have e:UInt8.ofNat (n%256)=UInt8.ofNat n:=by
  apply UInt8.toNat_inj.1;simp
 simp only at h
 rw[e] at h;exact h
def hexd (k:Nat):UInt8:=if k<10 then UInt8.ofNat (48+k) else UInt8.ofNat (87+k)
def shortL (i:Nat):UInt8:=[110,116,114,115,91,93,92,45,94].getD i 0
def escL (n:Nat):List UInt8:=if Lib.indexByte [10,9,13,32,91,93,92,45,94] n.toUInt8<0 then [92,120,hexd (n/16),hexd (n%16)] else [92,shortL (Lib.indexByte [10,9,13,32,91,93,92,45,94] n.toUInt8).toNat]
theorem esc_short:∀i:Fin 9,(⟨#[92]⟩:ByteArray)++(⟨#[110,116,114,115,91,93,92,45,94]⟩:ByteArray).extract i.val (i.val+1)=⟨#[92,shortL i.val]⟩:=by decide +kernel
theorem esc_hex:∀n:Fin 256,(⟨#[92,120]⟩:ByteArray)++(⟨#[48,49,50,51,52,53,54,55,56,57,97,98,99,100,101,102]⟩:ByteArray).extract (n.val/16) (n.val/16+1)++(⟨#[48,49,50,51,52,53,54,55,56,57,97,98,99,100,101,102]⟩:ByteArray).extract (n.val%16) (n.val%16+1)=⟨#[92,120,hexd (n.val/16),hexd (n.val%16)]⟩:=by decide +kernel
theorem and15 (n:Nat) (h:n<256):bits .and .u8 (n:Int) 15=(n:Int)%16:=by
 have:=u8_and_nat n 15 h (by decide)
 rw[show ((15:Nat):Int)=15 from rfl] at this
 rw[this,nat_mask4];simp
theorem esc_any (n:Nat) (w:World) (hn:n<256) :
  Calls Tryz.prog 120 #[.int .u8 n,.string ⟨#[110,116,114,115,91,93,92,45,94]⟩,.string ⟨#[10,9,13,32,91,93,92,45,94]⟩] w fun e w'=>e=.returned (.string ⟨(escL n).toArray⟩)∧∃nq,w'=w.drewN nq:=by
 have hs:=spec_le n
 have HI:Hid (∀w,Calls Tryz.prog 114 #[.string ⟨#[10,9,13,32,91,93,92,45,94]⟩,.int .u8 n] w fun e w'=>e=.returned (.int .i64 (Lib.indexByte [10,9,13,32,91,93,92,45,94] n.toUInt8))∧w'=w):=fun w=>idx_any _ n w
 by_cases hi:0≤Lib.indexByte [10,9,13,32,91,93,92,45,94] n.toUInt8
 ·have H:Hid (escL n=[92,shortL (Lib.indexByte [10,9,13,32,91,93,92,45,94] n.toUInt8).toNat]):=by
   show _=_
   unfold escL;rw[if_neg (by omega)]
  obtain⟨i,he⟩:=Int.eq_ofNat_of_zero_le hi
  rw[he] at HI H hs
  have H2:Hid _:=esc_short ⟨i,by omega⟩
  clear he hi
  go_enter Tryz.func120,Tryz.ntmps120
  go_wp2_with (go_at_call 114;refine (HI.out _).mono ?_;rintro e w' ⟨rfl,rfl⟩)
  go_ret
  refine⟨ret_str ?_,0,rfl⟩
  rw[H.out,H2.out];simp
 ·have H:Hid (escL n=[92,120,hexd (n/16),hexd (n%16)]):=by
   show _=_
   unfold escL;rw[if_pos (by omega)]
  have H2:Hid _:=esc_hex ⟨n,hn⟩
  have q1:(0:Int)≤(n:Int)/16:=by omega
  have q2:(n:Int)/16+1≤16:=by omega
  have q3:(0:Int)≤(n:Int)%16:=by omega
  have q4:(n:Int)%16+1≤16:=by omega
  have q5:=and15 n hn
  have hi':Lib.indexByte [10,9,13,32,91,93,92,45,94] n.toUInt8<0:=by omega
  generalize Lib.indexByte [10,9,13,32,91,93,92,45,94] n.toUInt8=i at *
  go_enter Tryz.func120,Tryz.ntmps120
  go_wp2_with (go_at_call 114;refine (HI.out _).mono ?_;rintro e w' ⟨rfl,rfl⟩)
  go_quiet (fail)
  go_wp2
  go_ret
  refine⟨ret_str ?_,nq,rfl⟩
  rw[H.out,H2.out]
theorem utf_one:∀k:Fin 127,Utf8.encode (k.val:Int)=⟨#[UInt8.ofNat k.val]⟩:=by decide +kernel
def signL (n:Nat):List UInt8:=if plain n then [UInt8.ofNat n] else escL n
theorem sign_any (n:Nat) (w:World) (hn:n<256) :
  Calls Tryz.prog 65 #[.int .i64 n] w fun e w'=>e=.returned (.string ⟨(signL n).toArray⟩)∧∃nq,w'=w.drewN nq:=by
 have HP:Hid _:=fun w=>plain_any n w hn
 have HE:Hid _:=fun w=>esc_any n w hn
 cases hp:plain n with
 | false=>
  have H:Hid (signL n=escL n):=by show _=_;unfold signL;simp[hp]
  rw[hp] at HP
  go_enter Tryz.func65,Tryz.ntmps65
  go_wp2_with (first | (go_at_call 119;refine (HP.out _).mono ?_;rintro e w' ⟨rfl,rfl⟩) | (go_at_call 120;refine (HE.out _).mono ?_;rintro e w' ⟨rfl,nq,rfl⟩))
  go_ret
  exact⟨ret_str (by rw[H.out]),nq,rfl⟩
 | true=>
  have H:Hid (signL n=[UInt8.ofNat n]):=by show _=_;unfold signL;simp[hp]
  have hr:33≤n∧n≤126:=by
   unfold plain at hp;simp at hp;omega
  rw[hp] at HP
  go_enter Tryz.func65,Tryz.ntmps65
  go_wp2_with (first | (go_at_call 119;refine (HP.out _).mono ?_;rintro e w' ⟨rfl,rfl⟩))
  go_ret
  exact⟨ret_str (by rw[H.out];exact utf_one ⟨n,by omega⟩),0,rfl⟩
section
open Go.RowKit Go.Shelf
attribute [local go_sem] Oper.semAt_some
theorem has_exact (s:St) (n:Nat) (w:World) (hs:s.ok) (hn:n<256) :
  Calls Tryz.prog 169 #[.agg #[.int .u64 s.a,.int .u64 s.b,.int .u64 s.c,.int .u64 s.d],.int .u8 n] w fun e w'=>e=.returned (.bool (s.has n))∧w'=w.alloc (.cells #[.int .u64 s.a,.int .u64 s.b,.int .u64 s.c,.int .u64 s.d] 49):=by
 have hg:=s.get (n/64) (by omega)
 have hl:=s.w_lt hs (n/64)
 have H:Hid (s.has n=(s.w (n/64)).testBit (n%64)):=rfl
 generalize s.w (n/64)=x at *
 have H2:Hid ((bits .and .u64 ((x:Int)/2 ^ (n%64)) 1==1)=x.testBit (n%64)):=has_bit x _ hl
 go_enter Tryz.func169,Tryz.ntmps169
 go_wp2
 go_ret
 exact⟨ret_bool (by rw[H2.out,H.out]),rfl⟩
def upTo (s:St):Nat→List (Fin 256)
 | 0=>[]
 | k+1=>if s.has k then upTo s k++[Fin.ofNat 256 k] else upTo s k
theorem upTo_yes {s:St} {k:Nat} (h:s.has k=true):upTo s (k+1)=upTo s k++[Fin.ofNat 256 k]:=by simp[upTo,h]
theorem upTo_no {s:St} {k:Nat} (h:s.has k=false):upTo s (k+1)=upTo s k:=by simp[upTo,h]
theorem upTo_len (s:St):∀k,(upTo s k).length≤k
 | 0=>Nat.le_refl _
 | k+1=>by
  have:=upTo_len s k
  unfold upTo;split<;>simp<;>omega
def SBox (s:St) (B:Nat) (W:World):Prop:=W.heap[B]?=some (.cells #[.int .u64 s.a,.int .u64 s.b,.int .u64 s.c,.int .u64 s.d] 49 (0,0))
theorem SBox.new (s:St) (W:World):SBox s W.heap.size (W.alloc (.cells #[.int .u64 s.a,.int .u64 s.b,.int .u64 s.c,.int .u64 s.d] 49)):=World.alloc_heap_new W _
theorem SBox.lt {s:St} {B:Nat} {W:World} (h:SBox s B W):B<W.heap.size:=(Array.getElem?_eq_some_iff.1 h).1
theorem SBox.cells {s:St} {B:Nat} {W:World} (h:SBox s B W):W.cell? ⟨B,0,none⟩=some (.int .u64 s.a)∧W.cell? ⟨B,1,none⟩=some (.int .u64 s.b)∧W.cell? ⟨B,2,none⟩=some (.int .u64 s.c)∧W.cell? ⟨B,3,none⟩=some (.int .u64 s.d):=by
 refine⟨?_,?_,?_,?_⟩<;>simp[World.cell?,show W.heap[B]?=_ from h]
theorem SBox.kept {s:St} {B:Nat} {W W':World} {row:Option Nat} (h:SBox s B W) (hg:W.grownBy W' row) (hne:some B≠row):SBox s B W':=(hg.block B h.lt hne).trans h
theorem SBox.alloc {s:St} {B:Nat} {W:World} (h:SBox s B W) (o:Obj):SBox s B (W.alloc o):=h.kept (World.grownBy_alloc W o none) (by simp)
theorem SBox.own {β:Type} (s:St) (B:Nat):Own (fun (_:β) W=>SBox s B W):=by
 rintro b X Y row h hg hrow
 refine h.kept hg (fun e'=>?_)
 obtain⟨o,ho,hc⟩:=hrow B e'.symm
 rw[show X.heap[B]?=_ from h] at ho;cases ho;cases hc
theorem SBox.not_row {s:St} {B:Nat} {W:World} (h:SBox s B W) {e:TypeId} (hte:(49:TypeId)≠e) {base size k:Nat} {v:Value} {xs:List Value} (hr:W.ownsRow base e size v k xs):some B≠v.ownBlock:=by
 rcases hr.2 with ⟨rfl,_⟩ | ⟨g,cap,cur,rfl,_,hgb,_⟩
 ·simp[Value.ownBlock]
 ·intro e'
  obtain rfl:B=g:=by simpa [Value.ownBlock] using e'
  have:=(show W.heap[B]?=_ from h).symm.trans hgb
  simp at this
  exact hte this.2
theorem SBox.not_box {s:St} {B B':Nat} {W:World} (h:SBox s B W) {t:TypeId} {v:Value} (hb:Boxed W B' t v):B≠B':=by
 intro e;subst e
 have:=(show W.heap[B]?=_ from h).symm.trans hb
 simp at this
def KeepB (s:St) (n₀ B:Nat) (W W':World):Prop:=Below n₀ W W'∧(SBox s B W→SBox s B W')
theorem keepB_t {s:St} {n₀ B:Nat} {X Y Z:World} (h:KeepB s n₀ B X Y) (k:KeepB s n₀ B Y Z):KeepB s n₀ B X Z:=⟨h.1.trans k.1,fun q=>k.2 (h.2 q)⟩
theorem keepB_b {s:St} {n₀ B:Nat} {w:World} (hn:n₀≤w.heap.size) (W:World) (l:Nat) (o o':Obj) (hl:w.heap.size≤l) (h:W.heap[l]?=some o) (hc:o.isCells=false) (hw:o.isWalk=false):KeepB s n₀ B W (W.putObj l o'):=
 ⟨belowK_b hn W l o o' hl h hc hw,fun q=>q.kept (grownBy_putObj' W l o') (fun e=>by
  cases e
  rw[show W.heap[B]?=_ from q] at h;cases h;cases hc)⟩
theorem all1_in (n:Nat) (hn:1≤n) (l Bs n₀:Nat) (s:St) (hs:s.ok) (J Jx:List (Fin 256)→World→Prop) (W:World) (hn₀:n₀≤W.heap.size) (hJ:AbidesFrom W.heap.size J)
  (hY:∀pre x W1,J pre W1→pre.length<256→YieldAt Fence.wide (n-1) Tryz.prog l #[.int .u8 (x.val:Int)] W1 fun e W'=>
   (e=.returned (.bool true)∧J (pre++[x]) W'∧KeepB s n₀ Bs W1 W')∨(e=.returned (.bool false)∧Jx (pre++[x]) W'))
  (hbox:SBox s Bs W) (h0:J [] W) :
  CallsIn Fence.wide n Tryz.prog 168 #[.func (.yield l) #[] #[],.pointer (some ⟨Bs,0,none⟩)] W fun e W'=>(∃v,e=.returned v) ∧
   ((∃ys,ys=upTo s 256∧J ys W')∨(∃pre,(∃k,k≤256∧pre=upTo s k)∧Jx pre W')):=by
 refine callsIn_of_wp Tryz.func168 rfl trivial ?_ rfl
 simp only[Tryz.ntmps168,List.size_toArray,List.length_cons,List.length_nil,Nat.reduceAdd,Nat.reduceSub,Array.replicate_succ,Array.replicate_zero,List.push_toArray,List.append_toArray,List.nil_append,List.cons_append]
 gi_wp2
 gi_loopw [4] (fun i wr=>∃k:Nat,k≤256∧i=.int .i64 k∧J (upTo s k) wr∧SBox s Bs wr∧n₀≤wr.heap.size)
  (fun i _=>256-(intOf i).toNat)
 case atStart=>exact⟨0,Nat.zero_le _,rfl,h0,hbox,hn₀⟩
 case round=>
  obtain⟨k,hk,rfl,hJs,hbx,hsz⟩:=hrel
  obtain⟨e0,e1,e2,e3⟩:=hbx.cells
  by_cases hlt:k<256
  ·have hJ2:J (upTo s k) (wr.alloc (.cells #[.int .u64 s.a,.int .u64 s.b,.int .u64 s.c,.int .u64 s.d] 49)):=hJ _ _ _ none hJs (World.grownBy_alloc _ _ none) (by simp)
   have hb2:=hbx.alloc (.cells #[.int .u64 s.a,.int .u64 s.b,.int .u64 s.c,.int .u64 s.d] 49)
   have hval:(Fin.ofNat 256 k).val=k:=by simp[Fin.ofNat];omega
   obtain⟨fn,tmps,assign,body,hy,hR⟩:=hY _ (Fin.ofNat 256 k) _ hJ2 (by have:=upTo_len s k;omega)
   rw[hval] at hy
   have HH:Hid _:=fun w=>has_exact s k w hs hlt
   cases hh:s.has k with
   | true=>
    rw[hh] at HH
    have EY:Hid _:=upTo_yes hh
    clear hh
    gi_wp2_with (refine⟨trivial,?_⟩;gi_at_call 169;refine (callsIn_wide.2 (HH.out _)).mono ?_;rintro e w' ⟨rfl,rfl⟩)
    refine hR.mono ?_
    rintro e W3 (⟨rfl,hJ3,hk3⟩ | ⟨rfl,hJx3⟩)
    ·gi_wp2
     go_roundw
     case rel=>exact⟨k+1,by omega,by simp,by rw[EY.out];exact hJ3,hk3.2 hb2,by have:=hk3.1.size;simp at this;omega⟩
     case measure=>simp[intOf];omega
    ·gi_wp2
     refine bodyPost_ret (results_none rfl _ _ _) rfl ?_
     exact⟨⟨_,rfl⟩,.inr ⟨_,⟨k+1,by omega,EY.out.symm⟩,hJx3⟩⟩
   | false=>
    rw[hh] at HH
    have EY:Hid _:=upTo_no hh
    clear hh hy hR
    gi_wp2_with (refine⟨trivial,?_⟩;gi_at_call 169;refine (callsIn_wide.2 (HH.out _)).mono ?_;rintro e w' ⟨rfl,rfl⟩)
    refine⟨fun _ h=>(by cases h),?_⟩
    gi_wp2
    go_roundw
    case rel=>exact⟨k+1,by omega,by simp,by rw[EY.out];exact hJ2,hb2,by simp;omega⟩
    case measure=>simp[intOf];omega
  ·obtain rfl:k=256:=by omega
   gi_wp2
   go_end0
   exact⟨⟨_,rfl⟩,.inl ⟨_,rfl,hJs⟩⟩
theorem all_any (s:St) (w:World) :
  Calls Tryz.prog 118 #[.agg #[.int .u64 s.a,.int .u64 s.b,.int .u64 s.c,.int .u64 s.d]] w fun e w'=>e=.returned (.func (.func 168) #[] #[.pointer (some ⟨w.heap.size,0,none⟩)])∧w'=w.alloc (.cells #[.int .u64 s.a,.int .u64 s.b,.int .u64 s.c,.int .u64 s.d] 49):=by
 go_enter Tryz.func118,Tryz.ntmps118
 go_wp2
 go_ret
 exact⟨rfl,rfl⟩
theorem all_stops (n:Nat) (hn:1≤n) (Bs n₀:Nat) (s:St) (hs:s.ok) (w:World) (hn₀:n₀≤w.heap.size) (hc:SBox s Bs w) :
  SeqStopsK Fence.wide n Tryz.prog 168 #[.pointer (some ⟨Bs,0,none⟩)] (fun x:Fin 256=>#[Value.int .u8 (x.val:Int)]) (KeepB s n₀ Bs) (fun ys=>ys=upTo s 256) (fun pre=>∃k,k≤256∧pre=upTo s k) 256 w:=fun l J Jx W hW hJ _ hY h0=>
 all1_in n hn l Bs n₀ s hs J Jx W (Nat.le_trans hn₀ hW.size) hJ hY ((hW.block Bs hc.lt).trans hc) h0
end

theorem heap_set {W:World} {B i:Nat} {c:Array Value} {t:TypeId} {fz:Nat×Nat} (v:Value) (h:W.heap[B]?=some (.cells c t fz)):(W.setCell ⟨B,i,none⟩ v).heap[B]?=some (.cells (c.setIfInBounds i v) t fz):=by
 obtain⟨hlt,hk⟩:=Array.getElem?_eq_some_iff.1 h
 show (W.heap.modify B _)[B]?=_
 rw[Array.getElem?_eq_getElem (by rw[Array.size_modify];exact hlt),Array.getElem_modify_self,hk]
 rfl
theorem SBox.store {s:St} {B:Nat} {W:World} (t:St) (h:SBox s B W):SBox t B ((((W.setCell ⟨B,0,none⟩ (.int .u64 t.a)).setCell ⟨B,1,none⟩ (.int .u64 t.b)).setCell ⟨B,2,none⟩ (.int .u64 t.c)).setCell ⟨B,3,none⟩ (.int .u64 t.d)):=by
 have:=heap_set (i:=3) (.int .u64 t.d) (heap_set (i:=2) (.int .u64 t.c) (heap_set (i:=1) (.int .u64 t.b) (heap_set (i:=0) (.int .u64 t.a) h)))
 exact this
theorem SBox.below {s:St} {B:Nat} {W W':World} (h:SBox s B W) (hb:Below W.heap.size W W'):SBox s B W':=(hb.block B h.lt).trans h
theorem SBox.frozen {s:St} {B:Nat} {W:World} (h:SBox s B W):∀o,W.frozen? ⟨B,o,none⟩=false:=fun o=>by simp[World.frozen?,show W.heap[B]?=_ from h]
theorem SBox.zero (W:World):SBox St.zero W.heap.size (W.alloc (.cells #[.int .u64 0,.int .u64 0,.int .u64 0,.int .u64 0] 49)):=World.alloc_heap_new W _
section
open Go.Shelf Go.RowKit Go.Lib
def lays169_ren:Go.Shelf.Ren:=⟨fun | 169=>61 | n=>n,fun | 70=>108 | 9=>9 | 0=>0 | 72=>110 | 37=>67 | 127=>159 | 3=>3 | 5=>5 | n=>n,fun | n=>n⟩
theorem lays169:Go.Proofs.Lays.n169 Tryz.prog lays169_ren:={
 mixed:=by kernel_rfl
 f169:=Tryz.func61.trans (congrArg some (by kernel_rfl))
 t0:=Tryz.underlying0
 a0:=Tryz.isAgg0
 z0:=Tryz.sizeOf0
 v0:=Tryz.zeroValue0
 t3:=Tryz.underlying3
 a3:=Tryz.isAgg3
 z3:=Tryz.sizeOf3
 v3:=Tryz.zeroValue3
 t9:=Tryz.underlying9
 a9:=Tryz.isAgg9
 z9:=Tryz.sizeOf9
 v9:=Tryz.zeroValue9
 t37:=Tryz.underlying67
 a37:=Tryz.isAgg67
 z37:=Tryz.sizeOf67
 v37:=Tryz.zeroValue67
 t70:=Tryz.underlying108
 a70:=Tryz.isAgg108
 z70:=Tryz.sizeOf108
 v70:=Tryz.zeroValue108
 t72:=Tryz.underlying110
 a72:=Tryz.isAgg110
 z72:=Tryz.sizeOf110
 v72:=Tryz.zeroValue110
 t127:=Tryz.underlying159
 a127:=Tryz.isAgg159
 z127:=Tryz.sizeOf159
 v127:=Tryz.zeroValue159 }
theorem extra169:Builder.Extra Tryz.prog lays169_ren:={
 sizeBuilder:=by kernel_rfl
 liesBuilder:=by kernel_rfl
 t5:=Tryz.underlying5
 a5:=Tryz.isAgg5
 z5:=Tryz.sizeOf5
 v5:=Tryz.zeroValue5
 infoByte:=by kernel_rfl
 cellsByte:=by kernel_rfl
 sizeByte:=by kernel_rfl
 neB5:=by decide }
def laysM316_ren:Go.Shelf.Ren:=⟨fun | 316=>193 | n=>n,fun | 9=>9 | 3=>3 | 4=>4 | 37=>67 | 0=>0 | 127=>159 | 5=>5 | n=>n,fun | n=>n⟩
theorem laysM316:Go.Proofs.LaysM.n316 Tryz.prog laysM316_ren:={
 mixed:=by kernel_rfl
 f316:=Tryz.func193.trans (congrArg some (by kernel_rfl))
 t0:=Tryz.underlying0
 a0:=Tryz.isAgg0
 z0:=Tryz.sizeOf0
 v0:=Tryz.zeroValue0
 t3:=Tryz.underlying3
 a3:=Tryz.isAgg3
 z3:=Tryz.sizeOf3
 v3:=Tryz.zeroValue3
 t4:=Tryz.underlying4
 a4:=Tryz.isAgg4
 z4:=Tryz.sizeOf4
 v4:=Tryz.zeroValue4
 t9:=Tryz.underlying9
 a9:=Tryz.isAgg9
 z9:=Tryz.sizeOf9
 v9:=Tryz.zeroValue9
 t37:=Tryz.underlying67
 a37:=Tryz.isAgg67
 z37:=Tryz.sizeOf67
 v37:=Tryz.zeroValue67
 t127:=Tryz.underlying159
 a127:=Tryz.isAgg159
 z127:=Tryz.sizeOf159
 v127:=Tryz.zeroValue159
 t5:=Tryz.underlying5
 a5:=Tryz.isAgg5
 z5:=Tryz.sizeOf5
 v5:=Tryz.zeroValue5
 i0:=by kernel_rfl
 i3:=by kernel_rfl
 i4:=by kernel_rfl
 i5:=by kernel_rfl
 i9:=by kernel_rfl
 i37:=by kernel_rfl
 i127:=by kernel_rfl }
def lays99_ren:Go.Shelf.Ren:=⟨fun | 99=>189 | 206=>205 | n=>n,fun | 9=>9 | 4=>4 | 3=>3 | n=>n,fun | n=>n⟩
theorem lays99:Go.Proofs.Lays.n99 Tryz.prog lays99_ren:={
 mixed:=by kernel_rfl
 f99:=Tryz.func189.trans (congrArg some (by kernel_rfl))
 f206:=Tryz.func205.trans (congrArg some (by kernel_rfl))
 t3:=Tryz.underlying3
 a3:=Tryz.isAgg3
 z3:=Tryz.sizeOf3
 v3:=Tryz.zeroValue3
 t4:=Tryz.underlying4
 a4:=Tryz.isAgg4
 z4:=Tryz.sizeOf4
 v4:=Tryz.zeroValue4
 t9:=Tryz.underlying9
 a9:=Tryz.isAgg9
 z9:=Tryz.sizeOf9
 v9:=Tryz.zeroValue9 }
def lays144_ren:Go.Shelf.Ren:=⟨fun | 144=>170 | 143=>194 | 219=>208 | 217=>165 | 225=>221 | 224=>222 | 267=>223 | 266=>192 | 314=>229 | n=>n,fun | 9=>9 | 4=>4 | 3=>3 | 5=>5 | 46=>188 | 146=>230 | 51=>227 | n=>n,fun | 1=>0 | n=>n⟩
theorem lays144:Go.Proofs.Lays.n144 Tryz.prog lays144_ren:={
 mixed:=by kernel_rfl
 f143:=Tryz.func194.trans (congrArg some (by kernel_rfl))
 f144:=Tryz.func170.trans (congrArg some (by kernel_rfl))
 f217:=Tryz.func165.trans (congrArg some (by kernel_rfl))
 f219:=Tryz.func208.trans (congrArg some (by kernel_rfl))
 f224:=Tryz.func222.trans (congrArg some (by kernel_rfl))
 f225:=Tryz.func221.trans (congrArg some (by kernel_rfl))
 f266:=Tryz.func192.trans (congrArg some (by kernel_rfl))
 f267:=Tryz.func223.trans (congrArg some (by kernel_rfl))
 f314:=Tryz.func229.trans (congrArg some (by kernel_rfl))
 t3:=Tryz.underlying3
 a3:=Tryz.isAgg3
 z3:=Tryz.sizeOf3
 v3:=Tryz.zeroValue3
 t4:=Tryz.underlying4
 a4:=Tryz.isAgg4
 z4:=Tryz.sizeOf4
 v4:=Tryz.zeroValue4
 t5:=Tryz.underlying5
 a5:=Tryz.isAgg5
 z5:=Tryz.sizeOf5
 v5:=Tryz.zeroValue5
 t9:=Tryz.underlying9
 a9:=Tryz.isAgg9
 z9:=Tryz.sizeOf9
 v9:=Tryz.zeroValue9
 t46:=Tryz.underlying188
 a46:=Tryz.isAgg188
 z46:=Tryz.sizeOf188
 v46:=Tryz.zeroValue188
 t51:=Tryz.underlying227
 a51:=Tryz.isAgg227
 z51:=Tryz.sizeOf227
 v51:=Tryz.zeroValue227
 t146:=Tryz.underlying230
 a146:=Tryz.isAgg230
 z146:=Tryz.sizeOf230
 v146:=Tryz.zeroValue230
 g1:=by kernel_rfl }
theorem string_any (B b:Nat) (l:List UInt8) (w:World) (h:Lib.IsBuilder 110 5 B b (Lib.byteCells l) w) (h0:l≠[]) :
  Calls Tryz.prog 61 #[.pointer (some ⟨b,0,none⟩)] w fun e w'=>e=.returned (.string ⟨l.toArray⟩)∧Below B w w':=Any.Builder_String lays169 extra169 B b l w h h0
theorem sclone_any (s:ByteArray) (w:World) (hlim:s.size≤281474976710656) :
  Calls Tryz.prog 193 #[.string s] w fun e w'=>e=.returned (.string s)∧Below w.heap.size w w':=Any.stringslite_Clone laysM316 s w hlim
theorem prefix_any (s p:ByteArray) (w:World) :
  Calls Tryz.prog 189 #[.string s,.string p] w fun e w'=>e=.returned (.bool (Lib.hasPrefix s.data.toList p.data.toList))∧w'=w:=Any.strings_HasPrefix lays99 s p w
theorem contains_any (s:ByteArray) (c:UInt8) (w:World) :
  Calls Tryz.prog 170 #[.string s,.string ⟨#[c]⟩] w fun e w'=>e=.returned (.bool (decide (0≤Lib.indexByte s.data.toList c)))∧w'=w:=Any.strings_Contains_one lays144 s c w
end
theorem info5:(Tryz.prog.info? 5).map (fun i=>(i.zero,i.size,i.bytes))=some (some (.int .u8 0),1,1):=by kernel_rfl
theorem sz61:(Tryz.prog.info? 110).map (·.size)=some 2:=by kernel_rfl
theorem lies61:liesAt Tryz.prog Tryz.prog.depth 110 (2/Tryz.prog.cellsOf 110) 0 110 1=true:=by kernel_rfl
theorem copy_fresh (b:Nat) (w:World) (h0:w.cell? ⟨b,0,none⟩=some (.pointer none)) (hsh:w.shape? b=some (110,2)) (hf:w.frozen? ⟨b,0,none⟩=false) :
  Calls Tryz.prog 116 #[.pointer (some ⟨b,0,none⟩)] w fun e w'=>e=.returned (.tuple #[])∧w'=w.setCell ⟨b,0,none⟩ (.pointer (some ⟨b,0,none⟩)):=by
 obtain⟨j,hj,hjs⟩:=Option.map_eq_some_iff.1 sz61
 go_enter Tryz.func116,Tryz.ntmps116
 go_wp2
 rw[Lib.run_to_unsafe w ⟨b,0,none⟩ Tryz.underlying108 Tryz.underlying185 hj (by rw[hjs];decide) hsh (Nat.zero_lt_succ 1)]
 simp only[Result.andThen]
 rw[Oper.upon_value]
 go_wp2
 rw[run_callFunc_extern Tryz.func167 (by kernel_rfl) (by kernel_rfl) (by kernel_rfl) (e:=Extern.AbiNoEscape.same) (by kernel_rfl),Lib.run_noEscape]
 simp only[Result.andThen]
 rw[Oper.upon_value]
 go_wp2
 rw[Lib.run_from_unsafe w ⟨b,0,none⟩ Tryz.underlying185 Tryz.underlying108 hj hsh lies61]
 simp only[Result.andThen]
 rw[Oper.upon_value]
 go_wp2
 go_end0
 exact⟨rfl,rfl⟩
theorem copy_used (b:Nat) (w:World) (h0:w.cell? ⟨b,0,none⟩=some (.pointer (some ⟨b,0,none⟩))) :
  Calls Tryz.prog 116 #[.pointer (some ⟨b,0,none⟩)] w fun e w'=>e=.returned (.tuple #[])∧w'=w:=by
 obtain⟨j,hj,_⟩:=Option.map_eq_some_iff.1 sz61
 go_enter Tryz.func116,Tryz.ntmps116
 go_wp2
 rw[Lib.run_neq_ptr_same w _ Tryz.underlying108 hj]
 go_wp2
 go_end0
 exact⟨rfl,rfl⟩
def BL (B b:Nat) (l:List UInt8) (w:World):Prop:=Lib.IsBuilder 110 5 B b (Lib.byteCells l) w
theorem copy_any (B b:Nat) (l:List UInt8) (w:World) (h:BL B b l w) :
  Calls Tryz.prog 116 #[.pointer (some ⟨b,0,none⟩)] w fun e w'=>e=.returned (.tuple #[])∧Lib.BuilderAt 110 5 B b (.pointer (some ⟨b,0,none⟩)) (Lib.byteCells l) w'∧Below B w w'∧Lib.OthersKept 5 (some b) w w':=by
 rcases h with h | h
 ·refine (copy_fresh b w h.cell0 h.shape h.frozen0).mono ?_
  rintro e w' ⟨rfl,rfl⟩
  exact⟨rfl,h.used _,(Below.refl B w).setCell (p:=⟨b,0,none⟩) h.1 _,(Lib.OthersKept.refl _ _ w).setCell ⟨b,0,none⟩ rfl _⟩
 ·refine (copy_used b w h.cell0).mono ?_
  rintro e w' ⟨rfl,rfl⟩
  exact⟨rfl,h,Below.refl B _,Lib.OthersKept.refl _ _ _⟩
theorem row_kind {w:World} {B:Nat} {e:TypeId} {v:Value} {n:Nat} {xs:List Value} (h:w.ownsRow B e 1 v n xs):∀g,v.ownBlock=some g→∃c fz,w.heap[g]?=some (.cells c e fz):=by
 intro g hg
 rcases h.2 with ⟨rfl,_⟩ | ⟨g',cap,cur,rfl,_,hgb,_⟩
 ·simp[Value.ownBlock] at hg
 ·obtain rfl:g'=g:=by simpa [Value.ownBlock] using hg
  exact⟨_,_,hgb⟩
theorem heap_lt {w:World} {b:Nat} {o:Obj} (h:w.heap[b]?=some o):b<w.heap.size:=(Array.getElem?_eq_some_iff.1 h).1
theorem wbyte_any (B b:Nat) (l:List UInt8) (c:Nat) (w:World) (hc:c<256) (h:BL B b l w) (hlen:l.length+1≤140737488355328) (hBw:B≤w.heap.size) :
  Calls Tryz.prog 59 #[.pointer (some ⟨b,0,none⟩),.int .u8 c] w fun e w'=>e=.returned .nilIface∧BL B b (l++[UInt8.ofNat c]) w'∧Below B w w'∧Lib.OthersKept 5 (some b) w w':=by
 obtain⟨i0,hi,hz0,hz1,hz2⟩:=info_parts info5
 have hbl:(Lib.byteCells l).length≤l.length:=Nat.le_of_eq (Lib.byteCells_length l)
 have hsn:Lib.byteCells (l++[UInt8.ofNat c])=Lib.byteCells l++[.int .u8 (c:Int)]:=Lib.byteCells_snoc l hc
 have HS:=hHi hsn
 have HC:=hU (copy_any B b l w h)
 clear hsn
 unfold BL at *
 generalize Lib.byteCells l=bs at *
 go_enter Tryz.func59,Tryz.ntmps59
 go_wp2_with (go_at_call 116;refine hMo HC ?_)
 rintro e w1 ⟨rfl,h1,hb1,hk1⟩
 obtain⟨hB,v,hbk,hown,hne⟩:=h1
 have c0:w1.cell? ⟨b,0,none⟩=some (.pointer (some ⟨b,0,none⟩)):=by rw[Lib.cell_of_heap hbk];rfl
 have c1:w1.cell? ⟨b,1,none⟩=some v:=by rw[Lib.cell_of_heap hbk];rfl
 go_wp2_with (at_builtin;refine wpList_append_own _ rfl _ _ 67 rfl B 5 i0 (.int .u8 0) 1 1 Tryz.underlying67 hi hz0 hz1 hz2 rfl (by decide) _ _ _ rfl (hown.alloc _) ⟨w1.heap.size,0,none⟩ 1 1 [.int .u8 c] rfl rfl ?c1 ?c2 ?c3 ?c4 ?c5 ?_)
 case c1=>exact cell_one_new _ _ _
 case c2=>intro u hu;simp at hu;subst hu;rfl
 case c3=>unfold maxLen;omega
 case c4=>omega
 case c5=>have:=hb1.size;simp;omega
 intro v' w2 hown' hgrow _
 have hlt:=heap_lt hbk
 have hb2:w2.heap[b]?=some (.cells #[.pointer (some ⟨b,0,none⟩),v] 110 (0,0)):=by
  rw[hgrow.block b (by simp;omega) (fun e=>hne e.symm),Below.heap_alloc w1 _ b hlt]
  exact hbk
 have d0:w2.cell? ⟨b,0,none⟩=some (.pointer (some ⟨b,0,none⟩)):=by rw[Lib.cell_of_heap hb2];rfl
 have d1:w2.cell? ⟨b,1,none⟩=some v:=by rw[Lib.cell_of_heap hb2];rfl
 have f1:w2.frozen? ⟨b,1,none⟩=false:=Lib.frozen_of_heap hb2 1
 obtain⟨g,cap,rfl⟩:∃g cap,v'=.slice (some ⟨g,0,none⟩) (bs.length+1) cap:=by
  rcases hown'.2 with ⟨_,h0⟩ | ⟨g,cap,cur,hv,_⟩
  ·omega
  ·exact⟨g,cap,hv⟩
 go_wp2
 go_ret
 refine⟨rfl,.inr ?_,?_,((hk1.alloc _).grown hgrow (row_kind (hown.alloc _))).setCell ⟨b,1,none⟩ rfl _⟩
 ·rw[HS.out]
  exact Lib.BuilderAt.put (T:=110) (e:=5) hB hb2 (bs':=bs++[.int .u8 c]) (by simpa using hown') (by decide)
 ·exact ((hb1.alloc (by have:=hb1.size;omega) _).grown hgrow (by have:=hb1.size;simp;omega) (fun k hk=>(hown.lt k hk).1)).setCell (p:=⟨b,1,none⟩) hB _
theorem wstr_any (B b:Nat) (l m:List UInt8) (w:World) (hm:0<m.length) (h:BL B b l w) (hlen:l.length+m.length≤140737488355328) (hBw:B≤w.heap.size) :
  Calls Tryz.prog 60 #[.pointer (some ⟨b,0,none⟩),.string ⟨m.toArray⟩] w fun e w'=>e=.returned (.tuple #[.int .i64 m.length,.nilIface])∧BL B b (l++m) w'∧Below B w w'∧Lib.OthersKept 5 (some b) w w':=by
 obtain⟨i0,hi,hz0,hz1,hz2⟩:=info_parts info5
 have hbl:(Lib.byteCells l).length≤l.length:=Nat.le_of_eq (Lib.byteCells_length l)
 have HS:Hid _:=Lib.byteCells_append l m
 have HC:=hU (copy_any B b l w h)
 have HZ:Hid ((((⟨m.toArray⟩:ByteArray).size:Nat):Int)=(m.length:Int)):=by show _=_;simp[ByteArray.size]
 have hz3:(⟨m.toArray⟩:ByteArray).size≤m.length:=by simp[ByteArray.size]
 have hz4:0<(⟨m.toArray⟩:ByteArray).size:=by simpa [ByteArray.size] using hm
 have HX:Hid (Lib.strCells ⟨m.toArray⟩=Lib.byteCells m):=rfl
 have HN:Hid ((⟨m.toArray⟩:ByteArray).size=(Lib.byteCells m).length):=by show _=_;rw[Lib.byteCells_length];simp[ByteArray.size]
 unfold BL at *
 generalize Lib.byteCells l=bs at *
 generalize (⟨m.toArray⟩:ByteArray)=x at *
 go_enter Tryz.func60,Tryz.ntmps60
 go_wp2_with (go_at_call 116;refine hMo HC ?_)
 rintro e w1 ⟨rfl,h1,hb1,hk1⟩
 obtain⟨hB,v,hbk,hown,hne⟩:=h1
 have c0:w1.cell? ⟨b,0,none⟩=some (.pointer (some ⟨b,0,none⟩)):=by rw[Lib.cell_of_heap hbk];rfl
 have c1:w1.cell? ⟨b,1,none⟩=some v:=by rw[Lib.cell_of_heap hbk];rfl
 go_wp2_with (at_builtin;refine Lib.wpList_append_own_string _ rfl _ _ 67 9 rfl B 5 i0 Tryz.underlying67 Tryz.underlying9 hi hz0 hz1 hz2 _ _ _ rfl hown x rfl ?c3 ?c4 ?c5 ?_)
 case c3=>unfold maxLen;omega
 case c4=>omega
 case c5=>have:=hb1.size;omega
 intro v' w2 hown' hgrow _
 have hlt:=heap_lt hbk
 have hb2:w2.heap[b]?=some (.cells #[.pointer (some ⟨b,0,none⟩),v] 110 (0,0)):=by
  rw[hgrow.block b (by omega) (fun e=>hne e.symm)]
  exact hbk
 have d0:w2.cell? ⟨b,0,none⟩=some (.pointer (some ⟨b,0,none⟩)):=by rw[Lib.cell_of_heap hb2];rfl
 have d1:w2.cell? ⟨b,1,none⟩=some v:=by rw[Lib.cell_of_heap hb2];rfl
 have f1:w2.frozen? ⟨b,1,none⟩=false:=Lib.frozen_of_heap hb2 1
 obtain⟨g,cap,rfl⟩:∃g cap,v'=.slice (some ⟨g,0,none⟩) (bs.length+x.size) cap:=by
  rcases hown'.2 with ⟨_,h0⟩ | ⟨g,cap,cur,hv,_⟩
  ·omega
  ·exact⟨g,cap,hv⟩
 go_wp2
 go_ret2
 refine⟨by rw[←HZ.out];rfl,.inr ?_,?_,(hk1.grown hgrow (row_kind hown)).setCell ⟨b,1,none⟩ rfl _⟩
 ·rw[HS.out]
  exact Lib.BuilderAt.put (T:=110) (e:=5) hB hb2 (bs':=bs++Lib.byteCells m) (by rw[List.length_append,←HN.out];rw[HX.out] at hown';exact hown') (by decide)
 ·exact (hb1.grown hgrow (by have:=hb1.size;omega) (fun k hk=>(hown.lt k hk).1)).setCell (p:=⟨b,1,none⟩) hB _
def Blk (W:World) (b:Nat) (t:TypeId) (cs:Array Value):Prop:=W.heap[b]?=some (.cells cs t (0,0))
section
variable {W W':World} {b:Nat} {t:TypeId} {cs:Array Value}
theorem Blk.lt (h:Blk W b t cs):b<W.heap.size:=heap_lt h
theorem Blk.cell (h:Blk W b t cs) (i:Nat) {v:Value} (hv:cs[i]?=some v):W.cell? ⟨b,i,none⟩=some v:=by
 simp[World.cell?,show W.heap[b]?=_ from h,hv]
theorem Blk.frozen (h:Blk W b t cs) (i:Nat):W.frozen? ⟨b,i,none⟩=false:=by simp[World.frozen?,show W.heap[b]?=_ from h]
theorem Blk.new (W:World) (t:TypeId) (cs:Array Value):Blk (W.alloc (.cells cs t)) W.heap.size t cs:=World.alloc_heap_new W _
theorem Blk.kept {row:Option Nat} (h:Blk W b t cs) (hg:W.grownBy W' row) (hne:some b≠row):Blk W' b t cs:=(hg.block b h.lt hne).trans h
theorem Blk.alloc (h:Blk W b t cs) (o:Obj):Blk (W.alloc o) b t cs:=h.kept (World.grownBy_alloc W o none) (by simp)
theorem Blk.below {B:Nat} (h:Blk W b t cs) (hb:Below B W W') (hB:b<B):Blk W' b t cs:=(hb.block b hB).trans h
theorem Blk.after (h:Blk W b t cs) (hb:Below W.heap.size W W'):Blk W' b t cs:=h.below hb h.lt
theorem Blk.set (h:Blk W b t cs) (i:Nat) (v:Value):Blk (W.setCell ⟨b,i,none⟩ v) b t (cs.setIfInBounds i v):=by
 obtain⟨hlt,hk⟩:=Array.getElem?_eq_some_iff.1 h
 show (W.heap.modify b _)[b]?=_
 rw[Array.getElem?_eq_getElem (by rw[Array.size_modify];exact hlt),Array.getElem_modify_self,hk]
 rfl
theorem grownBy_setCell (W:World) (b i:Nat) (v:Value):W.grownBy (W.setCell ⟨b,i,none⟩ v) (some b):=
 ⟨rfl,rfl,rfl,(KeepsWalks.setCell W _ v).size,fun k _ hk=>Below.heap_setCell _ _ _ k (fun e=>hk (by rw[e]))⟩
theorem Blk.put (h:Blk W b t cs) (b' i:Nat) (v:Value) (hne:b≠b'):Blk (W.setCell ⟨b',i,none⟩ v) b t cs:=h.kept (grownBy_setCell W b' i v) (fun e=>hne (Option.some.inj e))
theorem Blk.not_row (h:Blk W b t cs) {e:TypeId} (hte:t≠e) {base size k:Nat} {v:Value} {xs:List Value} (hr:W.ownsRow base e size v k xs):some b≠v.ownBlock:=by
 rcases hr.2 with ⟨rfl,_⟩ | ⟨g,cap,cur,rfl,_,hgb,_⟩
 ·simp[Value.ownBlock]
 ·intro e'
  obtain rfl:b=g:=by simpa [Value.ownBlock] using e'
  have:=(show W.heap[b]?=_ from h).symm.trans hgb
  simp at this
  exact hte this.2
end
theorem row_below {B:Nat} {e:TypeId} {k:Nat} {v:Value} {n:Nat} {xs:List Value} {W W':World} (h:W.ownsRow B e k v n xs) (hb:Below W.heap.size W W'):W'.ownsRow B e k v n xs:=by
 refine⟨h.1,?_⟩
 rcases h.2 with h0 | ⟨g,cap,cur,hv,hbg,hg,rest⟩
 ·exact .inl h0
 ·exact .inr ⟨g,cap,cur,hv,hbg,(hb.block g (heap_lt hg)).trans hg,rest⟩
theorem row_mono {B B':Nat} {e:TypeId} {k:Nat} {v:Value} {n:Nat} {xs:List Value} {W:World} (h:W.ownsRow B e k v n xs) (hb:B'≤B):W.ownsRow B' e k v n xs:=by
 refine⟨h.1,?_⟩
 rcases h.2 with h0 | ⟨g,cap,cur,hv,hbg,rest⟩
 ·exact .inl h0
 ·exact .inr ⟨g,cap,cur,hv,Nat.le_trans hb hbg,rest⟩
theorem row_put {base b i:Nat} {e:TypeId} {size:Nat} {v:Value} {n:Nat} {xs:List Value} {W:World} (h:W.ownsRow base e size v n xs) (hb:b<base) (u:Value):(W.setCell ⟨b,i,none⟩ u).ownsRow base e size v n xs:=by
 refine h.kept (grownBy_setCell W b i u) ?_
 cases hv:v.ownBlock with
 | none=>exact .inl rfl
 | some g=>right;intro e;have:=(h.lt g hv).1;simp at e;omega
def bytesV (l:List Nat):List Value:=l.map fun (n:Nat)=>.int .u8 (n:Int)
theorem bytesV_snoc (l:List Nat) (n:Nat):bytesV (l++[n])=bytesV l++[.int .u8 (n:Int)]:=by simp[bytesV]
section
variable {P:Program} {md:_} {ops:Array Oper} {Q:_} {S:World→Prop}
theorem tk (i:Nat) {oi:Oper} {v:Value} {fuel:Nat} {listed:Array Bool} {a:Act} {w:World} (hi:ops[i]?=some oi) (hS:S w)
  (h:wpAnyH P md ops Q S fuel (listed.setIfInBounds i true) (a.put oi.dst v) w)
  (hs:Region.noSelect ops=true:=by kernel_rfl) (hf:Region.free md ops listed i=true:=by kernel_rfl) (hr:(Region.ready md ops listed).contains i=true:=by kernel_rfl)
  (hQ:∀c a w,Q (.panic c) (a.put oi.dst v) w→Q (.panic c) a w:=by exact fun _ _ _ h=>h) (hw:Region.wanted oi (yielded ops a.tmps)=true:=by rfl)
  (hy:∀w,S w→(execOp a.eval oi).run P w=.ok (.value v) w:=by (intro w hSw;(try dsimp only at hSw);go_simp<;>with_reducible rfl)):wpAnyH P md ops Q S (fuel+1) listed a w:=
 wpAnyH_take hi hs hf hr hQ (.inl ⟨hw,hy⟩) hS h
theorem rd1 (i:Nat) {o:Oper} {fuel:Nat} {listed:Array Bool} {a:Act} {w:World} (ho:ops[i]?=some o) (h:∀K':Act→World→Prop,Shut (∀a w,S w→(S w→wpAnyH P md ops Q S fuel (listed.setIfInBounds i true) a w)→K' a w)→if Region.wanted o (yielded ops a.tmps)=true then Oper.wp P o a w K' Q else K' (a.put o.dst undef) w)
  (hr:Region.ready md ops listed=[i]:=by kernel_rfl):wpAnyH P md ops Q S (fuel+1) listed a w:=
 wpAnyH_ready hr (by simp) (AllReadyH.cons ho h AllReadyH.nil)
end
theorem Blk.c2 {W:World} {b:Nat} {t:TypeId} {v0 v1:Value} (h:Blk W b t #[v0,v1]):W.cell? ⟨b,0,none⟩=some v0∧W.cell? ⟨b,1,none⟩=some v1:=
 ⟨h.cell 0 rfl,h.cell 1 rfl⟩
theorem Blk.c4 {W:World} {b:Nat} {t:TypeId} {v0 v1 v2 v3:Value} (h:Blk W b t #[v0,v1,v2,v3]):W.cell? ⟨b,0,none⟩=some v0∧W.cell? ⟨b,1,none⟩=some v1∧W.cell? ⟨b,2,none⟩=some v2∧W.cell? ⟨b,3,none⟩=some v3:=
 ⟨h.cell 0 rfl,h.cell 1 rfl,h.cell 2 rfl,h.cell 3 rfl⟩
theorem Blk.c5 {W:World} {b:Nat} {t:TypeId} {v0 v1 v2 v3 v4:Value} (h:Blk W b t #[v0,v1,v2,v3,v4]):W.cell? ⟨b,0,none⟩=some v0∧W.cell? ⟨b,1,none⟩=some v1∧W.cell? ⟨b,2,none⟩=some v2∧W.cell? ⟨b,3,none⟩=some v3∧W.cell? ⟨b,4,none⟩=some v4:=
 ⟨h.cell 0 rfl,h.cell 1 rfl,h.cell 2 rfl,h.cell 3 rfl,h.cell 4 rfl⟩
theorem Blk.c7 {W:World} {b:Nat} {t:TypeId} {v0 v1 v2 v3 v4 v5 v6:Value} (h:Blk W b t #[v0,v1,v2,v3,v4,v5,v6]):W.cell? ⟨b,0,none⟩=some v0∧W.cell? ⟨b,1,none⟩=some v1∧W.cell? ⟨b,2,none⟩=some v2∧W.cell? ⟨b,3,none⟩=some v3∧W.cell? ⟨b,4,none⟩=some v4∧W.cell? ⟨b,5,none⟩=some v5∧W.cell? ⟨b,6,none⟩=some v6:=
 ⟨h.cell 0 rfl,h.cell 1 rfl,h.cell 2 rfl,h.cell 3 rfl,h.cell 4 rfl,h.cell 5 rfl,h.cell 6 rfl⟩
theorem Blk.c8 {W:World} {b:Nat} {t:TypeId} {v0 v1 v2 v3 v4 v5 v6 v7:Value} (h:Blk W b t #[v0,v1,v2,v3,v4,v5,v6,v7]):W.cell? ⟨b,0,none⟩=some v0∧W.cell? ⟨b,1,none⟩=some v1∧W.cell? ⟨b,2,none⟩=some v2∧W.cell? ⟨b,3,none⟩=some v3∧W.cell? ⟨b,4,none⟩=some v4∧W.cell? ⟨b,5,none⟩=some v5∧W.cell? ⟨b,6,none⟩=some v6∧W.cell? ⟨b,7,none⟩=some v7:=
 ⟨h.cell 0 rfl,h.cell 1 rfl,h.cell 2 rfl,h.cell 3 rfl,h.cell 4 rfl,h.cell 5 rfl,h.cell 6 rfl,h.cell 7 rfl⟩
theorem kA {W W':World} {b:Nat} {t:TypeId} {cs:Array Value} (h:Hid (Blk W b t cs)) (k:Hid (Below W.heap.size W W')):Hid (Blk W' b t cs):=Blk.after h.out k.out
theorem kK {W W':World} {b:Nat} {t:TypeId} {cs:Array Value} {row:Option Nat} (h:Hid (Blk W b t cs)) (k:W.grownBy W' row) (n:some b≠row):Hid (Blk W' b t cs):=Blk.kept h.out k n
theorem kN {w W:World} {t:TypeId} {cs:Array Value} (h:w.alloc (.cells cs t)=W):Hid (Blk W w.heap.size t cs):=h▸Blk.new w t cs
theorem kB {w W:World} {o:Obj} (h:w.alloc o=W):Hid (Below w.heap.size w W):=h▸(Below.refl _ _).alloc (Nat.le_refl _) _
theorem kZ {W W':World} {b R s:Nat} {t:TypeId} {cs:Array Value} (h:Hid (Blk W b t cs)) (k:W.grownBy W' (some R)) (n:R<s) (m:s≤b):Hid (Blk W' b t cs):=kK h k (by simp;omega)
end Go.Proofs.YtcpakcffiopfjaaGreatDoor
