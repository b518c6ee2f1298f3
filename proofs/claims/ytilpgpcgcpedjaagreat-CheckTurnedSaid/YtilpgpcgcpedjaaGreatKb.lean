/- A map by names that the call itself makes: which value stands at each name, to the bit. -/
import Derived.Test.YtilpgpcgcpedjaaGreatKa
import Derived.Maps.OwnSet
import Derived.StringKeys
import Derived.WalkSpells
namespace Go.Proofs.YtilpgpcgcpedjaaGreat
open Go.RowKit Go.Maps Go.WideMaps Go.WideShapes
set_option linter.unusedVariables false
set_option linter.unusedSimpArgs false
set_option maxRecDepth 100000
set_option maxHeartbeats 16000000
theorem emp_no (s:ByteArray):(s=no∧s.toList.isEmpty=true)∨(s≠no∧s.toList.isEmpty=false):=by
 rw[ByteArray.toList_eq]
 obtain⟨⟨l⟩⟩:=s
 cases l with
 | nil=>exact .inl ⟨rfl,rfl⟩
 | cons c l=>exact .inr ⟨fun h=>by simp[no] at h,rfl⟩
def Rv (v:Value):Option (DataW Value×List MemPlace):=some (.held v,[])
def kl (s:ByteArray):Lit:=.string s.data.toList
theorem kl_inj {a b:ByteArray} (h:kl a=kl b):a=b:=by
 obtain⟨⟨a⟩⟩:=a;obtain⟨⟨b⟩⟩:=b
 simp[kl] at h
 rw[h]
theorem kl_key (a:ByteArray):WideAt.IsKeyLit (kl a):=by simp[kl,WideAt.IsKeyLit]
structure Mp (w:World) (b n:Nat) (f:ByteArray→Option Value):Prop where
 at':∃D:DataW Value,w.ownsMap Tryz.prog 9 Rv b n D∧∀s:ByteArray,has D (kl s)=(f s).isSome∧∀z,D.atKey (kl s) (.held z)=.held ((f s).getD z)
theorem strKey:Keyed Tryz.prog 9:=string_keyed Tryz.underlying9
theorem key_of {s:ByteArray} (hs:s.size≤maxLen):keyOf Tryz.prog 9 (.string s)=some (kl s):=keyOf_string_mk Tryz.underlying9 hs
def upd (f:ByteArray→Option Value) (s:ByteArray) (v:Value):ByteArray→Option Value:=fun x=>if x=s then some v else f x
theorem Mp.made (w:World):Mp (w.alloc (.map #[] 0)) w.heap.size 0 (fun _=>none):=⟨_,World.ownsMap_made w Tryz.prog 9 Rv,fun s=>⟨rfl,fun z=>rfl⟩⟩
theorem Mp.keep {w w':World} {b n:Nat} {f:ByteArray→Option Value} {row:Option Nat} (h:Mp w b n f) (hg:w.grownBy w' row) (hne:some b≠row):Mp w' b n f:=by
 obtain⟨D,h1,h2⟩:=h.at'
 exact⟨D,h1.kept hg hne,h2⟩
theorem Mp.lt {w:World} {b n:Nat} {f:ByteArray→Option Value} (h:Mp w b n f):b<w.heap.size:=by
 obtain⟨D,h1,h2⟩:=h.at'
 exact h1.lt
theorem Mp.look {w:World} {b n:Nat} {f:ByteArray→Option Value} (h:Mp w b n f) {t e:TypeId} (ht:Tryz.prog.underlying t=some (.map 9 e)) {z:Value} (hz:(zeroValue e).run Tryz.prog w=.ok z w) {s:ByteArray} (hs:s.size≤maxLen):(Instr.lookup t (.map (some b)) (.string s) false).run Tryz.prog w=.ok ((f s).getD z) w:=by
 obtain⟨D,h1,h2⟩:=h.at'
 obtain⟨v,ps,hr,hv⟩:=h1.lookup strKey ht hz (zd:=.held z) (zp:=[]) rfl (key_of hs)
 rw[(h2 s).2 z] at hv
 simp[Rv] at hv
 rw[hr,hv.1]
theorem Mp.look_ok {w:World} {b n:Nat} {f:ByteArray→Option Value} (h:Mp w b n f) {t e:TypeId} (ht:Tryz.prog.underlying t=some (.map 9 e)) {z:Value} (hz:(zeroValue e).run Tryz.prog w=.ok z w) {s:ByteArray} (hs:s.size≤maxLen):(Instr.lookup t (.map (some b)) (.string s) true).run Tryz.prog w=.ok (.tuple #[(f s).getD z,.bool (f s).isSome]) w:=by
 obtain⟨D,h1,h2⟩:=h.at'
 obtain⟨v,ps,hr,hv⟩:=h1.look_ok strKey ht hz (zd:=.held z) (zp:=[]) rfl (key_of hs)
 rw[(h2 s).2 z] at hv
 simp[Rv] at hv
 rw[hr,hv.1,(h2 s).1]
theorem Mp.store {w:World} {b n:Nat} {f:ByteArray→Option Value} (h:Mp w b n f) (hn:n<maxLen) {t e:TypeId} (ht:Tryz.prog.underlying t=some (.map 9 e)) {s:ByteArray} (hs:s.size≤maxLen) (v:Value):∃w',(Instr.mapUpdate t (.map (some b)) (.string s) v).run Tryz.prog w=.ok () w'∧Mp w' b (n+1) (upd f s v)∧w.grownBy w' (some b):=by
 obtain⟨D,h1,h2⟩:=h.at'
 obtain⟨w',hr,hm,hg⟩:=h1.update strKey ht hn (d:=.held v) (ps:=[]) (key_of hs) rfl
 refine⟨w',hr,⟨_,hm,fun x=>?_⟩,hg⟩
 have hD:=h1.isMap
 unfold upd
 by_cases hx:x=s
 ·subst hx
  rw[if_pos rfl]
  exact⟨has_put_same hD (kl_key x) _,fun z=>atKey_put_same hD (kl_key x) _ _⟩
 ·rw[if_neg hx]
  have hne:kl x≠kl s:=fun h=>hx (kl_inj h)
  refine⟨by rw[has_put_other hne];exact (h2 x).1,fun z=>?_⟩
  rw[atKey_put_other hne]
  exact (h2 x).2 z
theorem wpList_mapUpdate_mp {w:World} {ops:Array Oper} {rest:List Oper} {o:Oper} {a:Act} {Q:Exit→Act→World→Prop} (hg:o.guard=none) (m x v:Operand) (t:TypeId) (hop:o.op=Op.mapUpdate t m x v) (e:TypeId) (ht:Tryz.prog.underlying t=some (.map 9 e)) {b n:Nat} {f:ByteArray→Option Value} (hM:Hid (Mp w b n f)) (hm:a.eval m=.map (some b)) (hn:n<maxLen) (s:ByteArray) (val:Value) (hx:a.eval x=.string s) (hv:a.eval v=val) (hs:s.size≤maxLen)
  (hK:∀w',Hid (Mp w' b (n+1) (upd f s val))→Hid (w.grownBy w' (some b))→wpList Tryz.prog ops Q rest (a.put o.dst undef) w'):wpList Tryz.prog ops Q (o::rest) a w:=by
 obtain⟨D,h1,h2⟩:=hM.out.at'
 refine wpList_plain hg fun K' hK' => ?_
 obtain ⟨w', hrun, r1, r2⟩ := hM.out.store hn ht hs val
 unfold Oper.wp
 simp [execOp, hop, hm, hx, hv, hrun, Result.andThen]
 exact hK' _ _ (hK w' r1 r2)
theorem Mp.below {w w':World} {b n:Nat} {f:ByteArray→Option Value} (h:Hid (Mp w b n f)) (hb:Hid (Below w.heap.size w w')):Hid (Mp w' b n f):=h.out.keep (row:=none) ⟨hb.out.os,hb.out.tape,hb.out.output,hb.out.size,fun i hi _=>hb.out.block i hi⟩ (by simp)
theorem Mp.put {w w':World} {b n c:Nat} {f:ByteArray→Option Value} (h:Hid (Mp w b n f)) (hb:Hid (w.grownBy w' (some c))) (hne:b≠c):Hid (Mp w' b n f):=h.out.keep hb.out (by simpa using hne)
theorem belG {B b:Nat} {W W':World} (hg:W.grownBy W' (some b)) (hb:B≤b) (hB:B≤W.heap.size):Below B W W':=⟨hg.os,hg.tape,hg.output,hg.size,fun i hi=>hg.block i (Nat.lt_of_lt_of_le hi hB) (fun e=>by cases e;omega)⟩
theorem belO {B:Nat} {o:Option Nat} {W W':World} (hg:W.grownBy W' o) (ho:∀b,o=some b→B≤b) (hB:B≤W.heap.size):Below B W W':=⟨hg.os,hg.tape,hg.output,hg.size,fun i hi=>hg.block i (Nat.lt_of_lt_of_le hi hB) (fun e=>by have:=ho i e.symm;omega)⟩
theorem kG {w w':World} {b c:Nat} {t:TypeId} {cs:Array Value} (h:Hid (Blk w b t cs)) (hg:Hid (w.grownBy w' (some c))) (hne:b≠c):Hid (Blk w' b t cs):=h.out.kept hg.out (by simpa using hne)
end Go.Proofs.YtilpgpcgcpedjaaGreat
