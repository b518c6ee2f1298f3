/- A definition in another order, in memory. -/
import Derived.Test.YtilpgpcgcpedjaaGreatPk
namespace Go.Proofs.YtilpgpcgcpedjaaGreat
open Go.RowKit
set_option linter.unusedVariables false
set_option linter.unusedSimpArgs false
set_option maxRecDepth 100000
set_option maxHeartbeats 16000000
def turnX (d:Df) (t2 t4 t5 t6:Nat):Df:=⟨d.start,d.layout,pick d.prods (rot d.prods.length t2),d.chains,pick d.follows (rot d.follows.length t4),pick d.rejects (rot d.rejects.length t5),pick d.boxes (rot d.boxes.length t6)⟩
theorem turnX_do {w W:World} {d:Df} {a2 a3 a4 a5 a6:Option Addr} {p2 p3 p4 p5 p6:Nat} {t2 t4 t5 t6:Nat} {BS:Nat} {v2 v4 v5 v6:Value} {z2 z4 z5 z6:Nat→List Value} {f6:Nat} (h:DO w d [.string d.start,.string d.layout,.slice a2 d.prods.length p2,.slice a3 d.chains.length p3,.slice a4 d.follows.length p4,.slice a5 d.rejects.length p5,.slice a6 d.boxes.length p6]) (hb:Below w.heap.size w W)
  (h2:0<d.prods.length→t2<d.prods.length) (h4:0<d.follows.length→t4<d.follows.length) (h5:0<d.rejects.length→t5<d.rejects.length) (h6:0<d.boxes.length→t6<d.boxes.length)
  (hw2:∀i,(z2 i).length=5) (hw4:∀i,(z4 i).length=5) (hw5:∀i,(z5 i).length=2) (hw6:∀i,(z6 i).length=2)
  (hz2:∀i x,d.prods[i]?=some x→PrV w w.heap.size x (z2 i)) (hz4:∀i x,d.follows[i]?=some x→FoV x (z4 i)) (hz5:∀i x,d.rejects[i]?=some x→ReV x (z5 i)) (hz6:∀i x,d.boxes[i]?=some x→BoV w w.heap.size f6 x (z6 i))
  (r2:W.ownsRow BS 44 5 v2 (rot d.prods.length t2).length ((rot d.prods.length t2).flatMap z2)) (r4:W.ownsRow BS 54 5 v4 (rot d.follows.length t4).length ((rot d.follows.length t4).flatMap z4)) (r5:W.ownsRow BS 56 2 v5 (rot d.rejects.length t5).length ((rot d.rejects.length t5).flatMap z5)) (r6:W.ownsRow BS 59 2 v6 (rot d.boxes.length t6).length ((rot d.boxes.length t6).flatMap z6)):
  DO W (turnX d t2 t4 t5 t6) [.string d.start,.string d.layout,v2,.slice a3 d.chains.length p3,v4,v5,v6]:=by
 obtain⟨f,u2,u3,u4,u5,u6,e,k2,k3,k4,k5,k6⟩:=(h.nx hb).da.at'
 simp only[List.cons.injEq,true_and,and_true] at e
 obtain⟨rfl,rfl,rfl,rfl,rfl⟩:=e
 obtain⟨g,hz⟩:=h.sz
 have e2:=hz.p
 have e4:=hz.fo
 have e5:=hz.r
 have e6:=hz.b
 have m2:=fun x=>(pick_perm' d.prods h2).mem_iff (a:=x)
 have m4:=fun x=>(pick_perm' d.follows h4).mem_iff (a:=x)
 have m5:=fun x=>(pick_perm' d.rejects h5).mem_iff (a:=x)
 have m6:=fun x=>(pick_perm' d.boxes h6).mem_iff (a:=x)
 have n2:=(pick_perm' d.prods h2).length_eq
 have n4:=(pick_perm' d.follows h4).length_eq
 have n5:=(pick_perm' d.rejects h5).length_eq
 have n6:=(pick_perm' d.boxes h6).length_eq
 refine ⟨⟨f6,v2,_,v4,v5,v6,rfl,sl_pick (w:=w) hw2 hz2 (fun x vs hv=>hv.keep hb hb.size) (rot_lt h2) (by omega) (by rw[rot_len];omega) r2,k3,sl_pick (w:=w) hw4 hz4 (fun x vs hv=>hv) (rot_lt h4) (by omega) (by rw[rot_len];omega) r4,sl_pick (w:=w) hw5 hz5 (fun x vs hv=>hv) (rot_lt h5) (by omega) (by rw[rot_len];omega) r5,sl_pick (w:=w) hw6 hz6 (fun x vs hv=>hv.keep hb hb.size) (rot_lt h6) (by omega) (by rw[rot_len];omega) r6⟩,⟨g,?_,hz.c,?_,?_,?_,fun x hx=>hz.ps x ((m2 x).1 hx),hz.cs,fun x hx=>hz.bs x ((m6 x).1 hx)⟩,⟨h.nm.start,h.nm.layout,fun x hx=>h.nm.prods x ((m2 x).1 hx),h.nm.chains,fun x hx=>h.nm.follows x ((m4 x).1 hx),fun x hx=>h.nm.rejects x ((m5 x).1 hx),fun x hx=>h.nm.boxes x ((m6 x).1 hx)⟩⟩
 ·show (pick d.prods (rot d.prods.length t2)).length*72≤_
  rw[n2]
  exact e2
 ·show (pick d.follows (rot d.follows.length t4)).length*48≤_
  rw[n4]
  exact e4
 ·show (pick d.rejects (rot d.rejects.length t5)).length*32≤_
  rw[n5]
  exact e5
 ·show (pick d.boxes (rot d.boxes.length t6)).length*40≤_
  rw[n6]
  exact e6
end Go.Proofs.YtilpgpcgcpedjaaGreat
