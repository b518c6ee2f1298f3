/- A definition with what is known of its sorts and constructors: what the program asks of it; the first sort, and the first production, for which something holds. -/
import Derived.Test.YtilpgpcgcpedjaaGreatKm
namespace Go.Proofs.YtilpgpcgcpedjaaGreat
open Go.RowKit
set_option linter.unusedVariables false
set_option linter.unusedSimpArgs false
set_option maxRecDepth 100000
set_option maxHeartbeats 16000000
theorem Blk.c9 {W:World} {b:Nat} {t:TypeId} {v0 v1 v2 v3 v4 v5 v6 v7 v8:Value} (h:Blk W b t #[v0,v1,v2,v3,v4,v5,v6,v7,v8]):W.cell? ⟨b,0,none⟩=some v0∧W.cell? ⟨b,1,none⟩=some v1∧W.cell? ⟨b,2,none⟩=some v2∧W.cell? ⟨b,3,none⟩=some v3∧W.cell? ⟨b,4,none⟩=some v4∧W.cell? ⟨b,5,none⟩=some v5∧W.cell? ⟨b,6,none⟩=some v6∧W.cell? ⟨b,7,none⟩=some v7∧W.cell? ⟨b,8,none⟩=some v8:=⟨h.cell 0 rfl,h.cell 1 rfl,h.cell 2 rfl,h.cell 3 rfl,h.cell 4 rfl,h.cell 5 rfl,h.cell 6 rfl,h.cell 7 rfl,h.cell 8 rfl⟩
structure LK (W:World) (d:Df) (vs:List Value) (B1 B2:Nat):Prop where
 df:DO W d vs
 m1:∃n,Mp W B1 n (kindF d.prods)
 m2:∃n,Mp W B2 n (placeF d.prods)
 few:symsN d.prods≤1000000
 tx:∀p∈d.prods,∀s∈p.syms,s.text.size≤1000000
 fl:d.follows.length≤1000000
 rl:d.rejects.length≤1000000
 bl:d.boxes.length≤1000000
 cl:d.chains.length≤1000000
theorem LK.nx {W W':World} {d:Df} {vs:List Value} {B1 B2:Nat} (hb:Below W.heap.size W W') (h:LK W d vs B1 B2):LK W' d vs B1 B2:=⟨h.df.nx hb,h.m1.imp fun n h=>Mp.below (hHi h) (hHi hb),h.m2.imp fun n h=>Mp.below (hHi h) (hHi hb),h.few,h.tx,h.fl,h.rl,h.bl,h.cl⟩
theorem symsN_mem {l:List Pr} {p:Pr} (h:p∈l):p.syms.length≤symsN l:=by
 unfold symsN
 induction l with
 | nil=>cases h
 | cons q l ih=>
  rw[List.map_cons,List.sum_cons]
  rcases List.mem_cons.1 h with rfl|h
  ·omega
  ·have:=ih h
   omega
theorem LK.form {W:World} {d:Df} {vs:List Value} {B1 B2:Nat} (h:LK W d vs B1 B2):∃a2 p2 a3 p3 a4 p4 a5 p5 a6 p6,vs=[.string d.start,.string d.layout,.slice a2 d.prods.length p2,.slice a3 d.chains.length p3,.slice a4 d.follows.length p4,.slice a5 d.rejects.length p5,.slice a6 d.boxes.length p6]:=by
 obtain⟨a2,p2,a3,p3,a4,p4,a5,p5,a6,p6,e,_⟩:=h.df.form
 exact ⟨a2,p2,a3,p3,a4,p4,a5,p5,a6,p6,e⟩
theorem field88' (a b:Bool) (W:World):(Instr.field 88 (.agg #[.bool a,.bool b]) 0).run Tryz.prog W=.ok (.bool a) W:=by kernel_rfl
theorem isSort_any (d:Df) (v0 v1 v2 v3 v4 v5 v6 v8:Value) (B1 n:Nat) (s:ByteArray) (w:World) (hM:Mp w B1 n (kindF d.prods)) (hs:s.size≤maxLen) (h0:∃a,v0=.string a) (h1:∃a,v1=.string a) :
  Calls Tryz.prog 84 #[.agg #[v0,v1,v2,v3,v4,v5,v6,.map (some B1),v8],.string s] w fun e w'=>e=.returned (.bool (decide (s∈srt d.prods)))∧Below w.heap.size w w':=by
 obtain⟨w1,hw1⟩:∃qW,w.alloc (.cells #[v0,v1,v2,v3,v4,v5,v6,.map (some B1),v8] 75)=qW:=⟨_,rfl⟩
 have HX1:=kN hw1
 have HB1:=kB hw1
 have HM1:=Mp.below (hHi hM) HB1
 have hlk:=HM1.out.look_ok Tryz.underlying70 (zero88 w1) hs
 rw[kindF_get,kindF_some] at hlk
 have HD:Hid (decide (s∈srt d.prods)=decide (∃p∈d.prods,p.sort=s)):=decide_eq_decide.2 mem_srt
 rw[HD.out]
 generalize decide (∃p∈d.prods,p.sort=s)=q at hlk ⊢
 generalize lexd d.prods s=q1 at hlk
 generalize plnd d.prods s=q2 at hlk
 obtain⟨w2,hw2⟩:∃qW,w1.alloc (.cells #[.bool q1,.bool q2] 88)=qW:=⟨_,rfl⟩
 have HB2:=kB hw2
 clear hM HD
 go_enter Tryz.func84,Tryz.ntmps84
 have c7:=HX1.out.cell 7 rfl
 go_wp2
 go_ret
 exact ⟨rfl,below_tr HB1.out HB2.out⟩
theorem isLex_any (d:Df) (v0 v1 v2 v3 v4 v5 v6 v8:Value) (B1 n:Nat) (s:ByteArray) (w:World) (hM:Mp w B1 n (kindF d.prods)) (hs:s.size≤maxLen):
  Calls Tryz.prog 85 #[.agg #[v0,v1,v2,v3,v4,v5,v6,.map (some B1),v8],.string s] w fun e w'=>e=.returned (.bool (lexd d.prods s))∧Below w.heap.size w w':=by
 obtain⟨w1,hw1⟩:∃qW,w.alloc (.cells #[v0,v1,v2,v3,v4,v5,v6,.map (some B1),v8] 75)=qW:=⟨_,rfl⟩
 have HX1:=kN hw1
 have HB1:=kB hw1
 have HM1:=Mp.below (hHi hM) HB1
 have hlk:=HM1.out.look Tryz.underlying70 (zero88 w1) hs
 rw[kindF_get] at hlk
 have hfd:=field88'
 clear hM
 go_enter Tryz.func85,Tryz.ntmps85
 have c7:=HX1.out.cell 7 rfl
 go_wp2
 go_ret
 exact ⟨rfl,HB1.out⟩
theorem isCons_any (d:Df) (v0 v1 v2 v3 v4 v5 v6 v7:Value) (B2 n:Nat) (s:ByteArray) (w:World) (hM:Mp w B2 n (placeF d.prods)) (hs:s.size≤maxLen):
  Calls Tryz.prog 101 #[.agg #[v0,v1,v2,v3,v4,v5,v6,v7,.map (some B2)],.string s] w fun e w'=>e=.returned (.bool (isCons d s))∧Below w.heap.size w w':=by
 obtain⟨w1,hw1⟩:∃qW,w.alloc (.cells #[v0,v1,v2,v3,v4,v5,v6,v7,.map (some B2)] 75)=qW:=⟨_,rfl⟩
 have HX1:=kN hw1
 have HB1:=kB hw1
 have HM1:=Mp.below (hHi hM) HB1
 have hlk:=HM1.out.look_ok Tryz.underlying72 (zero3 w1) hs
 have HD:Hid (isCons d s=(placeF d.prods s).isSome):=by show _=_;unfold isCons placeF;cases firstCons d.prods s<;>rfl
 rw[HD.out]
 generalize (placeF d.prods s).isSome=q at hlk ⊢
 generalize (placeF d.prods s).getD (.int .i64 0)=z at hlk
 clear hM HD
 go_enter Tryz.func101,Tryz.ntmps101
 have c8:=HX1.out.cell 8 rfl
 go_wp2
 go_ret
 exact ⟨rfl,HB1.out⟩
theorem find_take {α:Type} {f:α→Bool} {l:List α} {k:Nat} {x:α} (hx:l[k]?=some x) (hn:(l.take k).find? f=none) (hf:f x=true):l.find? f=some x:=by
 have e:=(List.take_append_drop k l).symm
 have h2:l.drop k=x::l.drop (k+1):=by
  have h3:=List.getElem?_eq_some_iff.1 hx
  rw[List.drop_eq_getElem_cons h3.1,h3.2]
 rw[e,List.find?_append,hn,h2,List.find?_cons,hf]
 rfl
theorem find_snoc {α:Type} {f:α→Bool} {l:List α} {x:α} (hn:l.find? f=none) (hf:f x=false):(l++[x]).find? f=none:=by
 rw[List.find?_append,hn]
 simp[hf]
theorem firstSort_any (n:Nat) (cs:Array Value) (f:ByteArray→Bool) (c:Int) (d:Df) (a2:Option Addr) (p2:Nat) (a3:Option Addr) (p3:Nat) (a4:Option Addr) (p4:Nat) (a5:Option Addr) (p5:Nat) (a6:Option Addr) (p6:Nat) (m1 m2:Value) (w:World) (hd:DO w d [.string d.start,.string d.layout,.slice a2 d.prods.length p2,.slice a3 d.chains.length p3,.slice a4 d.follows.length p4,.slice a5 d.rejects.length p5,.slice a6 d.boxes.length p6])
  (hen:∀(args:Array Value) (W:World),(callFunc n args).run Tryz.prog W=.ok (.enter n args) W)
  (hF:∀(s:ByteArray) (W:World),s.size≤maxLen→Below w.heap.size w W→Calls Tryz.prog n (#[.string s]++cs) W fun e W'=>e=.returned (.bool (f s))∧Below W.heap.size W W'):
  Calls Tryz.prog 82 #[.agg #[.string d.start,.string d.layout,.slice a2 d.prods.length p2,.slice a3 d.chains.length p3,.slice a4 d.follows.length p4,.slice a5 d.rejects.length p5,.slice a6 d.boxes.length p6,m1,m2],.int .i64 c,.func (.func n) #[] cs] w fun e w'=>(∃cd s,e=.returned (.tuple #[.int .i64 cd,.string s])∧(cd,s)=(((srt d.prods).find? f).map fun s=>(c,s)).getD (0,no))∧Below w.heap.size w w':=by
 have HF:=hU hF
 have HDO:=hHi hd
 obtain⟨w1,hw1⟩:∃qW,w.alloc (.cells #[.string d.start,.string d.layout,.slice a2 d.prods.length p2,.slice a3 d.chains.length p3,.slice a4 d.follows.length p4,.slice a5 d.rejects.length p5,.slice a6 d.boxes.length p6,m1,m2] 75)=qW:=⟨_,rfl⟩
 have HX1:=kN hw1
 have HB1:=kB hw1
 have HS:=hU (sorts_any d [.string d.start,.string d.layout,.slice a2 d.prods.length p2,.slice a3 d.chains.length p3,.slice a4 d.follows.length p4,.slice a5 d.rejects.length p5,.slice a6 d.boxes.length p6] w1 (hd.nx HB1.out))
 have HSZ:Hid (∀s∈srt d.prods,s.size≤maxLen):=fun s hs=>by
  obtain⟨p,hp,rfl⟩:=mem_srt.1 hs
  exact (hd.nm.prods p hp).sort
 have HLL:Hid ((srt d.prods).length≤140737488355328):=by
  obtain⟨g,hg⟩:=hd.sz
  have:=srt_len d.prods
  have:=hg.p
  show _≤_
  omega
 obtain⟨L,hL⟩:∃L,srt d.prods=L:=⟨_,rfl⟩
 rw[hL] at HS HSZ HLL ⊢
 clear hF hd hL
 obtain⟨N,hN⟩:∃N,L.length=N:=⟨_,rfl⟩
 rw[hN] at HS HLL
 have HN:=hHi hN
 clear hN
 go_enter Tryz.func82,Tryz.ntmps82
 obtain⟨c0,c1,c2,c3,c4,c5,c6,c7,c8⟩:=HX1.out.c9
 go_wp2_with fail
 refine hMo HS ?_
 rintro e w2 ⟨⟨va,vc,rfl,hn⟩,hb⟩
 have HNA:=hHi hn
 have HB2:=hHi hb
 have HB12:=hHi (below_tr HB1.out HB2.out)
 have hNb:=HLL.out
 clear hn hb HS c0 c1 c2 c3 c4 c5 c6 c7 c8
 go_wp2
 go_loopw[14] (fun iv W=>∃(k:Nat),k≤N∧iv=.int .i64 k∧(L.take k).find? f=none∧Below w2.heap.size w2 W) (fun iv _=>N-(intOf iv).toNat)
 case atStart=>exact ⟨0,Nat.zero_le _,rfl,rfl,Below.refl _ _⟩
 case round=>
  obtain⟨k,hk,rfl,hf,hB⟩:=hrel
  have HFN:=hHi hf
  have HB:=hHi hB
  have HBB:=hHi (below_tr HB12.out HB.out)
  clear hf hB
  by_cases hlt:k<N
  case pos=>
   obtain⟨x,hx⟩:∃x,L[k]?=some x:=⟨L[k]'(by rw[HN.out];exact hlt),by simp⟩
   have hsz:=HSZ.out x (List.mem_of_getElem? hx)
   have hHN:=HNA.out
   obtain⟨g,cap,he,hg,hgl,hc⟩:=names_cell HNA.out hx
   simp only[Value.slice.injEq] at he
   obtain⟨rfl,hnl,rfl⟩:=he
   clear hnl
   have hcx:wr.cell? ⟨g,k,none⟩=some (.string x):=(HB.out.cell (p:=⟨g,k,none⟩) hgl).trans hc
   have hltI:(k:Int)<N:=by omega
   have HX:=hHi hx
   have HC:=hU (HF.out () x wr hsz HBB.out)
   clear hx hc hHN
   go_wp2_with fail
   refine hMo HC ?_
   rintro e w3 ⟨rfl,hb⟩
   have HB3:=hHi (below_tr HB.out hb)
   clear hb HC hcx
   cases hfx:f x
   ·have HNX:Hid ((L.take (k+1)).find? f=none):=by show _=_;rw[take_snoc' HX.out];exact find_snoc HFN.out hfx
    clear hfx
    go_wp2
    go_roundw
    case rel=>exact ⟨k+1,by omega,by go_num,HNX.out,HB3.out⟩
    case measure=>simp[intOf];omega
   ·have HNX:Hid (L.find? f=some x):=find_take HX.out HFN.out hfx
    clear hfx
    go_wp2
    go_ret2
    exact ⟨⟨c,x,rfl,by rw[HNX.out];rfl⟩,below_tr HB12.out HB3.out⟩
  obtain rfl:k=N:=by omega
  have HNX:Hid (L.find? f=none):=by have h:=HFN.out;rw[List.take_of_length_le (by rw[HN.out];exact Nat.le_refl _)] at h;exact h
  go_wp2
  go_ret2
  exact ⟨⟨0,no,rfl,by rw[HNX.out];rfl⟩,HBB.out⟩
end Go.Proofs.YtilpgpcgcpedjaaGreat
