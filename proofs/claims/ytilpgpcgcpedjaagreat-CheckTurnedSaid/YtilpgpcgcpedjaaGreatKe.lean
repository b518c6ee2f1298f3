/- Where each constructor stands first: the map that the program makes. -/
import Derived.Test.YtilpgpcgcpedjaaGreatKd
namespace Go.Proofs.YtilpgpcgcpedjaaGreat
open Go.RowKit
set_option linter.unusedVariables false
set_option linter.unusedSimpArgs false
set_option maxRecDepth 100000
set_option maxHeartbeats 16000000
def placeF (l:List Pr) (s:ByteArray):Option Value:=(firstCons l s).map fun i=>.int .i64 (i:Nat)
theorem firstCons_snoc (l:List Pr) (p:Pr) (s:ByteArray):firstCons (l++[p]) s=if consOf p=s∧s≠no∧firstCons l s=none then some l.length else firstCons l s:=by
 unfold firstCons
 rw[List.findIdx?_append]
 rcases h:l.findIdx? (fun p=>decide (consOf p=s∧s≠no)) with _|i
 ·by_cases hc:consOf p=s∧s≠no
  ·rw[if_pos ⟨hc.1,hc.2,rfl⟩]
   simp[List.findIdx?_cons,hc]
  ·rw[if_neg (fun h=>hc ⟨h.1,h.2.1⟩)]
   simp only[List.findIdx?_cons,List.findIdx?_nil]
   rw[decide_eq_false hc]
   rfl
 ·simp
theorem placeF_snoc (l:List Pr) (p:Pr):placeF (l++[p])=if consOf p≠no∧(placeF l (consOf p)).isSome=false then upd (placeF l) (consOf p) (.int .i64 (l.length:Nat)) else placeF l:=by
 funext s
 have hi:(placeF l (consOf p)).isSome=false↔firstCons l (consOf p)=none:=by
  unfold placeF
  cases firstCons l (consOf p)<;>simp
 by_cases hc:consOf p≠no∧(placeF l (consOf p)).isSome=false
 ·rw[if_pos hc]
  unfold upd
  by_cases hs:s=consOf p
  ·subst hs
   rw[if_pos rfl]
   unfold placeF
   rw[firstCons_snoc,if_pos ⟨rfl,hc.1,hi.1 hc.2⟩]
   rfl
  ·rw[if_neg hs]
   unfold placeF
   rw[firstCons_snoc,if_neg (fun h=>hs h.1.symm)]
 ·rw[if_neg hc]
  unfold placeF
  rw[firstCons_snoc,if_neg]
  rintro⟨rfl,h1,h2⟩
  exact hc ⟨h1,hi.2 h2⟩
theorem constructor_any (x:Pr) (v:Value) (w:World):Calls Tryz.prog 81 #[.agg #[.bool x.lex,.string x.sort,.string x.cons,.bool x.bracket,v]] w fun e w'=>e=.returned (.string (consOf x))∧Below w.heap.size w w':=by
 unfold consOf
 go_enter Tryz.func81,Tryz.ntmps81
 obtain⟨w1,hw1⟩:∃qW,w.alloc (.cells #[.bool x.lex,.string x.sort,.string x.cons,.bool x.bracket,v] 44)=qW:=⟨_,rfl⟩
 have HX1:=kN hw1
 have HB1:=kB hw1
 cases hlex:x.lex
 all_goals
  rw[hlex] at hw1 HX1
  obtain⟨d0,d1,d2,d3,d4⟩:=HX1.out.c5
  go_wp2
  go_ret
  exact ⟨rfl,HB1.out⟩
theorem consPlaces_any (d:Df) (a2:Option Addr) (p2:Nat) (v3 v4 v5 v6:Value) (w:World) (hr:Row w w.heap.size 5 (PrV w w.heap.size) a2 d.prods) (hl:d.prods.length≤140737488355328) (hN:∀p∈d.prods,NmP p):
  Calls Tryz.prog 36 #[.agg #[.string d.start,.string d.layout,.slice a2 d.prods.length p2,v3,v4,v5,v6]] w fun e w'=>(∃B n,e=.returned (.map (some B))∧Mp w' B n (placeF d.prods)∧w.heap.size≤B)∧Below w.heap.size w w':=by
 obtain⟨L,hL⟩:∃L,d.prods=L:=⟨_,rfl⟩
 rw[hL] at hr hl hN ⊢
 clear hL
 obtain⟨N,hLN⟩:∃N,L.length=N:=⟨_,rfl⟩
 have HR1:=hHi hr
 have HLN:=hHi hLN
 have HNM:=hHi hN
 rw[hLN] at hl ⊢
 clear hr hLN hN
 have hmm:=@run_makeMap Tryz.prog
 go_enter Tryz.func36,Tryz.ntmps36
 obtain⟨w1,hw1⟩:∃qW,w.alloc (.cells #[.string d.start,.string d.layout,.slice a2 N p2,v3,v4,v5,v6] 28)=qW:=⟨_,rfl⟩
 have HX1:=kN hw1
 have HB1:=kB hw1
 have HS1:Hid (w1.heap.size=w.heap.size+1):=by show _=_;rw[←hw1];simp
 obtain⟨w2,hw2⟩:∃qW,w1.alloc (.map #[] 0)=qW:=⟨_,rfl⟩
 have HM2:Hid (Mp w2 w1.heap.size 0 (fun _=>none)):=by show Mp _ _ _ _;rw[←hw2];exact Mp.made w1
 have HN2:=kB hw2
 have HX2:=kA HX1 HN2
 have HB2:Hid (Below w.heap.size w w2):=below_tr HB1.out HN2.out
 obtain⟨d0,d1,d2,d3,d4,d5,d6⟩:=HX2.out.c7
 go_wp2
 go_loopw[13] (fun iv W=>∃(k n:Nat),k≤N∧n≤k∧iv=.int .i64 k∧Mp W w1.heap.size n (placeF (L.take k))∧Below w.heap.size w W) (fun iv _=>N-(intOf iv).toNat)
 case atStart=>exact ⟨0,0,Nat.zero_le _,Nat.le_refl _,rfl,by have e:placeF (L.take 0)=fun _=>none:=(by funext s;simp[placeF,firstCons]);rw[e];exact HM2.out,HB2.out⟩
 case round=>
  obtain⟨k,n,hk,hn,rfl,hM,hB⟩:=hrel
  have HM:=hHi hM
  have HB:=hHi hB
  clear hM hB d0 d1 d2 d3 d4 d5 d6
  by_cases hlt:k<N
  case pos=>
   obtain⟨x,hx⟩:∃x,L[k]?=some x:=⟨L[k]'(by rw[HLN.out];exact hlt),by simp⟩
   obtain⟨b,o,us,hb,hlb,hus,hc⟩:=HR1.out k x hx
   obtain⟨v,rfl,a3,p3,rfl,_⟩:=hus
   subst hb
   have HT:Hid (L.take (k+1)=L.take k++[x]):=take_snoc' hx
   have HTL:Hid ((L.take k).length=k):=by show _=_;rw[List.length_take,HLN.out];omega
   have hsz:(consOf x).size≤maxLen:=by
    have:=(HNM.out x (List.mem_of_getElem? hx)).cons
    unfold consOf
    split
    ·exact Nat.zero_le _
    ·exact this
   have hq_:=hcb HB.out hlb hc
   have s0:=hq_ 0 _ rfl
   have s1:=hq_ 1 _ rfl
   have s2:=hq_ 2 _ rfl
   have s3:=hq_ 3 _ rfl
   have s4:=hq_ 4 _ rfl
   rw[Nat.add_zero] at s0
   have hltI:(k:Int)<N:=by omega
   clear hq_ hc hx
   obtain⟨w3,hw3⟩:∃qW,wr.alloc (.cells #[.bool x.lex,.string x.sort,.string x.cons,.bool x.bracket,.slice a3 x.syms.length p3] 44)=qW:=⟨_,rfl⟩
   have HN3:=kB hw3
   have HX3:=kN hw3
   have HM3:=Mp.below HM HN3
   have HB3:Hid (Below w.heap.size w w3):=below_tr HB.out HN3.out
   have HC:=hU (constructor_any x (.slice a3 x.syms.length p3) w3)
   have HKS:=hHi (placeF_snoc (L.take k) x)
   rw[←HT.out,HTL.out] at HKS
   obtain⟨e0,e1,e2,e3,e4⟩:=HX3.out.c5
   go_wp2_with fail
   refine hMo HC ?_
   rintro e w4 ⟨rfl,hb4⟩
   have HB4:=hHi hb4
   have HM4:=Mp.below HM3 HB4
   have HB4':Hid (Below w.heap.size w w4):=below_tr HB3.out HB4.out
   have hlk:=HM4.out.look_ok Tryz.underlying72 (zero3 w4) hsz
   obtain⟨nm,hnm⟩:∃s,consOf x=s:=⟨_,rfl⟩
   rw[hnm] at hsz hlk HKS ⊢
   obtain⟨ok,hok⟩:∃b,(placeF (L.take k) nm).isSome=b:=⟨_,rfl⟩
   rw[hok] at hlk HKS
   clear HC hb4 e0 e1 e2 e3 e4 s0 s1 s2 s3 s4
   rcases emp_no nm with ⟨hne,hd⟩|⟨hne,hd⟩
   ·rw[if_neg (fun h=>h.1 hne)] at HKS
    clear hne
    go_wp2
    go_roundw
    case rel=>exact ⟨k+1,n,by omega,by omega,by go_num,by rw[HKS.out];exact HM4.out,HB4'.out⟩
    case measure=>simp[intOf];omega
   cases ok
   ·rw[if_pos ⟨hne,rfl⟩] at HKS
    clear hne
    go_wp2_with (first | (at_mapUpdate;refine wpList_mapUpdate_mp rfl _ _ _ 72 rfl 3 Tryz.underlying72 HM4 rfl (by have:=hl;unfold maxLen;omega) nm (.int .i64 k) rfl rfl hsz ?_) | go_in)
    intro w6 HM6 HG6
    have HB6:Hid (Below w.heap.size w w6):=HB4'.out.trans (belG HG6.out HB1.out.size HB4'.out.size)
    go_wp2
    go_roundw
    case rel=>exact ⟨k+1,n+1,by omega,by omega,by go_num,by rw[HKS.out];exact HM6.out,HB6.out⟩
    case measure=>simp[intOf];omega
   ·rw[if_neg (fun h=>by cases h.2)] at HKS
    clear hne
    go_wp2
    go_roundw
    case rel=>exact ⟨k+1,n,by omega,by omega,by go_num,by rw[HKS.out];exact HM4.out,HB4'.out⟩
    case measure=>simp[intOf];omega
  obtain rfl:k=N:=by omega
  go_wp2
  go_ret
  have e:L.take k=L:=List.take_of_length_le (by rw[HLN.out];exact Nat.le_refl _)
  rw[e] at HM
  exact ⟨⟨_,n,rfl,HM.out,HB1.out.size⟩,HB.out⟩
end Go.Proofs.YtilpgpcgcpedjaaGreat
