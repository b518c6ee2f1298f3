/- A production's holes are its symbols that are no literals: the law's walk. -/
import Derived.Test.YtilpgpcgcpedjaaGreatNc
import Derived.Test.YtilpgpcgcpedjaaGreatNd
namespace Go.Proofs.YtilpgpcgcpedjaaGreat
open Go.RowKit
set_option linter.unusedVariables false
set_option linter.unusedSimpArgs false
set_option maxRecDepth 100000
set_option maxHeartbeats 16000000
theorem IntsAt.drew {W:World} {base:Nat} {l:List Nat} {v:Value} (h:IntsAt W base l v):IntsAt W.drew base l v:=⟨h.row⟩
theorem holesL_len (l:List Sy):(holesL l).length≤l.length:=by
 rw[←holesN_eq]
 exact holesN_le l _
theorem holes_walk (D:Pr) (vs:List Value) (w:World) (h:PrV w w.heap.size D vs) (hz:D.syms.length*88≤140737488355328):
  Calls Tryz.prog 5 #[.agg ⟨vs⟩] w fun e w'=>e=.returned (.bool true)∧Below w.heap.size w w':=by
 have HP:Hid (∀W,Below w.heap.size w W→PrV W W.heap.size D vs):=fun W hb=>h.keep hb hb.size
 have HA:=hU (fun W=>alive_any W)
 have HZ:=hHi hz
 obtain⟨v,rfl,a1,p1,rfl,hl0,hl1,hr1⟩:=h
 have HLN:=hHi (holesL_len D.syms)
 obtain⟨N,hN⟩:∃N,D.syms.length=N:=⟨_,rfl⟩
 have HN:=hHi hN
 rw[hN] at hl0 hl1 ⊢
 have HC1:Hid (∀W,Below w.heap.size w W→Calls Tryz.prog 27 #[.agg #[.bool D.lex,.string D.sort,.string D.cons,.bool D.bracket,.slice a1 N p1]] W fun e w'=>(∃va vc,e=.returned (.slice va (holesL D.syms).length vc)∧IntsAt w' W.heap.size (holesL D.syms) (.slice va (holesL D.syms).length vc))∧Below W.heap.size W w'):=fun W hb=>by
  have h1:=HP.out W hb
  rw[HN.out] at h1
  exact holes_any D _ W h1 HZ.out
 have HC2:Hid (∀W,Below w.heap.size w W→Calls Tryz.prog 28 #[.agg #[.bool D.lex,.string D.sort,.string D.cons,.bool D.bracket,.slice a1 N p1]] W fun e w'=>(∃va vc,e=.returned (.slice va (holesL D.syms).length vc)∧IntsAt w' W.heap.size (holesL D.syms) (.slice va (holesL D.syms).length vc))∧Below W.heap.size W w'):=fun W hb=>by
  have h1:=HP.out W hb
  rw[HN.out] at h1
  exact rholes_any D _ W h1 HZ.out
 have HL:Hid ((holesL D.syms).length≤140737488355328):=by have:=HLN.out;show _≤_;omega
 clear hr1 hN hz
 obtain⟨L,hLL⟩:∃L,holesL D.syms=L:=⟨_,rfl⟩
 rw[hLL] at HC1 HC2 HL
 clear hLL
 obtain⟨w1,hw1⟩:∃qW,w.alloc (.cells #[.bool D.lex,.string D.sort,.string D.cons,.bool D.bracket,.slice a1 N p1] 44)=qW:=⟨_,rfl⟩
 have T:BX w w1 w.heap.size 44 #[.bool D.lex,.string D.sort,.string D.cons,.bool D.bracket,.slice a1 N p1]:=⟨(kB hw1).out,(kN hw1).out⟩
 have HT:=hHi T
 clear T
 go_enter Tryz.func5,Tryz.ntmps5
 obtain⟨d0,d1,d2,d3,d4⟩:=HT.out.box.c5
 by_cases hbig:4096<N
 ·have hbI:(4096:Int)<N:=by omega
  go_wp2_with fail
  refine hMo (hU (HA.out () w1)) ?_
  rintro e w2 ⟨rfl,hb⟩
  have HB2:=hHi (HT.out.bel.trans (hb.mono HT.out.bel.size))
  clear hb
  go_wp2
  go_ret
  exact ⟨rfl,HB2.out⟩
 ·have hbI:¬(4096:Int)<N:=by omega
  have T:=HT.out
  go_wp2
  clear d0 d1 d2 d3 d4
  go_region_held3 (fun W=>W.cell? ⟨w.heap.size,0,none⟩=some (.bool D.lex)∧W.cell? ⟨w.heap.size,1,none⟩=some (.string D.sort)∧W.cell? ⟨w.heap.size,2,none⟩=some (.string D.cons)∧W.cell? ⟨w.heap.size,3,none⟩=some (.bool D.bracket)∧W.cell? ⟨w.heap.size,4,none⟩=some (.slice a1 N p1)) (first | exact T.box.c5 | exact T.drew.box.c5) (first | (go_at_call 12;refine (HA.out () _).mono ?_;rintro e w5 ⟨rfl,hb5⟩;replace T:BX w w5 w.heap.size 44 _:=(by first | exact T.nx hb5 | exact T.drew.nx hb5);clear hb5) | (go_at_call 27;refine (HC1.out _ T.bel).mono ?_;rintro e w5 ⟨⟨va1,vc1,rfl,hi1⟩,hb5⟩;replace T:BX w w5 w.heap.size 44 _:=(by first | exact T.nx hb5 | exact T.drew.nx hb5);have HI1:=hHi hi1;clear hb5 hi1) | (go_at_call 27;refine (HC1.out _ T.drew.bel).mono ?_;rintro e w5 ⟨⟨va1,vc1,rfl,hi1⟩,hb5⟩;replace T:BX w w5 w.heap.size 44 _:=(by first | exact T.nx hb5 | exact T.drew.nx hb5);have HI1:=hHi hi1;clear hb5 hi1) | (go_at_call 28;refine (HC2.out _ T.bel).mono ?_;rintro e w5 ⟨⟨va2,vc2,rfl,hi2⟩,hb5⟩;replace T:BX w w5 w.heap.size 44 _:=(by first | exact T.nx hb5 | exact T.drew.nx hb5);replace HI1:=hHi (HI1.out.after (by first | exact hb5 | exact hb5));have HI2:=hHi hi2;clear hb5 hi2) | (go_at_call 28;refine (HC2.out _ T.drew.bel).mono ?_;rintro e w5 ⟨⟨va2,vc2,rfl,hi2⟩,hb5⟩;replace T:BX w w5 w.heap.size 44 _:=(by first | exact T.nx hb5 | exact T.drew.nx hb5);replace HI1:=hHi (HI1.out.drew.after hb5);have HI2:=hHi hi2;clear hb5 hi2) | (go_at_call 26;refine (sameInts_at HI1.out HI2.out HL.out).mono ?_;rintro e w5 ⟨rfl,hb5⟩;replace T:BX w w5 w.heap.size 44 _:=T.nx hb5;clear hb5) | (go_at_call 26;refine (sameInts_at HI1.out.drew HI2.out.drew HL.out).mono ?_;rintro e w5 ⟨rfl,hb5⟩;replace T:BX w w5 w.heap.size 44 _:=T.drew.nx hb5;clear hb5))
  all_goals go_wp2
  all_goals go_ret
  all_goals exact ⟨rfl,T.bel⟩
end Go.Proofs.YtilpgpcgcpedjaaGreat
