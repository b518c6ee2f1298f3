/- Of each sort the names to which its productions lead: the program's map. -/
import Derived.Test.YtilpgpcgcpedjaaGreatKj
namespace Go.Proofs.YtilpgpcgcpedjaaGreat
open Go.RowKit
set_option linter.unusedVariables false
set_option linter.unusedSimpArgs false
set_option maxRecDepth 100000
set_option maxHeartbeats 16000000
theorem steps_any (n:Nat) (F:Pr→List ByteArray) (hFl:∀p,(F p).length≤p.syms.length) (d:Df) (a2:Option Addr) (p2:Nat) (v3 v4 v5 v6:Value) (w:World) (hr:Row w w.heap.size 5 (PrV w w.heap.size) a2 d.prods) (hl:d.prods.length*72≤140737488355328) (hz:∀p∈d.prods,p.syms.length*88≤140737488355328) (hfew:symsN d.prods≤1000000) (hN:∀p∈d.prods,NmP p)
  (hen:∀(args:Array Value) (W:World),(callFunc n args).run Tryz.prog W=.ok (.enter n args) W)
  (hF:∀(p:Pr) (vs:List Value) (W:World),PrV W W.heap.size p vs→p.syms.length*88≤140737488355328→Calls Tryz.prog n #[.agg ⟨vs⟩] W fun e W'=>(∃va vc,e=.returned (.slice va (F p).length vc)∧NamesAt W' W.heap.size (F p) (.slice va (F p).length vc))∧Below W.heap.size W W'):
  Calls Tryz.prog 64 #[.agg #[.string d.start,.string d.layout,.slice a2 d.prods.length p2,v3,v4,v5,v6],.func (.func n) #[] #[]] w fun e w'=>(∃B m lo f,e=.returned (.map (some B))∧SP w' lo B m (leadsAll F d.prods) f∧w.heap.size≤B∧w.heap.size≤lo)∧Below w.heap.size w w':=by
 obtain⟨L,hL⟩:∃L,d.prods=L:=⟨_,rfl⟩
 rw[hL] at hr hl hN hz hfew ⊢
 clear hL
 obtain⟨N,hLN⟩:∃N,L.length=N:=⟨_,rfl⟩
 have HR1:=hHi hr
 have HLN:=hHi hLN
 have HNM:=hHi hN
 have HZ:=hHi hz
 have HF:=hU hF
 have HFL:=hHi hFl
 have HFEW:=hHi hfew
 rw[hLN] at hl ⊢
 clear hr hLN hN hF hz hFl hfew
 have hmm:=@run_makeMap Tryz.prog
 go_enter Tryz.func64,Tryz.ntmps64
 obtain⟨w1,hw1⟩:∃qW,w.alloc (.cells #[.string d.start,.string d.layout,.slice a2 N p2,v3,v4,v5,v6] 28)=qW:=⟨_,rfl⟩
 have HX1:=kN hw1
 have HB1:=kB hw1
 have HS1:Hid (w1.heap.size=w.heap.size+1):=by show _=_;rw[←hw1];simp
 obtain⟨w2,hw2⟩:∃qW,w1.alloc (.map #[] 0)=qW:=⟨_,rfl⟩
 have HM2:Hid (Mp w2 w1.heap.size 0 (fun _=>none)):=by show Mp _ _ _ _;rw[←hw2];exact Mp.made w1
 have HN2:=kB hw2
 have HX2:=kA HX1 HN2
 have HB2:Hid (Below w.heap.size w w2):=below_tr HB1.out HN2.out
 have HS2:Hid (w2.heap.size=w1.heap.size+1):=by show _=_;rw[←hw2];simp
 obtain⟨B,hBB⟩:∃B,w1.heap.size=B:=⟨_,rfl⟩
 have HBw:Hid (w.heap.size≤B):=by show _≤_;rw[←hBB];exact HB1.out.size
 obtain⟨lo,hlo⟩:∃lo,lo=w1.heap.size+1:=⟨_,rfl⟩
 have HLO:Hid (lo=B+1):=by show _=_;rw[hlo,hBB]
 have HL2:Hid (lo≤w2.heap.size):=by show _≤_;rw[HS2.out,hlo];exact Nat.le_refl _
 rw[hBB] at HM2
 obtain⟨d0,d1,d2,d3,d4,d5,d6⟩:=HX2.out.c7
 go_wp2
 go_loopw[12] (fun iv W=>∃(k m:Nat) (f:ByteArray→Option Value),k≤N∧m≤k∧iv=.int .i64 k∧SP W lo B m (leadsAll F (L.take k)) f∧lo≤W.heap.size∧Below w.heap.size w W) (fun iv _=>N-(intOf iv).toNat)
 case atStart=>exact ⟨0,0,_,Nat.zero_le _,Nat.le_refl _,rfl,⟨HM2.out,fun s=>⟨World.ownsRow_nil _ _ _ _⟩,fun s t _ b hb=>by cases hb⟩,HL2.out,HB2.out⟩
 case round=>
  obtain⟨k,m,f,hk,hm,rfl,hM,hlw,hB⟩:=hrel
  have HM:=hHi hM
  have HB:=hHi hB
  have HLW:=hHi hlw
  clear hM hB hlw d0 d1 d2 d3 d4 d5 d6
  by_cases hlt:k<N
  case pos=>
   obtain⟨x,hx⟩:∃x,L[k]?=some x:=⟨L[k]'(by rw[HLN.out];exact hlt),by simp⟩
   obtain⟨b,o,us,hb,hlb,hus,hc⟩:=HR1.out k x hx
   have HPV:=hHi hus
   obtain⟨v,rfl,a3,p3,rfl,_⟩:=hus
   subst hb
   have HT:Hid (L.take (k+1)=L.take k++[x]):=take_snoc' hx
   have hsz:=(HNM.out x (List.mem_of_getElem? hx)).sort
   have hzx:=HZ.out x (List.mem_of_getElem? hx)
   have hfx:=Nat.le_trans (symsN_at hx) HFEW.out
   have hq_:=hcb HB.out hlb hc
   have s0:=hq_ 0 _ rfl
   have s1:=hq_ 1 _ rfl
   have s2:=hq_ 2 _ rfl
   have s3:=hq_ 3 _ rfl
   have s4:=hq_ 4 _ rfl
   rw[Nat.add_zero] at s0
   have hltI:(k:Int)<N:=by omega
   clear hq_ hc hx
   have HLC:Hid (((leadsAll F (L.take k) x.sort).length+(F x).length)*16≤140737488355328):=by
    have h1:=leadsAll_len F 0 HFL.out (L.take k) x.sort
    have h2:=HFL.out x
    have h3:(((L.take k).map fun p=>p.syms.length).sum)=symsN (L.take k):=rfl
    show _≤_
    omega
   clear hfx
   obtain⟨w3,hw3⟩:∃qW,wr.alloc (.cells #[.bool x.lex,.string x.sort,.string x.cons,.bool x.bracket,.slice a3 x.syms.length p3] 44)=qW:=⟨_,rfl⟩
   have HN3:=kB hw3
   have HX3:=kN hw3
   have HB3:Hid (Below w.heap.size w w3):=below_tr HB.out HN3.out
   have HL3:Hid (lo≤w3.heap.size):=Nat.le_trans HLW.out HN3.out.size
   have HPV3:Hid (∀W,Below w.heap.size w W→PrV W W.heap.size x [.bool x.lex,.string x.sort,.string x.cons,.bool x.bracket,.slice a3 x.syms.length p3]):=fun W hW=>HPV.out.keep hW hW.size
   have T:ST w w3 lo wr.heap.size B m #[.bool x.lex,.string x.sort,.string x.cons,.bool x.bracket,.slice a3 x.syms.length p3] f (leadsAll F (L.take k)):=⟨HB3.out,HX3.out,HM.out.nx HN3.out,HL3.out⟩
   have HKS:Hid (∀s,leadsAll F (L.take (k+1)) s=if s=x.sort then leadsAll F (L.take k) x.sort++F x else leadsAll F (L.take k) s):=fun s=>by rw[HT.out,leadsAll_snoc];split<;>simp_all
   clear HPV
   have HBL:Hid (B<lo):=by show _<_;have:=HLO.out;omega
   have HWL:Hid (w.heap.size≤lo):=by show _≤_;have:=HLO.out;have:=HBw.out;omega
   have HPB:Hid (wr.heap.size≠B):=by show _≠_;have:=HM.out.map.lt;omega
   have HMX:Hid (m<maxLen):=by show _<_;have:=hl;unfold maxLen;omega
   go_wp2
   have TC:=T.box.c5
   have hlk:=T.drew.sp.map.look Tryz.underlying91 (zero36 _) hsz
   clear s0 s1 s2 s3 s4
   go_region_held3 (fun W=>W.cell? ⟨wr.heap.size,0,none⟩=some (.bool x.lex)∧W.cell? ⟨wr.heap.size,1,none⟩=some (.string x.sort)∧W.cell? ⟨wr.heap.size,2,none⟩=some (.string x.cons)∧W.cell? ⟨wr.heap.size,3,none⟩=some (.bool x.bracket)∧W.cell? ⟨wr.heap.size,4,none⟩=some (.slice a3 x.syms.length p3)) (first | exact T.box.c5 | exact T.drew.box.c5 | exact T.st.box.c5 | exact T.st.drew.box.c5 | exact T8.1.c5) (first | (refine (HF.out () x _ _ (HPV3.out _ T.bel) hzx).mono ?_;rintro e w5 ⟨⟨xa,xc,rfl,hn5⟩,hb5⟩;replace T:ST2 w w5 lo wr.heap.size B m #[.bool x.lex,.string x.sort,.string x.cons,.bool x.bracket,.slice a3 x.syms.length p3] f (leadsAll F (L.take k)) (.slice xa (F x).length xc) (F x) _:=⟨(by first | exact T.nx hb5 | exact T.drew.nx hb5),hn5⟩;have hlk5:=T.st.sp.map.look Tryz.underlying91 (zero36 _) hsz;clear hb5 hn5) | (refine (HF.out () x _ _ (HPV3.out _ T.drew.bel) hzx).mono ?_;rintro e w5 ⟨⟨xa,xc,rfl,hn5⟩,hb5⟩;replace T:ST2 w w5 lo wr.heap.size B m #[.bool x.lex,.string x.sort,.string x.cons,.bool x.bracket,.slice a3 x.syms.length p3] f (leadsAll F (L.take k)) (.slice xa (F x).length xc) (F x) _:=⟨(by first | exact T.nx hb5 | exact T.drew.nx hb5),hn5⟩;have hlk5:=T.st.sp.map.look Tryz.underlying91 (zero36 _) hsz;clear hb5 hn5) | (refine step_app_names (by rfl) _ _ (by rfl) (by rfl) (by rfl) (T.st.sp.rows x.sort) T.res HLC.out T.st.lw ?_;intro v7 w7 hn7 hg7 ho7;replace T:=T.app HBL.out HWL.out hn7 hg7 ho7;obtain⟨w8,hr8,hm8,hg8⟩:=T.map.store HMX.out Tryz.underlying91 hsz v7;have T8:=T.upd HBL.out HBw.out HPB.out hm8 hg8) | (refine step_app_names (by rfl) _ _ (by rfl) (by rfl) (by rfl) (T.drew.st.sp.rows x.sort) T.drew.res HLC.out T.drew.st.lw ?_;intro v7 w7 hn7 hg7 ho7;replace T:=T.drew.app HBL.out HWL.out hn7 hg7 ho7;obtain⟨w8,hr8,hm8,hg8⟩:=T.map.store HMX.out Tryz.underlying91 hsz v7;have T8:=T.upd HBL.out HBw.out HPB.out hm8 hg8))
   all_goals
    go_wp2
    go_roundw
   all_goals first
    | exact ⟨k+1,m+1,_,by omega,by omega,by go_num,(by rw[show leadsAll F (L.take (k+1))=_ from funext HKS.out];exact T8.2.2),Nat.le_trans T.lwc hg8.size,T8.2.1⟩
    | (simp[intOf];omega)
  obtain rfl:k=N:=by omega
  go_wp2
  go_ret
  have e:L.take k=L:=List.take_of_length_le (by rw[HLN.out];exact Nat.le_refl _)
  rw[e] at HM
  exact ⟨⟨B,m,lo,f,rfl,HM.out,HBw.out,by have:=HLO.out;have:=HBw.out;omega⟩,HB.out⟩
end Go.Proofs.YtilpgpcgcpedjaaGreat
