/- In whatever order productions, follows, rejects and templates stand, a definition is right or not: the law's walk. -/
import Derived.Test.YtilpgpcgcpedjaaGreatPm
import Derived.Deep.CutRange
import Derived.Deep.RegionLaw
import Derived.Deep.AppendLies
namespace Go.Proofs.YtilpgpcgcpedjaaGreat
open Go.RowKit
set_option linter.unusedVariables false
set_option linter.unusedSimpArgs false
set_option maxRecDepth 100000
set_option maxHeartbeats 16000000
theorem IntsAt.drew' {W:World} {base:Nat} {l:List Nat} {v:Value} (h:IntsAt W base l v):IntsAt W.drew base l v:=⟨h.row⟩
theorem info54q:(Tryz.prog.info? 54).map (fun i=>(i.zero,i.size,i.bytes))=some (some (.agg #[.string ⟨#[]⟩,.int .u64 0,.int .u64 0,.int .u64 0,.int .u64 0]),5,48):=by kernel_rfl
theorem info56q:(Tryz.prog.info? 56).map (fun i=>(i.zero,i.size,i.bytes))=some (some (.agg #[.string ⟨#[]⟩,.string ⟨#[]⟩]),2,32):=by kernel_rfl
theorem turnX_turned {d:Df} {t2 t4 t5 t6:Nat} (h2:0<d.prods.length→t2<d.prods.length) (h4:0<d.follows.length→t4<d.follows.length) (h5:0<d.rejects.length→t5<d.rejects.length) (h6:0<d.boxes.length→t6<d.boxes.length):Turned d (turnX d t2 t4 t5 t6):=⟨rfl,rfl,rfl,pick_perm' _ h2,pick_perm' _ h4,pick_perm' _ h5,pick_perm' _ h6⟩
theorem turned_few {d x:Df} (h:Turned d x) (hq:lists d≤400∧symsN d.prods≤400):lists x≤400∧symsN x.prods≤400:=by
 have h1:=hq.1
 have h2:=hq.2
 unfold lists symsN at *
 rw[h.pr.length_eq,h.fo.length_eq,h.re.length_eq,h.bo.length_eq,h.ch,(h.pr.map _).sum_nat]
 exact ⟨h1,h2⟩
theorem rows_of {w:World} {d:Df} {a2 a3 a4 a5 a6:Option Addr} {p2 p3 p4 p5 p6:Nat} (h:DO w d [.string d.start,.string d.layout,.slice a2 d.prods.length p2,.slice a3 d.chains.length p3,.slice a4 d.follows.length p4,.slice a5 d.rejects.length p5,.slice a6 d.boxes.length p6]):Row w w.heap.size 5 (PrV w w.heap.size) a2 d.prods∧Row w w.heap.size 5 FoV a4 d.follows∧Row w w.heap.size 2 ReV a5 d.rejects∧∃f,Row w w.heap.size 2 (BoV w w.heap.size f) a6 d.boxes:=by
 obtain⟨b2,c2,b3,c3,b4,c4,b5,c5,b6,c6,e,r2,r3,r4,r5,f,r6⟩:=h.form
 simp only[List.cons.injEq,Value.slice.injEq,true_and,and_true] at e
 obtain⟨⟨rfl,_⟩,⟨rfl,_⟩,⟨rfl,_⟩,⟨rfl,_⟩,rfl,_⟩:=e
 exact ⟨r2,r4,r5,f,r6⟩
theorem turned_walk (d:Df) (vs:List Value) (kk:Int) (w:World) (h:DO w d vs) (hlo:-9223372036854775808≤kk) (hhi:kk≤9223372036854775807):
  Calls Tryz.prog 6 #[.agg ⟨vs⟩,.int .i64 kk] w fun e w'=>e=.returned (.bool true)∧Below w.heap.size w w':=by
 have HDO:=hHi h
 have HA:=hU (fun W=>alive_any W)
 obtain⟨a2,p2,a3,p3,a4,p4,a5,p5,a6,p6,rfl,r2,_⟩:=h.form
 obtain⟨f,hf⟩:=h.sz
 have hz72:=hf.p
 have HHV:Hid (∀W,Below w.heap.size w W→Calls Tryz.prog 11 #[.agg #[.string d.start,.string d.layout,.slice a2 d.prods.length p2,.slice a3 d.chains.length p3,.slice a4 d.follows.length p4,.slice a5 d.rejects.length p5,.slice a6 d.boxes.length p6]] W fun e w'=>(∃b,e=.returned (.bool b)∧(b=false→lists d≤400∧symsN d.prods≤400))∧Below W.heap.size W w'):=fun W hb=>heavy_any d _ W (HDO.out.nx hb)
 have HR1:=hHi r2
 obtain⟨w1,hw1⟩:∃qW,w.alloc (.cells #[.string d.start,.string d.layout,.slice a2 d.prods.length p2,.slice a3 d.chains.length p3,.slice a4 d.follows.length p4,.slice a5 d.rejects.length p5,.slice a6 d.boxes.length p6] 28)=qW:=⟨_,rfl⟩
 have T:BX w w1 w.heap.size 28 #[.string d.start,.string d.layout,.slice a2 d.prods.length p2,.slice a3 d.chains.length p3,.slice a4 d.follows.length p4,.slice a5 d.rejects.length p5,.slice a6 d.boxes.length p6]:=⟨(kB hw1).out,(kN hw1).out⟩
 have HT:=hHi T
 clear T r2 hf h
 go_enter Tryz.func6,Tryz.ntmps6
 obtain⟨d0,d1,d2,d3,d4,d5,d6⟩:=HT.out.box.c7
 go_wp2_with fail
 refine hMo (hU (HHV.out w1 HT.out.bel)) ?_
 rintro e w2 ⟨⟨b,rfl,hq⟩,hb⟩
 have HQ:=hHi hq
 replace HT:=hHi (HT.out.nx hb)
 clear hq hb d0 d1 d2 d3 d4 d5 d6 HHV hw1
 cases b with
 | true=>
  go_wp2_with fail
  refine hMo (hU (HA.out () w2)) ?_
  rintro e w3 ⟨rfl,hb⟩
  have HB3:=hHi (HT.out.bel.trans (hb.mono HT.out.bel.size))
  clear hb
  go_wp2
  go_ret
  exact ⟨rfl,HB3.out⟩
 | false=>
 have HFEW:Hid _:=hHi (HQ.out rfl)
 clear HQ
 obtain⟨ce,hce⟩:∃z,(chk d (rightB d)).1=z:=⟨_,rfl⟩
 obtain⟨cn,hcn⟩:∃z,(chk d (rightB d)).2=z:=⟨_,rfl⟩
 have HCE:=hHi hce
 have HCN:=hHi hcn
 have HCK:Hid (∀W,Below w.heap.size w W→Calls Tryz.prog 14 #[.agg #[.string d.start,.string d.layout,.slice a2 d.prods.length p2,.slice a3 d.chains.length p3,.slice a4 d.follows.length p4,.slice a5 d.rejects.length p5,.slice a6 d.boxes.length p6]] W fun e w'=>e=.returned (.tuple #[.int .i64 ce,.string cn])∧Below W.heap.size W w'):=fun W hb=>by rw[←HCE.out,←HCN.out];exact check_do d _ W (HDO.out.nx hb) HFEW.out
 clear hce hcn
 obtain⟨d0,d1,d2,d3,d4,d5,d6⟩:=HT.out.box.c7
 go_wp2_with fail
 refine hMo (hU (HCK.out w2 HT.out.bel)) ?_
 rintro e w3 ⟨rfl,hb⟩
 replace HT:=hHi (HT.out.nx hb)
 clear hb d0 d1 d2 d3 d4 d5 d6
 obtain⟨d0,d1,d2,d3,d4,d5,d6⟩:=HT.out.box.c7
 obtain⟨q2,q4,q5,f6,q6⟩:=rows_of HDO.out
 have hlen:=HFEW.out.1
 unfold lists at hlen
 have HLE2:Hid (d.prods.length≤1000000):=by show _≤_;omega
 have HLE4:Hid (d.follows.length≤1000000):=by show _≤_;omega
 have HLE5:Hid (d.rejects.length≤1000000):=by show _≤_;omega
 have HLE6:Hid (d.boxes.length≤1000000):=by show _≤_;omega
 have hle2:d.prods.length≤400:=by omega
 have hle4:d.follows.length≤400:=by omega
 have hle5:d.rejects.length≤400:=by omega
 have hle6:d.boxes.length≤400:=by omega
 obtain⟨z2,hw2,hz2⟩:=cells_of q2 (fun x vs h=>by obtain⟨v,rfl,_⟩:=h;rfl)
 obtain⟨z4,hw4,hz4⟩:=cells_of q4 (fun x vs h=>by obtain⟨_,rfl⟩:=h;rfl)
 obtain⟨z5,hw5,hz5⟩:=cells_of q5 (fun x vs h=>by rw[show vs=_ from h];rfl)
 obtain⟨z6,hw6,hz6⟩:=cells_of q6 (fun x vs h=>by obtain⟨v,rfl,_⟩:=h;rfl)
 have HW2:=hHi hw2
 have HW4:=hHi hw4
 have HW5:=hHi hw5
 have HW6:=hHi hw6
 have HZ2:=hHi hz2
 have HZ4:=hHi hz4
 have HZ5:=hHi hz5
 have HZ6:=hHi hz6
 clear q2 q4 q5 q6 hw2 hw4 hw5 hw6 hz2 hz4 hz5 hz6 hlen
 go_wp2
 obtain⟨PX,hPX⟩:∃q,w3.heap.size=q:=⟨_,rfl⟩
 obtain⟨wx,hwx⟩:∃q,w3.alloc (.cells #[.string d.start,.string d.layout,.slice none 0 0,.slice a3 d.chains.length p3,.slice none 0 0,.slice none 0 0,.slice none 0 0] 28)=q:=⟨_,rfl⟩
 have HXX:=kN hwx
 have HBX:=kB hwx
 have HTX:=hHi (HT.out.nx HBX.out)
 have HPL:Hid (w.heap.size<PX):=by show _<_;rw[←hPX];exact HT.out.box.lt
 rw[hPX] at HXX ⊢
 rw[hwx]
 clear hPX hwx d0 d1 d2 d3 d4 d5 d6
 have HTU:Hid (∀(W:World) (n:Nat),Below w.heap.size w W→PX<W.heap.size→n≤1000000→Calls Tryz.prog 29 #[.int .i64 n,.int .i64 kk] W fun e w'=>(∃s va vc,(0<n→s<n)∧e=.returned (.slice va n vc)∧IntsAt w' (PX+1) (rot n s) (.slice va n vc))∧Below W.heap.size W w'):=fun W n hb hp hn=>(turn_any n kk W hn).mono (fun e w' ⟨⟨s,va,vc,h1,h2,h3⟩,hb'⟩=>⟨⟨s,va,vc,h1,h2,⟨row_mono h3.row (by omega)⟩⟩,hb'⟩)
 go_cut [8,9,10,11] from 18 (fun s8 s9 s10 s11 wc=>∃t2 x2 c2 t4 x4 c4 t5 x5 c5 t6 x6 c6,s8=.slice x2 d.prods.length c2∧s9=.slice x4 d.follows.length c4∧s10=.slice x5 d.rejects.length c5∧s11=.slice x6 d.boxes.length c6∧(0<d.prods.length→t2<d.prods.length)∧(0<d.follows.length→t4<d.follows.length)∧(0<d.rejects.length→t5<d.rejects.length)∧(0<d.boxes.length→t6<d.boxes.length)∧IntsAt wc (PX+1) (rot d.prods.length t2) (.slice x2 d.prods.length c2)∧IntsAt wc (PX+1) (rot d.follows.length t4) (.slice x4 d.follows.length c4)∧IntsAt wc (PX+1) (rot d.rejects.length t5) (.slice x5 d.rejects.length c5)∧IntsAt wc (PX+1) (rot d.boxes.length t6) (.slice x6 d.boxes.length c6)∧BX w wc w.heap.size 28 #[.string d.start,.string d.layout,.slice a2 d.prods.length p2,.slice a3 d.chains.length p3,.slice a4 d.follows.length p4,.slice a5 d.rejects.length p5,.slice a6 d.boxes.length p6]∧Blk wc PX 28 #[.string d.start,.string d.layout,.slice none 0 0,.slice a3 d.chains.length p3,.slice none 0 0,.slice none 0 0,.slice none 0 0])
 case first=>
  have T:=HTX.out
  go_region_held3 (fun W=>W.cell? ⟨w.heap.size,0,none⟩=some (.string d.start)∧W.cell? ⟨w.heap.size,1,none⟩=some (.string d.layout)∧W.cell? ⟨w.heap.size,2,none⟩=some (.slice a2 d.prods.length p2)∧W.cell? ⟨w.heap.size,3,none⟩=some (.slice a3 d.chains.length p3)∧W.cell? ⟨w.heap.size,4,none⟩=some (.slice a4 d.follows.length p4)∧W.cell? ⟨w.heap.size,5,none⟩=some (.slice a5 d.rejects.length p5)∧W.cell? ⟨w.heap.size,6,none⟩=some (.slice a6 d.boxes.length p6)) (first | exact T.box.c7 | exact T.drew.box.c7) (first | (go_at_call_of 29 (d.prods.length);refine (HTU.out _ _ (T.bel) HXX.out.lt HLE2.out).mono ?_;rintro e w5 ⟨⟨t2,x2,c2,ht,rfl,hi1⟩,hb5⟩;replace T:BX w w5 w.heap.size 28 _:=T.nx hb5;replace HXX:=hHi (HXX.out.after hb5);have I2:=hHi hi1;have HR2:=hHi ht;clear hb5 hi1 ht) | (go_at_call_of 29 (d.prods.length);refine (HTU.out _ _ (T.drew.bel) HXX.out.drew.lt HLE2.out).mono ?_;rintro e w5 ⟨⟨t2,x2,c2,ht,rfl,hi1⟩,hb5⟩;replace T:BX w w5 w.heap.size 28 _:=T.drew.nx hb5;replace HXX:=hHi (HXX.out.drew.after hb5);have I2:=hHi hi1;have HR2:=hHi ht;clear hb5 hi1 ht) | (go_at_call_of 29 (d.follows.length);refine (HTU.out _ _ (T.bel) HXX.out.lt HLE4.out).mono ?_;rintro e w5 ⟨⟨t4,x4,c4,ht,rfl,hi1⟩,hb5⟩;replace T:BX w w5 w.heap.size 28 _:=T.nx hb5;replace HXX:=hHi (HXX.out.after hb5);replace I2:=hHi (I2.out.after hb5);have I4:=hHi hi1;have HR4:=hHi ht;clear hb5 hi1 ht) | (go_at_call_of 29 (d.follows.length);refine (HTU.out _ _ (T.drew.bel) HXX.out.drew.lt HLE4.out).mono ?_;rintro e w5 ⟨⟨t4,x4,c4,ht,rfl,hi1⟩,hb5⟩;replace T:BX w w5 w.heap.size 28 _:=T.drew.nx hb5;replace HXX:=hHi (HXX.out.drew.after hb5);replace I2:=hHi ((IntsAt.drew I2.out).after hb5);have I4:=hHi hi1;have HR4:=hHi ht;clear hb5 hi1 ht) | (go_at_call_of 29 (d.rejects.length);refine (HTU.out _ _ (T.bel) HXX.out.lt HLE5.out).mono ?_;rintro e w5 ⟨⟨t5,x5,c5,ht,rfl,hi1⟩,hb5⟩;replace T:BX w w5 w.heap.size 28 _:=T.nx hb5;replace HXX:=hHi (HXX.out.after hb5);replace I2:=hHi (I2.out.after hb5);replace I4:=hHi (I4.out.after hb5);have I5:=hHi hi1;have HR5:=hHi ht;clear hb5 hi1 ht) | (go_at_call_of 29 (d.rejects.length);refine (HTU.out _ _ (T.drew.bel) HXX.out.drew.lt HLE5.out).mono ?_;rintro e w5 ⟨⟨t5,x5,c5,ht,rfl,hi1⟩,hb5⟩;replace T:BX w w5 w.heap.size 28 _:=T.drew.nx hb5;replace HXX:=hHi (HXX.out.drew.after hb5);replace I2:=hHi ((IntsAt.drew I2.out).after hb5);replace I4:=hHi ((IntsAt.drew I4.out).after hb5);have I5:=hHi hi1;have HR5:=hHi ht;clear hb5 hi1 ht) | (go_at_call_of 29 (d.boxes.length);refine (HTU.out _ _ (T.bel) HXX.out.lt HLE6.out).mono ?_;rintro e w5 ⟨⟨t6,x6,c6,ht,rfl,hi1⟩,hb5⟩;replace T:BX w w5 w.heap.size 28 _:=T.nx hb5;replace HXX:=hHi (HXX.out.after hb5);replace I2:=hHi (I2.out.after hb5);replace I4:=hHi (I4.out.after hb5);replace I5:=hHi (I5.out.after hb5);have I6:=hHi hi1;have HR6:=hHi ht;clear hb5 hi1 ht) | (go_at_call_of 29 (d.boxes.length);refine (HTU.out _ _ (T.drew.bel) HXX.out.drew.lt HLE6.out).mono ?_;rintro e w5 ⟨⟨t6,x6,c6,ht,rfl,hi1⟩,hb5⟩;replace T:BX w w5 w.heap.size 28 _:=T.drew.nx hb5;replace HXX:=hHi (HXX.out.drew.after hb5);replace I2:=hHi ((IntsAt.drew I2.out).after hb5);replace I4:=hHi ((IntsAt.drew I4.out).after hb5);replace I5:=hHi ((IntsAt.drew I5.out).after hb5);have I6:=hHi hi1;have HR6:=hHi ht;clear hb5 hi1 ht))
  all_goals go_wp2_with fail
  all_goals go_meet
  all_goals exact ⟨_,_,_,_,_,_,_,_,_,_,_,_,rfl,rfl,rfl,rfl,HR2.out,HR4.out,HR5.out,HR6.out,I2.out,I4.out,I5.out,I6.out,T,HXX.out⟩
 case rest=>
 obtain⟨t2,x2,c2,t4,x4,c4,t5,x5,c5,t6,x6,c6,rfl,rfl,rfl,rfl,hr2,hr4,hr5,hr6,hi2,hi4,hi5,hi6,hT,hX⟩:=hcut
 obtain⟨BS,hBS⟩:∃q,wc.heap.size=q:=⟨_,rfl⟩
 have HR2:=hHi hr2
 have HR4:=hHi hr4
 have HR5:=hHi hr5
 have HR6:=hHi hr6
 have HTT:Hid (TT w wc BS PX (.string d.start) (.string d.layout) (.slice a3 d.chains.length p3) #[.string d.start,.string d.layout,.slice a2 d.prods.length p2,.slice a3 d.chains.length p3,.slice a4 d.follows.length p4,.slice a5 d.rejects.length p5,.slice a6 d.boxes.length p6] z2 z4 z5 z6 [] [] [] [] (.slice none 0 0) (.slice none 0 0) (.slice none 0 0) (.slice none 0 0) (rot d.prods.length t2) (rot d.follows.length t4) (rot d.rejects.length t5) (rot d.boxes.length t6) (.slice x2 d.prods.length c2) (.slice x4 d.follows.length c4) (.slice x5 d.rejects.length c5) (.slice x6 d.boxes.length c6)):=⟨hT,hX,HPL.out,by rw[←hBS];exact hX.lt,by rw[hBS];exact Nat.le_refl _,World.ownsRow_nil _ _ _ _,World.ownsRow_nil _ _ _ _,World.ownsRow_nil _ _ _ _,World.ownsRow_nil _ _ _ _,hi2,hi4,hi5,hi6⟩
 clear hr2 hr4 hr5 hr6 hi2 hi4 hi5 hi6 hT hX hBS HXX HBX HTX HTU
 go_wp2
 go_loopw[12] (fun iv W=>∃(k:Nat) (ua:Option Addr) (uc:Nat),k≤d.prods.length∧iv=.int .i64 k∧TT w W BS PX (.string d.start) (.string d.layout) (.slice a3 d.chains.length p3) #[.string d.start,.string d.layout,.slice a2 d.prods.length p2,.slice a3 d.chains.length p3,.slice a4 d.follows.length p4,.slice a5 d.rejects.length p5,.slice a6 d.boxes.length p6] z2 z4 z5 z6 ((rot d.prods.length t2).take k) [] [] [] (.slice ua k uc) (.slice none 0 0) (.slice none 0 0) (.slice none 0 0) (rot d.prods.length t2) (rot d.follows.length t4) (rot d.rejects.length t5) (rot d.boxes.length t6) (.slice x2 d.prods.length c2) (.slice x4 d.follows.length c4) (.slice x5 d.rejects.length c5) (.slice x6 d.boxes.length c6)) (fun iv _=>d.prods.length-(intOf iv).toNat)
 case atStart=>exact ⟨0,none,0,Nat.zero_le _,rfl,HTT.out⟩
 case round=>
  obtain⟨k,ua,uc,hk,rfl,hT⟩:=hrel
  obtain⟨wo,hwo⟩:∃q,q=wr:=⟨_,rfl⟩
  subst hwo
  clear HTT
  have HTT:=hHi hT
  by_cases hlt:k<d.prods.length
  case pos=>
   have hlen:((rot d.prods.length t2).take k).length=k:=by rw[List.length_take,rot_len];omega
   obtain⟨j,hj⟩:∃j,(rot d.prods.length t2)[k]?=some j:=⟨(rot d.prods.length t2)[k]'(by rw[rot_len];exact hlt),by simp⟩
   have hjN:j<d.prods.length:=rot_lt HR2.out j (List.mem_of_getElem? hj)
   obtain⟨x,hx⟩:∃x,d.prods[j]?=some x:=⟨d.prods[j]'hjN,by simp⟩
   obtain⟨g,cap,e1,hg,hc⟩:=hT.i2.cell (k:=k) (by rw[rot_len];exact hlt)
   rw[rot_len] at e1
   obtain⟨e1,-,-⟩:=Value.slice.inj e1
   subst e1
   have hjv:((rot d.prods.length t2)[k]!)=j:=by simp[List.getElem!_eq_getElem?_getD,hj]
   rw[hjv,Nat.zero_add] at hc
   obtain⟨hV,b,ob,hb,hlb,hcz⟩:=HZ2.out j x hx
   obtain⟨v,hzj,a7,p7,rfl,_⟩:=hV
   obtain⟨K,hK⟩:∃K,x.syms.length=K:=⟨_,rfl⟩
   rw[hK] at hzj
   clear hK
   rw[hzj] at hcz
   subst hb
   have HZJ:=hHi hzj
   have HTK:Hid ((rot d.prods.length t2).take (k+1)=(rot d.prods.length t2).take k++[j]):=take_snoc' hj
   have HLEN:=hHi hlen
   have HT9:=hHi hT
   have hq_:=hcb hT.bx.bel hlb hcz
   have s0:=hq_ 0 _ rfl
   have s1:=hq_ 1 _ rfl
   have s2:=hq_ 2 _ rfl
   have s3:=hq_ 3 _ rfl
   have s4:=hq_ 4 _ rfl
   rw[Nat.add_zero] at s0
   have hkI:(k:Int)<d.prods.length:=by omega
   have hjI:(j:Int)<d.prods.length:=by omega
   have l1:PX<wo.heap.size:=hT.xb.lt
   have l2:w.heap.size<wo.heap.size:=hT.bx.box.lt
   have l4:b<wo.heap.size:=Nat.lt_of_lt_of_le hlb hT.bx.bel.size
   have HROW:Hid (wo.ownsRow BS 44 5 (.slice ua k uc) k (((rot d.prods.length t2).take k).flatMap z2)):=by have h:=hT.r2;rw[hlen] at h;exact h
   have HBS:Hid (BS≤wo.heap.size):=hT.bs
   have HN:Hid (∀m u,[.bool x.lex,.string x.sort,.string x.cons,.bool x.bracket,.slice a7 K p7][m]?=some u→(wo.alloc (.cells #[.bool x.lex,.string x.sort,.string x.cons,.bool x.bracket,.slice a7 K p7] 44)).drew.cell? ((⟨wo.heap.size,0,none⟩:Addr).add m)=some u):=fun i u hu=>by
    have hadd:(⟨wo.heap.size,0,none⟩:Addr).add i=⟨wo.heap.size,i,none⟩:=by unfold Addr.add;split<;>simp_all
    rw[hadd]
    exact cell_new (w:=wo) (t:=44) i (by simpa using hu)
   have HXB:=hHi hT.xb
   have HXA:=hHi ((hT.xb.alloc (.cells #[.bool x.lex,.string x.sort,.string x.cons,.bool x.bracket,.slice a7 K p7] 44)).drew)
   obtain⟨x0,x1,x2',x3,x4',x5',x6'⟩:=hT.xb.c7
   obtain⟨d0,d1,d2,d3,d4,d5,d6⟩:=hT.bx.box.c7
   have xa:=HXA.out.cell 2 rfl
   obtain⟨i0,hi,hz0,hz1,hz2⟩:=info_parts info44t
   clear hT hlen hj hjN hx hjv hzj hq_ hcz hlb HTT
   go_wp2
   go_region_law (refine step_append_lies _ (by rfl) _ _ _ (by rfl) BS 44 i0 _ 5 72 Tryz.underlying22 hi hz0 hz1 hz2 rfl (by omega) (.slice ua k uc) k (((rot d.prods.length t2).take k).flatMap z2) (by rfl) (by first | exact (HROW.out.alloc _).drew | exact (HROW.out.drew.alloc _)) ⟨wo.heap.size,0,none⟩ 1 1 [.bool x.lex,.string x.sort,.string x.cons,.bool x.bracket,.slice a7 K p7] (by rfl) (by rfl) HN.out (by intro u hu;simp at hu;rcases hu with rfl|rfl|rfl|rfl|rfl;all_goals rfl) (by omega) (by unfold maxLen;omega) (by omega) (by have:=HBS.out;simp;omega) (wo.heap.size+1) (by simp) ?_;intro g1 cap1 w7 hown1 hgrow hat hlt7;have HX7:=hHi (((HXB.out.alloc (.cells #[.bool x.lex,.string x.sort,.string x.cons,.bool x.bracket,.slice a7 K p7] 44)).drew).kept hgrow (Blk.not_row HXB.out (by decide) HROW.out));have y2:=HX7.out.cell 2 rfl;have yf:=HX7.out.frozen 2)
   all_goals
    have hst:=HT9.out.step2 (tmp:=.cells #[.bool x.lex,.string x.sort,.string x.cons,.bool x.bracket,.slice a7 K p7] 44) (w7:=w7) (g1:=g1) (cap1:=cap1) (j:=j) (by rw[HLEN.out,HZJ.out];exact hown1) hgrow
    rw[HLEN.out] at hst
    have HST:=hHi hst
    clear hst hown1 hgrow hat hlt7 y2 yf s0 s1 s2 s3 s4 x0 x1 x2' x3 x4' x5' x6' d0 d1 d2 d3 d4 d5 d6 xa l1 l2 l4
    go_wp2
    go_roundw
    case rel=>exact ⟨k+1,_,_,by omega,by go_num,by rw[HTK.out];exact HST.out⟩
    case measure=>simp[intOf];omega
  obtain rfl:k=d.prods.length:=by omega
  clear HTT
  have hT2:=hT
  rw[List.take_of_length_le (by rw[rot_len];exact Nat.le_refl _)] at hT2
  obtain⟨ua2,hua2⟩:∃q,q=ua:=⟨_,rfl⟩
  subst hua2
  obtain⟨uc2,huc2⟩:∃q,q=uc:=⟨_,rfl⟩
  subst huc2
  have HTT:=hHi hT2
  clear hT hT2
  go_wp2
  go_loopw[13] (fun iv W=>∃(k:Nat) (ua:Option Addr) (uc:Nat),k≤d.follows.length∧iv=.int .i64 k∧TT w W BS PX (.string d.start) (.string d.layout) (.slice a3 d.chains.length p3) #[.string d.start,.string d.layout,.slice a2 d.prods.length p2,.slice a3 d.chains.length p3,.slice a4 d.follows.length p4,.slice a5 d.rejects.length p5,.slice a6 d.boxes.length p6] z2 z4 z5 z6 (rot d.prods.length t2) ((rot d.follows.length t4).take k) [] [] (.slice ua2 d.prods.length uc2) (.slice ua k uc) (.slice none 0 0) (.slice none 0 0) (rot d.prods.length t2) (rot d.follows.length t4) (rot d.rejects.length t5) (rot d.boxes.length t6) (.slice x2 d.prods.length c2) (.slice x4 d.follows.length c4) (.slice x5 d.rejects.length c5) (.slice x6 d.boxes.length c6)) (fun iv _=>d.follows.length-(intOf iv).toNat)
  case atStart=>exact ⟨0,none,0,Nat.zero_le _,rfl,HTT.out⟩
  case round=>
   obtain⟨k,ua,uc,hk,rfl,hT⟩:=hrel
   obtain⟨wo,hwo⟩:∃q,q=wr:=⟨_,rfl⟩
   subst hwo
   clear HTT
   have HTT:=hHi hT
   by_cases hlt:k<d.follows.length
   case pos=>
    have hlen:((rot d.follows.length t4).take k).length=k:=by rw[List.length_take,rot_len];omega
    obtain⟨j,hj⟩:∃j,(rot d.follows.length t4)[k]?=some j:=⟨(rot d.follows.length t4)[k]'(by rw[rot_len];exact hlt),by simp⟩
    have hjN:j<d.follows.length:=rot_lt HR4.out j (List.mem_of_getElem? hj)
    obtain⟨x,hx⟩:∃x,d.follows[j]?=some x:=⟨d.follows[j]'hjN,by simp⟩
    obtain⟨g,cap,e1,hg,hc⟩:=hT.i4.cell (k:=k) (by rw[rot_len];exact hlt)
    rw[rot_len] at e1
    obtain⟨e1,-,-⟩:=Value.slice.inj e1
    subst e1
    have hjv:((rot d.follows.length t4)[k]!)=j:=by simp[List.getElem!_eq_getElem?_getD,hj]
    rw[hjv,Nat.zero_add] at hc
    obtain⟨hV,b,ob,hb,hlb,hcz⟩:=HZ4.out j x hx
    obtain⟨_,hzj⟩:=hV
    rw[hzj] at hcz
    subst hb
    have HZJ:=hHi hzj
    have HTK:Hid ((rot d.follows.length t4).take (k+1)=(rot d.follows.length t4).take k++[j]):=take_snoc' hj
    have HLEN:=hHi hlen
    have HT9:=hHi hT
    have hq_:=hcb hT.bx.bel hlb hcz
    have s0:=hq_ 0 _ rfl
    have s1:=hq_ 1 _ rfl
    have s2:=hq_ 2 _ rfl
    have s3:=hq_ 3 _ rfl
    have s4:=hq_ 4 _ rfl
    rw[Nat.add_zero] at s0
    have hkI:(k:Int)<d.follows.length:=by omega
    have hjI:(j:Int)<d.follows.length:=by omega
    have l1:PX<wo.heap.size:=hT.xb.lt
    have l2:w.heap.size<wo.heap.size:=hT.bx.box.lt
    have l4:b<wo.heap.size:=Nat.lt_of_lt_of_le hlb hT.bx.bel.size
    have HROW:Hid (wo.ownsRow BS 54 5 (.slice ua k uc) k (((rot d.follows.length t4).take k).flatMap z4)):=by have h:=hT.r4;rw[hlen] at h;exact h
    have HBS:Hid (BS≤wo.heap.size):=hT.bs
    have HN:Hid (∀m u,[.string x.sort,.int .u64 x.set.a,.int .u64 x.set.b,.int .u64 x.set.c,.int .u64 x.set.d][m]?=some u→(wo.alloc (.cells #[.string x.sort,.int .u64 x.set.a,.int .u64 x.set.b,.int .u64 x.set.c,.int .u64 x.set.d] 54)).drew.cell? ((⟨wo.heap.size,0,none⟩:Addr).add m)=some u):=fun i u hu=>by
     have hadd:(⟨wo.heap.size,0,none⟩:Addr).add i=⟨wo.heap.size,i,none⟩:=by unfold Addr.add;split<;>simp_all
     rw[hadd]
     exact cell_new (w:=wo) (t:=54) i (by simpa using hu)
    have HXB:=hHi hT.xb
    have HXA:=hHi ((hT.xb.alloc (.cells #[.string x.sort,.int .u64 x.set.a,.int .u64 x.set.b,.int .u64 x.set.c,.int .u64 x.set.d] 54)).drew)
    obtain⟨x0,x1,x2',x3,x4',x5',x6'⟩:=hT.xb.c7
    obtain⟨d0,d1,d2,d3,d4,d5,d6⟩:=hT.bx.box.c7
    have xa:=HXA.out.cell 4 rfl
    obtain⟨i0,hi,hz0,hz1,hz2⟩:=info_parts info54q
    clear hT hlen hj hjN hx hjv hzj hq_ hcz hlb HTT
    go_wp2
    go_region_law (refine step_append_lies _ (by rfl) _ _ _ (by rfl) BS 54 i0 _ 5 48 Tryz.underlying24 hi hz0 hz1 hz2 rfl (by omega) (.slice ua k uc) k (((rot d.follows.length t4).take k).flatMap z4) (by rfl) (by first | exact (HROW.out.alloc _).drew | exact (HROW.out.drew.alloc _)) ⟨wo.heap.size,0,none⟩ 1 1 [.string x.sort,.int .u64 x.set.a,.int .u64 x.set.b,.int .u64 x.set.c,.int .u64 x.set.d] (by rfl) (by rfl) HN.out (by intro u hu;simp at hu;rcases hu with rfl|rfl|rfl|rfl|rfl;all_goals rfl) (by omega) (by unfold maxLen;omega) (by omega) (by have:=HBS.out;simp;omega) (wo.heap.size+1) (by simp) ?_;intro g1 cap1 w7 hown1 hgrow hat hlt7;have HX7:=hHi (((HXB.out.alloc (.cells #[.string x.sort,.int .u64 x.set.a,.int .u64 x.set.b,.int .u64 x.set.c,.int .u64 x.set.d] 54)).drew).kept hgrow (Blk.not_row HXB.out (by decide) HROW.out));have y2:=HX7.out.cell 4 rfl;have yf:=HX7.out.frozen 4)
    all_goals
     have hst:=HT9.out.step4 (tmp:=.cells #[.string x.sort,.int .u64 x.set.a,.int .u64 x.set.b,.int .u64 x.set.c,.int .u64 x.set.d] 54) (w7:=w7) (g1:=g1) (cap1:=cap1) (j:=j) (by rw[HLEN.out,HZJ.out];exact hown1) hgrow
     rw[HLEN.out] at hst
     have HST:=hHi hst
     clear hst hown1 hgrow hat hlt7 y2 yf s0 s1 s2 s3 s4 x0 x1 x2' x3 x4' x5' x6' d0 d1 d2 d3 d4 d5 d6 xa l1 l2 l4
     go_wp2
     go_roundw
     case rel=>exact ⟨k+1,_,_,by omega,by go_num,by rw[HTK.out];exact HST.out⟩
     case measure=>simp[intOf];omega
   obtain rfl:k=d.follows.length:=by omega
   clear HTT
   have hT2:=hT
   rw[List.take_of_length_le (by rw[rot_len];exact Nat.le_refl _)] at hT2
   obtain⟨ua4,hua4⟩:∃q,q=ua:=⟨_,rfl⟩
   subst hua4
   obtain⟨uc4,huc4⟩:∃q,q=uc:=⟨_,rfl⟩
   subst huc4
   have HTT:=hHi hT2
   clear hT hT2
   go_wp2
   go_loopw[14] (fun iv W=>∃(k:Nat) (ua:Option Addr) (uc:Nat),k≤d.rejects.length∧iv=.int .i64 k∧TT w W BS PX (.string d.start) (.string d.layout) (.slice a3 d.chains.length p3) #[.string d.start,.string d.layout,.slice a2 d.prods.length p2,.slice a3 d.chains.length p3,.slice a4 d.follows.length p4,.slice a5 d.rejects.length p5,.slice a6 d.boxes.length p6] z2 z4 z5 z6 (rot d.prods.length t2) (rot d.follows.length t4) ((rot d.rejects.length t5).take k) [] (.slice ua2 d.prods.length uc2) (.slice ua4 d.follows.length uc4) (.slice ua k uc) (.slice none 0 0) (rot d.prods.length t2) (rot d.follows.length t4) (rot d.rejects.length t5) (rot d.boxes.length t6) (.slice x2 d.prods.length c2) (.slice x4 d.follows.length c4) (.slice x5 d.rejects.length c5) (.slice x6 d.boxes.length c6)) (fun iv _=>d.rejects.length-(intOf iv).toNat)
   case atStart=>exact ⟨0,none,0,Nat.zero_le _,rfl,HTT.out⟩
   case round=>
    obtain⟨k,ua,uc,hk,rfl,hT⟩:=hrel
    obtain⟨wo,hwo⟩:∃q,q=wr:=⟨_,rfl⟩
    subst hwo
    clear HTT
    have HTT:=hHi hT
    by_cases hlt:k<d.rejects.length
    case pos=>
     have hlen:((rot d.rejects.length t5).take k).length=k:=by rw[List.length_take,rot_len];omega
     obtain⟨j,hj⟩:∃j,(rot d.rejects.length t5)[k]?=some j:=⟨(rot d.rejects.length t5)[k]'(by rw[rot_len];exact hlt),by simp⟩
     have hjN:j<d.rejects.length:=rot_lt HR5.out j (List.mem_of_getElem? hj)
     obtain⟨x,hx⟩:∃x,d.rejects[j]?=some x:=⟨d.rejects[j]'hjN,by simp⟩
     obtain⟨g,cap,e1,hg,hc⟩:=hT.i5.cell (k:=k) (by rw[rot_len];exact hlt)
     rw[rot_len] at e1
     obtain⟨e1,-,-⟩:=Value.slice.inj e1
     subst e1
     have hjv:((rot d.rejects.length t5)[k]!)=j:=by simp[List.getElem!_eq_getElem?_getD,hj]
     rw[hjv,Nat.zero_add] at hc
     obtain⟨hV,b,ob,hb,hlb,hcz⟩:=HZ5.out j x hx
     have hzj:z5 j=_:=hV
     rw[hzj] at hcz
     subst hb
     have HZJ:=hHi hzj
     have HTK:Hid ((rot d.rejects.length t5).take (k+1)=(rot d.rejects.length t5).take k++[j]):=take_snoc' hj
     have HLEN:=hHi hlen
     have HT9:=hHi hT
     have hq_:=hcb hT.bx.bel hlb hcz
     have s0:=hq_ 0 _ rfl
     have s1:=hq_ 1 _ rfl
     rw[Nat.add_zero] at s0
     have hkI:(k:Int)<d.rejects.length:=by omega
     have hjI:(j:Int)<d.rejects.length:=by omega
     have l1:PX<wo.heap.size:=hT.xb.lt
     have l2:w.heap.size<wo.heap.size:=hT.bx.box.lt
     have l4:b<wo.heap.size:=Nat.lt_of_lt_of_le hlb hT.bx.bel.size
     have HROW:Hid (wo.ownsRow BS 56 2 (.slice ua k uc) k (((rot d.rejects.length t5).take k).flatMap z5)):=by have h:=hT.r5;rw[hlen] at h;exact h
     have HBS:Hid (BS≤wo.heap.size):=hT.bs
     have HN:Hid (∀m u,[.string x.sort,.string x.by'][m]?=some u→(wo.alloc (.cells #[.string x.sort,.string x.by'] 56)).drew.cell? ((⟨wo.heap.size,0,none⟩:Addr).add m)=some u):=fun i u hu=>by
      have hadd:(⟨wo.heap.size,0,none⟩:Addr).add i=⟨wo.heap.size,i,none⟩:=by unfold Addr.add;split<;>simp_all
      rw[hadd]
      exact cell_new (w:=wo) (t:=56) i (by simpa using hu)
     have HXB:=hHi hT.xb
     have HXA:=hHi ((hT.xb.alloc (.cells #[.string x.sort,.string x.by'] 56)).drew)
     obtain⟨x0,x1,x2',x3,x4',x5',x6'⟩:=hT.xb.c7
     obtain⟨d0,d1,d2,d3,d4,d5,d6⟩:=hT.bx.box.c7
     have xa:=HXA.out.cell 5 rfl
     obtain⟨i0,hi,hz0,hz1,hz2⟩:=info_parts info56q
     clear hT hlen hj hjN hx hjv hzj hq_ hcz hlb HTT
     go_wp2
     go_region_law (refine step_append_lies _ (by rfl) _ _ _ (by rfl) BS 56 i0 _ 2 32 Tryz.underlying25 hi hz0 hz1 hz2 rfl (by omega) (.slice ua k uc) k (((rot d.rejects.length t5).take k).flatMap z5) (by rfl) (by first | exact (HROW.out.alloc _).drew | exact (HROW.out.drew.alloc _)) ⟨wo.heap.size,0,none⟩ 1 1 [.string x.sort,.string x.by'] (by rfl) (by rfl) HN.out (by intro u hu;simp at hu;rcases hu with rfl|rfl;all_goals rfl) (by omega) (by unfold maxLen;omega) (by omega) (by have:=HBS.out;simp;omega) (wo.heap.size+1) (by simp) ?_;intro g1 cap1 w7 hown1 hgrow hat hlt7;have HX7:=hHi (((HXB.out.alloc (.cells #[.string x.sort,.string x.by'] 56)).drew).kept hgrow (Blk.not_row HXB.out (by decide) HROW.out));have y2:=HX7.out.cell 5 rfl;have yf:=HX7.out.frozen 5)
     all_goals
      have hst:=HT9.out.step5 (tmp:=.cells #[.string x.sort,.string x.by'] 56) (w7:=w7) (g1:=g1) (cap1:=cap1) (j:=j) (by rw[HLEN.out,HZJ.out];exact hown1) hgrow
      rw[HLEN.out] at hst
      have HST:=hHi hst
      clear hst hown1 hgrow hat hlt7 y2 yf s0 s1  x0 x1 x2' x3 x4' x5' x6' d0 d1 d2 d3 d4 d5 d6 xa l1 l2 l4
      go_wp2
      go_roundw
      case rel=>exact ⟨k+1,_,_,by omega,by go_num,by rw[HTK.out];exact HST.out⟩
      case measure=>simp[intOf];omega
    obtain rfl:k=d.rejects.length:=by omega
    clear HTT
    have hT2:=hT
    rw[List.take_of_length_le (by rw[rot_len];exact Nat.le_refl _)] at hT2
    obtain⟨ua5,hua5⟩:∃q,q=ua:=⟨_,rfl⟩
    subst hua5
    obtain⟨uc5,huc5⟩:∃q,q=uc:=⟨_,rfl⟩
    subst huc5
    have HTT:=hHi hT2
    clear hT hT2
    go_wp2
    go_loopw[15] (fun iv W=>∃(k:Nat) (ua:Option Addr) (uc:Nat),k≤d.boxes.length∧iv=.int .i64 k∧TT w W BS PX (.string d.start) (.string d.layout) (.slice a3 d.chains.length p3) #[.string d.start,.string d.layout,.slice a2 d.prods.length p2,.slice a3 d.chains.length p3,.slice a4 d.follows.length p4,.slice a5 d.rejects.length p5,.slice a6 d.boxes.length p6] z2 z4 z5 z6 (rot d.prods.length t2) (rot d.follows.length t4) (rot d.rejects.length t5) ((rot d.boxes.length t6).take k) (.slice ua2 d.prods.length uc2) (.slice ua4 d.follows.length uc4) (.slice ua5 d.rejects.length uc5) (.slice ua k uc) (rot d.prods.length t2) (rot d.follows.length t4) (rot d.rejects.length t5) (rot d.boxes.length t6) (.slice x2 d.prods.length c2) (.slice x4 d.follows.length c4) (.slice x5 d.rejects.length c5) (.slice x6 d.boxes.length c6)) (fun iv _=>d.boxes.length-(intOf iv).toNat)
    case atStart=>exact ⟨0,none,0,Nat.zero_le _,rfl,HTT.out⟩
    case round=>
     obtain⟨k,ua,uc,hk,rfl,hT⟩:=hrel
     obtain⟨wo,hwo⟩:∃q,q=wr:=⟨_,rfl⟩
     subst hwo
     clear HTT
     have HTT:=hHi hT
     by_cases hlt:k<d.boxes.length
     case pos=>
      have hlen:((rot d.boxes.length t6).take k).length=k:=by rw[List.length_take,rot_len];omega
      obtain⟨j,hj⟩:∃j,(rot d.boxes.length t6)[k]?=some j:=⟨(rot d.boxes.length t6)[k]'(by rw[rot_len];exact hlt),by simp⟩
      have hjN:j<d.boxes.length:=rot_lt HR6.out j (List.mem_of_getElem? hj)
      obtain⟨x,hx⟩:∃x,d.boxes[j]?=some x:=⟨d.boxes[j]'hjN,by simp⟩
      obtain⟨g,cap,e1,hg,hc⟩:=hT.i6.cell (k:=k) (by rw[rot_len];exact hlt)
      rw[rot_len] at e1
      obtain⟨e1,-,-⟩:=Value.slice.inj e1
      subst e1
      have hjv:((rot d.boxes.length t6)[k]!)=j:=by simp[List.getElem!_eq_getElem?_getD,hj]
      rw[hjv,Nat.zero_add] at hc
      obtain⟨hV,b,ob,hb,hlb,hcz⟩:=HZ6.out j x hx
      obtain⟨v,hzj,a7,p7,rfl,_⟩:=hV
      obtain⟨K,hK⟩:∃K,x.items.length=K:=⟨_,rfl⟩
      rw[hK] at hzj
      clear hK
      rw[hzj] at hcz
      subst hb
      have HZJ:=hHi hzj
      have HTK:Hid ((rot d.boxes.length t6).take (k+1)=(rot d.boxes.length t6).take k++[j]):=take_snoc' hj
      have HLEN:=hHi hlen
      have HT9:=hHi hT
      have hq_:=hcb hT.bx.bel hlb hcz
      have s0:=hq_ 0 _ rfl
      have s1:=hq_ 1 _ rfl
      rw[Nat.add_zero] at s0
      have hkI:(k:Int)<d.boxes.length:=by omega
      have hjI:(j:Int)<d.boxes.length:=by omega
      have l1:PX<wo.heap.size:=hT.xb.lt
      have l2:w.heap.size<wo.heap.size:=hT.bx.box.lt
      have l4:b<wo.heap.size:=Nat.lt_of_lt_of_le hlb hT.bx.bel.size
      have HROW:Hid (wo.ownsRow BS 59 2 (.slice ua k uc) k (((rot d.boxes.length t6).take k).flatMap z6)):=by have h:=hT.r6;rw[hlen] at h;exact h
      have HBS:Hid (BS≤wo.heap.size):=hT.bs
      have HN:Hid (∀m u,[.string x.cons,.slice a7 K p7][m]?=some u→(wo.alloc (.cells #[.string x.cons,.slice a7 K p7] 59)).drew.cell? ((⟨wo.heap.size,0,none⟩:Addr).add m)=some u):=fun i u hu=>by
       have hadd:(⟨wo.heap.size,0,none⟩:Addr).add i=⟨wo.heap.size,i,none⟩:=by unfold Addr.add;split<;>simp_all
       rw[hadd]
       exact cell_new (w:=wo) (t:=59) i (by simpa using hu)
      have HXB:=hHi hT.xb
      have HXA:=hHi ((hT.xb.alloc (.cells #[.string x.cons,.slice a7 K p7] 59)).drew)
      obtain⟨x0,x1,x2',x3,x4',x5',x6'⟩:=hT.xb.c7
      obtain⟨d0,d1,d2,d3,d4,d5,d6⟩:=hT.bx.box.c7
      have xa:=HXA.out.cell 6 rfl
      obtain⟨i0,hi,hz0,hz1,hz2⟩:=info_parts info59t
      clear hT hlen hj hjN hx hjv hzj hq_ hcz hlb HTT
      go_wp2
      go_region_law (refine step_append_lies _ (by rfl) _ _ _ (by rfl) BS 59 i0 _ 2 40 Tryz.underlying26 hi hz0 hz1 hz2 rfl (by omega) (.slice ua k uc) k (((rot d.boxes.length t6).take k).flatMap z6) (by rfl) (by first | exact (HROW.out.alloc _).drew | exact (HROW.out.drew.alloc _)) ⟨wo.heap.size,0,none⟩ 1 1 [.string x.cons,.slice a7 K p7] (by rfl) (by rfl) HN.out (by intro u hu;simp at hu;rcases hu with rfl|rfl;all_goals rfl) (by omega) (by unfold maxLen;omega) (by omega) (by have:=HBS.out;simp;omega) (wo.heap.size+1) (by simp) ?_;intro g1 cap1 w7 hown1 hgrow hat hlt7;have HX7:=hHi (((HXB.out.alloc (.cells #[.string x.cons,.slice a7 K p7] 59)).drew).kept hgrow (Blk.not_row HXB.out (by decide) HROW.out));have y2:=HX7.out.cell 6 rfl;have yf:=HX7.out.frozen 6)
      all_goals
       have hst:=HT9.out.step6 (tmp:=.cells #[.string x.cons,.slice a7 K p7] 59) (w7:=w7) (g1:=g1) (cap1:=cap1) (j:=j) (by rw[HLEN.out,HZJ.out];exact hown1) hgrow
       rw[HLEN.out] at hst
       have HST:=hHi hst
       clear hst hown1 hgrow hat hlt7 y2 yf s0 s1  x0 x1 x2' x3 x4' x5' x6' d0 d1 d2 d3 d4 d5 d6 xa l1 l2 l4
       go_wp2
       go_roundw
       case rel=>exact ⟨k+1,_,_,by omega,by go_num,by rw[HTK.out];exact HST.out⟩
       case measure=>simp[intOf];omega
     obtain rfl:k=d.boxes.length:=by omega
     clear HTT
     have hT2:=hT
     rw[List.take_of_length_le (by rw[rot_len];exact Nat.le_refl _)] at hT2
     obtain⟨ua6,hua6⟩:∃q,q=ua:=⟨_,rfl⟩
     subst hua6
     obtain⟨uc6,huc6⟩:∃q,q=uc:=⟨_,rfl⟩
     subst huc6
     have HTT:=hHi hT2
     clear hT hT2
     obtain⟨x0,x1,x2',x3,x4',x5',x6'⟩:=HTT.out.xb.c7
     have HTU:=hHi (turnX_turned HR2.out HR4.out HR5.out HR6.out)
     have HCX:=hU (check_do (turnX d t2 t4 t5 t6) _ wo (turnX_do HDO.out HTT.out.bx.bel HR2.out HR4.out HR5.out HR6.out HW2.out HW4.out HW5.out HW6.out (fun i x hx=>(HZ2.out i x hx).1) (fun i x hx=>(HZ4.out i x hx).1) (fun i x hx=>(HZ5.out i x hx).1) (fun i x hx=>(HZ6.out i x hx).1) HTT.out.r2 HTT.out.r4 HTT.out.r5 HTT.out.r6) (turned_few HTU.out HFEW.out))
     obtain⟨cx,hcx⟩:∃z,(chk (turnX d t2 t4 t5 t6) (rightB (turnX d t2 t4 t5 t6))).1=z:=⟨_,rfl⟩
     obtain⟨nx,hnx⟩:∃z,(chk (turnX d t2 t4 t5 t6) (rightB (turnX d t2 t4 t5 t6))).2=z:=⟨_,rfl⟩
     have HEQ:Hid (ce=0↔cx=0):=by
      show _↔_
      rw[←HCE.out,←hcx,chk_ok,chk_ok]
      exact ⟨turned_ok HTU.out,turned_ok HTU.out.symm⟩
     rw[hcx,hnx] at HCX
     clear hcx hnx
     go_wp2_with fail
     refine hMo HCX ?_
     rintro e w7 ⟨rfl,hb⟩
     have HB7:=hHi (below_tr HTT.out.bx.bel hb)
     clear hb HCX x0 x1 x2' x3 x4' x5' x6'
     go_wp2_with fail
     refine hMo (hU (HA.out () w7)) ?_
     rintro e w8 ⟨rfl,hb⟩
     have HB8:=hHi (below_tr HB7.out hb)
     clear hb
     by_cases h0:ce=0
     ·have h1:cx=0:=HEQ.out.1 h0
      subst h0
      subst h1
      go_wp2
      go_ret
      exact ⟨rfl,HB8.out⟩
     ·have h1:¬cx=0:=fun e=>h0 (HEQ.out.2 e)
      have b0:(ce==0)=false:=by simp[h0]
      have b1:(cx==0)=false:=by simp[h1]
      go_wp2
      go_ret
      exact ⟨by simp[h0,h1],HB8.out⟩
end Go.Proofs.YtilpgpcgcpedjaaGreat
