/- The leaves of a template, and those that a production's template is to have: the program's lists. -/
import Derived.Test.YtilpgpcgcpedjaaGreatMg
namespace Go.Proofs.YtilpgpcgcpedjaaGreat
open Go.RowKit
set_option linter.unusedVariables false
set_option linter.unusedSimpArgs false
set_option maxRecDepth 100000
set_option maxHeartbeats 16000000
abbrev Lf:=Int×Nm×Int
def lfc (q:Lf):List Value:=[.int .i64 q.1,.string q.2.1,.int .i64 q.2.2]
theorem lfc_len (q:Lf):(lfc q).length=3:=rfl
theorem info128:(Tryz.prog.info? 128).map (fun i=>(i.zero,i.size,i.bytes))=some (some (.agg #[.int .i64 0,.string ⟨#[]⟩,.int .i64 0]),3,32):=by kernel_rfl
structure LvAt (W:World) (base:Nat) (l:List Lf) (v:Value):Prop where
 row:W.ownsRow base 128 3 v l.length (l.flatMap lfc)
theorem LvAt.after {W W':World} {base:Nat} {l:List Lf} {v:Value} (h:LvAt W base l v) (hg:Below W.heap.size W W'):LvAt W' base l v:=⟨own_after h.row hg⟩
theorem LvAt.nil (W:World) (base:Nat):LvAt W base [] (.slice none 0 0):=⟨World.ownsRow_nil _ _ _ _⟩
theorem run_app_lv {w:World} {lo lo2:Nat} {v u:Value} {xs ys:List Lf} (ty:TypeId) (hown:LvAt w lo xs v) (hres:LvAt w lo2 ys u) (h16:(xs.length+ys.length)*32≤140737488355328) (hbase:lo≤w.heap.size):
  ∃v' w',(Builtin.append_ #[126,126] ty #[v,u]).run Tryz.prog w=.ok v' w'∧LvAt w' lo (xs++ys) v'∧w.grownBy w' v.ownBlock:=by
 obtain⟨i0,hinf,hz0,hz1,hz2⟩:=info_parts info128
 obtain⟨hl,⟨rfl,h0⟩|⟨g,cap,cur,rfl,hg,hh,hn,hcap,hsz,htk⟩⟩:=hres.row
 ·obtain rfl:ys=[]:=List.length_eq_zero_iff.1 h0
  exact ⟨v,w,run_none0 lo 126 ty 128 i0 3 Tryz.underlying126 hinf v xs.length 0 _ hown.row,by rw[List.append_nil];exact hown,World.grownBy.refl _ _⟩
 ·obtain⟨v',w',hrun,h2,h3,_⟩:=run_append_own_at (P:=Tryz.prog) w lo 126 ty 128 i0 (.agg #[.int .i64 0,.string ⟨#[]⟩,.int .i64 0]) 3 32 Tryz.underlying126 hinf hz0 hz1 hz2 rfl (by decide) v xs.length (xs.flatMap lfc) hown.row ⟨g,0,none⟩ ys.length cap (ys.flatMap lfc) (flat_len lfc_len ys) (hres.row.cells rfl) (fun u hu=>by
   obtain⟨q,_,hq⟩:=List.mem_flatMap.1 hu
   simp[lfc] at hq
   rcases hq with rfl|rfl|rfl<;>rfl) (by unfold maxLen;omega) h16 hbase
  exact ⟨v',w',hrun,⟨by rw[List.length_append,List.flatMap_append];exact h2⟩,h3⟩
theorem wpList_app_lv {w:World} {ops:Array Oper} {rest:List Oper} {o:Oper} {a:Act} {Q:Exit→Act→World→Prop} {lo lo2:Nat} {v u:Value} {xs ys zs:List Lf} {n:Nat} (hz:Hid (zs=xs++ys)) (hn:Hid (zs.length=n)) (hgd:o.guard=none) (s x:Operand) (ho:o.op=.call { callee:=.builtin .append,args:=#[s,x],argTypes:=#[126,126] }) (hs:a.eval s=v) (hx:a.eval x=u) (hown:Hid (LvAt w lo xs v)) (hres:Hid (LvAt w lo2 ys u)) (h16:Hid (n*32≤140737488355328)) (hbase:lo≤w.heap.size)
  (h:∀va vc w',Hid (LvAt w' lo zs (.slice va n vc))→Hid (w.grownBy w' v.ownBlock)→wpList Tryz.prog ops Q rest (a.put o.dst (.slice va n vc)) w'):
  wpList Tryz.prog ops Q (o::rest) a w:=by
 refine wpList_plain hgd fun K' hK' => ?_
 have hl:xs.length+ys.length=n:=by rw[←hn.out,hz.out,List.length_append]
 obtain⟨v',w',hrun,h2,h3⟩:=run_app_lv (w:=w) o.type hown.out hres.out (by rw[hl];exact h16.out) hbase
 rw[←hz.out] at h2
 obtain⟨va,vc,e⟩:=own_slice h2.row
 rw[hn.out] at e
 subst e
 unfold Oper.wp execOp
 simp only[ho,resolve,invoke,builtin,Sem.run_bind,Sem.run_pure,Result.andThen_ok,List.map_toArray,List.map_cons,List.map_nil,hs,hx,hrun]
 exact hK' _ _ (h va vc w' h2 h3)
def lv1 (x:It):List Lf:=if x.kind=1∨x.kind=2 then [(x.kind,x.text,x.n)] else []
theorem lvIts_app:∀A B:List It,lvIts (A++B)=lvIts A++lvIts B
 | [],B=>rfl
 | x::A,B=>by
  rw[List.cons_append,lvIts,lvIts,lvIts_app A B,List.append_assoc]
theorem lvIts_one (x:It):lvIts [x]=lv1 x++lvIts x.items:=by
 cases x
 rw[lvIts,lvIts,lvIt,List.append_nil]
 rfl
theorem leavesOf_step (V:It→List Value→Prop) (l:List It) (v:Value) (w:World) (h:Sl w w.heap.size 4 V l v) (hb:(lvIts l).length≤1000000)
  (HV0:∀x∈l,∀vs,V x vs→∃ua uc,vs=[.int .i64 x.kind,.string x.text,.int .i64 x.n,.slice ua x.items.length uc]∧((lvIts x.items).length≤1000000→∀W,Below w.heap.size w W→Calls Tryz.prog 135 #[.slice ua x.items.length uc] W fun e W'=>(∃va vc,e=.returned (.slice va (lvIts x.items).length vc)∧LvAt W' W.heap.size (lvIts x.items) (.slice va (lvIts x.items).length vc))∧Below W.heap.size W W')) :
  Calls Tryz.prog 135 #[v] w fun e w'=>(∃va vc,e=.returned (.slice va (lvIts l).length vc)∧LvAt w' w.heap.size (lvIts l) (.slice va (lvIts l).length vc))∧Below w.heap.size w w':=by
 obtain⟨a1,p1,rfl,_,hl1,hr1⟩:=h
 obtain⟨N,hN⟩:∃N,l.length=N:=⟨_,rfl⟩
 have HR1:=hHi hr1
 have HN:=hHi hN
 have HV:=hHi HV0
 have HLB:=hHi hb
 rw[hN] at hl1 ⊢
 clear hr1 hN HV0 hb
 go_enter Tryz.func135,Tryz.ntmps135
 go_wp2
 go_loopw[3,8] (fun lv iv W=>∃(k n:Nat) (va:Option Addr) (vc:Nat),k≤N∧lv=.slice va n vc∧iv=.int .i64 k∧(lvIts (l.take k)).length=n∧LvAt W w.heap.size (lvIts (l.take k)) (.slice va n vc)∧Below w.heap.size w W) (fun _ iv _=>N-(intOf iv).toNat)
 case atStart=>exact⟨0,0,none,0,Nat.zero_le _,rfl,rfl,rfl,LvAt.nil _ _,Below.refl _ _⟩
 case round=>
  obtain⟨k,n,va,vc,hk,rfl,rfl,hn,hI,hB⟩:=hrel
  have HI:=hHi hI
  have HB:=hHi hB
  have HNN:=hHi hn
  clear hI hB hn
  by_cases hlt:k<N
  case pos=>
   obtain⟨x,hx⟩:∃x,l[k]?=some x:=⟨l[k]'(by rw[HN.out];exact hlt),by simp⟩
   obtain⟨b,o,us,hb,hlb,hus,hc⟩:=HR1.out k x hx
   obtain⟨ua,uc,rfl,hC⟩:=HV.out x (List.mem_of_getElem? hx) us hus
   subst hb
   have HT:Hid (lvIts (l.take (k+1))=(lvIts (l.take k)++lv1 x)++lvIts x.items):=by show _=_;rw[take_snoc' hx,lvIts_app,lvIts_one,List.append_assoc]
   have HTL:Hid ((lvIts (l.take (k+1))).length≤1000000):=by
    have e:lvIts l=lvIts (l.take (k+1))++lvIts (l.drop (k+1)):=by rw[←lvIts_app,List.take_append_drop]
    have h:=HLB.out
    rw[e,List.length_append] at h
    show _≤_
    omega
   obtain⟨n2,hn2⟩:∃n2,(lvIts (l.take (k+1))).length=n2:=⟨_,rfl⟩
   have HN2:=hHi hn2
   have h2b:n2≤1000000:=by rw[←hn2];exact HTL.out
   have hsub:(lvIts x.items).length≤1000000:=by
    have h:=HTL.out
    rw[HT.out,List.length_append] at h
    omega
   have hq_:=hcb HB.out hlb hc
   have s0:=hq_ 0 _ rfl
   have s1:=hq_ 1 _ rfl
   have s2:=hq_ 2 _ rfl
   have s3:=hq_ 3 _ rfl
   rw[Nat.add_zero] at s0
   have hltI:(k:Int)<N:=by omega
   have HCC:=hHi (hC hsub)
   clear hq_ hc hx hus hC hn2 hsub
   obtain⟨w1,hw1⟩:∃qW,wr.alloc (.cells #[.int .i64 x.kind,.string x.text,.int .i64 x.n,.slice ua x.items.length uc] 98)=qW:=⟨_,rfl⟩
   have HN1:=kB hw1
   have HX1:=kN hw1
   have HB1:Hid (Below w.heap.size w w1):=below_tr HB.out HN1.out
   have HI1:=hHi (HI.out.after HN1.out)
   obtain⟨S,hS⟩:∃S,lvIts x.items=S:=⟨_,rfl⟩
   rw[hS] at HT HCC
   obtain⟨ns,hns⟩:∃q,S.length=q:=⟨_,rfl⟩
   rw[hns] at HCC
   obtain⟨A,hA⟩:∃A,lvIts (l.take k)=A:=⟨_,rfl⟩
   rw[hA] at HT HI1 HNN
   obtain⟨Z,hZ⟩:∃Z,lvIts (l.take (k+1))=Z:=⟨_,rfl⟩
   rw[hZ] at HT HN2
   have HZ:=hHi hZ
   have HLV:Hid (lv1 x=if x.kind=1∨x.kind=2 then [(x.kind,x.text,x.n)] else []):=rfl
   generalize lv1 x=lx at HLV HT
   obtain⟨kd,hkd⟩:∃z,x.kind=z:=⟨_,rfl⟩
   rw[hkd] at s0 hw1 HX1 HLV
   clear hS hns hA hZ hkd HTL
   obtain⟨e0,e1,e2,e3⟩:=HX1.out.c4
   by_cases hk12:kd=1∨kd=2
   ·have HT2:Hid (Z=(A++[(kd,x.text,x.n)])++S):=by show _=_;rw[HT.out,HLV.out,if_pos hk12]
    obtain⟨Y,hY⟩:∃Y,Y=A++[(kd,x.text,x.n)]:=⟨_,rfl⟩
    have HY:=hHi hY
    rw[←hY] at HT2
    have HYL:Hid (Y.length=n+1):=by show _=_;rw[hY,List.length_append,HNN.out];rfl
    have HYB:Hid ((n+1)*32≤140737488355328):=by
     have h1:=HN2.out
     rw[HT2.out,List.length_append,HYL.out] at h1
     show _≤_
     omega
    have HZB:Hid (n2*32≤140737488355328):=by show _≤_;omega
    obtain⟨w2,hw2⟩:∃qW,w1.alloc (.cells #[.int .i64 kd,.string x.text,.int .i64 x.n] 128)=qW:=⟨_,rfl⟩
    have HN2':=kB hw2
    have HX2:=kA HX1 HN2'
    have HB2:Hid (Below w.heap.size w w2):=below_tr HB1.out HN2'.out
    have HI2:=hHi (HI1.out.after HN2'.out)
    have HRS:Hid (LvAt w2 w1.heap.size [(kd,x.text,x.n)] (.slice (some ⟨w1.heap.size,0,none⟩) 1 1)):=by
     show LvAt _ _ _ _
     rw[←hw2]
     exact ⟨World.ownsRow_lit w1 #[.int .i64 kd,.string x.text,.int .i64 x.n] 1 (Nat.le_refl _) (by decide) rfl⟩
    have HOB:Hid (∀b,(Value.slice va n vc).ownBlock=some b→w.heap.size≤b∧b<wr.heap.size):=fun b hb=>by have h1:=HI.out.row.lt b hb;exact h1
    have hlo:=HB2.out.size
    have hne:wr.heap.size≠w1.heap.size:=by rw[←hw1];simp
    have HKB:Hid (kd=1∨kd=2):=hk12
    clear hY
    rcases hk12 with rfl|rfl
    all_goals
     go_wp2_with (at_builtin;refine wpList_app_lv HY HYL rfl _ _ rfl rfl rfl HI2 HRS HYB hlo ?_)
     intro ya yc w3 HY3 HG3
     have HB3:Hid (Below w.heap.size w w3):=HB2.out.trans (belO HG3.out (fun b hb=>(HOB.out b hb).1) HB2.out.size)
     have HX3:Hid (Blk w3 wr.heap.size 98 _):=HX2.out.kept HG3.out (fun e=>by have:=(HOB.out _ e.symm).2;omega)
     have HC:=hU (HCC.out w3 HB3.out)
     clear s0 s1 s2 s3 e0 e1 e2 e3 hw2
     obtain⟨e0,e1,e2,e3⟩:=HX3.out.c4
     go_wp2_with fail
     refine hMo HC ?_
     rintro e w4 ⟨⟨ga,gc,rfl,hg4⟩,hb⟩
     have HG4:=hHi hg4
     have HB4:=hHi (below_tr HB3.out hb)
     have HY4:=hHi (HY3.out.after hb)
     have HOB4:Hid (∀b,(Value.slice ya (n+1) yc).ownBlock=some b→w.heap.size≤b):=fun b hb=>(HY4.out.row.lt b hb).1
     have hlo4:=HB4.out.size
     clear hg4 hb HC e0 e1 e2 e3
     go_wp2_with (at_builtin;refine wpList_app_lv HT2 HN2 rfl _ _ rfl rfl rfl HY4 HG4 HZB hlo4 ?_)
     intro za zc w5 HZ5 HG5
     have HB5:Hid (Below w.heap.size w w5):=HB4.out.trans (belO HG5.out (fun b hb=>HOB4.out b hb) HB4.out.size)
     rw[←HZ.out] at HZ5
     go_wp2
     go_roundw
     all_goals first
      | exact⟨k+1,n2,za,zc,by omega,rfl,by go_num,by rw[HZ.out];exact HN2.out,HZ5.out,HB5.out⟩
      | (simp[intOf];omega)
   ·have HT2:Hid (Z=A++S):=by show _=_;rw[HT.out,HLV.out,if_neg hk12,List.append_nil]
    have HZB:Hid (n2*32≤140737488355328):=by show _≤_;omega
    have HC:=hU (HCC.out w1 HB1.out)
    have h1:(kd==1)=false:=by simp;exact fun h=>hk12 (.inl h)
    have h2:(kd==2)=false:=by simp;exact fun h=>hk12 (.inr h)
    clear hk12
    go_wp2_with fail
    refine hMo HC ?_
    rintro e w4 ⟨⟨ga,gc,rfl,hg4⟩,hb⟩
    have HG4:=hHi hg4
    have HB4:=hHi (below_tr HB1.out hb)
    have HY4:=hHi (HI1.out.after hb)
    have HOB4:Hid (∀b,(Value.slice va n vc).ownBlock=some b→w.heap.size≤b):=fun b hb=>(HY4.out.row.lt b hb).1
    have hlo4:=HB4.out.size
    clear hg4 hb HC e0 e1 e2 e3
    go_wp2_with (at_builtin;refine wpList_app_lv HT2 HN2 rfl _ _ rfl rfl rfl HY4 HG4 HZB hlo4 ?_)
    intro za zc w5 HZ5 HG5
    have HB5:Hid (Below w.heap.size w w5):=HB4.out.trans (belO HG5.out (fun b hb=>HOB4.out b hb) HB4.out.size)
    rw[←HZ.out] at HZ5
    go_wp2
    go_roundw
    case rel=>exact⟨k+1,n2,za,zc,by omega,rfl,by go_num,by rw[HZ.out];exact HN2.out,HZ5.out,HB5.out⟩
    case measure=>simp[intOf];omega
  obtain rfl:k=N:=by omega
  have HE:Hid (lvIts (l.take k)=lvIts l):=by show _=_;rw[List.take_of_length_le (by rw[HN.out];exact Nat.le_refl _)]
  rw[HE.out] at HI HNN
  go_wp2
  go_ret
  exact ⟨⟨va,vc,by rw[HNN.out];rfl,by rw[HNN.out];exact HI.out⟩,HB.out⟩
end Go.Proofs.YtilpgpcgcpedjaaGreat
