/- Whether a name, or one that the steps lead to from it, is among those that are said: the program's answer. -/
import Derived.Test.YtilpgpcgcpedjaaGreatMd
import Derived.Maps.RangeWalk
namespace Go.Proofs.YtilpgpcgcpedjaaGreat
open Go.RowKit Go.Maps Go.WideMaps
set_option linter.unusedVariables false
set_option linter.unusedSimpArgs false
set_option maxRecDepth 100000
set_option maxHeartbeats 16000000
def cntN (A:List ByteArray) (s:ByteArray):Nat:=(A.filter fun x=>decide (x=s)).length
def cntL (A:List ByteArray) (s:ByteArray):Option Value:=if s∈A then some (.int .i64 (cntN A s:Nat)) else none
theorem cntN_zero {A:List ByteArray} {s:ByteArray}:cntN A s=0↔s∉A:=by
 unfold cntN
 rw[List.length_eq_zero_iff,List.filter_eq_nil_iff]
 constructor
 ·intro h hs
  exact absurd (decide_eq_true rfl) (h s hs)
 ·intro h x hx hq
  simp at hq
  exact h (by rw[←hq];exact hx)
theorem cntL_get (A:List ByteArray) (s:ByteArray):(cntL A s).getD (.int .i64 0)=.int .i64 (cntN A s:Nat):=by
 unfold cntL
 split
 ·rfl
 ·rename_i h
  rw[cntN_zero.2 h]
  rfl
theorem cntN_snoc (A:List ByteArray) (s x:ByteArray):cntN (A++[s]) x=cntN A x+if s=x then 1 else 0:=by
 unfold cntN
 rw[List.filter_append,List.length_append]
 by_cases h:s=x
 ·simp[h]
 ·simp[h]
theorem cntN_le (A:List ByteArray) (s:ByteArray):cntN A s≤A.length:=List.length_filter_le _ _
theorem cntL_snoc (A:List ByteArray) (s:ByteArray):cntL (A++[s])=upd (cntL A) s (.int .i64 ((cntN A s:Nat)+1)):=by
 funext x
 unfold upd cntL
 by_cases h:x=s
 ·subst h
  rw[if_pos rfl,if_pos (by simp),cntN_snoc,if_pos rfl]
  rfl
 ·rw[if_neg h]
  have e:cntN (A++[s]) x=cntN A x:=by rw[cntN_snoc,if_neg (fun e=>h e.symm),Nat.add_zero]
  rw[e]
  simp[h]
open Classical in
noncomputable def meetB (l:List Pr) (A:List ByteArray) (s:ByteArray):Bool:=decide (s∈A∨∃x,Far l leadsN s x∧x∈A)
theorem meets_any (l:List Pr) (A:List ByteArray) (s:ByteArray) (w:World) (lo0 B0 m0 BS ns:Nat) (f:ByteArray→Option Value) (hS:SP w lo0 B0 m0 (leadsAll leadsN l) f) (hA:Mp w BS ns (cntL A)) (hfew:symsN l≤1000000) (hs:s.size≤maxLen) (hnm:∀a b,Step l leadsN a b→b.size≤maxLen):
  Calls Tryz.prog 100 #[.map (some B0),.string s,.map (some BS)] w fun e w'=>e=.returned (.bool (meetB l A s))∧Below w.heap.size w w':=by
 have HA:=hHi hA
 have HRE:=hU (reach_any leadsN leadsN_len l s w lo0 B0 m0 f hS hfew hs hnm)
 have HMB:Hid (meetB l A s=true↔(s∈A∨∃x,Far l leadsN s x∧x∈A)):=by show _↔_;unfold meetB;simp
 have hlk:=hA.look Tryz.underlying72 (zero3 w) hs
 rw[cntL_get] at hlk
 have HCZ:Hid (cntN A s=0↔s∉A):=cntN_zero
 generalize meetB l A s=r at HMB ⊢
 generalize cntN A s=c at hlk HCZ
 clear hS hA hfew
 go_enter Tryz.func100,Tryz.ntmps100
 by_cases hc:c=0
 ·have HNS:=hHi (HCZ.out.1 hc)
  subst hc
  go_wp2_with fail
  refine hMo HRE ?_
  rintro e w2 ⟨⟨B,M,rfl,hM,hF,_,_⟩,hb⟩
  have HFF:=hHi hF
  have HB2:=hHi hb
  obtain⟨D,hown,hD⟩:=hM.at'
  have HD:=hHi hD
  have HA2:=Mp.below HA HB2
  have hlt0:=hown.lt
  clear hb hF hM HRE hlk hD
  go_wp2_with (first | (at_range;refine wpList_range_own _ rfl _ 72 rfl 9 3 strKey Tryz.underlying72 Rv B M.length D rfl hown ?_;intro w3 hrg hg hsz3) | go_in)
  have HB3:Hid (Below w2.heap.size w2 w3):=⟨hg.os,hg.tape,hg.output,hg.size,fun i hi=>hg.block i hi (by simp)⟩
  have HBB3:=hHi (below_tr HB2.out HB3.out)
  have HR3:=hHi hrg
  have HNE:Hid (w2.heap.size≠B):=by show _≠_;omega
  clear hg hsz3 hown hlt0 hrg
  go_frame
  go_loopw[7] (fun _ W=>∃(left:Lit→Bool) (cnt:Nat),W.ranges Tryz.prog 9 Rv B w2.heap.size M.length D left cnt∧(∀q,left q=true→has D q=true)∧(∀x,x∈M→left (kl x)=false→x∉A)∧Below w2.heap.size w2 W) (fun _ W=>W.rangeLeft B w2.heap.size)
  case atStart=>exact ⟨has D,Maps.size D,HR3.out,fun q h=>h,fun x hx hl=>by rw[(HD.out x).1] at hl;simp[metF,hx] at hl,HB3.out⟩
  case round=>
   obtain⟨left,cnt,hrg,hl1,hl2,hB'⟩:=hrel
   have HRG:=hHi hrg
   have HL1:=hHi hl1
   have HL2:=hHi hl2
   have HB':=hHi hB'
   have HBB:=hHi (below_tr HB2.out hB')
   clear hrg hl1 hl2 hB'
   go_wp2_with (first | (at_next;refine wpList_next_ranges _ rfl _ rfl 9 strKey Rv Value.string (fun c:Value=>c) (fun key q h=>(string_of_keyOf Tryz.underlying9 h).imp fun s h=>h.1) (fun v y h=>⟨v,rfl⟩) B w2.heap.size M.length D left cnt rfl HRG.out ?_ ?_) | go_in)
   ·intro _ hl0
    have HR:Hid (r=false):=by
     show _=_
     cases hr:r
     ·rfl
     ·rcases HMB.out.1 hr with h|⟨x,hx,hxa⟩
      ·exact absurd h HNS.out
      ·exact absurd hxa (HL2.out x ((HFF.out x).2 hx) (hl0 _))
    clear hl0
    go_wp2
    go_ret
    exact ⟨by rw[HR.out];rfl,HBB.out⟩
   ·intro x c q y y2 w5 cnt5 hkx hlx hRv hat hrg5 hlt5 hg5 hsz5 hen
    obtain⟨x',e1,e2,hxs⟩:=string_of_keyOf Tryz.underlying9 hkx
    cases e1
    have hq:q=kl x:=e2
    subst hq
    have HXM:Hid (x∈M):=by
     have h1:=HL1.out _ hlx
     rw[(HD.out x).1] at h1
     unfold metF at h1
     by_cases hm:x∈M
     ·exact hm
     ·rw[if_neg hm] at h1
      cases h1
    have HB5:Hid (Below w2.heap.size w2 w5):=HB'.out.trans ⟨hg5.os,hg5.tape,hg5.output,hg5.size,fun i hi=>hg5.block i (Nat.lt_of_lt_of_le hi HB'.out.size) (fun e=>by cases e;omega)⟩
    have HBB5:=hHi (below_tr HB2.out HB5.out)
    have HR5:=hHi hrg5
    have HLT:=hHi hlt5
    have hlk5:=(Mp.below HA2 HB5).out.look Tryz.underlying72 (zero3 w5) hxs
    rw[cntL_get] at hlk5
    have HCX:Hid (cntN A x=0↔x∉A):=cntN_zero
    generalize cntN A x=cx at hlk5 HCX
    clear hrg5 hlt5 hg5 hsz5 hlx hRv hat
    by_cases hcx:cx=0
    ·have HNX:=hHi (HCX.out.1 hcx)
     subst hcx
     go_wp2
     go_roundw
     case rel=>exact ⟨_,cnt5,HR5.out,fun q h=>HL1.out q (by simp at h;exact h.1),fun z hz hl=>by
      by_cases hzx:z=x
      ·subst hzx
       exact HNX.out
      ·refine HL2.out z hz ?_
       have hk:(kl z).sameKey (kl x)=false:=sameKey_ne (fun e=>hzx (kl_inj e))
       rw[hk] at hl
       simpa using hl,HB5.out⟩
     case measure=>rw[HR5.out.left_eq,HRG.out.left_eq];exact HLT.out
    ·have HXA:Hid (x∈A):=by
      show _∈_
      cases hd:decide (x∈A)
      ·exact absurd (HCX.out.2 (of_decide_eq_false hd)) hcx
      ·exact of_decide_eq_true hd
     have HR:Hid (r=true):=HMB.out.2 (.inr ⟨x,(HFF.out x).1 HXM.out,HXA.out⟩)
     have hcp:0<cx:=by omega
     clear hcx
     go_wp2
     go_ret
     exact ⟨by rw[HR.out];rfl,HBB5.out⟩
 ·have HXA:Hid (s∈A):=by
   show _∈_
   cases hd:decide (s∈A)
   ·exact absurd (HCZ.out.2 (of_decide_eq_false hd)) hc
   ·exact of_decide_eq_true hd
  have HR:Hid (r=true):=HMB.out.2 (.inl HXA.out)
  have hcp:0<c:=by omega
  clear hc
  go_wp2
  go_ret
  exact ⟨by rw[HR.out];rfl,Below.refl _ _⟩
end Go.Proofs.YtilpgpcgcpedjaaGreat
