/- A list's numbers, from a place on and then from the beginning: turn. -/
import Derived.Test.YtilpgpcgcpedjaaGreatPi
import Derived.Test.YtilpgpcgcpedjaaGreatNd
namespace Go.Proofs.YtilpgpcgcpedjaaGreat
open Go.RowKit
set_option linter.unusedVariables false
set_option linter.unusedSimpArgs false
set_option maxRecDepth 100000
set_option maxHeartbeats 16000000
theorem turn_at (k:Int) {n:Nat} (h0:0<n) (h1:n≤1000000):∃q:Nat,(wrap64 (k.tmod n+n)).tmod n=(q:Int)∧q<n:=by
 have hn:(0:Int)<n:=by omega
 have a1:=Int.tmod_lt_of_pos k hn
 have a2:=Int.lt_tmod_of_pos k hn
 have hw:wrap64 (k.tmod n+n)=k.tmod n+n:=by unfold wrap64;omega
 rw[hw]
 have b1:=Int.tmod_nonneg (n:Int) (a:=k.tmod n+n) (by omega)
 have b2:=Int.tmod_lt_of_pos (k.tmod n+n) hn
 exact ⟨((k.tmod n+n).tmod n).toNat,by omega,by omega⟩
def rk (n s k:Nat):List Nat:=(List.range k).map fun i=>(i+s)%n
theorem rk_succ (n s k:Nat):rk n s (k+1)=rk n s k++[(k+s)%n]:=by
 unfold rk
 rw[List.range_succ,List.map_append]
 rfl
theorem rk_len (n s k:Nat):(rk n s k).length=k:=by unfold rk;simp
theorem turn_any (n:Nat) (b:Int) (w:World) (hn:n≤1000000):
  Calls Tryz.prog 29 #[.int .i64 n,.int .i64 b] w fun e w'=>(∃s va vc,(0<n→s<n)∧e=.returned (.slice va n vc)∧IntsAt w' w.heap.size (rot n s) (.slice va n vc))∧Below w.heap.size w w':=by
 obtain⟨i0,hi,hz0,hz1,hz2⟩:=info_parts info3
 go_enter Tryz.func29,Tryz.ntmps29
 rcases Nat.eq_zero_or_pos n with h0|h0
 ·subst h0
  go_wp2
  go_loopw[5,6] (fun lv iv W=>lv=.slice none 0 0∧iv=.int .i64 0∧W=w) (fun _ _ _=>0)
  case atStart=>exact ⟨rfl,rfl,rfl⟩
  case round=>
   obtain⟨rfl,rfl,hW⟩:=hrel
   subst hW
   go_wp2
   go_ret
   exact ⟨⟨0,none,0,fun h=>absurd h (by omega),rfl,IntsAt.nil _ _⟩,Below.refl _ _⟩
 obtain⟨s,hqv,hs⟩:=turn_at b h0 hn
 have hI:(0:Int)<n:=by omega
 have hI0:¬(n:Int)=0:=by omega
 go_wp2
 try rw[hqv]
 clear hqv
 go_loopw[5,6] (fun lv iv W=>∃(k:Nat) (va:Option Addr) (vc:Nat),k≤n∧lv=.slice va k vc∧iv=.int .i64 k∧IntsAt W w.heap.size (rk n s k) (.slice va k vc)∧Below w.heap.size w W) (fun _ iv _=>n-(intOf iv).toNat)
 case atStart=>exact ⟨0,none,0,Nat.zero_le _,rfl,rfl,IntsAt.nil _ _,Below.refl _ _⟩
 case round=>
  obtain⟨k,va,vc,hk,rfl,rfl,hI1,hB⟩:=hrel
  have HI:=hHi hI1
  have HB:=hHi hB
  clear hI1 hB
  by_cases hlt:k<n
  case pos=>
   have hltI:(k:Int)<n:=by omega
   have hmod:((k:Int)+(s:Int)).tmod (n:Int)=(((k+s)%n:Nat):Int):=by rw[←Int.natCast_add,Int.tmod_eq_emod_of_nonneg (by omega)];rfl
   have HROW:=hU HI.out.row
   have HOB:Hid (∀b,(Value.slice va k vc).ownBlock=some b→w.heap.size≤b∧b<wr.heap.size):=fun b hb=>by have:=HI.out.row.lt b hb;omega
   have hrow:Hid (wr.ownsRow w.heap.size 3 1 (.slice va k vc) k (ivals (rk n s k))):=by have h:=HI.out.row;rw[rk_len] at h;exact h
   go_wp2_with (at_builtin;refine wpList_append_lies _ rfl _ _ 46 rfl w.heap.size 3 i0 _ 1 8 Tryz.underlying46 hi hz0 hz1 hz2 rfl (by decide) (.slice va k vc) k (ivals (rk n s k)) rfl (hrow.out.alloc _) ⟨wr.heap.size,0,none⟩ 1 1 [.int .i64 (((k+s)%n:Nat):Int)] rfl rfl ?ca1 ?ca2 (by decide) ?ca3 ?ca4 ?ca5 (wr.heap.size+1) (by simp) ?_)
   case ca1=>exact new_cells _ _ [.int .i64 (((k+s)%n:Nat):Int)]
   case ca2=>intro u hu;simp at hu;subst hu;rfl
   case ca3=>unfold maxLen;omega
   case ca4=>omega
   case ca5=>have:=HB.out.size;simp;omega
   intro g1 cap1 w7 hown hgrow hat hlt7
   have HI5:Hid (IntsAt w7 w.heap.size (rk n s (k+1)) (.slice (some ⟨g1,0,none⟩) (k+1) cap1)):=by show IntsAt _ _ _ _;rw[rk_succ];exact ⟨by rw[List.length_append,rk_len];simpa [ivals] using hown⟩
   have HB7:Hid (Below w.heap.size w w7):=HB.out.trans (((Below.refl _ _).alloc HB.out.size _).trans (belO hgrow (fun b hb=>(HOB.out b hb).1) (by have:=HB.out.size;simp;omega)))
   clear hown hgrow hat hlt7
   go_wp2
   go_roundw
   case rel=>exact ⟨k+1,_,_,by omega,rfl,by go_num,HI5.out,HB7.out⟩
   case measure=>simp[intOf];omega
  obtain rfl:n=k:=by omega
  go_wp2
  go_ret
  exact⟨⟨s,va,vc,fun _=>hs,rfl,HI.out⟩,HB.out⟩
end Go.Proofs.YtilpgpcgcpedjaaGreat
