/- The writer: words put into a text, with blanks where they stand. The writer: texts in quotes, few words put, ends, names. -/
import Derived.Test.YtcpakcffiopfjaaGreatDoorC8
import Derived.Test.YtcpakcffiopfjaaGreatDoorA4
import Derived.Test.YtcpakcffiopfjaaGreatDoorA1
import Derived.Test.YtcpakcffiopfjaaGreatDoorE1
import Derived.Lib.ConvBytes
namespace Go.Proofs.YtcpakcffiopfjaaGreatDoor
open Go.RowKit
set_option linter.unusedVariables false
set_option linter.unusedSimpArgs false
set_option maxRecDepth 100000
set_option maxHeartbeats 16000000
set_option linter.unusedVariables false
set_option linter.unusedSimpArgs false
set_option maxRecDepth 100000
set_option maxHeartbeats 16000000
def oneB (w signs:List UInt8):Bool:=match w with | [c]=>decide (0≤Lib.indexByte signs c) | _=>false
def bareA (w:List UInt8):Bool:=oneB w [59,46,63,42,43,125]
def bareB (l:List UInt8):Bool:=oneB l [46,123]
def spB (l w:List UInt8):Bool:=!l.isEmpty&&!bareA w&&!bareB l
def putW:List UInt8×List UInt8→List (List UInt8)→List UInt8×List UInt8
 | st,[]=>st
 | st,w::ws=>if 65536<st.1.length then st else putW (st.1++(if spB st.2 w then [32] else [])++w,w) ws
def finW (st:List UInt8×List UInt8):List UInt8×List UInt8:=((putW st [[59]]).1++[10],[])
theorem putW_len:∀(ws:List (List UInt8)) (st:List UInt8×List UInt8),(∀s∈ws,s.length≤4000)→(putW st ws).1.length≤max st.1.length 69537
 | [],st,_=>by rw[putW];omega
 | w::ws,st,h=>by
  rw[putW]
  split
  ·omega
  ·have h1:=h w (by simp)
   have h2:(putW (st.1++(if spB st.2 w then [32] else [])++w,w) ws).1.length≤max (st.1++(if spB st.2 w then [32] else [])++w).length 69537:=putW_len ws _ (fun s hs=>h s (by simp[hs]))
   have h3:(st.1++(if spB st.2 w then [32] else [])++w).length≤69537:=by
    rw[List.length_append,List.length_append]
    split<;>simp<;>omega
   omega
theorem putW_app:∀(ws us:List (List UInt8)) (st:List UInt8×List UInt8),putW st (ws++us)=putW (putW st ws) us
 | [],us,st=>rfl
 | w::ws,us,st=>by
  rw[List.cons_append,putW,putW]
  split
  ·rename_i h
   cases us with
   | nil=>rfl
   | cons u us=>rw[putW,if_pos h]
  ·exact putW_app ws us _
theorem finW_len (st:List UInt8×List UInt8):(finW st).1.length≤max st.1.length 69537+1:=by
 unfold finW
 have:=putW_len [[59]] st (fun s hs=>by simp at hs;subst hs;simp)
 simp;omega
def N5 (w:World) (b:Nat):Prop:=∀cs e,w.heap[b]?=some (.cells cs e (0,0))→e≠5
structure FrW (w w':World) (B:Nat):Prop where
 os:w'.os=w.os
 tape:w'.tape=w.tape
 output:w'.output=w.output
 size:w.heap.size≤w'.heap.size
 block:∀b,b<w.heap.size→b≠B→(N5 w b∨b<B)→w'.heap[b]?=w.heap[b]?
theorem FrW.of {w w':World} {B:Nat} (h:w.grownBy w' (some B)):FrW w w' B:=⟨h.os,h.tape,h.output,h.size,fun b hb hne _=>h.block b hb (by simpa using hne)⟩
theorem FrW.bel {w w':World} {B:Nat} (h:Below w.heap.size w w'):FrW w w' B:=⟨h.os,h.tape,h.output,h.size,fun b hb _ _=>h.block b hb⟩
theorem FrW.refl (w:World) (B:Nat):FrW w w B:=⟨rfl,rfl,rfl,Nat.le_refl _,fun _ _ _ _=>rfl⟩
theorem N5.gr {w w':World} {B b:Nat} (h:N5 w b) (hf:FrW w w' B) (hb:b<w.heap.size) (hne:b≠B):N5 w' b:=fun cs e he=>h cs e ((hf.block b hb hne (.inl h)).symm.trans he)
theorem FrW.tr {u v w:World} {B:Nat} (h:FrW u v B) (k:FrW v w B):FrW u w B:=⟨k.os.trans h.os,k.tape.trans h.tape,k.output.trans h.output,Nat.le_trans h.size k.size,fun b hb hne hn=>(k.block b (Nat.lt_of_lt_of_le hb h.size) hne (hn.imp (fun q=>q.gr h hb hne) (fun q=>q))).trans (h.block b hb hne hn)⟩
theorem FrW.grow {w cur w7:World} {B:Nat} {v:Value} {n:Nat} {xs:List Value} (h:FrW w cur B) (hrow:cur.ownsRow (B+1) 5 1 v n xs) (hg:cur.grownBy w7 v.ownBlock):FrW w w7 B:=by
 refine⟨hg.os.trans h.os,hg.tape.trans h.tape,hg.output.trans h.output,Nat.le_trans h.size hg.size,fun b hb hne hn=>?_⟩
 refine (hg.block b (Nat.lt_of_lt_of_le hb h.size) (fun e'=>?_)).trans (h.block b hb hne hn)
 rcases hrow.2 with ⟨hv,_⟩ | ⟨g,cap,cs,hv,hBg,hgg,_⟩
 ·rw[hv] at e';simp[Value.ownBlock] at e'
 ·rw[hv] at e'
  obtain rfl:b=g:=by simpa [Value.ownBlock] using e'
  rcases hn with hn | hn
  ·exact hn cs 5 ((h.block b hb hne (.inl hn)).symm.trans hgg) rfl
  ·omega
theorem FrW.set {w cur:World} {B i:Nat} (h:FrW w cur B) (v:Value):FrW w (cur.setCell ⟨B,i,none⟩ v) B:=h.tr (FrW.of (grownBy_setCell _ _ _ _))
structure Wr (W:World) (B:Nat) (t l:List UInt8):Prop where
 at':∃v,Blk W B 69 #[v,.string (strB l)]∧W.ownsRow (B+1) 5 1 v t.length (Lib.byteCells t)
theorem Wr.lt {W:World} {B:Nat} {t l:List UInt8} (h:Wr W B t l):B<W.heap.size:=by
 obtain⟨v,h,_⟩:=h.at'
 exact h.lt
theorem Wr.below {W W':World} {B:Nat} {t l:List UInt8} (h:Wr W B t l) (hb:Below W.heap.size W W'):Wr W' B t l:=by
 obtain⟨v,h1,h2⟩:=h.at'
 exact⟨v,h1.after hb,row_below h2 hb⟩
theorem N5.blk {w:World} {b t:Nat} {cs:Array Value} (h:Blk w b t cs) (ht:t≠5):N5 w b:=fun cs' e he=>by
 have:=(show w.heap[b]?=_ from h).symm.trans he
 simp at this
 rw[←this.2];exact ht
theorem FrW.blk {w w':World} {B b t:Nat} {cs:Array Value} (h:FrW w w' B) (hb:Blk w b t cs) (hne:b≠B) (ht:t≠5):Blk w' b t cs:=(h.block b hb.lt hne (.inl (N5.blk hb ht))).trans hb
def SA (w:World) (B:Nat) (ws:List (List UInt8)) (v:Value):Prop:=
 ∃a c,v=.slice a ws.length c∧ws.length≤c∧ws.length≤140737488355328∧∀j s,ws[j]?=some s→∃b o,a=some ⟨b,o,none⟩∧b<w.heap.size∧b≠B∧(N5 w b∨b<B)∧w.cell? ⟨b,o+j,none⟩=some (.string (strB s))
theorem SA.keep {w w':World} {B:Nat} {ws:List (List UInt8)} {v:Value} (h:SA w B ws v) (hf:FrW w w' B):SA w' B ws v:=by
 obtain⟨a,c,e,h1,h2,h3⟩:=h
 refine⟨a,c,e,h1,h2,fun j s hj=>?_⟩
 obtain⟨b,o,e2,hb,hne,hn,hc⟩:=h3 j s hj
 exact⟨b,o,e2,Nat.lt_of_lt_of_le hb hf.size,hne,hn.imp (fun q=>q.gr hf hb hne) (fun q=>q),(World.cell?_of_block (a:=⟨b,_,none⟩) (hf.block b hb hne hn)).trans hc⟩
theorem SA.lit {w:World} {B:Nat} (hB:B<w.heap.size) (ws:List (List UInt8)) (hl:ws.length≤100):SA (w.alloc (.cells (ws.map fun s=>Value.string (strB s)).toArray 9)) B ws (.slice (some ⟨w.heap.size,0,none⟩) ws.length ws.length):=by
 refine⟨_,_,rfl,Nat.le_refl _,by omega,fun j s hj=>⟨w.heap.size,0,rfl,by rw[World.size_alloc];omega,by omega,.inl (N5.blk (Blk.new w 9 _) (by decide)),?_⟩⟩
 rw[Nat.zero_add]
 refine cell_new j ?_
 simp[hj]
def WP (B:Nat) (w:World) (st:List UInt8×List UInt8) (e:Ending) (w':World):Prop:=e=.returned (.tuple #[])∧Wr w' B st.1 st.2∧FrW w w' B
theorem strB_size (l:List UInt8):(strB l).size=l.length:=by simp[strB,ByteArray.size]
theorem oneOf_any (w signs:List UInt8) (W:World):Calls Tryz.prog 122 #[.string (strB w),.string (strB signs)] W fun e W'=>e=.returned (.bool (oneB w signs))∧W'=W:=by
 by_cases h1:w.length=1
 ·obtain⟨c,rfl⟩:∃c,w=[c]:=by
   match w,h1 with
   | [c],_=>exact⟨c,rfl⟩
  have HC:=hU (contains_any (strB signs) c W)
  have HE:Hid (oneB [c] signs=decide (0≤Lib.indexByte (strB signs).data.toList c)):=by
   have e:(strB signs).data.toList=signs:=by simp[strB]
   show _=_
   rw[e];rfl
  have hx:(strB [c])=⟨#[c]⟩:=rfl
  rw[hx]
  have hz:(⟨#[c]⟩:ByteArray).size=1:=rfl
  generalize strB signs=sg at *
  go_enter Tryz.func122,Tryz.ntmps122
  go_wp2_with fail
  refine hMo HC ?_
  rintro e W' ⟨rfl,rfl⟩
  go_wp2
  go_ret
  exact⟨by rw[HE.out];rfl,rfl⟩
 ·have HE:Hid (oneB w signs=false):=by
   show _=_
   match w,h1 with
   | [],_=>rfl
   | [c],h=>exact absurd rfl h
   | c::d::l,_=>rfl
  have hz:(((strB w).size:Nat):Int)≠1:=by rw[strB_size];omega
  generalize strB signs=sg at *
  generalize strB w=x at *
  go_enter Tryz.func122,Tryz.ntmps122
  go_wp2
  go_ret
  exact⟨by rw[HE.out];rfl,rfl⟩
theorem put_any (B:Nat) (t l:List UInt8) (ws:List (List UInt8)) (v:Value) (w:World) (hW:Wr w B t l) (hS:SA w B ws v) (hw:∀s∈ws,s.length≤4000) (ht:t.length≤10000000) :
  Calls Tryz.prog 70 #[.pointer (some ⟨B,0,none⟩),v] w (WP B w (putW (t,l) ws)):=by
 obtain⟨i0,hi,hz0,hz1,hz2⟩:=info_parts info5
 have HW:Hid (Wr w B t l):=hW
 obtain⟨a,c,rfl,hc,hn,hr⟩:=hS
 have HS:Hid (SA w B ws (.slice a ws.length c)):=⟨a,c,rfl,hc,hn,hr⟩
 have HL:=hHi hw
 have HT:Hid (t.length≤10000000):=ht
 obtain⟨n,hnn⟩:∃n,ws.length=n:=⟨_,rfl⟩
 have HN:Hid (ws.length=n):=hnn
 rw[hnn] at hc hn ⊢
 clear hW hr hw ht hnn
 go_enter Tryz.func70,Tryz.ntmps70
 go_wp2
 go_loopw[8] (fun iv W=>∃(k:Nat) (st:List UInt8×List UInt8),k≤n∧iv=.int .i64 k∧putW (t,l) ws=putW st (ws.drop k)∧Wr W B st.1 st.2∧FrW w W B∧st.1.length≤10000000) (fun iv _=>n-(intOf iv).toNat)
 case atStart=>exact⟨0,(t,l),Nat.zero_le _,rfl,rfl,HW.out,FrW.refl _ _,HT.out⟩
 case round=>
  obtain⟨k,⟨t1,l1⟩,hk,rfl,he,hwr,hfr,hlen⟩:=hrel
  have HE:Hid (putW (t,l) ws=putW (t1,l1) (ws.drop k)):=he
  have HWR:Hid (Wr wr B t1 l1):=hwr
  have HFR:Hid (FrW w wr B):=hfr
  clear he hwr hfr
  by_cases hkn:k<n
  case neg=>
   have hkI:¬(k:Int)<(n:Int):=by omega
   go_wp2
   go_end0
   show WP B w (putW (t,l) ws) _ _
   rw[HE.out,List.drop_eq_nil_of_le (by have:=HN.out;omega)]
   exact⟨rfl,HWR.out,HFR.out⟩
  have hkI:(k:Int)<(n:Int):=by omega
  obtain⟨s,hs⟩:∃s,ws[k]?=some s:=⟨_,List.getElem?_eq_getElem (by have:=HN.out;omega)⟩
  have HDR:Hid (ws.drop k=s::ws.drop (k+1)):=by
   have:=List.getElem?_eq_some_iff.1 hs
   show _=_
   rw[List.drop_eq_getElem_cons this.1,this.2]
  have HSL:Hid (s.length≤4000):=HL.out s (List.mem_of_getElem? hs)
  obtain⟨a',c',e',_,_,hr'⟩:=HS.out.keep HFR.out
  cases e'
  obtain⟨b,o,rfl,hb,hbne,hbn,hbc⟩:=hr' k s hs
  obtain⟨tv,hbk,hown⟩:=HWR.out.at'
  obtain⟨ta,tc,rfl⟩:=own_slice hown
  have HBK:Hid (Blk wr B 69 #[.slice ta t1.length tc,.string (strB l1)]):=hbk
  have HOW:Hid (wr.ownsRow (B+1) 5 1 (.slice ta t1.length tc) t1.length (Lib.byteCells t1)):=hown
  have c0:=hbk.cell 0 rfl
  have c1:=hbk.cell 1 rfl
  have hbs:=HWR.out.lt
  clear hr' hs hb hbne hbn hbk hown HWR
  by_cases hbig:65536<t1.length
  case pos=>
   have hbI:(t1.length:Int)>65536:=by omega
   have HBG:=hHi hbig
   have HWR:Hid (Wr wr B t1 l1):=⟨_,HBK.out,HOW.out⟩
   clear hbig
   go_wp2
   go_end0
   show WP B w (putW (t,l) ws) _ _
   rw[HE.out,HDR.out,putW,if_pos (show 65536<(t1,l1).1.length from HBG.out)]
   exact⟨rfl,HWR.out,HFR.out⟩
  have hbI:¬(t1.length:Int)>65536:=by omega
  have HBG:Hid (¬ 65536<t1.length):=hbig
  have hb5:t1.length≤65536:=by omega
  have HST:Hid (∀sp,spB l1 s=sp→putW (t,l) ws=putW (t1++(if sp then [32] else [])++s,s) (ws.drop (k+1))):=fun sp hsp=>by
   rw[HE.out,HDR.out,putW,if_neg (show ¬ 65536<(t1,l1).1.length from HBG.out)]
   simp only[hsp]
  have HA:Hid (∀W,Calls Tryz.prog 122 #[.string (strB s),.string ⟨#[59,46,63,42,43,125]⟩] W fun e W'=>e=.returned (.bool (bareA s))∧W'=W):=fun W=>oneOf_any s [59,46,63,42,43,125] W
  have HB2:Hid (∀W,Calls Tryz.prog 122 #[.string (strB l1),.string ⟨#[46,123]⟩] W fun e W'=>e=.returned (.bool (bareB l1))∧W'=W):=fun W=>oneOf_any l1 [46,123] W
  have hss:(strB s).size=s.length:=strB_size s
  have HSS:Hid (Lib.strCells (strB s)=Lib.byteCells s):=by show _=_;rw[Lib.strCells_eq];simp[strB]
  have hs4:(strB s).size≤4000:=by rw[hss];exact HSL.out
  clear hbig
  by_cases hl0:l1.length=0
  case pos=>
   have hie:(strB l1).toList.isEmpty=true:=by rw[str_empty (strB l1) (by rw[strB_size];exact hl0),ByteArray.toList_eq];rfl
   have HSP:Hid (spB l1 s=false):=by show _=_;unfold spB;rw[List.eq_nil_of_length_eq_zero hl0];rfl
   clear hl0
   go_wp2_with (at_builtin;refine Lib.wpList_append_own_string _ rfl _ _ 67 9 rfl (B+1) 5 i0 Tryz.underlying67 Tryz.underlying9 hi hz0 hz1 hz2 _ _ _ rfl HOW.out (strB s) rfl ?c3 ?c4 ?c5 ?_)
   case c3=>unfold maxLen;omega
   case c4=>omega
   case c5=>omega
   intro v' w7 hown' hgrow hiff
   try rw[hss] at hown'
   obtain⟨g7,cap7,rfl⟩:=own_slice hown'
   have HOW7:Hid (w7.ownsRow (B+1) 5 1 (.slice g7 (t1.length+s.length) cap7) (t1++s).length (Lib.byteCells (t1++s))):=by
    have e:(t1++s).length=t1.length+s.length:=by simp
    show World.ownsRow _ _ _ _ _ _ _
    rw[e,Lib.byteCells_append,←HSS.out]
    exact hown'
   have HFR7:Hid (FrW w w7 B):=HFR.out.grow HOW.out hgrow
   have HBK7:=kK HBK hgrow (fun e=>by have:=(HOW.out.lt B e.symm).1;omega)
   obtain⟨d0,d1⟩:=HBK7.out.c2
   have y0:=Blk.frozen HBK7.out 0
   have y1:=Blk.frozen HBK7.out 1
   have hl7:=HBK7.out.lt
   clear hown' hgrow hiff
   have HFN:Hid (∀X,X=(w7.setCell ⟨B,0,none⟩ (.slice g7 (t1.length+s.length) cap7)).setCell ⟨B,1,none⟩ (.string (strB s))→Wr X B (t1++s) s∧FrW w X B):=fun X hX=>by
    subst hX
    have q1:=Blk.set HBK7.out 0 (.slice g7 (t1.length+s.length) cap7)
    have q2:=Blk.set q1 1 (.string (strB s))
    simp only[List.setIfInBounds_toArray,List.set_cons_zero,List.set_cons_succ] at q2
    have hg:w7.grownBy ((w7.setCell ⟨B,0,none⟩ (.slice g7 (t1.length+s.length) cap7)).setCell ⟨B,1,none⟩ (.string (strB s))) (some B):=gr_tr (gr_set _ _ _ _) (gr_set _ _ _ _)
    exact⟨⟨_,q2,row_kept_lt HOW7.out hg (Nat.lt_succ_self B)⟩,HFR7.out.tr (FrW.of hg)⟩
   go_wp2
   obtain⟨X,hX⟩:∃X,X=(w7.setCell ⟨B,0,none⟩ (.slice g7 (t1.length+s.length) cap7)).setCell ⟨B,1,none⟩ (.string (strB s)):=⟨_,rfl⟩
   have hF:=HFN.out X hX
   rw[←hX]
   clear hX
   go_roundw
   case rel=>exact⟨k+1,(t1++s,s),by omega,by simp,by rw[HST.out false HSP.out];simp,hF.1,hF.2,by have:=HSL.out;simp;omega⟩
   case measure=>simp[intOf];omega
  have hie:=ne_empty (strB l1) (by rw[strB_size];exact hl0)
  have HL1:Hid (l1.isEmpty=false):=by show _=_;cases l1 with
   | nil=>exact absurd rfl hl0
   | cons c l=>rfl
  clear hl0
  cases hqa:bareA s with
  | true=>
   have HSP:Hid (spB l1 s=false):=by show _=_;unfold spB;rw[hqa];simp
   rw[hqa] at HA
   clear hqa
   go_wp2_with fail
   refine (HA.out _).mono ?_
   rintro e W' ⟨rfl,hWW⟩
   have hWW:=hWW.symm
   subst hWW
   go_wp2_with (at_builtin;refine Lib.wpList_append_own_string _ rfl _ _ 67 9 rfl (B+1) 5 i0 Tryz.underlying67 Tryz.underlying9 hi hz0 hz1 hz2 _ _ _ rfl HOW.out (strB s) rfl ?c3 ?c4 ?c5 ?_)
   case c3=>unfold maxLen;omega
   case c4=>omega
   case c5=>omega
   intro v' w7 hown' hgrow hiff
   try rw[hss] at hown'
   obtain⟨g7,cap7,rfl⟩:=own_slice hown'
   have HOW7:Hid (w7.ownsRow (B+1) 5 1 (.slice g7 (t1.length+s.length) cap7) (t1++s).length (Lib.byteCells (t1++s))):=by
    have e:(t1++s).length=t1.length+s.length:=by simp
    show World.ownsRow _ _ _ _ _ _ _
    rw[e,Lib.byteCells_append,←HSS.out]
    exact hown'
   have HFR7:Hid (FrW w w7 B):=HFR.out.grow HOW.out hgrow
   have HBK7:=kK HBK hgrow (fun e=>by have:=(HOW.out.lt B e.symm).1;omega)
   obtain⟨d0,d1⟩:=HBK7.out.c2
   have y0:=Blk.frozen HBK7.out 0
   have y1:=Blk.frozen HBK7.out 1
   have hl7:=HBK7.out.lt
   clear hown' hgrow hiff
   have HFN:Hid (∀X,X=(w7.setCell ⟨B,0,none⟩ (.slice g7 (t1.length+s.length) cap7)).setCell ⟨B,1,none⟩ (.string (strB s))→Wr X B (t1++s) s∧FrW w X B):=fun X hX=>by
    subst hX
    have q1:=Blk.set HBK7.out 0 (.slice g7 (t1.length+s.length) cap7)
    have q2:=Blk.set q1 1 (.string (strB s))
    simp only[List.setIfInBounds_toArray,List.set_cons_zero,List.set_cons_succ] at q2
    have hg:w7.grownBy ((w7.setCell ⟨B,0,none⟩ (.slice g7 (t1.length+s.length) cap7)).setCell ⟨B,1,none⟩ (.string (strB s))) (some B):=gr_tr (gr_set _ _ _ _) (gr_set _ _ _ _)
    exact⟨⟨_,q2,row_kept_lt HOW7.out hg (Nat.lt_succ_self B)⟩,HFR7.out.tr (FrW.of hg)⟩
   go_wp2
   obtain⟨X,hX⟩:∃X,X=(w7.setCell ⟨B,0,none⟩ (.slice g7 (t1.length+s.length) cap7)).setCell ⟨B,1,none⟩ (.string (strB s)):=⟨_,rfl⟩
   have hF:=HFN.out X hX
   rw[←hX]
   clear hX
   go_roundw
   case rel=>exact⟨k+1,(t1++s,s),by omega,by simp,by rw[HST.out false HSP.out];simp,hF.1,hF.2,by have:=HSL.out;simp;omega⟩
   case measure=>simp[intOf];omega
  | false=>
  rw[hqa] at HA
  cases hqb:bareB l1 with
  | true=>
   have HSP:Hid (spB l1 s=false):=by show _=_;unfold spB;rw[hqb];simp
   rw[hqb] at HB2
   clear hqa hqb
   go_wp2_with fail
   refine (HA.out _).mono ?_
   rintro e W' ⟨rfl,hWW⟩
   have hWW:=hWW.symm
   subst hWW
   go_wp2_with fail
   refine (HB2.out _).mono ?_
   rintro e W' ⟨rfl,hWW⟩
   have hWW:=hWW.symm
   subst hWW
   go_wp2_with (at_builtin;refine Lib.wpList_append_own_string _ rfl _ _ 67 9 rfl (B+1) 5 i0 Tryz.underlying67 Tryz.underlying9 hi hz0 hz1 hz2 _ _ _ rfl HOW.out (strB s) rfl ?c3 ?c4 ?c5 ?_)
   case c3=>unfold maxLen;omega
   case c4=>omega
   case c5=>omega
   intro v' w7 hown' hgrow hiff
   try rw[hss] at hown'
   obtain⟨g7,cap7,rfl⟩:=own_slice hown'
   have HOW7:Hid (w7.ownsRow (B+1) 5 1 (.slice g7 (t1.length+s.length) cap7) (t1++s).length (Lib.byteCells (t1++s))):=by
    have e:(t1++s).length=t1.length+s.length:=by simp
    show World.ownsRow _ _ _ _ _ _ _
    rw[e,Lib.byteCells_append,←HSS.out]
    exact hown'
   have HFR7:Hid (FrW w w7 B):=HFR.out.grow HOW.out hgrow
   have HBK7:=kK HBK hgrow (fun e=>by have:=(HOW.out.lt B e.symm).1;omega)
   obtain⟨d0,d1⟩:=HBK7.out.c2
   have y0:=Blk.frozen HBK7.out 0
   have y1:=Blk.frozen HBK7.out 1
   have hl7:=HBK7.out.lt
   clear hown' hgrow hiff
   have HFN:Hid (∀X,X=(w7.setCell ⟨B,0,none⟩ (.slice g7 (t1.length+s.length) cap7)).setCell ⟨B,1,none⟩ (.string (strB s))→Wr X B (t1++s) s∧FrW w X B):=fun X hX=>by
    subst hX
    have q1:=Blk.set HBK7.out 0 (.slice g7 (t1.length+s.length) cap7)
    have q2:=Blk.set q1 1 (.string (strB s))
    simp only[List.setIfInBounds_toArray,List.set_cons_zero,List.set_cons_succ] at q2
    have hg:w7.grownBy ((w7.setCell ⟨B,0,none⟩ (.slice g7 (t1.length+s.length) cap7)).setCell ⟨B,1,none⟩ (.string (strB s))) (some B):=gr_tr (gr_set _ _ _ _) (gr_set _ _ _ _)
    exact⟨⟨_,q2,row_kept_lt HOW7.out hg (Nat.lt_succ_self B)⟩,HFR7.out.tr (FrW.of hg)⟩
   go_wp2
   obtain⟨X,hX⟩:∃X,X=(w7.setCell ⟨B,0,none⟩ (.slice g7 (t1.length+s.length) cap7)).setCell ⟨B,1,none⟩ (.string (strB s)):=⟨_,rfl⟩
   have hF:=HFN.out X hX
   rw[←hX]
   clear hX
   go_roundw
   case rel=>exact⟨k+1,(t1++s,s),by omega,by simp,by rw[HST.out false HSP.out];simp,hF.1,hF.2,by have:=HSL.out;simp;omega⟩
   case measure=>simp[intOf];omega
  | false=>
   have HSP:Hid (spB l1 s=true):=by show _=_;unfold spB;rw[hqa,hqb,HL1.out];rfl
   rw[hqb] at HB2
   clear hqa hqb
   go_wp2_with fail
   refine (HA.out _).mono ?_
   rintro e W' ⟨rfl,hWW⟩
   have hWW:=hWW.symm
   subst hWW
   go_wp2_with fail
   refine (HB2.out _).mono ?_
   rintro e W' ⟨rfl,hWW⟩
   have hWW:=hWW.symm
   subst hWW
   go_wp2_with (at_builtin;refine wpList_append_own _ rfl _ _ 67 rfl (B+1) 5 i0 (.int .u8 0) 1 1 Tryz.underlying67 hi hz0 hz1 hz2 rfl (by decide) _ _ _ rfl (HOW.out.alloc _) ⟨wr.heap.size,0,none⟩ 1 1 [.int .u8 32] rfl rfl ?b1 ?b2 ?b3 ?b4 ?b5 ?_)
   case b1=>exact cell_one_new _ _ _
   case b2=>intro u hu;simp at hu;subst hu;rfl
   case b3=>unfold maxLen;omega
   case b4=>omega
   case b5=>simp;omega
   intro v3 w3 hown3 hgrow3 _
   obtain⟨g3,cap3,rfl⟩:∃g cap,v3=.slice (some ⟨g,0,none⟩) (t1.length+1) cap:=by
    rcases hown3.2 with ⟨_,h0⟩ | ⟨g,cap,cur,hv,_⟩
    ·omega
    ·exact⟨g,cap,hv⟩
   have HFR3a:Hid (FrW w w3 B):=(HFR.out.tr (FrW.bel ((Below.refl _ _).alloc (Nat.le_refl _) _))).grow (HOW.out.alloc _) hgrow3
   have HBK3a:Hid (Blk w3 B 69 #[.slice ta t1.length tc,.string (strB l1)]):=Blk.kept (W:=wr.alloc _) (Blk.alloc HBK.out _) hgrow3 (fun e=>by have:=(HOW.out.lt B e.symm).1;omega)
   have HS3:Hid (B<w3.heap.size):=Blk.lt HBK3a.out
   have HOW3a:Hid (w3.ownsRow (B+1) 5 1 (.slice (some ⟨g3,0,none⟩) (t1.length+1) cap3) (t1++[32]).length (Lib.byteCells (t1++[32]))):=by
    have e:(t1++[32]).length=t1.length+1:=by simp
    show World.ownsRow _ _ _ _ _ _ _
    rw[e,Lib.byteCells_append]
    exact hown3
   obtain⟨e0,e1⟩:=HBK3a.out.c2
   have x0:=Blk.frozen HBK3a.out 0
   have hl3:=HBK3a.out.lt
   clear hown3 hgrow3 c0 c1
   have HG4:Hid (w3.grownBy (w3.setCell ⟨B,0,none⟩ (.slice (some ⟨g3,0,none⟩) (t1.length+1) cap3)) (some B)):=grownBy_setCell _ _ _ _
   have HBK3:Hid (Blk (w3.setCell ⟨B,0,none⟩ (.slice (some ⟨g3,0,none⟩) (t1.length+1) cap3)) B 69 #[.slice (some ⟨g3,0,none⟩) (t1.length+1) cap3,.string (strB l1)]):=Blk.set HBK3a.out 0 _
   have HFR3:Hid (FrW w (w3.setCell ⟨B,0,none⟩ (.slice (some ⟨g3,0,none⟩) (t1.length+1) cap3)) B):=HFR3a.out.tr (FrW.of HG4.out)
   have HOW3:Hid (World.ownsRow (w3.setCell ⟨B,0,none⟩ (.slice (some ⟨g3,0,none⟩) (t1.length+1) cap3)) (B+1) 5 1 (.slice (some ⟨g3,0,none⟩) (t1.length+1) cap3) (t1++[32]).length (Lib.byteCells (t1++[32]))):=row_kept_lt HOW3a.out HG4.out (Nat.lt_succ_self B)
   have hl32:(t1++[32]).length=t1.length+1:=by simp
   go_wp2_with (at_builtin;refine Lib.wpList_append_own_string _ rfl _ _ 67 9 rfl (B+1) 5 i0 Tryz.underlying67 Tryz.underlying9 hi hz0 hz1 hz2 _ _ _ rfl HOW3.out (strB s) rfl ?c3 ?c4 ?c5 ?_)
   case c3=>unfold maxLen;omega
   case c4=>omega
   case c5=>have:=HG4.out.size;have:=HS3.out;omega
   intro v' w7 hown' hgrow hiff
   try rw[hss] at hown'
   obtain⟨g7,cap7,rfl⟩:=own_slice hown'
   have HOW7:Hid (w7.ownsRow (B+1) 5 1 (.slice g7 ((t1.length+1)+s.length) cap7) ((t1++[32])++s).length (Lib.byteCells ((t1++[32])++s))):=by
    have e:((t1++[32])++s).length=(t1.length+1)+s.length:=by rw[List.length_append,List.length_append];rfl
    show World.ownsRow _ _ _ _ _ _ _
    rw[e,Lib.byteCells_append,←HSS.out]
    exact hown'
   have HFR7:Hid (FrW w w7 B):=HFR3.out.grow HOW3.out hgrow
   have HBK7:=kK HBK3 hgrow (fun e=>by have:=(HOW3.out.lt B e.symm).1;omega)
   obtain⟨d0,d1⟩:=HBK7.out.c2
   have y0:=Blk.frozen HBK7.out 0
   have y1:=Blk.frozen HBK7.out 1
   have hl7:=HBK7.out.lt
   clear hown' hgrow hiff
   have HFN:Hid (∀X,X=(w7.setCell ⟨B,0,none⟩ (.slice g7 ((t1.length+1)+s.length) cap7)).setCell ⟨B,1,none⟩ (.string (strB s))→Wr X B ((t1++[32])++s) s∧FrW w X B):=fun X hX=>by
    subst hX
    have q1:=Blk.set HBK7.out 0 (.slice g7 ((t1.length+1)+s.length) cap7)
    have q2:=Blk.set q1 1 (.string (strB s))
    simp only[List.setIfInBounds_toArray,List.set_cons_zero,List.set_cons_succ] at q2
    have hg:w7.grownBy ((w7.setCell ⟨B,0,none⟩ (.slice g7 ((t1.length+1)+s.length) cap7)).setCell ⟨B,1,none⟩ (.string (strB s))) (some B):=gr_tr (gr_set _ _ _ _) (gr_set _ _ _ _)
    exact⟨⟨_,q2,row_kept_lt HOW7.out hg (Nat.lt_succ_self B)⟩,HFR7.out.tr (FrW.of hg)⟩
   go_wp2
   obtain⟨X,hX⟩:∃X,X=(w7.setCell ⟨B,0,none⟩ (.slice g7 ((t1.length+1)+s.length) cap7)).setCell ⟨B,1,none⟩ (.string (strB s)):=⟨_,rfl⟩
   have hF:=HFN.out X hX
   rw[←hX]
   clear hX
   go_roundw
   case rel=>exact⟨k+1,((t1++[32])++s,s),by omega,by simp,by rw[HST.out true HSP.out];rfl,hF.1,hF.2,by have:=HSL.out;simp;omega⟩
   case measure=>simp[intOf];omega
theorem kF {w w':World} {B b t:Nat} {cs:Array Value} (h:Hid (FrW w w' B)) (hb:Hid (Blk w b t cs)) (hne:Hid (b≠B)) (ht:t≠5:=by decide):Hid (Blk w' b t cs):=FrW.blk h.out hb.out hne.out ht
theorem wnx9 {B:Nat} {w a a':World} {S:List UInt8×List UInt8} {n:Nat} (hF:Hid (FrW w a B)) (hw:Wr a' B S.1 S.2) (hf:FrW a a' B) (hl:S.1.length≤n):∃s,Hid (S=s)∧Hid (s.1.length≤n)∧Hid (Wr a' B s.1 s.2)∧Hid (FrW a a' B)∧Hid (FrW w a' B):=⟨S,rfl,hl,hw,hf,hF.out.tr hf⟩
theorem wnx {B:Nat} {w a a':World} {S:List UInt8×List UInt8} (hF:Hid (FrW w a B)) (hw:Wr a' B S.1 S.2) (hf:FrW a a' B) (hl:S.1.length≤7000000):∃s,Hid (S=s)∧Hid (s.1.length≤7000000)∧Hid (Wr a' B s.1 s.2)∧Hid (FrW a a' B)∧Hid (FrW w a' B):=wnx9 hF hw hf hl
theorem bw_below (w:World) (e:TypeId) (s:ByteArray):Below w.heap.size w (Lib.bytesWorld w e s):=⟨rfl,rfl,rfl,by rw[Lib.bytesWorld_size];omega,fun b hb=>Lib.bytesWorld_at_old w e s b hb⟩
theorem bysN_lt (s:ByteArray):∀n∈bysN s,n<256:=fun n hn=>by
 unfold bysN at hn
 obtain⟨c,_,rfl⟩:=List.mem_map.1 hn
 exact c.toNat_lt
theorem bysN_get (s:ByteArray) (i:Nat):(bysN s).getD i 0=(s.data.toList.getD i 0).toNat:=by
 unfold bysN
 rw[List.getD_eq_getElem?_getD,List.getD_eq_getElem?_getD,List.getElem?_map]
 cases s.data.toList[i]? <;> rfl
theorem quoted_any (s:ByteArray) (w:World) (hs:s.size≤65536):Calls Tryz.prog 123 #[.string s] w fun e w'=>e=.returned (.string (strB (quoteL (bysN s))))∧Below w.heap.size w w':=by
 have hcv:=Lib.run_convert_string_bytes (P:=Tryz.prog) w 9 67 5 s Tryz.underlying9 Tryz.underlying67 Tryz.underlying5
 have hrow:RowB (Lib.bytesWorld w 5 s) (some ⟨w.heap.size,0,none⟩) (bysN s):=fun i hi=>by
  rw[bysN_len] at hi
  refine⟨w.heap.size,0,rfl,by rw[Lib.bytesWorld_size];omega,?_⟩
  rw[Nat.zero_add,Lib.bytesWorld_cell w 5 s i hi,bysN_get]
 have hq:=quote_any (bysN s) (some ⟨w.heap.size,0,none⟩) (grownCap w s.size 0 5) (Lib.bytesWorld w 5 s) (bysN_lt s) (by rw[bysN_len];exact hs) hrow
 rw[bysN_len] at hq
 have HQ:=hU hq
 have HB:Hid (Below w.heap.size w (Lib.bytesWorld w 5 s)):=bw_below w 5 s
 generalize grownCap w s.size 0 5=gc at *
 obtain⟨wb,hwb⟩:∃wb,Lib.bytesWorld w 5 s=wb:=⟨_,rfl⟩
 rw[hwb] at HQ hcv HB
 clear hq hrow hwb hs
 go_enter Tryz.func123,Tryz.ntmps123
 go_wp2_with fail
 refine hMo HQ ?_
 rintro e w2 ⟨rfl,hb⟩
 have HB2:=hHi (below_tr HB.out hb)
 clear hb
 go_wp2
 go_ret
 exact⟨rfl,HB2.out⟩
theorem WP.at {B:Nat} {w w0:World} {st:List UInt8×List UInt8} {e:Ending} {w':World} (h:WP B w st e w') (hf:FrW w0 w B):WP B w0 st e w':=⟨h.1,h.2.1,hf.tr h.2.2⟩
theorem wput1 {B:Nat} {t l:List UInt8} {w:World} (x0:ByteArray) (hW:Wr w B t l) (ht:t.length≤10000000) (h0:x0.size≤4000) :
  Calls Tryz.prog 70 #[.pointer (some ⟨B,0,none⟩),.slice (some ⟨w.heap.size,0,none⟩) 1 1] (w.alloc (.cells #[.string x0] 9)) (WP B w (putW (t,l) [x0.data.toList])):=by
 have hS:=SA.lit (w:=w) hW.lt [x0.data.toList] (by simp)
 have hb:Below w.heap.size w (w.alloc (.cells #[.string x0] 9)):=(Below.refl _ _).alloc (Nat.le_refl _) _
 have hp:=put_any B t l [x0.data.toList] (.slice (some ⟨w.heap.size,0,none⟩) 1 1) (w.alloc (.cells #[.string x0] 9)) (hW.below hb) (by simpa [strB_list] using hS) (fun s hs=>by
  simp only[List.mem_cons,List.not_mem_nil,or_false] at hs
  subst hs<;>(rw[list_len];assumption)) ht
 exact hp.mono fun e w' h=>h.at (FrW.bel hb)
theorem wput2 {B:Nat} {t l:List UInt8} {w:World} (x0 x1:ByteArray) (hW:Wr w B t l) (ht:t.length≤10000000) (h0:x0.size≤4000) (h1:x1.size≤4000) :
  Calls Tryz.prog 70 #[.pointer (some ⟨B,0,none⟩),.slice (some ⟨w.heap.size,0,none⟩) 2 2] (w.alloc (.cells #[.string x0,.string x1] 9)) (WP B w (putW (t,l) [x0.data.toList,x1.data.toList])):=by
 have hS:=SA.lit (w:=w) hW.lt [x0.data.toList,x1.data.toList] (by simp)
 have hb:Below w.heap.size w (w.alloc (.cells #[.string x0,.string x1] 9)):=(Below.refl _ _).alloc (Nat.le_refl _) _
 have hp:=put_any B t l [x0.data.toList,x1.data.toList] (.slice (some ⟨w.heap.size,0,none⟩) 2 2) (w.alloc (.cells #[.string x0,.string x1] 9)) (hW.below hb) (by simpa [strB_list] using hS) (fun s hs=>by
  simp only[List.mem_cons,List.not_mem_nil,or_false] at hs
  rcases hs with rfl | rfl<;>(rw[list_len];assumption)) ht
 exact hp.mono fun e w' h=>h.at (FrW.bel hb)
theorem wput3 {B:Nat} {t l:List UInt8} {w:World} (x0 x1 x2:ByteArray) (hW:Wr w B t l) (ht:t.length≤10000000) (h0:x0.size≤4000) (h1:x1.size≤4000) (h2:x2.size≤4000) :
  Calls Tryz.prog 70 #[.pointer (some ⟨B,0,none⟩),.slice (some ⟨w.heap.size,0,none⟩) 3 3] (w.alloc (.cells #[.string x0,.string x1,.string x2] 9)) (WP B w (putW (t,l) [x0.data.toList,x1.data.toList,x2.data.toList])):=by
 have hS:=SA.lit (w:=w) hW.lt [x0.data.toList,x1.data.toList,x2.data.toList] (by simp)
 have hb:Below w.heap.size w (w.alloc (.cells #[.string x0,.string x1,.string x2] 9)):=(Below.refl _ _).alloc (Nat.le_refl _) _
 have hp:=put_any B t l [x0.data.toList,x1.data.toList,x2.data.toList] (.slice (some ⟨w.heap.size,0,none⟩) 3 3) (w.alloc (.cells #[.string x0,.string x1,.string x2] 9)) (hW.below hb) (by simpa [strB_list] using hS) (fun s hs=>by
  simp only[List.mem_cons,List.not_mem_nil,or_false] at hs
  rcases hs with rfl | rfl | rfl<;>(rw[list_len];assumption)) ht
 exact hp.mono fun e w' h=>h.at (FrW.bel hb)
theorem wput4 {B:Nat} {t l:List UInt8} {w:World} (x0 x1 x2 x3:ByteArray) (hW:Wr w B t l) (ht:t.length≤10000000) (h0:x0.size≤4000) (h1:x1.size≤4000) (h2:x2.size≤4000) (h3:x3.size≤4000) :
  Calls Tryz.prog 70 #[.pointer (some ⟨B,0,none⟩),.slice (some ⟨w.heap.size,0,none⟩) 4 4] (w.alloc (.cells #[.string x0,.string x1,.string x2,.string x3] 9)) (WP B w (putW (t,l) [x0.data.toList,x1.data.toList,x2.data.toList,x3.data.toList])):=by
 have hS:=SA.lit (w:=w) hW.lt [x0.data.toList,x1.data.toList,x2.data.toList,x3.data.toList] (by simp)
 have hb:Below w.heap.size w (w.alloc (.cells #[.string x0,.string x1,.string x2,.string x3] 9)):=(Below.refl _ _).alloc (Nat.le_refl _) _
 have hp:=put_any B t l [x0.data.toList,x1.data.toList,x2.data.toList,x3.data.toList] (.slice (some ⟨w.heap.size,0,none⟩) 4 4) (w.alloc (.cells #[.string x0,.string x1,.string x2,.string x3] 9)) (hW.below hb) (by simpa [strB_list] using hS) (fun s hs=>by
  simp only[List.mem_cons,List.not_mem_nil,or_false] at hs
  rcases hs with rfl | rfl | rfl | rfl<;>(rw[list_len];assumption)) ht
 exact hp.mono fun e w' h=>h.at (FrW.bel hb)
theorem end_any (B:Nat) (t l:List UInt8) (w:World) (hW:Wr w B t l) (ht:t.length≤9000000) :
  Calls Tryz.prog 71 #[.pointer (some ⟨B,0,none⟩)] w (WP B w (finW (t,l))):=by
 obtain⟨i0,hi,hz0,hz1,hz2⟩:=info_parts info5
 have HP:=hU (wput1 ⟨#[59]⟩ hW (by omega) (by decide))
 have HL:Hid ((putW (t,l) [[59]]).1.length≤9069538):=by
  have:=putW_len [[59]] (t,l) (fun s hs=>by simp at hs;subst hs;simp)
  show _≤_;simp only at this;omega
 have HFI:Hid (finW (t,l)=((putW (t,l) [[59]]).1++[10],[])):=rfl
 clear hW ht
 go_enter Tryz.func71,Tryz.ntmps71
 go_wp2_with fail
 refine hMo HP ?_
 rintro e w1 ⟨rfl,hw1,hf1⟩
 generalize putW (t,l) [[59]]=st at *
 obtain⟨t1,l1⟩:=st
 obtain⟨tv,hbk,hown⟩:=hw1.at'
 obtain⟨ta,tc,rfl⟩:=own_slice hown
 have HBK:Hid (Blk w1 B 69 #[.slice ta t1.length tc,.string (strB l1)]):=hbk
 have HOW:Hid (w1.ownsRow (B+1) 5 1 (.slice ta t1.length tc) t1.length (Lib.byteCells t1)):=hown
 have HFR:Hid (FrW w w1 B):=hf1
 have c0:=hbk.cell 0 rfl
 have hbs:B<w1.heap.size:=hbk.lt
 have hl:t1.length≤9069538:=HL.out
 clear hw1 hf1 hbk hown
 go_wp2_with (at_builtin;refine wpList_append_own _ rfl _ _ 67 rfl (B+1) 5 i0 (.int .u8 0) 1 1 Tryz.underlying67 hi hz0 hz1 hz2 rfl (by decide) _ _ _ rfl (HOW.out.alloc _) ⟨w1.heap.size,0,none⟩ 1 1 [.int .u8 10] rfl rfl ?b1 ?b2 ?b3 ?b4 ?b5 ?_)
 case b1=>exact cell_one_new _ _ _
 case b2=>intro u hu;simp at hu;subst hu;rfl
 case b3=>unfold maxLen;omega
 case b4=>omega
 case b5=>simp;omega
 intro v3 w3 hown3 hgrow3 _
 obtain⟨g3,cap3,rfl⟩:∃g cap,v3=.slice (some ⟨g,0,none⟩) (t1.length+1) cap:=by
  rcases hown3.2 with ⟨_,h0⟩ | ⟨g,cap,cur,hv,_⟩
  ·omega
  ·exact⟨g,cap,hv⟩
 have HFR3:Hid (FrW w w3 B):=(HFR.out.tr (FrW.bel ((Below.refl _ _).alloc (Nat.le_refl _) _))).grow (HOW.out.alloc _) hgrow3
 have HBK3:Hid (Blk w3 B 69 #[.slice ta t1.length tc,.string (strB l1)]):=Blk.kept (W:=w1.alloc _) (Blk.alloc HBK.out _) hgrow3 (fun e=>by have:=(HOW.out.lt B e.symm).1;omega)
 have HOW3:Hid (w3.ownsRow (B+1) 5 1 (.slice (some ⟨g3,0,none⟩) (t1.length+1) cap3) (t1++[10]).length (Lib.byteCells (t1++[10]))):=by
  have e:(t1++[10]).length=t1.length+1:=by simp
  show World.ownsRow _ _ _ _ _ _ _
  rw[e,Lib.byteCells_append]
  exact hown3
 obtain⟨e0,e1⟩:=HBK3.out.c2
 have x0:=Blk.frozen HBK3.out 0
 have x1:=Blk.frozen HBK3.out 1
 have hl3:=HBK3.out.lt
 clear hown3 hgrow3 c0
 have HFN:Hid (∀X,X=(w3.setCell ⟨B,0,none⟩ (.slice (some ⟨g3,0,none⟩) (t1.length+1) cap3)).setCell ⟨B,1,none⟩ (.string ⟨#[]⟩)→Wr X B (t1++[10]) []∧FrW w X B):=fun X hX=>by
  subst hX
  have q1:=Blk.set HBK3.out 0 (.slice (some ⟨g3,0,none⟩) (t1.length+1) cap3)
  have q2:=Blk.set q1 1 (.string ⟨#[]⟩)
  simp only[List.setIfInBounds_toArray,List.set_cons_zero,List.set_cons_succ] at q2
  have hg:w3.grownBy ((w3.setCell ⟨B,0,none⟩ (.slice (some ⟨g3,0,none⟩) (t1.length+1) cap3)).setCell ⟨B,1,none⟩ (.string ⟨#[]⟩)) (some B):=gr_tr (gr_set _ _ _ _) (gr_set _ _ _ _)
  exact⟨⟨_,q2,row_kept_lt HOW3.out hg (Nat.lt_succ_self B)⟩,HFR3.out.tr (FrW.of hg)⟩
 go_wp2
 go_end0
 have hF:=HFN.out _ rfl
 show WP B w (finW (t,l)) _ _
 rw[HFI.out]
 exact⟨rfl,hF.1,hF.2⟩
def nmdW (st:List UInt8×List UInt8) (k:List UInt8) (s:ByteArray):List UInt8×List UInt8:=if em s then st else finW (putW st [k,s.data.toList])
theorem named_any (B:Nat) (t l:List UInt8) (k s:ByteArray) (w:World) (hW:Wr w B t l) (ht:t.length≤8000000) (hk:k.size≤4000) (hs:s.size≤4000) :
  Calls Tryz.prog 67 #[.pointer (some ⟨B,0,none⟩),.string k,.string s] w (WP B w (nmdW (t,l) k.data.toList s)):=by
 have HW:Hid (Wr w B t l):=hW
 by_cases h0:s.size=0
 ·have HE:Hid (nmdW (t,l) k.data.toList s=(t,l)):=by show _=_;unfold nmdW;rw[em_eq h0];rfl
  have hie:s.toList.isEmpty=true:=by rw[str_empty _ h0,ByteArray.toList_eq];rfl
  clear h0 hW ht hk hs
  go_enter Tryz.func67,Tryz.ntmps67
  go_wp2
  go_end0
  rw[HE.out]
  exact⟨rfl,HW.out,FrW.refl _ _⟩
 ·have HE:Hid (nmdW (t,l) k.data.toList s=finW (putW (t,l) [k.data.toList,s.data.toList])):=by show _=_;unfold nmdW;rw[em_ne h0];rfl
  have hie:=ne_empty s h0
  have HP:=hU (wput2 k s hW (by omega) hk hs)
  have HL:Hid ((putW (t,l) [k.data.toList,s.data.toList]).1.length≤9000000):=by
   have:=putW_len [k.data.toList,s.data.toList] (t,l) (fun u hu=>by
    simp only[List.mem_cons,List.not_mem_nil,or_false] at hu
    rcases hu with rfl | rfl<;>(rw[list_len];assumption))
   show _≤_;simp only at this;omega
  clear h0 hW ht hk hs
  go_enter Tryz.func67,Tryz.ntmps67
  go_wp2_with fail
  refine hMo HP ?_
  rintro e w1 ⟨rfl,hw1,hf1⟩
  have HF1:Hid (FrW w w1 B):=hf1
  have HN:=hU (end_any B _ _ w1 hw1 HL.out)
  clear hw1 hf1
  go_wp2_with fail
  refine hMo HN ?_
  rintro e w2 ⟨rfl,hw2,hf2⟩
  have HF2:Hid _:=(⟨hw2,hf2⟩:_∧_)
  clear hw2 hf2
  go_wp2
  go_end0
  rw[HE.out]
  exact⟨rfl,HF2.out.1,HF1.out.tr HF2.out.2⟩
end Go.Proofs.YtcpakcffiopfjaaGreatDoor
