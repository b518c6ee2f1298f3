/- Reading a sign: escape.digit and escape.Read at the signs of sets, at every text. Reading a sign at a place of a text: readSign, at every text and place. Reading an item of a set's text: readItem, at every text and place. Reading the items of a set's text: readItems, at every text and place. Reading a set's text: Parse, at every text. The words of a text, as plain functions over lists of bytes: spans, texts in quotes, sets, words, the scan. Names and keys: what a letter or a digit is, how far they go, isWhole, IsName, IsKey, at every text. The document's own names and keys; the law WordsNames, walked. -/
import Derived.Test.YtcpakcffiopfjaaGreatDoorA1
import Derived.Deep.RegionHeld3
import Derived.Deep.DrawnRows
import Derived.Test.YtcpakcffiopfjaaGreatDoorA0
import Derived.Laws.RangeAny
import Derived.LoopTactic
namespace Go.Proofs.YtcpakcffiopfjaaGreatDoor
open Go.RowKit
set_option linter.unusedVariables false
set_option linter.unusedSimpArgs false
set_option maxRecDepth 100000
set_option maxHeartbeats 16000000
set_option linter.unusedVariables false
set_option linter.unusedSimpArgs false
set_option maxRecDepth 100000
set_option maxHeartbeats 16000000
def dig (n:Nat):Int:=if 48≤n∧n≤57 then (n:Int)-48 else if 97≤n∧n≤102 then (n:Int)-87 else if 65≤n∧n≤70 then (n:Int)-55 else -1
theorem dig_lo (n:Nat):-1≤dig n:=by unfold dig;split<;>(try split)<;>(try split)<;>omega
theorem dig_hi (n:Nat):dig n<16:=by unfold dig;split<;>(try split)<;>(try split)<;>omega
theorem digit_any (n:Nat) (w:World) (hn:n<256) :
  Calls Tryz.prog 204 #[.int .u8 n] w fun e w'=>e=.returned (.int .i64 (dig n))∧w'=w:=by
 have H:Hid (dig n=if 48≤n∧n≤57 then (n:Int)-48 else if 97≤n∧n≤102 then (n:Int)-87 else if 65≤n∧n≤70 then (n:Int)-55 else -1):=rfl
 go_enter Tryz.func204,Tryz.ntmps204
 go_wp2
 all_goals go_ret
 all_goals (refine⟨ret_int ?_,rfl⟩;rw[H.out];repeat' split)
 all_goals omega
def bt (x:ByteArray) (i:Nat):Nat:=(x.data.getD i 0).toNat
theorem bt_eq (x:ByteArray) (i:Nat) (h:i<x.size):x[i].toNat=bt x i:=by
 unfold bt;rw[Array.getD_eq_getD_getElem?,Array.getElem?_eq_getElem h];rfl
theorem bt_lt (x:ByteArray) (i:Nat):bt x i<256:=UInt8.toNat_lt _
def short (n:Nat):Int:=Lib.indexByte [110,116,114,115,91,93,92,45,94] n.toUInt8
def saidB (i:Nat):Nat:=[10,9,13,32,91,93,92,45,94].getD i 0
theorem short_bd (n:Nat):short n<9:=by
 have:∀c:Fin 256,Lib.indexByte [110,116,114,115,91,93,92,45,94] (UInt8.ofNat c.val)<9:=by decide +kernel
 have h:=this ⟨n%256,Nat.mod_lt _ (by omega)⟩
 have e:UInt8.ofNat (n%256)=UInt8.ofNat n:=by
  apply UInt8.toNat_inj.1;simp
 simp only at h
 rw[e] at h;exact h
theorem said_at:∀i:Fin 9,(⟨#[10,9,13,32,91,93,92,45,94]⟩:ByteArray)[i.val].toNat=saidB i.val:=by decide +kernel
def rdr (x:ByteArray):Nat×Nat:=
 if x.size<2∨bt x 0≠92 then (0,0)
 else if 0≤short (bt x 1) then (saidB (short (bt x 1)).toNat,2)
 else if x.size<4∨bt x 1≠120 then (0,0)
 else if dig (bt x 2)<0∨dig (bt x 3)<0 then (0,0)
 else ((dig (bt x 2)).toNat*16+(dig (bt x 3)).toNat,4)
theorem or_hex:∀a b:Fin 16,bits .or .i64 ((a.val:Int)*16) (b.val:Int)%256=((a.val*16+b.val:Nat):Int):=by decide +kernel
theorem short_any (n:Nat) (w:World) :
  Calls Tryz.prog 114 #[.string ⟨#[110,116,114,115,91,93,92,45,94]⟩,.int .u8 n] w fun e w'=>e=.returned (.int .i64 (short n))∧w'=w:=idx_any _ n w
theorem read_any (x:ByteArray) (w:World) :
  Calls Tryz.prog 187 #[.string x,.string ⟨#[110,116,114,115,91,93,92,45,94]⟩,.string ⟨#[10,9,13,32,91,93,92,45,94]⟩] w fun e w'=>e=.returned (.tuple #[.int .u8 (rdr x).1,.int .i64 (rdr x).2])∧∃nq,w'=w.drewN nq:=by
 have H:Hid (rdr x=_):=rdr.eq_1 x
 by_cases h1:x.size<2
 ·rw[if_pos (Or.inl h1)] at H
  have h1':(x.size:Int)<2:=by omega
  rw[show rdr x=_ from H]
  clear H
  go_enter Tryz.func187,Tryz.ntmps187
  go_wp2
  exact bodyPost_ret (v:=.tuple #[.int .u8 0,.int .i64 0]) (by simp[results,Tryz.results187,go_sem]) rfl ⟨rfl,0,rfl⟩
 have k0:0<x.size:=by omega
 have k1:1<x.size:=by omega
 have b0:=bt_eq x 0 k0
 by_cases h2:bt x 0=92
 ·rw[if_neg (by simp[h1,h2])] at H
  rw[h2] at b0
  have b1:=bt_eq x 1 k1
  have HS:Hid _:=fun w=>short_any (bt x 1) w
  have hs:=short_bd (bt x 1)
  have hl:=bt_lt x 1
  by_cases h3:0≤short (bt x 1)
  ·rw[if_pos h3] at H
   obtain⟨i,he⟩:=Int.eq_ofNat_of_zero_le h3
   rw[he] at HS H hs
   have sa:=said_at ⟨i,by omega⟩
   simp only[Int.toNat_natCast] at H
   rw[show rdr x=_ from H]
   clear H he h3
   have hi:i<9:=by omega
   go_enter Tryz.func187,Tryz.ntmps187
   go_wp2_with (go_at_call 114;refine (HS.out _).mono ?_;rintro e w' ⟨rfl,rfl⟩)
   exact bodyPost_ret (v:=.tuple #[.int .u8 (saidB i),.int .i64 2]) (by simp[results,Tryz.results187,go_sem]) rfl ⟨rfl,0,rfl⟩
  ·rw[if_neg h3] at H
   by_cases h4:x.size<4
   ·rw[if_pos (Or.inl h4)] at H
    rw[show rdr x=_ from H]
    clear H
    go_enter Tryz.func187,Tryz.ntmps187
    go_wp2_with (go_at_call 114;refine (HS.out _).mono ?_;rintro e w' ⟨rfl,rfl⟩)
    exact bodyPost_ret (v:=.tuple #[.int .u8 0,.int .i64 0]) (by simp[results,Tryz.results187,go_sem]) rfl ⟨rfl,0,rfl⟩
   ·by_cases h5:bt x 1=120
    ·rw[if_neg (by simp[h4,h5])] at H
     have b2:=bt_eq x 2 (by omega)
     have b3:=bt_eq x 3 (by omega)
     have k2:2<x.size:=by omega
     have k3:3<x.size:=by omega
     have HD2:Hid _:=fun w=>digit_any (bt x 2) w (bt_lt x 2)
     have HD3:Hid _:=fun w=>digit_any (bt x 3) w (bt_lt x 3)
     rw[h5] at HS
     have l2:=dig_lo (bt x 2)
     have l3:=dig_lo (bt x 3)
     have u2:=dig_hi (bt x 2)
     have u3:=dig_hi (bt x 3)
     generalize dig (bt x 2)=d2 at *
     generalize dig (bt x 3)=d3 at *
     have k2i:(2:Int)<x.size:=by omega
     have k3i:(3:Int)<x.size:=by omega
     by_cases h6:d2<0
     ·rw[if_pos (Or.inl h6)] at H
      rw[show rdr x=_ from H]
      clear H
      go_enter Tryz.func187,Tryz.ntmps187
      go_wp2_with (go_at_call 114;refine (HS.out _).mono ?_;rintro e w' ⟨rfl,rfl⟩)
      go_quiet (first | (go_at_call_of 204 (bt x 2);exact Calls.quiet_of_same (HD2.out _)) | (go_at_call_of 204 (bt x 3);exact Calls.quiet_of_same (HD3.out _)))
      go_wp2
      exact bodyPost_ret (v:=.tuple #[.int .u8 0,.int .i64 0]) (by simp[results,Tryz.results187,go_sem]) rfl ⟨rfl,nq,rfl⟩
     ·by_cases h7:d3<0
      ·rw[if_pos (Or.inr h7)] at H
       rw[show rdr x=_ from H]
       clear H
       go_enter Tryz.func187,Tryz.ntmps187
       go_wp2_with (go_at_call 114;refine (HS.out _).mono ?_;rintro e w' ⟨rfl,rfl⟩)
       go_quiet (first | (go_at_call_of 204 (bt x 2);exact Calls.quiet_of_same (HD2.out _)) | (go_at_call_of 204 (bt x 3);exact Calls.quiet_of_same (HD3.out _)))
       go_wp2
       exact bodyPost_ret (v:=.tuple #[.int .u8 0,.int .i64 0]) (by simp[results,Tryz.results187,go_sem]) rfl ⟨rfl,nq,rfl⟩
      ·rw[if_neg (by omega)] at H
       obtain⟨e2,rfl⟩:=Int.eq_ofNat_of_zero_le (show 0≤d2 by omega)
       obtain⟨e3,rfl⟩:=Int.eq_ofNat_of_zero_le (show 0≤d3 by omega)
       simp only[Int.toNat_natCast] at H
       rw[show rdr x=_ from H]
       clear H
       go_enter Tryz.func187,Tryz.ntmps187
       go_wp2_with (go_at_call 114;refine (HS.out _).mono ?_;rintro e w' ⟨rfl,rfl⟩)
       go_quiet (first | (go_at_call_of 204 (bt x 2);exact Calls.quiet_of_same (HD2.out _)) | (go_at_call_of 204 (bt x 3);exact Calls.quiet_of_same (HD3.out _)))
       go_wp2
       have q:=or_hex ⟨e2,by omega⟩ ⟨e3,by omega⟩
       exact bodyPost_ret (v:=.tuple #[.int .u8 ((e2*16+e3:Nat):Int),.int .i64 4]) (by simp only[←q];simp[results,Tryz.results187,go_sem]) rfl ⟨rfl,nq,rfl⟩
    ·rw[if_pos (Or.inr h5)] at H
     rw[show rdr x=_ from H]
     clear H
     have b2:((bt x 1:Int) != 120)=true:=by simp;omega
     go_enter Tryz.func187,Tryz.ntmps187
     go_wp2_with (go_at_call 114;refine (HS.out _).mono ?_;rintro e w' ⟨rfl,rfl⟩)
     exact bodyPost_ret (v:=.tuple #[.int .u8 0,.int .i64 0]) (by simp[results,Tryz.results187,go_sem]) rfl ⟨rfl,0,rfl⟩
 ·rw[if_pos (Or.inr h2)] at H
  rw[show rdr x=_ from H]
  clear H
  have b2:((bt x 0:Int) != 92)=true:=by simp;omega
  go_enter Tryz.func187,Tryz.ntmps187
  go_wp2
  exact bodyPost_ret (v:=.tuple #[.int .u8 0,.int .i64 0]) (by simp[results,Tryz.results187,go_sem]) rfl ⟨rfl,0,rfl⟩
def sgn (x:ByteArray) (i:Nat):Nat×Nat×Nat×Nat:=
 if x.size≤i then (0,0,x.size,14)
 else if bt x i=92 then (if (rdr (x.extract i x.size)).2=0 then (0,0,i,12) else ((rdr (x.extract i x.size)).1,i+(rdr (x.extract i x.size)).2,0,0))
 else if plain (bt x i) then (bt x i,i+1,0,0) else (0,0,i,11)
theorem rdr_le (x:ByteArray):(rdr x).2≤4:=by
 unfold rdr;repeat' split
 all_goals simp
theorem Below.dN {B:Nat} {a w:World} (h:Below B a w) (n:Nat):Below B a (w.drewN n):=⟨h.os,h.tape,h.output,h.size,h.block⟩
def signV (p:Nat×Nat×Nat×Nat):Value:=.tuple #[.int .u8 (p.1:Int),.int .i64 p.2.1,.agg #[.int .i64 p.2.2.1,.int .i64 p.2.2.2]]
theorem rsgn_any (x:ByteArray) (i:Nat) (w:World) (hx:x.size≤100000) (hi:i≤100000) :
  Calls Tryz.prog 218 #[.string x,.int .i64 i] w fun e w'=>e=.returned (signV (sgn x i))∧Below w.heap.size w w':=by
 have H:Hid (sgn x i=_):=sgn.eq_1 x i
 by_cases h1:x.size≤i
 ·rw[if_pos h1] at H
  rw[show sgn x i=_ from H]
  clear H
  go_enter Tryz.func218,Tryz.ntmps218
  go_wp2
  refine bodyPost_ret (v:=signV (0,0,x.size,14)) (by simp[results,Tryz.results218,go_sem,signV]) rfl ⟨rfl,?_⟩
  exact (Below.refl _ _).alloc (Nat.le_refl _) _
 ·have h1':i<x.size:=by omega
  have b0:=bt_eq x i h1'
  rw[if_neg h1] at H
  by_cases h2:bt x i=92
  ·rw[if_pos h2] at H
   rw[h2] at b0
   have hr:=rdr_le (x.extract i x.size)
   have HR:Hid _:=fun w=>read_any (x.extract i x.size) w
   by_cases h3:(rdr (x.extract i x.size)).2=0
   ·rw[if_pos h3] at H
    rw[show sgn x i=_ from H]
    clear H
    rw[h3] at HR
    go_enter Tryz.func218,Tryz.ntmps218
    go_wp2_with (go_at_call 187;refine (HR.out _).mono ?_;rintro e w' ⟨rfl,nq,rfl⟩)
    refine bodyPost_ret (v:=signV (0,0,i,12)) (by simp[results,Tryz.results218,go_sem,signV]) rfl ⟨rfl,?_⟩
    exact ((Below.dN ((Below.refl _ _).alloc (Nat.le_refl _) _) _).setCell (Nat.le_refl _) _).setCell (Nat.le_refl _) _
   ·rw[if_neg h3] at H
    rw[show sgn x i=_ from H]
    clear H
    generalize (rdr (x.extract i x.size)).2=n at *
    generalize (rdr (x.extract i x.size)).1=c at *
    have h3':((n:Int)==0)=false:=by simp;omega
    go_enter Tryz.func218,Tryz.ntmps218
    go_wp2_with (go_at_call 187;refine (HR.out _).mono ?_;rintro e w' ⟨rfl,nq,rfl⟩)
    refine bodyPost_ret (v:=signV (c,i+n,0,0)) (by simp[results,Tryz.results218,go_sem,signV]) rfl ⟨rfl,?_⟩
    exact ((Below.dN ((Below.refl _ _).alloc (Nat.le_refl _) _) _).setCell (Nat.le_refl _) _).setCell (Nat.le_refl _) _
  ·rw[if_neg h2] at H
   have h2':((bt x i:Int)==92)=false:=by simp;omega
   have HP:Hid _:=fun w=>plain_any (bt x i) w (bt_lt x i)
   cases hp:plain (bt x i) with
   | true=>
    rw[if_pos hp] at H
    rw[show sgn x i=_ from H]
    clear H
    rw[hp] at HP
    go_enter Tryz.func218,Tryz.ntmps218
    go_wp2_with (go_at_call 119;refine (HP.out _).mono ?_;rintro e w' ⟨rfl,rfl⟩)
    refine bodyPost_ret (v:=signV (bt x i,i+1,0,0)) (by simp[results,Tryz.results218,go_sem,signV]) rfl ⟨rfl,?_⟩
    exact (Below.refl _ _).alloc (Nat.le_refl _) _
   | false=>
    rw[if_neg (by simp[hp])] at H
    rw[show sgn x i=_ from H]
    clear H
    rw[hp] at HP
    go_enter Tryz.func218,Tryz.ntmps218
    go_wp2_with (go_at_call 119;refine (HP.out _).mono ?_;rintro e w' ⟨rfl,rfl⟩)
    refine bodyPost_ret (v:=signV (0,0,i,11)) (by simp[results,Tryz.results218,go_sem,signV]) rfl ⟨rfl,?_⟩
    exact (Below.refl _ _).alloc (Nat.le_refl _) _
theorem rdr_len (x:ByteArray):(rdr x).2≤x.size:=by
 unfold rdr
 split
 ·simp
 ·split
  ·simp;omega
  ·split
   ·simp
   ·split
    ·simp
    ·simp;omega
theorem saidB_lt (i:Nat):saidB i<256:=by
 unfold saidB
 match i with
 | 0=>decide
 | 1=>decide
 | 2=>decide
 | 3=>decide
 | 4=>decide
 | 5=>decide
 | 6=>decide
 | 7=>decide
 | 8=>decide
 | i+9=>simp
theorem rdr_lt (x:ByteArray):(rdr x).1<256:=by
 unfold rdr
 split
 ·simp
 ·split
  ·exact saidB_lt _
  ·split
   ·simp
   ·split
    ·simp
    ·have a:=dig_hi (bt x 2)
     have b:=dig_hi (bt x 3)
     simp;omega
theorem ext_size (x:ByteArray) (i:Nat):(x.extract i x.size).size=x.size-i:=by simp
theorem sgn_ok (x:ByteArray) (i:Nat):(sgn x i).1<256∧((sgn x i).2.2.2=0→i<(sgn x i).2.1∧(sgn x i).2.1≤x.size∧(sgn x i).2.2.1=0):=by
 have h1:=rdr_lt (x.extract i x.size)
 have h2:=rdr_len (x.extract i x.size)
 rw[ext_size] at h2
 have h3:=bt_lt x i
 unfold sgn
 split
 ·simp
 ·split
  ·split
   ·simp
   ·simp;omega
  ·split
   ·simp;omega
   ·simp
theorem sgn_bad (x:ByteArray) (i:Nat):(sgn x i).2.2.2≠0→(sgn x i).2.2.1≤x.size∧(sgn x i).2.2.2≤14:=by
 unfold sgn
 split
 ·simp
 ·split
  ·split
   ·simp;omega
   ·simp
  ·split
   ·simp
   ·simp;omega
def itm (x:ByteArray) (i:Nat):St×Nat×Nat×Nat:=
 if (sgn x i).2.2.2≠0 then (St.zero,0,(sgn x i).2.2.1,(sgn x i).2.2.2)
 else if x.size≤(sgn x i).2.1∨bt x (sgn x i).2.1≠45 then (ofL [(sgn x i).1],(sgn x i).2.1,0,0)
 else if (sgn x ((sgn x i).2.1+1)).2.2.2≠0 then (St.zero,0,(sgn x ((sgn x i).2.1+1)).2.2.1,(sgn x ((sgn x i).2.1+1)).2.2.2)
 else if (sgn x ((sgn x i).2.1+1)).1<(sgn x i).1 then (St.zero,0,i,10)
 else (rng (sgn x i).1 ((sgn x ((sgn x i).2.1+1)).1+1-(sgn x i).1),(sgn x ((sgn x i).2.1+1)).2.1,0,0)
def itmV (p:St×Nat×Nat×Nat):Value:=.tuple #[.agg #[.int .u64 p.1.a,.int .u64 p.1.b,.int .u64 p.1.c,.int .u64 p.1.d],.int .i64 p.2.1,.agg #[.int .i64 p.2.2.1,.int .i64 p.2.2.2]]
def FBox (a c:Int) (B:Nat) (W:World):Prop:=W.heap[B]?=some (.cells #[.int .i64 a,.int .i64 c] 37 (0,0))
theorem FBox.new (a c:Int) (W:World):FBox a c W.heap.size (W.alloc (.cells #[.int .i64 a,.int .i64 c] 37)):=World.alloc_heap_new W _
theorem FBox.lt {a c:Int} {B:Nat} {W:World} (h:FBox a c B W):B<W.heap.size:=(Array.getElem?_eq_some_iff.1 h).1
theorem FBox.below {a c:Int} {B:Nat} {W W':World} (h:FBox a c B W) (hb:Below W.heap.size W W'):FBox a c B W':=(hb.block B h.lt).trans h
theorem FBox.cells {a c:Int} {B:Nat} {W:World} (h:FBox a c B W):W.cell? ⟨B,0,none⟩=some (.int .i64 a)∧W.cell? ⟨B,1,none⟩=some (.int .i64 c)∧∀o,W.frozen? ⟨B,o,none⟩=false:=by
 refine⟨?_,?_,fun o=>?_⟩<;>simp[World.cell?,World.frozen?,show W.heap[B]?=_ from h]
theorem SBox.bel {s:St} {B:Nat} {W W':World} (h:SBox s B W) (hb:Below W.heap.size W W'):SBox s B W':=(hb.block B h.lt).trans h
theorem SBox.fz {s:St} {B:Nat} {W:World} (h:SBox s B W):∀o,W.frozen? ⟨B,o,none⟩=false:=fun o=>by simp[World.frozen?,show W.heap[B]?=_ from h]
def Ini (w W:World):Prop:=SBox St.zero w.heap.size W∧FBox 0 0 (w.heap.size+1) W∧Below w.heap.size w W
theorem Ini.nx {w W W':World} (h:Ini w W) (hb:Below W.heap.size W W'):Ini w W':=⟨h.1.bel hb,h.2.1.below hb,below_of h.2.2 hb⟩
theorem Ini.start (w:World):Ini w ((w.alloc (.cells #[.int .u64 0,.int .u64 0,.int .u64 0,.int .u64 0] 49)).alloc (.cells #[.int .i64 0,.int .i64 0] 37)):=by
 refine⟨(SBox.new St.zero w).alloc _,?_,((Below.refl _ _).alloc (Nat.le_refl _) _).alloc (by simp<;>omega) _⟩
 have:=FBox.new 0 0 (w.alloc (.cells #[.int .u64 0,.int .u64 0,.int .u64 0,.int .u64 0] 49))
 rwa [World.size_alloc] at this
theorem Ini.alloc {w W:World} (h:Ini w W) (o:Obj):Ini w (W.alloc o):=h.nx ((Below.refl _ _).alloc (Nat.le_refl _) o)
theorem Ini.set {w W:World} {B i:Nat} (h:Ini w W) (v:Value) (hB:w.heap.size+1<B):Ini w (W.setCell ⟨B,i,none⟩ v):=
 ⟨(Below.heap_setCell W ⟨B,i,none⟩ v _ (by simp only;omega)).trans h.1,(Below.heap_setCell W ⟨B,i,none⟩ v _ (by simp only;omega)).trans h.2.1,h.2.2.setCell (p:=⟨B,i,none⟩) (by simp only;omega) v⟩
theorem Ini.facts {w W:World} (h:Ini w W):W.cell? ⟨w.heap.size,0,none⟩=some (.int .u64 0)∧W.cell? ⟨w.heap.size,1,none⟩=some (.int .u64 0)∧W.cell? ⟨w.heap.size,2,none⟩=some (.int .u64 0)∧W.cell? ⟨w.heap.size,3,none⟩=some (.int .u64 0)∧W.cell? ⟨w.heap.size+1,0,none⟩=some (.int .i64 0)∧W.cell? ⟨w.heap.size+1,1,none⟩=some (.int .i64 0)∧(∀o,W.frozen? ⟨w.heap.size,o,none⟩=false)∧(∀o,W.frozen? ⟨w.heap.size+1,o,none⟩=false)∧w.heap.size<W.heap.size∧w.heap.size+1<W.heap.size:=by
 obtain⟨a0,a1,a2,a3⟩:=h.1.cells
 obtain⟨b0,b1,f1⟩:=h.2.1.cells
 exact⟨a0,a1,a2,a3,b0,b1,h.1.fz,f1,h.1.lt,h.2.1.lt⟩
theorem below6 {w W:World} (h:Below w.heap.size w W) (v0 v1 v2 v3 v4 v5:Value):Below w.heap.size w ((((((W.setCell ⟨w.heap.size,0,none⟩ v0).setCell ⟨w.heap.size,1,none⟩ v1).setCell ⟨w.heap.size,2,none⟩ v2).setCell ⟨w.heap.size,3,none⟩ v3).setCell ⟨w.heap.size+1,0,none⟩ v4).setCell ⟨w.heap.size+1,1,none⟩ v5):=
 (((((h.setCell (Nat.le_refl _) _).setCell (Nat.le_refl _) _).setCell (Nat.le_refl _) _).setCell (Nat.le_refl _) _).setCell (Nat.le_succ _) _).setCell (Nat.le_succ _) _
theorem of_1 (c:Nat) (hc:c<256) (B:Nat) (w:World) (hB:B<w.heap.size) (h:w.cell? ⟨B,0,none⟩=some (.int .u8 c)):Calls Tryz.prog 219 #[.slice (some ⟨B,0,none⟩) 1 1] w fun e w'=>e=.returned (.agg #[.int .u64 (ofL [c]).a,.int .u64 (ofL [c]).b,.int .u64 (ofL [c]).c,.int .u64 (ofL [c]).d])∧Below w.heap.size w w':=
 of_any B 0 1 1 [c] w rfl (by simpa using hc) (by unfold maxLen;omega) hB (fun i hi=>by
  match i,hi with
  | 0,_=>exact h)
theorem ritem_any (x:ByteArray) (i:Nat) (w:World) (hx:x.size≤99999) (hi:i≤99999) :
  Calls Tryz.prog 206 #[.string x,.int .i64 i] w fun e w'=>e=.returned (itmV (itm x i))∧Below w.heap.size w w':=by
 have H1:Hid _:=fun w=>rsgn_any x i w (by omega) (by omega)
 have hp:=sgn_ok x i
 have hq:=sgn_bad x i
 have H:Hid (itm x i=_):=itm.eq_1 x i
 generalize itm x i=R at *
 have H2:∀j:Nat,j≤100000→∀w,Calls Tryz.prog 218 #[.string x,.int .i64 j] w fun e w'=>e=.returned (signV (sgn x j))∧Below w.heap.size w w':=fun j hj w=>rsgn_any x j w (by omega) hj
 generalize sgn x i=p at *
 obtain⟨c,n,fa,fc⟩:=p
 simp only[signV] at H1 H2 H hp hq
 have I0:=Ini.start w
 by_cases h1:fc=0
 ·obtain⟨hn1,hn2,rfl⟩:=hp.2 h1
  subst h1
  have hcc:=hp.1
  clear hp hq
  rw[if_neg (by simp)] at H
  by_cases h2:x.size≤n∨bt x n≠45
  ·rw[if_pos h2] at H
   rw[show R=_ from H]
   clear H H2
   have HO:Hid _:=fun B w=>of_1 c hcc B w
   have h2':(n:Int)<x.size→((bt x n:Int) != 45)=true:=by
    intro h;simp;omega
   generalize ofL [c]=q at *
   by_cases h3:x.size≤n
   ·clear h2'
    go_enter Tryz.func206,Tryz.ntmps206
    go_wp2_with (go_at_call 218;refine (H1.out _).mono ?_)
    rintro e w1 ⟨rfl,hb1⟩
    have I1:=(I0.nx hb1).alloc (.cells #[.int .i64 0,.int .i64 0] 37)
    clear H1 hb1 I0
    go_wp2_with (go_at_call 219;refine (HO.out _ _ (by simp) (by simp)).mono ?_)
    rintro e w2 ⟨rfl,hb2⟩
    have I2:=(I1.alloc _).nx hb2
    obtain⟨a0,a1,a2,a3,b0,b1,f0,f1,y0,y1⟩:=I2.facts
    clear HO hb2 I1
    go_wp2
    exact bodyPost_ret (v:=itmV (q,n,0,0)) (by simp[results,Tryz.results206,go_sem,itmV,a0,a1,a2,a3,b0,b1]) rfl ⟨rfl,below6 I2.2.2 _ _ _ _ _ _⟩
   ·have h3':n<x.size:=by omega
    have b9:=bt_eq x n h3'
    have h4:=h2' (by omega)
    clear h2'
    go_enter Tryz.func206,Tryz.ntmps206
    go_wp2_with (go_at_call 218;refine (H1.out _).mono ?_)
    rintro e w1 ⟨rfl,hb1⟩
    have I1:=(I0.nx hb1).alloc (.cells #[.int .i64 0,.int .i64 0] 37)
    clear H1 hb1 I0
    go_wp2_with (go_at_call 219;refine (HO.out _ _ (by simp) (by simp)).mono ?_)
    rintro e w2 ⟨rfl,hb2⟩
    have I2:=(I1.alloc _).nx hb2
    obtain⟨a0,a1,a2,a3,b0,b1,f0,f1,y0,y1⟩:=I2.facts
    clear HO hb2 I1
    go_wp2
    exact bodyPost_ret (v:=itmV (q,n,0,0)) (by simp[results,Tryz.results206,go_sem,itmV,a0,a1,a2,a3,b0,b1]) rfl ⟨rfl,below6 I2.2.2 _ _ _ _ _ _⟩
  ·rw[if_neg h2] at H
   have h3:n<x.size:=by omega
   have h4:bt x n=45:=by omega
   have b9:=bt_eq x n h3
   rw[h4] at b9
   have HB:=H2 (n+1) (by omega)
   have hp:=sgn_ok x (n+1)
   have hq:=sgn_bad x (n+1)
   clear H2
   generalize sgn x (n+1)=p at *
   obtain⟨c2,n2,fa2,fc2⟩:=p
   simp only at HB H hp hq
   have H2:=hHi HB
   clear HB
   by_cases h5:fc2=0
   ·obtain⟨hm1,hm2,rfl⟩:=hp.2 h5
    subst h5
    have hc2:=hp.1
    clear hp hq
    rw[if_neg (by simp)] at H
    by_cases h6:c2<c
    ·rw[if_pos h6] at H
     rw[show R=_ from H]
     clear H
     have HR:Hid _:=fun w=>range_bad c c2 w (Or.inr (Or.inr (by omega)))
     go_enter Tryz.func206,Tryz.ntmps206
     go_wp2_with (go_at_call 218;refine (H1.out _).mono ?_)
     rintro e w1 ⟨rfl,hb1⟩
     have I1:=(I0.nx hb1).alloc (.cells #[.int .i64 0,.int .i64 0] 37)
     have F1:=FBox.new 0 0 w1
     have hy1:=(I0.nx hb1).2.1.lt
     clear H1 hb1 I0
     go_wp2_with (go_at_call 218;refine (H2.out _).mono ?_)
     rintro e w2 ⟨rfl,hb2⟩
     have I2:=I1.nx hb2
     have F2:=F1.below hb2
     obtain⟨c0,c1,fz⟩:=F2.cells
     have y2:=F2.lt
     have y3:w.heap.size+1<w1.heap.size:=hy1
     clear H2 hb2
     go_wp2_with (go_at_call 220;refine (HR.out _).mono ?_)
     rintro e w3 ⟨rfl,hb3⟩
     have I3:=((I2.set _ y3).set _ y3).nx hb3
     obtain⟨a0,a1,a2,a3,b0,b1,f0,f1,y0,y1⟩:=I3.facts
     clear HR hb3
     go_wp2
     refine bodyPost_ret (v:=itmV (St.zero,0,i,10)) (by simp[results,Tryz.results206,go_sem,itmV,St.zero,y0,y1,a0,a1,a2,a3,b0,b1]) rfl ⟨rfl,?_⟩
     have hb:=below6 I3.2.2 (.int .u64 0) (.int .u64 0) (.int .u64 0) (.int .u64 0) (.int .i64 i) (.int .i64 10)
     exact hb.alloc hb.size _
    ·rw[if_neg h6] at H
     rw[show R=_ from H]
     clear H
     have HR:Hid _:=fun w=>range_any c c2 w (by omega) (by omega)
     generalize rng c (c2+1-c)=q at *
     go_enter Tryz.func206,Tryz.ntmps206
     go_wp2_with (go_at_call 218;refine (H1.out _).mono ?_)
     rintro e w1 ⟨rfl,hb1⟩
     have I1:=(I0.nx hb1).alloc (.cells #[.int .i64 0,.int .i64 0] 37)
     have F1:=FBox.new 0 0 w1
     have hy1:=(I0.nx hb1).2.1.lt
     clear H1 hb1 I0
     go_wp2_with (go_at_call 218;refine (H2.out _).mono ?_)
     rintro e w2 ⟨rfl,hb2⟩
     have I2:=I1.nx hb2
     have F2:=F1.below hb2
     obtain⟨c0,c1,fz⟩:=F2.cells
     have y2:=F2.lt
     have y3:w.heap.size+1<w1.heap.size:=hy1
     clear H2 hb2
     go_wp2_with (go_at_call 220;refine (HR.out _).mono ?_)
     rintro e w3 ⟨rfl,hb3⟩
     have I3:=((I2.set _ y3).set _ y3).nx hb3
     obtain⟨a0,a1,a2,a3,b0,b1,f0,f1,y0,y1⟩:=I3.facts
     clear HR hb3
     go_wp2
     refine bodyPost_ret (v:=itmV (q,n2,0,0)) (by simp[results,Tryz.results206,go_sem,itmV,y0,y1,a0,a1,a2,a3,b0,b1]) rfl ⟨rfl,?_⟩
     have hb:=below6 I3.2.2 (.int .u64 q.a) (.int .u64 q.b) (.int .u64 q.c) (.int .u64 q.d) (.int .i64 0) (.int .i64 0)
     exact hb.alloc hb.size _
   ·rw[if_pos h5] at H
    have h5':((fc2:Int) != 0)=true:=by simp;omega
    rw[show R=_ from H]
    clear H
    go_enter Tryz.func206,Tryz.ntmps206
    go_wp2_with (go_at_call 218;refine (H1.out _).mono ?_)
    rintro e w1 ⟨rfl,hb1⟩
    have I1:=(I0.nx hb1).alloc (.cells #[.int .i64 0,.int .i64 0] 37)
    have F1:=FBox.new 0 0 w1
    have hy1:=(I0.nx hb1).2.1.lt
    clear H1 hb1 I0
    go_wp2_with (go_at_call 218;refine (H2.out _).mono ?_)
    rintro e w2 ⟨rfl,hb2⟩
    have I2:=I1.nx hb2
    have F2:=F1.below hb2
    obtain⟨c0,c1,fz⟩:=F2.cells
    have y2:=F2.lt
    have y3:w.heap.size+1<w1.heap.size:=hy1
    clear H2 hb2
    obtain⟨a0,a1,a2,a3,b0,b1,f0,f1,y0,y1⟩:=I2.facts
    go_wp2
    go_region
    all_goals go_wp2
    refine bodyPost_ret (v:=itmV (St.zero,0,fa2,fc2)) (by simp[results,Tryz.results206,go_sem,itmV,St.zero,a0,a1,a2,a3,b0,b1]) rfl ⟨rfl,?_⟩
    have hb:=below6 ((I2.set (B:=w1.heap.size) (i:=0) (.int .i64 fa2) y3).set (B:=w1.heap.size) (i:=1) (.int .i64 fc2) y3).2.2 (.int .u64 0) (.int .u64 0) (.int .u64 0) (.int .u64 0) (.int .i64 fa2) (.int .i64 fc2)
    exact hb.drew
 ·rw[if_pos h1] at H
  have h1':((fc:Int) != 0)=true:=by simp;omega
  rw[show R=_ from H]
  clear H H2
  go_enter Tryz.func206,Tryz.ntmps206
  go_wp2_with (go_at_call 218;refine (H1.out _).mono ?_)
  rintro e w1 ⟨rfl,hb1⟩
  have I1:=I0.nx hb1
  obtain⟨a0,a1,a2,a3,b0,b1,f0,f1,y0,y1⟩:=I1.facts
  clear H1 hb1 I0
  go_wp2
  go_region
  all_goals go_wp2
  refine bodyPost_ret (v:=itmV (St.zero,0,fa,fc)) (by simp[results,Tryz.results206,go_sem,itmV,St.zero,y0,y1,a0,a1,a2,a3,b0,b1]) rfl ⟨rfl,?_⟩
  have hb:=below6 I1.2.2 (.int .u64 0) (.int .u64 0) (.int .u64 0) (.int .u64 0) (.int .i64 fa) (.int .i64 fc)
  exact (hb.alloc hb.size _).drew
theorem ofL_one_ok (c:Nat):(ofL [c]).ok:=St.add_ok St.zero_ok c
theorem itm_ok (x:ByteArray) (i:Nat):(itm x i).1.ok∧((itm x i).2.2.2=0→i<(itm x i).2.1∧(itm x i).2.1≤x.size∧(itm x i).2.2.1=0):=by
 have h1:=sgn_ok x i
 have h2:=sgn_ok x ((sgn x i).2.1+1)
 unfold itm
 split
 ·rename_i h;exact⟨St.zero_ok,fun h'=>absurd h' h⟩
 ·rename_i h
  simp only[ne_eq,Decidable.not_not] at h
  obtain⟨h3,h4,h5⟩:=h1.2 h
  split
  ·exact⟨ofL_one_ok _,fun _=>⟨h3,h4,rfl⟩⟩
  ·split
   ·rename_i h';exact⟨St.zero_ok,fun h''=>absurd h'' h'⟩
   ·rename_i h'
    simp only[ne_eq,Decidable.not_not] at h'
    obtain⟨h6,h7,h8⟩:=h2.2 h'
    split
    ·exact⟨St.zero_ok,fun h''=>by simp at h''⟩
    ·exact⟨rng_ok _ _,fun _=>⟨by simp only;omega,h7,rfl⟩⟩
def items (x:ByteArray):Nat→Nat→St→St×Nat×Nat×Nat
 | 0,_,_=>(St.zero,0,x.size,14)
 | m+1,i,s=>if x.size≤i then (St.zero,0,x.size,14) else if bt x i=93 then (s,i,0,0)
  else if (itm x i).2.2.2≠0 then (St.zero,0,(itm x i).2.2.1,(itm x i).2.2.2) else items x m (itm x i).2.1 (s.or (itm x i).1)
theorem ritems_any (x:ByteArray) (i:Nat) (w:World) (hx:x.size≤99999) (hi:i≤x.size) :
  Calls Tryz.prog 190 #[.string x,.int .i64 i] w fun e w'=>e=.returned (itmV (items x (x.size+1) i St.zero))∧Below w.heap.size w w':=by
 have I0:=(Ini.start w).alloc (.cells #[.int .u64 0,.int .u64 0,.int .u64 0,.int .u64 0] 49)
 have S0:=SBox.new St.zero ((w.alloc (.cells #[.int .u64 0,.int .u64 0,.int .u64 0,.int .u64 0] 49)).alloc (.cells #[.int .i64 0,.int .i64 0] 37))
 simp only[World.size_alloc] at S0
 have hR:Hid (items x (x.size+1) i St.zero=items x (x.size+1) i St.zero):=rfl
 obtain⟨R,hR2⟩:∃R,items x (x.size+1) i St.zero=R:=⟨_,rfl⟩
 rw[hR2]
 clear hR
 go_enter Tryz.func190,Tryz.ntmps190
 go_wp2
 go_loopw[1] (fun at' wr=>∃(k m:Nat) (t:St),k≤x.size∧at'=.int .i64 (k:Nat)∧t.ok∧x.size<k+m∧items x m k t=R∧Ini w wr∧SBox t (w.heap.size+1+1) wr) (fun at' _=>x.size-(intOf at').toNat)
 case atStart=>exact⟨i,x.size+1,St.zero,hi,rfl,St.zero_ok,by omega,hR2,I0,S0⟩
 case round=>
  clear I0 S0 hR2
  obtain⟨k,m,t,hk,rfl,hok,hm,hR,I,S⟩:=hrel
  obtain⟨m,rfl⟩:∃m',m=m'+1:=⟨m-1,by omega⟩
  rw[items] at hR
  obtain⟨a0,a1,a2,a3,b0,b1,f0,f1,y0,y1⟩:=I.facts
  obtain⟨c0,c1,c2,c3⟩:=S.cells
  have fz:=S.frozen
  have y2:=S.lt
  by_cases h1:x.size≤k
  ·rw[if_pos h1] at hR
   subst hR
   go_wp2
   exact bodyPost_ret (v:=itmV (St.zero,0,x.size,14)) (by simp[results,Tryz.results190,go_sem,itmV,St.zero,a0,a1,a2,a3,b0,b1]) rfl ⟨rfl,below6 I.2.2 _ _ _ _ _ _⟩
  ·rw[if_neg h1] at hR
   have h1':k<x.size:=by omega
   have b9:=bt_eq x k h1'
   by_cases h2:bt x k=93
   ·rw[if_pos h2] at hR
    rw[h2] at b9
    subst hR
    go_wp2
    exact bodyPost_ret (v:=itmV (t,k,0,0)) (by simp[results,Tryz.results190,go_sem,itmV,a0,a1,a2,a3,b0,b1]) rfl ⟨rfl,below6 I.2.2 _ _ _ _ _ _⟩
   ·rw[if_neg h2] at hR
    have h2':((bt x k:Int) != 93)=true:=by simp;omega
    have HI:Hid _:=fun w=>ritem_any x k w hx (by omega)
    have hp:=itm_ok x k
    generalize itm x k=p at *
    obtain⟨q,n,fa,fc⟩:=p
    simp only[itmV] at HI hR hp
    by_cases h3:fc=0
    ·obtain⟨hn1,hn2,rfl⟩:=hp.2 h3
     subst h3
     have hq:=hp.1
     clear hp
     rw[if_neg (by simp)] at hR
     have HO:Hid _:=fun w=>or_any t q w hok hq
     have hro:=St.or_ok hok hq
     generalize t.or q=r at *
     clear a0 a1 a2 a3 b0 b1 f0 f1 c0 c1 c2 c3 fz
     go_wp2_with (go_at_call 206;refine (HI.out _).mono ?_)
     rintro e w1 ⟨rfl,hb1⟩
     have I1:=((I.nx hb1).alloc (.cells #[.int .u64 q.a,.int .u64 q.b,.int .u64 q.c,.int .u64 q.d] 49)).alloc (.cells #[.int .i64 0,.int .i64 0] 37)
     have S1:=S.below hb1
     have S2:=((S.below hb1).alloc (.cells #[.int .u64 q.a,.int .u64 q.b,.int .u64 q.c,.int .u64 q.d] 49)).alloc (.cells #[.int .i64 0,.int .i64 0] 37)
     obtain⟨c0,c1,c2,c3⟩:=S2.cells
     have y3:=S1.lt
     clear HI hb1
     go_wp2_with (go_at_call 207;refine (HO.out _).mono ?_)
     rintro e w2 ⟨rfl,hb2⟩
     have I3:=I1.nx hb2
     have S3:=S2.below hb2
     clear c0 c1 c2 c3
     obtain⟨c0,c1,c2,c3⟩:=S3.cells
     have fz:=S3.frozen
     go_wp2
     refine⟨⟨n,m,r,hn2,rfl,hro,by omega,hR,?_,S3.store r⟩,by simp[intOf];omega⟩
     exact (((I3.set (B:=w.heap.size+1+1) (i:=0) _ (by omega)).set (B:=w.heap.size+1+1) (i:=1) _ (by omega)).set (B:=w.heap.size+1+1) (i:=2) _ (by omega)).set (B:=w.heap.size+1+1) (i:=3) _ (by omega)
    ·rw[if_pos h3] at hR
     have h3':((fc:Int) != 0)=true:=by simp;omega
     subst hR
     clear a0 a1 a2 a3 b0 b1 f0 f1 c0 c1 c2 c3 fz y0 y1
     go_wp2_with (go_at_call 206;refine (HI.out _).mono ?_)
     rintro e w1 ⟨rfl,hb1⟩
     have I1:=I.nx hb1
     obtain⟨a0,a1,a2,a3,b0,b1,f0,f1,y0,y1⟩:=I1.facts
     clear HI hb1
     go_wp2
     go_region
     all_goals go_wp2
     refine bodyPost_ret (v:=itmV (St.zero,0,fa,fc)) (by simp[results,Tryz.results190,go_sem,itmV,St.zero,y0,y1,a0,a1,a2,a3,b0,b1]) rfl ⟨rfl,?_⟩
     have hb:=below6 I1.2.2 (.int .u64 0) (.int .u64 0) (.int .u64 0) (.int .u64 0) (.int .i64 fa) (.int .i64 fc)
     exact ((hb.alloc hb.size _).alloc (by have:=hb.size;simp at this ⊢;omega) _).drew
theorem items_ok (x:ByteArray):∀(m i:Nat) (s:St),s.ok→(items x m i s).1.ok∧((items x m i s).2.2.2=0→(items x m i s).2.1<x.size∧(items x m i s).2.2.1=0)
 | 0,i,s,hs=>⟨St.zero_ok,fun h=>by simp[items] at h⟩
 | m+1,i,s,hs=>by
  have ih:=items_ok x m (itm x i).2.1 (s.or (itm x i).1) (St.or_ok hs (itm_ok x i).1)
  rw[items]
  split
  ·exact⟨St.zero_ok,fun h=>by simp at h⟩
  ·split
   ·exact⟨hs,fun _=>⟨by simp only;omega,rfl⟩⟩
   ·split
    ·rename_i h;exact⟨St.zero_ok,fun h'=>absurd h' h⟩
    ·exact ih
theorem pre_one (x:ByteArray):Lib.hasPrefix x.data.toList [91]=decide (0<x.size∧bt x 0=91):=by
 obtain⟨⟨l⟩⟩:=x
 match l with
 | []=>rfl
 | a::l=>
  have e:bt ⟨⟨a::l⟩⟩ 0=a.toNat:=rfl
  have z:(⟨⟨a::l⟩⟩:ByteArray).size=l.length+1:=rfl
  rw[e,z]
  have:(a=91)↔a.toNat=91:=by rw[←UInt8.toNat_inj];rfl
  have q:Lib.hasPrefix (a::l) [91]=(91==a):=by simp[Lib.hasPrefix,List.isPrefixOf]
  show Lib.hasPrefix (a::l) [91]=_
  rw[q,Bool.eq_iff_iff,beq_iff_eq,decide_eq_true_iff,eq_comm,this]
  omega
theorem pre_two (x:ByteArray):Lib.hasPrefix x.data.toList [91,94]=decide (1<x.size∧bt x 0=91∧bt x 1=94):=by
 obtain⟨⟨l⟩⟩:=x
 match l with
 | []=>rfl
 | [a]=>
  have z:(⟨⟨[a]⟩⟩:ByteArray).size=1:=rfl
  rw[z]
  simp[Lib.hasPrefix,List.isPrefixOf]
 | a::b::l=>
  have e:bt ⟨⟨a::b::l⟩⟩ 0=a.toNat:=rfl
  have e1:bt ⟨⟨a::b::l⟩⟩ 1=b.toNat:=rfl
  have z:(⟨⟨a::b::l⟩⟩:ByteArray).size=l.length+2:=rfl
  rw[e,e1,z]
  have h1:(a=91)↔a.toNat=91:=by rw[←UInt8.toNat_inj];rfl
  have h2:(b=94)↔b.toNat=94:=by rw[←UInt8.toNat_inj];rfl
  have q:Lib.hasPrefix (a::b::l) [91,94]=(91==a&&94==b):=by simp[Lib.hasPrefix,List.isPrefixOf]
  show Lib.hasPrefix (a::b::l) [91,94]=_
  rw[q,Bool.eq_iff_iff,Bool.and_eq_true,beq_iff_eq,beq_iff_eq,decide_eq_true_iff,eq_comm (a:=(91:UInt8)),h1,eq_comm (a:=(94:UInt8)),h2]
  omega
def prsB (x:ByteArray) (tr:Bool) (r:St×Nat×Nat×Nat):St×Nat×Nat:=
 if r.2.2.2≠0 then (St.zero,r.2.2.1,r.2.2.2) else if r.2.1+1<x.size then (St.zero,r.2.1+1,15) else (if tr then r.1.not else r.1,0,0)
def prs (x:ByteArray):St×Nat×Nat:=
 if 65536<x.size then (St.zero,0,2)
 else if ¬(0<x.size∧bt x 0=91) then (St.zero,0,13)
 else if 1<x.size∧bt x 1=94 then prsB x true (items x (x.size+1) 2 St.zero)
 else prsB x false (items x (x.size+1) 1 St.zero)
def prsV (p:St×Nat×Nat):Value:=.tuple #[.agg #[.int .u64 p.1.a,.int .u64 p.1.b,.int .u64 p.1.c,.int .u64 p.1.d],.agg #[.int .i64 p.2.1,.int .i64 p.2.2]]
theorem below_two {a w:World} (h:Below a.heap.size a w) (o1 o2:Obj):Below a.heap.size a ((w.alloc o1).alloc o2):=(h.alloc h.size o1).alloc (Nat.le_trans h.size (by simp)) o2
theorem parse_any (x:ByteArray) (w:World) :
  Calls Tryz.prog 164 #[.string x] w fun e w'=>e=.returned (prsV (prs x))∧Below w.heap.size w w':=by
 have I0:=Ini.start w
 obtain⟨R,hR⟩:∃R,prs x=R:=⟨_,rfl⟩
 rw[hR]
 unfold prs at hR
 by_cases h1:65536<x.size
 ·rw[if_pos h1] at hR
  subst hR
  go_enter Tryz.func164,Tryz.ntmps164
  go_wp2
  refine bodyPost_ret (v:=prsV (St.zero,0,2)) (by simp[results,Tryz.results164,go_sem,prsV,St.zero]) rfl ⟨rfl,?_⟩
  exact ((Below.refl _ _).alloc (Nat.le_refl _) _).alloc (by simp<;>omega) _
 ·rw[if_neg h1] at hR
  by_cases h2:0<x.size∧bt x 0=91
  ·rw[if_neg (by simpa using h2)] at hR
   have HP1:Hid (∀w,Calls Tryz.prog 189 #[.string x,.string ⟨#[91]⟩] w fun e w'=>e=.returned (.bool true)∧w'=w):=fun w=>by
    have:=prefix_any x ⟨#[91]⟩ w
    rw[show (⟨#[91]⟩:ByteArray).data.toList=[91] from rfl,pre_one,decide_eq_true h2] at this
    exact this
   by_cases h3:1<x.size∧bt x 1=94
   ·rw[if_pos h3] at hR
    have HP2:Hid (∀w,Calls Tryz.prog 189 #[.string x,.string ⟨#[91,94]⟩] w fun e w'=>e=.returned (.bool true)∧w'=w):=fun w=>by
     have:=prefix_any x ⟨#[91,94]⟩ w
     rw[show (⟨#[91,94]⟩:ByteArray).data.toList=[91,94] from rfl,pre_two,decide_eq_true (by omega)] at this
     exact this
    have HI:Hid _:=fun w=>ritems_any x 2 w (by omega) (by omega)
    have hp:=items_ok x (x.size+1) 2 St.zero St.zero_ok
    generalize items x (x.size+1) 2 St.zero=p at *
    obtain⟨q,n,fa,fc⟩:=p
    simp only[itmV,prsB] at HI hR hp
    by_cases h4:fc=0
    ·obtain⟨hn,rfl⟩:=hp.2 h4
     subst h4
     have hq:=hp.1
     clear hp
     rw[if_neg (by simp)] at hR
     by_cases h5:n+1<x.size
     ·rw[if_pos h5] at hR
      subst hR
      go_enter Tryz.func164,Tryz.ntmps164
      go_wp2_with (first | (go_at_call_of 189 (⟨#[91]⟩:ByteArray);refine (HP1.out _).mono ?_;rintro e w1 ⟨rfl,rfl⟩) | (go_at_call_of 189 (⟨#[91,94]⟩:ByteArray);refine (HP2.out _).mono ?_;rintro e w1 ⟨rfl,rfl⟩) | (go_at_call 190;refine (HI.out _).mono ?_))
      rintro e w1 ⟨rfl,hb1⟩
      have I1:=I0.nx hb1
      obtain⟨a0,a1,a2,a3,b0,b1,f0,f1,y0,y1⟩:=I1.facts
      clear HI hb1
      go_wp2
      refine bodyPost_ret (v:=prsV (St.zero,n+1,15)) (by simp[results,Tryz.results164,go_sem,prsV,St.zero,y0,y1,a0,a1,a2,a3,b0,b1]) rfl ⟨rfl,?_⟩
      exact below_two (below6 I1.2.2 _ _ _ _ _ _) _ _
     ·rw[if_neg h5] at hR
      simp only[if_true] at hR
      subst hR
      have HN:Hid _:=fun w=>not_any q w hq
      generalize q.not=r at *
      go_enter Tryz.func164,Tryz.ntmps164
      go_wp2_with (first | (go_at_call_of 189 (⟨#[91]⟩:ByteArray);refine (HP1.out _).mono ?_;rintro e w1 ⟨rfl,rfl⟩) | (go_at_call_of 189 (⟨#[91,94]⟩:ByteArray);refine (HP2.out _).mono ?_;rintro e w1 ⟨rfl,rfl⟩) | (go_at_call 190;refine (HI.out _).mono ?_))
      rintro e w1 ⟨rfl,hb1⟩
      have I1:=I0.nx hb1
      obtain⟨a0,a1,a2,a3,b0,b1,f0,f1,y0,y1⟩:=I1.facts
      have I2:=(I1.alloc (.cells #[.int .u64 q.a,.int .u64 q.b,.int .u64 q.c,.int .u64 q.d] 49)).alloc (.cells #[.int .i64 0,.int .i64 0] 37)
      have S1:=(SBox.new q w1).alloc (.cells #[.int .i64 0,.int .i64 0] 37)
      clear HI hb1
      go_wp2_with (go_at_call 191;refine (HN.out _).mono ?_)
      rintro e w2 ⟨rfl,hb2⟩
      have I3:=I2.nx hb2
      have S2:=S1.below hb2
      clear a0 a1 a2 a3 b0 b1 f0 f1
      obtain⟨c0,c1,c2,c3⟩:=S2.cells
      have fz:=S2.frozen
      obtain⟨a0,a1,a2,a3,b0,b1,f0,f1,z0,z1⟩:=I3.facts
      go_wp2
      refine bodyPost_ret (v:=prsV (r,0,0)) (by simp[results,Tryz.results164,go_sem,prsV,a0,a1,a2,a3,b0,b1]) rfl ⟨rfl,?_⟩
      exact below6 ((((I3.set (B:=w1.heap.size) (i:=0) _ y1).set (B:=w1.heap.size) (i:=1) _ y1).set (B:=w1.heap.size) (i:=2) _ y1).set (B:=w1.heap.size) (i:=3) _ y1).2.2 _ _ _ _ _ _
    ·rw[if_pos h4] at hR
     have h4':((fc:Int) != 0)=true:=by simp;omega
     subst hR
     go_enter Tryz.func164,Tryz.ntmps164
     go_wp2_with (first | (go_at_call_of 189 (⟨#[91]⟩:ByteArray);refine (HP1.out _).mono ?_;rintro e w1 ⟨rfl,rfl⟩) | (go_at_call_of 189 (⟨#[91,94]⟩:ByteArray);refine (HP2.out _).mono ?_;rintro e w1 ⟨rfl,rfl⟩) | (go_at_call 190;refine (HI.out _).mono ?_))
     rintro e w1 ⟨rfl,hb1⟩
     have I1:=I0.nx hb1
     obtain⟨a0,a1,a2,a3,b0,b1,f0,f1,y0,y1⟩:=I1.facts
     clear HI hb1
     go_wp2
     go_region
     all_goals go_wp2
     refine bodyPost_ret (v:=prsV (St.zero,fa,fc)) (by simp[results,Tryz.results164,go_sem,prsV,St.zero,y0,y1,a0,a1,a2,a3,b0,b1]) rfl ⟨rfl,?_⟩
     exact (below_two (below6 I1.2.2 _ _ _ _ _ _) _ _).drew
   ·rw[if_neg h3] at hR
    have HP2:Hid (∀w,Calls Tryz.prog 189 #[.string x,.string ⟨#[91,94]⟩] w fun e w'=>e=.returned (.bool false)∧w'=w):=fun w=>by
     have:=prefix_any x ⟨#[91,94]⟩ w
     rw[show (⟨#[91,94]⟩:ByteArray).data.toList=[91,94] from rfl,pre_two,decide_eq_false (by omega)] at this
     exact this
    have HI:Hid _:=fun w=>ritems_any x 1 w (by omega) (by omega)
    have hp:=items_ok x (x.size+1) 1 St.zero St.zero_ok
    generalize items x (x.size+1) 1 St.zero=p at *
    obtain⟨q,n,fa,fc⟩:=p
    simp only[itmV,prsB] at HI hR hp
    by_cases h4:fc=0
    ·obtain⟨hn,rfl⟩:=hp.2 h4
     subst h4
     have hq:=hp.1
     clear hp
     rw[if_neg (by simp)] at hR
     by_cases h5:n+1<x.size
     ·rw[if_pos h5] at hR
      subst hR
      go_enter Tryz.func164,Tryz.ntmps164
      go_wp2_with (first | (go_at_call_of 189 (⟨#[91]⟩:ByteArray);refine (HP1.out _).mono ?_;rintro e w1 ⟨rfl,rfl⟩) | (go_at_call_of 189 (⟨#[91,94]⟩:ByteArray);refine (HP2.out _).mono ?_;rintro e w1 ⟨rfl,rfl⟩) | (go_at_call 190;refine (HI.out _).mono ?_))
      rintro e w1 ⟨rfl,hb1⟩
      have I1:=I0.nx hb1
      obtain⟨a0,a1,a2,a3,b0,b1,f0,f1,y0,y1⟩:=I1.facts
      clear HI hb1
      go_wp2
      refine bodyPost_ret (v:=prsV (St.zero,n+1,15)) (by simp[results,Tryz.results164,go_sem,prsV,St.zero,y0,y1,a0,a1,a2,a3,b0,b1]) rfl ⟨rfl,?_⟩
      exact below_two (below6 I1.2.2 _ _ _ _ _ _) _ _
     ·rw[if_neg h5] at hR
      simp only[Bool.false_eq_true,if_false] at hR
      subst hR
      go_enter Tryz.func164,Tryz.ntmps164
      go_wp2_with (first | (go_at_call_of 189 (⟨#[91]⟩:ByteArray);refine (HP1.out _).mono ?_;rintro e w1 ⟨rfl,rfl⟩) | (go_at_call_of 189 (⟨#[91,94]⟩:ByteArray);refine (HP2.out _).mono ?_;rintro e w1 ⟨rfl,rfl⟩) | (go_at_call 190;refine (HI.out _).mono ?_))
      rintro e w1 ⟨rfl,hb1⟩
      have I1:=I0.nx hb1
      obtain⟨a0,a1,a2,a3,b0,b1,f0,f1,y0,y1⟩:=I1.facts
      clear HI hb1
      go_wp2
      exact bodyPost_ret (v:=prsV (q,0,0)) (by simp[results,Tryz.results164,go_sem,prsV,y0,y1,a0,a1,a2,a3,b0,b1]) rfl ⟨rfl,below_two (below6 I1.2.2 _ _ _ _ _ _) _ _⟩
    ·rw[if_pos h4] at hR
     have h4':((fc:Int) != 0)=true:=by simp;omega
     subst hR
     go_enter Tryz.func164,Tryz.ntmps164
     go_wp2_with (first | (go_at_call_of 189 (⟨#[91]⟩:ByteArray);refine (HP1.out _).mono ?_;rintro e w1 ⟨rfl,rfl⟩) | (go_at_call_of 189 (⟨#[91,94]⟩:ByteArray);refine (HP2.out _).mono ?_;rintro e w1 ⟨rfl,rfl⟩) | (go_at_call 190;refine (HI.out _).mono ?_))
     rintro e w1 ⟨rfl,hb1⟩
     have I1:=I0.nx hb1
     obtain⟨a0,a1,a2,a3,b0,b1,f0,f1,y0,y1⟩:=I1.facts
     clear HI hb1
     go_wp2
     go_region
     all_goals go_wp2
     refine bodyPost_ret (v:=prsV (St.zero,fa,fc)) (by simp[results,Tryz.results164,go_sem,prsV,St.zero,y0,y1,a0,a1,a2,a3,b0,b1]) rfl ⟨rfl,?_⟩
     exact (below_two (below6 I1.2.2 _ _ _ _ _ _) _ _).drew
  ·rw[if_pos h2] at hR
   subst hR
   have HP1:Hid (∀w,Calls Tryz.prog 189 #[.string x,.string ⟨#[91]⟩] w fun e w'=>e=.returned (.bool false)∧w'=w):=fun w=>by
    have:=prefix_any x ⟨#[91]⟩ w
    rw[show (⟨#[91]⟩:ByteArray).data.toList=[91] from rfl,pre_one,decide_eq_false h2] at this
    exact this
   go_enter Tryz.func164,Tryz.ntmps164
   go_wp2_with (go_at_call 189;refine (HP1.out _).mono ?_;rintro e w1 ⟨rfl,rfl⟩)
   refine bodyPost_ret (v:=prsV (St.zero,0,13)) (by simp[results,Tryz.results164,go_sem,prsV,St.zero]) rfl ⟨rfl,?_⟩
   exact ((Below.refl _ _).alloc (Nat.le_refl _) _).alloc (by simp<;>omega) _
def great (n:Nat):Bool:=decide (65≤n)&&decide (n≤90)
def small (n:Nat):Bool:=decide (97≤n)&&decide (n≤122)
def digB (n:Nat):Bool:=decide (48≤n)&&decide (n≤57)
def alnum (n:Nat):Bool:=great n||small n||digB n
def lspan (p:Nat→Bool):List UInt8→Nat
 | []=>0
 | c::l=>if p c.toNat then lspan p l+1 else 0
theorem lspan_le (p:Nat→Bool):∀l,lspan p l≤l.length
 | []=>Nat.le_refl _
 | c::l=>by
  have:=lspan_le p l
  simp only[lspan,List.length_cons];split<;>omega
theorem bt_list (x:ByteArray) (i:Nat):bt x i=(x.data.toList.getD i 0).toNat:=by
 unfold bt;simp
theorem list_len (x:ByteArray):x.data.toList.length=x.size:=by simp
theorem drop_at (x:ByteArray) (i:Nat) (h:i<x.size):x.data.toList.drop i=x[i]::x.data.toList.drop (i+1):=by
 have:i<x.data.toList.length:=by rw[list_len];exact h
 rw[List.drop_eq_getElem_cons this];rfl
theorem drop_end (x:ByteArray) (i:Nat) (h:x.size≤i):x.data.toList.drop i=[]:=List.drop_eq_nil_of_le (by rw[list_len];exact h)
theorem ba_list (x:ByteArray):x=⟨x.data.toList.toArray⟩:=by simp
theorem extract_list (x:ByteArray) (a b:Nat):(x.extract a b).data.toList=(x.data.toList.drop a).take (b-a):=by
 rw[ByteArray.data_extract];simp
theorem extract_pre (x:ByteArray) (n:Nat):x.extract 0 n=⟨(x.data.toList.take n).toArray⟩:=by
 rw[ba_list (x.extract 0 n),extract_list];simp
theorem extract_post (x:ByteArray) (n:Nat):(x.extract n x.size).data.toList=x.data.toList.drop n:=by
 rw[extract_list,List.take_of_length_le];simp
def shortq (n:Nat):Int:=Lib.indexByte [110,116,114,34,92] n.toUInt8
def saidq (i:Nat):Nat:=[10,9,13,34,92].getD i 0
def rdq (x:ByteArray):Nat×Nat:=
 if x.size<2∨bt x 0≠92 then (0,0)
 else if 0≤shortq (bt x 1) then (saidq (shortq (bt x 1)).toNat,2)
 else if x.size<4∨bt x 1≠120 then (0,0)
 else if dig (bt x 2)<0∨dig (bt x 3)<0 then (0,0)
 else ((dig (bt x 2)).toNat*16+(dig (bt x 3)).toNat,4)
def rdql (l:List UInt8):Nat×Nat:=rdq ⟨l.toArray⟩
def plainq (n:Nat):Bool:=decide (32≤n)&&decide (n≤126)&&decide (n≠34)&&decide (n≠92)
structure Quo where
 bytes:List Nat
 fin:Nat
 fat:Nat
 code:Nat
def quo:Nat→List UInt8→Nat→List Nat→Quo
 | 0,_,_,_=>⟨[],0,0,13⟩
 | _+1,[],_,_=>⟨[],0,0,13⟩
 | f+1,c::l,k,acc=>
  if c.toNat=34 then ⟨acc,k+1,0,0⟩
  else if c.toNat=92 then (if (rdql (c::l)).2=0 then ⟨[],0,k,12⟩ else quo f ((c::l).drop (rdql (c::l)).2) (k+(rdql (c::l)).2) (acc++[(rdql (c::l)).1]))
  else if plainq c.toNat then quo f l (k+1) (acc++[c.toNat])
  else ⟨[],0,k,11⟩
def quoted (l:List UInt8):Quo:=quo l.length (l.drop 1) 1 []
def clo:List UInt8→Nat→Nat
 | [],_=>0
 | [c],k=>if c.toNat=93 then k+1 else 0
 | c::d::l,k=>if c.toNat=93 then k+1 else if c.toNat=92 then clo l (k+2) else clo (d::l) (k+1)
theorem clo_end (c:UInt8) (l:List UInt8) (k:Nat) (h:c.toNat=93):clo (c::l) k=k+1:=by
 cases l<;>simp[clo,h]
theorem clo_esc (c:UInt8) (l:List UInt8) (k:Nat) (h:c.toNat=92):clo (c::l) k=clo (l.drop 1) (k+2):=by
 cases l<;>simp[clo,h]
theorem clo_on (c:UInt8) (l:List UInt8) (k:Nat) (h:c.toNat≠93) (h2:c.toNat≠92):clo (c::l) k=clo l (k+1):=by
 cases l<;>simp[clo,h,h2]
def numv (l:List UInt8):Nat:=l.foldl (fun n c=>n*10+(c.toNat-48)) 0
structure RW where
 kind:Nat
 len:Nat
 bytes:List Nat
 set:St
 n:Nat
 fat:Nat
 code:Nat
def RW.fault (fat code:Nat):RW:=⟨0,0,[],St.zero,0,fat,code⟩
def RW.plain (kind len:Nat):RW:=⟨kind,len,[],St.zero,0,0,0⟩
def rdLet (l:List UInt8) (kind:Nat):RW:=if 32<lspan alnum l then .fault 0 20 else .plain kind (lspan alnum l)
def rdNum (l:List UInt8):RW:=
 if 6<lspan digB l∨(1<lspan digB l∧(l.getD 0 0).toNat=48) then .fault 0 21
 else ⟨3,lspan digB l,[],St.zero,numv (l.take (lspan digB l)),0,0⟩
def rdText (l:List UInt8):RW:=if (quoted l).code=0 then ⟨4,(quoted l).fin,(quoted l).bytes,St.zero,0,0,0⟩ else .fault (quoted l).fat (quoted l).code
def rdSet (l:List UInt8):RW:=
 if clo (l.drop 1) 1=0 then .fault 0 13
 else if (prs ⟨(l.take (clo (l.drop 1) 1)).toArray⟩).2.2=0 then ⟨5,clo (l.drop 1) 1,[],(prs ⟨(l.take (clo (l.drop 1) 1)).toArray⟩).1,0,0,0⟩
 else .fault (prs ⟨(l.take (clo (l.drop 1) 1)).toArray⟩).2.1 (prs ⟨(l.take (clo (l.drop 1) 1)).toArray⟩).2.2
def signB (n:Nat):Bool:=decide (0≤Lib.indexByte [61,124,46,59,62,63,42,43,123,125,40,41,95,47,44,45] n.toUInt8)
def rdw:List UInt8→RW
 | []=>.plain 7 0
 | c::l=>
  if great c.toNat then rdLet (c::l) 1
  else if small c.toNat then rdLet (c::l) 2
  else if digB c.toNat then rdNum (c::l)
  else if c.toNat=34 then rdText (c::l)
  else if c.toNat=91 then rdSet (c::l)
  else if signB c.toNat then .plain 6 1
  else .fault 0 11
structure Wd where
 kind:Nat
 text:List UInt8
 bytes:List Nat
 set:St
 n:Nat
 fro:Nat
 line:Nat
 col:Nat
def skp:List UInt8→Bool→Nat→Nat→Nat→List UInt8×Nat×Nat×Nat
 | [],_,p,ln,bg=>([],p,ln,bg)
 | c::l,r,p,ln,bg=>
  if c.toNat=10 then skp l false (p+1) (ln+1) (p+1)
  else if r then skp l true (p+1) ln bg
  else if c.toNat=32∨c.toNat=9∨c.toNat=13 then skp l false (p+1) ln bg
  else if c.toNat=35 then skp l true (p+1) ln bg
  else (c::l,p,ln,bg)
def mkWd (r:List UInt8) (q:RW) (p ln bg:Nat):Wd:=⟨q.kind,r.take q.len,q.bytes,q.set,q.n,p,ln,p-bg+1⟩
def scn:Nat→List UInt8→Nat→Nat→Nat→List Wd→List Wd×Nat×Nat
 | 0,_,_,_,_,_=>([],0,0)
 | f+1,l,p,ln,bg,acc=>
  let s:=skp l false p ln bg
  let q:=rdw s.1
  if q.code≠0 then ([],s.2.1+q.fat,q.code)
  else if q.kind=7 then (acc++[mkWd s.1 q s.2.1 s.2.2.1 s.2.2.2],0,0)
  else scn f (s.1.drop q.len) (s.2.1+q.len) s.2.2.1 s.2.2.2 (acc++[mkWd s.1 q s.2.1 s.2.2.1 s.2.2.2])
def scan (l:List UInt8):List Wd×Nat×Nat:=if 65536<l.length then ([],0,2) else scn (l.length+1) l 0 1 0 []
theorem great_any (n:Nat) (w:World):Calls Tryz.prog 62 #[.int .i32 n] w fun e w'=>e=.returned (.bool (great n))∧w'=w:=by
 have H:Hid (great n=(decide (65≤n)&&decide (n≤90))):=rfl
 go_enter Tryz.func62,Tryz.ntmps62
 go_wp2
 all_goals go_ret
 all_goals (refine⟨ret_bool ?_,rfl⟩;rw[H.out])
 all_goals (rw[Bool.eq_iff_iff];simp;try omega)
theorem small_any (n:Nat) (w:World):Calls Tryz.prog 109 #[.int .i32 n] w fun e w'=>e=.returned (.bool (small n))∧w'=w:=by
 have H:Hid (small n=(decide (97≤n)&&decide (n≤122))):=rfl
 go_enter Tryz.func109,Tryz.ntmps109
 go_wp2
 all_goals go_ret
 all_goals (refine⟨ret_bool ?_,rfl⟩;rw[H.out])
 all_goals (rw[Bool.eq_iff_iff];simp;try omega)
theorem digB_any (n:Nat) (w:World):Calls Tryz.prog 110 #[.int .i32 n] w fun e w'=>e=.returned (.bool (digB n))∧w'=w:=by
 have H:Hid (digB n=(decide (48≤n)&&decide (n≤57))):=rfl
 go_enter Tryz.func110,Tryz.ntmps110
 go_wp2
 all_goals go_ret
 all_goals (refine⟨ret_bool ?_,rfl⟩;rw[H.out])
 all_goals (rw[Bool.eq_iff_iff];simp;try omega)
theorem iter_below (w:World) (x:ByteArray) (p:Nat):Below w.heap.size w (w.iter x p):=(Below.refl _ _).alloc (Nat.le_refl _) _
theorem alnum_low {n:Nat} (h:alnum n=true):n<128:=by
 unfold alnum great small digB at h;simp at h;omega
theorem digB_low {n:Nat} (h:digB n=true):n<128:=by
 unfold digB at h;simp at h;omega
theorem decode_no (p:Nat→Bool) (hp:∀n,p n=true→n<128) (x:ByteArray) (i:Nat) (h:i<x.size) (hn:p x[i].toNat=false):p (Utf8.decode x i).1=false:=by
 by_cases ha:x[i].toNat<128
 ·rw[decode_ascii x i h ha];exact hn
 ·have:=(decode_high x i h (by omega)).1
  cases e:p (Utf8.decode x i).1 with
  | false=>rfl
  | true=>have:=hp _ e;omega
theorem alnum_or {n:Nat} (h:alnum n=true):great n=true∨(great n=false∧small n=true)∨(great n=false∧small n=false∧digB n=true):=by
 unfold alnum at h
 generalize great n=a at *
 generalize small n=b at *
 generalize digB n=c at *
 revert a b c
 decide
theorem alnum_parts {n:Nat} (h:alnum n=false):great n=false∧small n=false∧digB n=false:=by
 unfold alnum at h;simpa [and_assoc] using h
theorem spanD_any (x:ByteArray) (w:World):Calls Tryz.prog 161 #[.string x] w fun e w'=>e=.returned (.int .i64 (lspan digB x.data.toList))∧Below w.heap.size w w':=by
 go_enter Tryz.func161,Tryz.ntmps161
 go_wp2
 go_loopw[2] (fun r w'=>∃pos:Nat,w'=w.iter x pos∧pos≤x.size∧pos+lspan digB (x.data.toList.drop pos)=lspan digB x.data.toList∧r=r) (fun _ w'=>x.size-w'.iterPos w.heap.size)
 case atStart=>exact⟨0,rfl,Nat.zero_le _,by simp,rfl⟩
 case round=>
  obtain⟨pos,rfl,hp,hsp,-⟩:=hrel
  by_cases hlt:pos<x.size
  ·have hnx:∀ty,(Instr.next (.pointer (some ⟨w.heap.size,0,none⟩)) true ty).run Tryz.prog (w.iter x pos)=_:=fun ty=>run_next_any w x pos ty hlt
   have HD:Hid _:=fun w=>digB_any (Utf8.decode x pos).1 w
   rw[drop_at x pos hlt] at hsp
   simp only[lspan] at hsp
   by_cases hd:digB x[pos].toNat=true
   ·have ha:=digB_low hd
    have hdec:=decode_ascii x pos hlt ha
    rw[hdec] at hnx HD
    simp only[hd,if_true] at hsp HD
    clear hdec
    go_wp2_with (go_at_call 110;refine (HD.out _).mono ?_;rintro e w' ⟨rfl,rfl⟩)
    go_roundw
    case rel=>exact⟨pos+1,rfl,by omega,by omega,trivial⟩
    case measure=>simp;omega
   ·have hd':digB x[pos].toNat=false:=by simpa using hd
    have hz:=decode_no digB (fun _=>digB_low) x pos hlt hd'
    rw[hz] at HD
    simp only[hd',Bool.false_eq_true,if_false] at hsp
    have HE:Hid (lspan digB x.data.toList=pos):=by show _=_;omega
    clear hsp hz hd hd'
    generalize (Utf8.decode x pos).1=rn at *
    generalize (Utf8.decode x pos).2=wd at *
    go_wp2_with (go_at_call 110;refine (HD.out _).mono ?_;rintro e w' ⟨rfl,rfl⟩)
    go_ret
    exact⟨ret_int (by rw[HE.out]),iter_below _ _ _⟩
  ·have hnx:∀ty,(Instr.next (.pointer (some ⟨w.heap.size,0,none⟩)) true ty).run Tryz.prog (w.iter x pos)=_:=fun ty=>run_next_end w x pos ty hlt
   rw[drop_end x pos (by omega)] at hsp
   have HE:Hid (lspan digB x.data.toList=x.size):=by simp only[lspan] at hsp;show _=_;omega
   clear hsp
   go_wp2
   go_ret
   exact⟨ret_int (by rw[HE.out]),iter_below _ _ _⟩
theorem spanL_any (x:ByteArray) (w:World):Calls Tryz.prog 117 #[.string x] w fun e w'=>e=.returned (.int .i64 (lspan alnum x.data.toList))∧Below w.heap.size w w':=by
 go_enter Tryz.func117,Tryz.ntmps117
 go_wp2
 go_loopw[2] (fun r w'=>∃pos:Nat,w'=w.iter x pos∧pos≤x.size∧pos+lspan alnum (x.data.toList.drop pos)=lspan alnum x.data.toList∧r=r) (fun _ w'=>x.size-w'.iterPos w.heap.size)
 case atStart=>exact⟨0,rfl,Nat.zero_le _,by simp,rfl⟩
 case round=>
  obtain⟨pos,rfl,hp,hsp,-⟩:=hrel
  by_cases hlt:pos<x.size
  ·have hnx:∀ty,(Instr.next (.pointer (some ⟨w.heap.size,0,none⟩)) true ty).run Tryz.prog (w.iter x pos)=_:=fun ty=>run_next_any w x pos ty hlt
   have HG:Hid _:=fun w=>great_any (Utf8.decode x pos).1 w
   have HS:Hid _:=fun w=>small_any (Utf8.decode x pos).1 w
   have HD:Hid _:=fun w=>digB_any (Utf8.decode x pos).1 w
   rw[drop_at x pos hlt] at hsp
   simp only[lspan] at hsp
   by_cases hd:alnum x[pos].toNat=true
   ·have ha:=alnum_low hd
    have hdec:=decode_ascii x pos hlt ha
    rw[hdec] at hnx HG HS HD
    simp only[hd,if_true] at hsp
    clear hdec
    have hor:=alnum_or hd
    clear hd
    rcases hor with h1 | ⟨h1,h2⟩ | ⟨h1,h2,h3⟩
    all_goals (try rw[h1] at HG)
    all_goals (try rw[h2] at HS)
    all_goals (try rw[h3] at HD)
    all_goals (try clear h1)
    all_goals (try clear h2)
    all_goals (try clear h3)
    all_goals
     go_wp2_with (first | (go_at_call 62;refine (HG.out _).mono ?_;rintro e w' ⟨rfl,rfl⟩) | (go_at_call 109;refine (HS.out _).mono ?_;rintro e w' ⟨rfl,rfl⟩) | (go_at_call 110;refine (HD.out _).mono ?_;rintro e w' ⟨rfl,rfl⟩))
     go_roundw
     case rel=>exact⟨pos+1,rfl,by omega,by omega,trivial⟩
     case measure=>simp;omega
   ·have hd':alnum x[pos].toNat=false:=by simpa using hd
    have hz:=decode_no alnum (fun _=>alnum_low) x pos hlt hd'
    obtain⟨z1,z2,z3⟩:=alnum_parts hz
    rw[z1] at HG
    rw[z2] at HS
    rw[z3] at HD
    simp only[hd',Bool.false_eq_true,if_false] at hsp
    have HE:Hid (lspan alnum x.data.toList=pos):=by show _=_;omega
    clear hsp hz hd hd' z1 z2 z3
    generalize (Utf8.decode x pos).1=rn at *
    generalize (Utf8.decode x pos).2=wd at *
    go_wp2_with (first | (go_at_call 62;refine (HG.out _).mono ?_;rintro e w' ⟨rfl,rfl⟩) | (go_at_call 109;refine (HS.out _).mono ?_;rintro e w' ⟨rfl,rfl⟩) | (go_at_call 110;refine (HD.out _).mono ?_;rintro e w' ⟨rfl,rfl⟩))
    go_ret
    exact⟨ret_int (by rw[HE.out]),iter_below _ _ _⟩
  ·have hnx:∀ty,(Instr.next (.pointer (some ⟨w.heap.size,0,none⟩)) true ty).run Tryz.prog (w.iter x pos)=_:=fun ty=>run_next_end w x pos ty hlt
   rw[drop_end x pos (by omega)] at hsp
   have HE:Hid (lspan alnum x.data.toList=x.size):=by simp only[lspan] at hsp;show _=_;omega
   clear hsp
   go_wp2
   go_ret
   exact⟨ret_int (by rw[HE.out]),iter_below _ _ _⟩
def whole (l:List UInt8):Bool:=decide (l.length≤32)&&decide (lspan alnum l=l.length)
theorem whole_any (x:ByteArray) (w:World):Calls Tryz.prog 63 #[.string x] w fun e w'=>e=.returned (.bool (whole x.data.toList))∧Below w.heap.size w w':=by
 have HS:Hid _:=fun w=>spanL_any x w
 have H:Hid (whole x.data.toList=(decide (x.size≤32)&&decide (lspan alnum x.data.toList=x.size))):=by show _=_;unfold whole;rw[list_len]
 generalize lspan alnum x.data.toList=k at *
 by_cases h1:x.size≤32
 ·have h1':(x.size:Int)≤32:=by omega
  go_enter Tryz.func63,Tryz.ntmps63
  go_wp2_with (go_at_call 117;refine (HS.out _).mono ?_;rintro e w' ⟨rfl,hb⟩)
  go_ret
  refine⟨ret_bool ?_,hb⟩
  rw[H.out,Bool.eq_iff_iff];simp[h1];try omega
 ·have h1':¬(x.size:Int)≤32:=by omega
  go_enter Tryz.func63,Tryz.ntmps63
  go_wp2
  go_ret
  refine⟨ret_bool ?_,Below.refl _ _⟩
  rw[H.out];simp[h1]
def nameB (p:Nat→Bool) (l:List UInt8):Bool:=decide (l≠[])&&p (l.getD 0 0).toNat&&whole l
theorem str_empty (x:ByteArray) (h:x.size=0):x=⟨#[]⟩:=by
 rw[ba_list x,List.eq_nil_of_length_eq_zero ((list_len x).trans h)]
theorem ne_empty (x:ByteArray) (h:¬x.size=0):x.toList.isEmpty=false:=by
 rw[ByteArray.toList_eq]
 cases e:x.data.toList with
 | nil=>have:=list_len x;rw[e] at this;exact absurd this.symm h
 | cons c l=>rfl
theorem isName_any (x:ByteArray) (w:World):Calls Tryz.prog 22 #[.string x] w fun e w'=>e=.returned (.bool (nameB great x.data.toList))∧Below w.heap.size w w':=by
 by_cases h0:x.size=0
 ·obtain rfl:=str_empty x h0
  go_enter Tryz.func22,Tryz.ntmps22
  go_wp2
  go_ret
  exact⟨ret_bool (by decide),Below.refl _ _⟩
 ·have hne:=ne_empty x h0
  have hne':¬x.toList=[]:=by intro h;rw[h] at hne;cases hne
  have hnl:x.data.toList≠[]:=by intro h;have:=list_len x;rw[h] at this;exact h0 this.symm
  have k0:0<x.size:=by omega
  have b0:=bt_eq x 0 k0
  have HG:Hid _:=fun w=>great_any (bt x 0) w
  have HW:Hid _:=fun w=>whole_any x w
  have H:Hid (nameB great x.data.toList=(great (bt x 0)&&whole x.data.toList)):=by show _=_;unfold nameB;rw[bt_list];simp[hnl]
  have hl:=bt_lt x 0
  generalize whole x.data.toList=k at *
  generalize hg:great (bt x 0)=g at *
  clear hg
  generalize bt x 0=c at *
  cases g
  ·go_enter Tryz.func22,Tryz.ntmps22
   go_wp2_with (go_at_call 62;refine (HG.out _).mono ?_;rintro e w' ⟨rfl,rfl⟩)
   go_ret
   exact⟨ret_bool (by rw[H.out];rfl),Below.refl _ _⟩
  ·go_enter Tryz.func22,Tryz.ntmps22
   go_wp2_with (first | (go_at_call 62;refine (HG.out _).mono ?_;rintro e w' ⟨rfl,rfl⟩) | (go_at_call 63;refine (HW.out _).mono ?_;rintro e w' ⟨rfl,hb⟩))
   go_ret
   exact⟨ret_bool (by rw[H.out];rfl),hb⟩
def cls (n:Nat):Nat:=if great n then 1 else if small n then 2 else if digB n then 3 else 0
end Go.Proofs.YtcpakcffiopfjaaGreatDoor
