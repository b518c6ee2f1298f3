/- A tree's text, read: plain; its bytes, halves, numbers, and where it stands. -/
import Derived.Test.YtlnlkbkmnkjbhaaDoorT0
import Derived.Test.YtlnlkbkmnkjbhaaDoorA1
import Derived.Test.YtlnlkbkmnkjbhaaDoorShelf
import Derived.Test.YtlnlkbkmnkjbhaaDoorV2
import Derived.Test.YtlnlkbkmnkjbhaaDoorC1
import Derived.Test.YtlnlkbkmnkjbhaaDoorU2
namespace Go.Proofs.YtlnlkbkmnkjbhaaDoor
open Go.RowKit

/-- What is read up to a place, or a fault at a place. -/
inductive PR (α : Type) where
  | ok (a : α) (at' : Nat)
  | bad (at' code : Nat)
/-- A text's byte. -/
def bt (s : ByteArray) (k : Nat) : Nat := if h : k < s.size then (s[k]'h).toNat else 0
theorem bt_eq (s : ByteArray) (k : Nat) (h : k < s.size) : (s[k]'h).toNat = bt s k := by unfold bt; rw [dif_pos h]
theorem bt_lt (s : ByteArray) (k : Nat) : bt s k < 256 := by
  unfold bt; split
  · exact UInt8.toNat_lt _
  · omega
def digq (c : Nat) : Bool := decide (48 ≤ c) && decide (c ≤ 57)
/-- A hexadecimal digit's value; 16: none. -/
def hv (c : Nat) : Nat := if 48 ≤ c ∧ c ≤ 57 then c - 48 else if 97 ≤ c ∧ c ≤ 102 then c - 87 else 16
theorem hv_le (c : Nat) : hv c ≤ 16 := by unfold hv; repeat' split
                                          all_goals omega
def rhalf (s : ByteArray) (p : Nat) : PR Nat := if s.size ≤ p then .bad p 14 else if hv (bt s p) = 16 then .bad p 11 else .ok (hv (bt s p)) (p + 1)
def rleaf (s : ByteArray) (p : Nat) : PR Tr :=
  match rhalf s p with
  | .bad q c => .bad q c
  | .ok a q =>
    match rhalf s q with
    | .bad q' c => .bad q' c
    | .ok b q' => .ok (.mk (-1) (UInt8.ofNat (16 * a + b)) []) q'
/-- Digits, so many at most. -/
def rnum (s : ByteArray) (fr : Nat) : Nat → Nat → Nat → PR Nat
  | 0, p, _ => .bad p 0
  | f + 1, p, n =>
    if s.size ≤ p then .bad p 14
    else if digq (bt s p) = false then .ok n p
    else if p - fr = 6 ∨ p - fr > 0 ∧ n = 0 then .bad p 11
    else rnum s fr f (p + 1) (10 * n + (bt s p - 48))
def rwant (s : ByteArray) (p c : Nat) : PR Unit := if s.size ≤ p then .bad p 14 else if bt s p = c then .ok () (p + 1) else .bad p 11
mutual
/-- A tree that lies so deep. -/
def rt (s : ByteArray) : Nat → Nat → Nat → PR Tr
  | 0, p, _ => .bad p 0
  | f + 1, p, m =>
    if s.size ≤ p then .bad p 14
    else if bt s p ≠ 120 ∧ digq (bt s p) = false then .bad p 11
    else if 200 < m then .bad p 2
    else if bt s p = 120 then rleaf s (p + 1)
    else
      match rnum s p 8 p 0 with
      | .bad q c => .bad q c
      | .ok n q =>
        match rwant s q 40 with
        | .bad q c => .bad q c
        | .ok _ q =>
          match rk s f q (m + 1) [] with
          | .bad q c => .bad q c
          | .ok l q => .ok (.mk n 0 l) q
/-- Kids, behind those that were read. -/
def rk (s : ByteArray) : Nat → Nat → Nat → List Tr → PR (List Tr)
  | 0, p, _, _ => .bad p 0
  | f + 1, p, m, l =>
    if s.size ≤ p then .bad p 14
    else if bt s p = 41 then .ok l (p + 1)
    else
      match (if l = [] then .ok () p else rwant s p 32) with
      | .bad q c => .bad q c
      | .ok _ q =>
        match rt s f q m with
        | .bad q c => .bad q c
        | .ok d q => rk s f q m (l ++ [d])
end
/-- A whole text, of at most so many bytes. -/
def rpar (s : ByteArray) : PR Tr :=
  if 65536 < s.size then .bad 0 2
  else
    match rt s (2 * s.size + 2) 0 1 with
    | .bad q c => .bad q c
    | .ok d q => if q < s.size then .bad q 15 else .ok d q
/-- A reader in memory: its text, and up to where it was read. -/
structure RdAt (W : World) (R : Nat) (s : ByteArray) (k : Nat) : Prop where
  text : W.cell? ⟨R, 0, none⟩ = some (.string s)
  at' : W.cell? ⟨R, 1, none⟩ = some (.int .i64 (k : Int))
  fz : W.frozen? ⟨R, 1, none⟩ = false
  lt : R < W.heap.size
theorem RdAt.below {W W' : World} {R : Nat} {s : ByteArray} {k B : Nat} (h : RdAt W R s k) (hb : Below B W W') (hR : R < B) : RdAt W' R s k :=
  ⟨(hb.cell (p := ⟨R, 0, none⟩) hR).trans h.text, (hb.cell (p := ⟨R, 1, none⟩) hR).trans h.at', (hb.frozen (p := ⟨R, 1, none⟩) hR).trans h.fz, Nat.lt_of_lt_of_le h.lt hb.size⟩
set_option maxRecDepth 100000 in
set_option maxHeartbeats 4000000 in
theorem next_ok (R : Nat) (s : ByteArray) (k : Nat) (w : World) (h : RdAt w R s k) (hk : k < s.size) :
    Calls Tryd.prog 77 #[.pointer (some ⟨R, 0, none⟩)] w fun e w' => e = .returned (.int .u8 ((s.get k hk).toNat : Int)) ∧ Below w.heap.size w w' := by
  have h0 := h.text
  have h1 := h.at'
  have hne : ((k : Int) == (s.size : Int)) = false := by simp; omega
  have hkI : (k : Int) < (s.size : Int) := by omega
  clear h
  go_enter Tryd.func77, Tryd.ntmps77
  go_wp2
  go_quiet (fail)
  go_wp2
  go_quiet (fail)
  go_wp2
  go_ret
  exact ⟨rfl, ⟨rfl, rfl, rfl, Nat.le_refl _, fun _ _ => rfl⟩⟩
set_option maxRecDepth 100000 in
set_option maxHeartbeats 4000000 in
theorem isDigit_any (c : UInt8) (w : World) : Calls Tryd.prog 78 #[.int .u8 (c.toNat : Int)] w fun e w' => e = .returned (.bool (decide (48 ≤ c.toNat) && decide (c.toNat ≤ 57))) ∧ w' = w := by
  by_cases h : 48 ≤ c.toNat
  · have h' : (48 : Int) ≤ (c.toNat : Int) := by omega
    go_enter Tryd.func78, Tryd.ntmps78
    go_wp2
    go_ret
    exact ⟨ret_bool (by simp [h]; omega), rfl⟩
  · have h' : decide ((48 : Int) ≤ (c.toNat : Int)) = false := by simp; omega
    go_enter Tryd.func78, Tryd.ntmps78
    go_wp2
    go_ret
    exact ⟨ret_bool (by simp [h]), rfl⟩
set_option maxRecDepth 100000 in
set_option maxHeartbeats 4000000 in
theorem want_ok (R : Nat) (s : ByteArray) (k : Nat) (w : World) (h : RdAt w R s k) (hk : k < s.size) (hm : s.size ≤ 1000000) :
    Calls Tryd.prog 88 #[.pointer (some ⟨R, 0, none⟩), .int .u8 ((s.get k hk).toNat : Int)] w fun e w' => (∃ v, e = .returned v) ∧ RdAt w' R s (k + 1) ∧ w.grownBy w' (some R) := by
  have HC : Hid _ := fun (_ : Unit) => next_ok R s k w h hk
  have HR : Hid _ := h
  have hne : (((s.get k hk).toNat : Int) != ((s.get k hk).toNat : Int)) = false := by simp
  have hk1 : (k : Int) + 1 ≤ 1000000 := by omega
  generalize ((s.get k hk).toNat : Int) = c at *
  clear h
  go_enter Tryd.func88, Tryd.ntmps88
  go_wp2_with (go_at_call 77; refine (HC.out ()).mono ?_; rintro e w3 ⟨rfl, hb3⟩; have h3 := HR.out.below hb3 HR.out.lt; have q0 := h3.text; have q1 := h3.at'; have q2 := h3.fz)
  go_end0
  have hg := grown_set w3 R 1 (.int .i64 ((k : Int) + 1))
  have hs : (w3.setCell ⟨R, 1, none⟩ (.int .i64 ((k : Int) + 1))).heap.size = w3.heap.size := by simp [World.setCell]
  refine ⟨⟨_, rfl⟩, ⟨(World.cell?_setCell_other _ _ _ _ (by simp)).trans q0, ?_, (World.frozen?_setCell _ _ _ _).trans q2, by have := h3.lt; omega⟩, ⟨hg.os.trans hb3.os, hg.tape.trans hb3.tape, hg.output.trans hb3.output, by have := hb3.size; omega, fun b hb hne => (hg.block b (by have := hb3.size; omega) hne).trans (hb3.block b hb)⟩⟩
  push_cast
  exact World.cell?_setCell_same' _ _ _ (by rw [q1]; rfl)
section
open Go.RowKit Go.Shelf

/-- A fault at a place, given up with. -/
def FE (p c : Nat) : Ending := .panicked [{ v := .iface 52 (.agg #[.int .i64 (p : Int), .int .i64 (c : Int)]), recovered := false }]
set_option maxRecDepth 100000 in
set_option maxHeartbeats 4000000 in
theorem fail_any (R : Nat) (s : ByteArray) (p c : Nat) (w : World) (h : RdAt w R s p) : Calls Tryd.prog 59 #[.pointer (some ⟨R, 0, none⟩), .int .i64 (c : Int)] w fun e w' => e = FE p c ∧ w' = w := by
  have h0 := h.text
  have h1 := h.at'
  have hpn : ∀ (t : TypeId) (v : Value) (w : World), (Instr.panic (.iface t v)).run Tryd.prog w = .halt (.panic (.iface t v)) w := fun _ _ _ => rfl
  clear h
  go_enter Tryd.func59, Tryd.ntmps59
  go_wp2
  refine ⟨rfl, ?_⟩
  exact ⟨rfl, rfl⟩
theorem grown_below {w W W' : World} {R : Nat} (h : w.grownBy W (some R)) (hb : Below W.heap.size W W') : w.grownBy W' (some R) :=
  ⟨hb.os.trans h.os, hb.tape.trans h.tape, hb.output.trans h.output, Nat.le_trans h.size hb.size, fun b hlt hne => (hb.block b (Nat.lt_of_lt_of_le hlt h.size)).trans (h.block b hlt hne)⟩
theorem grown_refl (w : World) (R : Option Nat) : w.grownBy w R := ⟨rfl, rfl, rfl, Nat.le_refl _, fun _ _ _ => rfl⟩
theorem RdAt.put {W : World} {R : Nat} {s : ByteArray} {k : Nat} (h : RdAt W R s k) (m : Nat) : RdAt (W.setCell ⟨R, 1, none⟩ (.int .i64 (m : Int))) R s m :=
  ⟨(World.cell?_setCell_other _ _ _ _ (by simp)).trans h.text, World.cell?_setCell_same' _ _ _ (by rw [h.at']; rfl), (World.frozen?_setCell _ _ _ _).trans h.fz, by have := h.lt; simp [World.setCell]; exact this⟩
theorem next_bt (R : Nat) (s : ByteArray) (p : Nat) (w : World) (h : RdAt w R s p) (hp : p < s.size) : Calls Tryd.prog 77 #[.pointer (some ⟨R, 0, none⟩)] w fun e w' => e = .returned (.int .u8 (bt s p : Int)) ∧ Below w.heap.size w w' := by
  have := next_ok R s p w h hp
  rw [show ((s.get p hp).toNat) = bt s p from bt_eq s p hp] at this
  exact this
set_option maxRecDepth 100000 in
set_option maxHeartbeats 4000000 in
theorem next_end (R : Nat) (s : ByteArray) (w : World) (h : RdAt w R s s.size) : Calls Tryd.prog 77 #[.pointer (some ⟨R, 0, none⟩)] w fun e w' => e = FE s.size 14 ∧ Below w.heap.size w w' := by
  have h0 := h.text
  have h1 := h.at'
  have HF : Hid (∀ n, Calls Tryd.prog 59 #[.pointer (some ⟨R, 0, none⟩), .int .i64 14] (w.drewN n) fun e w' => e = FE s.size 14 ∧ w' = w.drewN n) := fun n => fail_any R s s.size 14 (w.drewN n) ⟨h.text, h.at', h.fz, h.lt⟩
  have hne : ((s.size : Int) == (s.size : Int)) = true := by simp
  clear h
  go_enter Tryd.func77, Tryd.ntmps77
  go_wp2
  go_quiet (fail)
  go_wp2_with (go_at_call 59; refine (HF.out nq).mono ?_)
  first | rintro e w' rfl rfl | rintro e w' ⟨rfl, rfl⟩
  simp only [FE]
  go_wp2
  refine ⟨rfl, ?_⟩
  exact ⟨rfl, ⟨rfl, rfl, rfl, Nat.le_refl _, fun _ _ => rfl⟩⟩
end
section
open Go.RowKit Go.Shelf

/-- What comes of reading: a value and the place behind it, or a fault. -/
def RC {α : Type} (R : Nat) (s : ByteArray) (w : World) (enc : α → Value) : PR α → Ending → World → Prop
  | .ok a q, e, w' => e = .returned (enc a) ∧ RdAt w' R s q ∧ w.grownBy w' (some R)
  | .bad q c, e, w' => e = FE q c ∧ w.grownBy w' (some R)
theorem RC.mono {α : Type} {R : Nat} {s : ByteArray} {w w1 : World} {enc : α → Value} {r : PR α} {e : Ending} {w' : World} (h : RC R s w1 enc r e w') (hg : w.grownBy w1 (some R)) : RC R s w enc r e w' := by
  cases r with
  | ok a q => exact ⟨h.1, h.2.1, grown_tr hg h.2.2⟩
  | bad q c => exact ⟨h.1, grown_tr hg h.2⟩
set_option maxRecDepth 100000 in
set_option maxHeartbeats 4000000 in
theorem want_any (R : Nat) (s : ByteArray) (p c : Nat) (w : World) (h : RdAt w R s p) (hp : p ≤ s.size) (hm : s.size ≤ 65536) :
    Calls Tryd.prog 88 #[.pointer (some ⟨R, 0, none⟩), .int .u8 (c : Int)] w fun e w' => RC R s w (fun _ => .tuple #[]) (rwant s p c) e w' := by
  have HR : Hid _ := h
  by_cases hps : s.size ≤ p
  · obtain rfl : p = s.size := by omega
    have HN : Hid _ := fun (_ : Unit) => next_end R s w h
    have HP : Hid (rwant s s.size c = .bad s.size 14) := by show _ = _; unfold rwant; rw [if_pos (Nat.le_refl _)]
    clear h hps hp
    go_enter Tryd.func88, Tryd.ntmps88
    go_wp2_with (go_at_call 77; refine (HN.out ()).mono ?_)
    first | rintro e w' rfl hb | rintro e w' ⟨rfl, hb⟩
    simp only [FE]
    go_wp2
    refine ⟨rfl, ?_⟩
    show RC R s w _ (rwant s s.size c) _ _
    rw [HP.out]
    exact ⟨rfl, grown_of_below hb _⟩
  · have hlt : p < s.size := by omega
    have HN : Hid _ := fun (_ : Unit) => next_bt R s p w h hlt
    by_cases hc : bt s p = c
    · have HP : Hid (rwant s p c = .ok () (p + 1)) := by show _ = _; unfold rwant; rw [if_neg hps, if_pos hc]
      rw [hc] at HN
      have hne : ((c : Int) != (c : Int)) = false := by simp
      have hk1 : (p : Int) ≤ 65536 := by omega
      clear h hps hp hc
      go_enter Tryd.func88, Tryd.ntmps88
      go_wp2_with (go_at_call 77; refine (HN.out ()).mono ?_)
      first | rintro e w3 rfl hb3 | rintro e w3 ⟨rfl, hb3⟩
      have h3 := HR.out.below hb3 HR.out.lt
      have q0 := h3.text
      have q1 := h3.at'
      have q2 := h3.fz
      have HF : Hid (RdAt (w3.setCell ⟨R, 1, none⟩ (.int .i64 ((p : Int) + 1))) R s (p + 1) ∧ w.grownBy (w3.setCell ⟨R, 1, none⟩ (.int .i64 ((p : Int) + 1))) (some R)) := ⟨h3.put (p + 1), grown_tr (grown_of_below hb3 _) (grown_set _ _ _ _)⟩
      clear h3 hb3
      go_wp2
      go_end0
      show RC R s w _ (rwant s p c) _ _
      rw [HP.out]
      exact ⟨rfl, HF.out⟩
    · have HP : Hid (rwant s p c = .bad p 11) := by show _ = _; unfold rwant; rw [if_neg hps, if_neg hc]
      have hne : ((bt s p : Int) != (c : Int)) = true := by simp; omega
      have hnn : ¬ (bt s p : Int) = (c : Int) := by omega
      clear h hps hp hc
      go_enter Tryd.func88, Tryd.ntmps88
      go_wp2_with (go_at_call 77; refine (HN.out ()).mono ?_)
      first | rintro e w3 rfl hb3 | rintro e w3 ⟨rfl, hb3⟩
      have h3 := HR.out.below hb3 HR.out.lt
      have HF : Hid _ := fun (_ : Unit) => fail_any R s p 11 w3 h3
      have HG : Hid (w.grownBy w3 (some R)) := grown_of_below hb3 _
      clear h3 hb3
      go_wp2_with (go_at_call 59; refine (HF.out ()).mono ?_)
      first | rintro e w4 rfl rfl | rintro e w4 ⟨rfl, rfl⟩
      simp only [FE]
      go_wp2
      refine ⟨rfl, ?_⟩
      show RC R s w _ (rwant s p c) _ _
      rw [HP.out]
      exact ⟨rfl, HG.out⟩
theorem hex_index : ∀ c : Fin 256, Lib.indexByte [48, 49, 50, 51, 52, 53, 54, 55, 56, 57, 97, 98, 99, 100, 101, 102] (UInt8.ofNat c.val) = if hv c.val = 16 then -1 else (hv c.val : Int) := by decide +kernel
set_option maxRecDepth 100000 in
set_option maxHeartbeats 4000000 in
theorem half_any (R : Nat) (s : ByteArray) (p : Nat) (w : World) (h : RdAt w R s p) (hp : p ≤ s.size) (hm : s.size ≤ 65536) :
    Calls Tryd.prog 79 #[.pointer (some ⟨R, 0, none⟩)] w fun e w' => RC R s w (fun (a : Nat) => .int .u8 (a : Int)) (rhalf s p) e w' := by
  have HR : Hid _ := h
  by_cases hps : s.size ≤ p
  · obtain rfl : p = s.size := by omega
    have HN : Hid _ := fun (_ : Unit) => next_end R s w h
    have HP : Hid (rhalf s s.size = .bad s.size 14) := by show _ = _; unfold rhalf; rw [if_pos (Nat.le_refl _)]
    clear h hps hp
    go_enter Tryd.func79, Tryd.ntmps79
    go_wp2_with (go_at_call 77; refine (HN.out ()).mono ?_)
    first | rintro e w' rfl hb | rintro e w' ⟨rfl, hb⟩
    simp only [FE]
    go_wp2
    refine ⟨rfl, ?_⟩
    show RC R s w _ (rhalf s s.size) _ _
    rw [HP.out]
    exact ⟨rfl, grown_of_below hb _⟩
  · have hlt : p < s.size := by omega
    have HN : Hid _ := fun (_ : Unit) => next_bt R s p w h hlt
    have hbl := bt_lt s p
    have hix := hex_index ⟨bt s p, hbl⟩
    simp only at hix
    have HIX : Hid (∀ W, Calls Tryd.prog 87 #[.string ⟨#[48, 49, 50, 51, 52, 53, 54, 55, 56, 57, 97, 98, 99, 100, 101, 102]⟩, .int .u8 (bt s p : Int)] W fun e w' => e = .returned (.int .i64 (if hv (bt s p) = 16 then -1 else (hv (bt s p) : Int))) ∧ w' = W) := fun W => by
      have := indexByte_any ⟨#[48, 49, 50, 51, 52, 53, 54, 55, 56, 57, 97, 98, 99, 100, 101, 102]⟩ (bt s p : Int) W
      rw [← hix]; exact this
    have hvl := hv_le (bt s p)
    by_cases hc : hv (bt s p) = 16
    · have HP : Hid (rhalf s p = .bad p 11) := by show _ = _; unfold rhalf; rw [if_neg hps, if_pos hc]
      rw [if_pos hc] at HIX
      clear h hps hp hc hix
      go_enter Tryd.func79, Tryd.ntmps79
      go_wp2_with (go_at_call 77; refine (HN.out ()).mono ?_)
      first | rintro e w3 rfl hb3 | rintro e w3 ⟨rfl, hb3⟩
      have h3 := HR.out.below hb3 HR.out.lt
      have HF : Hid _ := fun (_ : Unit) => fail_any R s p 11 w3 h3
      have HG : Hid (w.grownBy w3 (some R)) := grown_of_below hb3 _
      clear h3 hb3
      go_wp2_with (first | (go_at_call 87; refine (HIX.out _).mono ?_; rintro e w5 ⟨rfl, rfl⟩) | (go_at_call 59; refine (HF.out ()).mono ?_))
      first | rintro e w4 rfl rfl | rintro e w4 ⟨rfl, rfl⟩
      simp only [FE]
      go_wp2
      refine ⟨rfl, ?_⟩
      show RC R s w _ (rhalf s p) _ _
      rw [HP.out]
      exact ⟨rfl, HG.out⟩
    · have HP : Hid (rhalf s p = .ok (hv (bt s p)) (p + 1)) := by show _ = _; unfold rhalf; rw [if_neg hps, if_neg hc]
      rw [if_neg hc] at HIX
      have hk1 : (p : Int) ≤ 65536 := by omega
      obtain ⟨v, hv'⟩ : ∃ v, hv (bt s p) = v := ⟨_, rfl⟩
      rw [hv'] at HIX HP hvl
      have hvn : ¬ (v : Int) < 0 := by omega
      have hv16 : (v : Int) ≤ 16 := by omega
      clear h hps hp hc hix hv' hvl hbl
      go_enter Tryd.func79, Tryd.ntmps79
      go_wp2_with (go_at_call 77; refine (HN.out ()).mono ?_)
      first | rintro e w3 rfl hb3 | rintro e w3 ⟨rfl, hb3⟩
      have h3 := HR.out.below hb3 HR.out.lt
      have q0 := h3.text
      have q1 := h3.at'
      have q2 := h3.fz
      have HF : Hid (RdAt (w3.setCell ⟨R, 1, none⟩ (.int .i64 ((p : Int) + 1))) R s (p + 1) ∧ w.grownBy (w3.setCell ⟨R, 1, none⟩ (.int .i64 ((p : Int) + 1))) (some R)) := ⟨h3.put (p + 1), grown_tr (grown_of_below hb3 _) (grown_set _ _ _ _)⟩
      clear h3 hb3
      go_wp2_with (go_at_call 87; refine (HIX.out _).mono ?_)
      first | rintro e w5 rfl rfl | rintro e w5 ⟨rfl, rfl⟩
      have hw8 : IntKind.u8.wrap (v : Int) = (v : Int) := by rw [IntKind.wrap_u8]; omega
      obtain ⟨x, hx⟩ : ∃ x : Int, (v : Int) = x := ⟨_, rfl⟩
      have HX : Hid _ := hx
      rw [hx] at hv16 hvn hw8
      rw [hx]
      clear hx
      clear hm hlt
      go_wp2
      go_ret
      show RC R s w _ (rhalf s p) _ _
      rw [HP.out]
      exact ⟨by show _ = Ending.returned (.int .u8 (v : Int)); rw [HX.out]; rfl, HF.out⟩
end
section
open Go.RowKit Go.Shelf

/-- Up to where a reader has read. -/
def pos (R : Nat) (W : World) : Nat := match W.cell? ⟨R, 1, none⟩ with | some (.int _ k) => k.toNat | _ => 0
theorem RdAt.pos {W : World} {R : Nat} {s : ByteArray} {k : Nat} (h : RdAt W R s k) : Go.Proofs.YtlnlkbkmnkjbhaaDoor.pos R W = k := by unfold Go.Proofs.YtlnlkbkmnkjbhaaDoor.pos; rw [h.at']; simp
theorem pow_le6 : ∀ k : Nat, k ≤ 6 → 10 ^ k ≤ 1000000 := by
  intro k hk
  have h : ∀ k : Fin 7, 10 ^ k.val ≤ 1000000 := by decide
  exact h ⟨k, by omega⟩
theorem digit_any (c : Nat) (hc : c < 256) (w : World) : Calls Tryd.prog 78 #[.int .u8 (c : Int)] w fun e w' => e = .returned (.bool (digq c)) ∧ w' = w := by
  have h := isDigit_any (UInt8.ofNat c) w
  have e : (UInt8.ofNat c).toNat = c := by rw [UInt8.toNat_ofNat']; omega
  rw [e] at h
  exact h
/-- While digits are read. -/
structure NI (w : World) (R : Nat) (s : ByteArray) (p q m : Nat) (W : World) : Prop where
  rd : RdAt W R s q
  gr : w.grownBy W (some R)
  lo : p ≤ q
  hi : q ≤ s.size
  six : q - p ≤ 6
  bnd : m < 10 ^ (q - p)
  eq : rnum s p (8 - (q - p)) q m = rnum s p 8 p 0
theorem NI.at_end {w : World} {R : Nat} {s : ByteArray} {p q m : Nat} {W : World} (h : NI w R s p q m W) (hs : s.size ≤ q) : rnum s p 8 p 0 = .bad q 14 := by
  rw [← h.eq]
  have := h.six
  obtain ⟨f, hf⟩ : ∃ f, 8 - (q - p) = f + 1 := ⟨7 - (q - p), by omega⟩
  rw [hf, rnum, if_pos hs]
theorem NI.at_stop {w : World} {R : Nat} {s : ByteArray} {p q m : Nat} {W : World} (h : NI w R s p q m W) (hs : q < s.size) (hd : digq (bt s q) = false) : rnum s p 8 p 0 = .ok m q := by
  rw [← h.eq]
  have := h.six
  obtain ⟨f, hf⟩ : ∃ f, 8 - (q - p) = f + 1 := ⟨7 - (q - p), by omega⟩
  rw [hf, rnum, if_neg (by omega), if_pos hd]
theorem NI.at_bad {w : World} {R : Nat} {s : ByteArray} {p q m : Nat} {W : World} (h : NI w R s p q m W) (hs : q < s.size) (hd : digq (bt s q) = true) (hb : q - p = 6 ∨ q - p > 0 ∧ m = 0) : rnum s p 8 p 0 = .bad q 11 := by
  rw [← h.eq]
  have := h.six
  obtain ⟨f, hf⟩ : ∃ f, 8 - (q - p) = f + 1 := ⟨7 - (q - p), by omega⟩
  rw [hf, rnum, if_neg (by omega), if_neg (by rw [hd]; simp), if_pos hb]
theorem NI.next {w : World} {R : Nat} {s : ByteArray} {p q m : Nat} {W W' : World} (h : NI w R s p q m W) (hs : q < s.size) (hd : digq (bt s q) = true) (hb : ¬ (q - p = 6 ∨ q - p > 0 ∧ m = 0)) (hr : RdAt W' R s (q + 1)) (hg : w.grownBy W' (some R)) : NI w R s p (q + 1) (10 * m + (bt s q - 48)) W' := by
  have h6 := h.six
  have hlo := h.lo
  have hbd := h.bnd
  have hb6 : q - p ≠ 6 := fun e => hb (.inl e)
  have hdd : bt s q ≤ 57 := by
    unfold digq at hd; simp only [Bool.and_eq_true, decide_eq_true_eq] at hd; exact hd.2
  refine ⟨hr, hg, by omega, hs, by omega, ?_, ?_⟩
  · rw [show q + 1 - p = (q - p) + 1 by omega, Nat.pow_succ]; omega
  · rw [← h.eq]
    obtain ⟨f, hf⟩ : ∃ f, 8 - (q - p) = f + 1 := ⟨7 - (q - p), by omega⟩
    rw [hf, show 8 - (q + 1 - p) = f by omega, rnum, if_neg (by omega), if_neg (by rw [hd]; simp), if_neg hb]
set_option maxRecDepth 100000 in
set_option maxHeartbeats 4000000 in
theorem number_any (R : Nat) (s : ByteArray) (p : Nat) (w : World) (h : RdAt w R s p) (hp : p ≤ s.size) (hm : s.size ≤ 65536) :
    Calls Tryd.prog 80 #[.pointer (some ⟨R, 0, none⟩)] w fun e w' => RC R s w (fun (a : Nat) => .int .i64 (a : Int)) (rnum s p 8 p 0) e w' := by
  have h1 := h.at'
  have HST : Hid (NI w R s p p 0 w) := ⟨h, grown_refl _ _, Nat.le_refl _, hp, by omega, by simp, by simp⟩
  have HM : Hid _ := hm
  clear h hp hm
  go_enter Tryd.func80, Tryd.ntmps80
  go_wp2
  go_loopw [3] (fun n W => ∃ q m : Nat, n = .int .i64 (m : Int) ∧ NI w R s p q m W) (fun _ W => s.size - pos R W)
  case atStart => exact ⟨p, 0, rfl, HST.out⟩
  case round =>
    obtain ⟨q, m, rfl, hI⟩ := hrel
    have HI : Hid _ := hI
    by_cases hqs : s.size ≤ q
    · have hqe : q = s.size := by have := hI.hi; omega
      have HN : Hid _ := fun (_ : Unit) => next_end R s wr (by rw [← hqe]; exact hI.rd)
      have HP : Hid (rnum s p 8 p 0 = .bad s.size 14) := by show _ = _; rw [hI.at_end hqs, hqe]
      clear hI hqs hqe h1
      go_wp2_with (go_at_call 77; refine (HN.out ()).mono ?_)
      first | rintro e w' rfl hb | rintro e w' ⟨rfl, hb⟩
      have HG : Hid _ := grown_tr HI.out.gr (grown_of_below hb (some R))
      clear hb
      simp only [FE]
      go_wp2
      refine ⟨rfl, ?_⟩
      show RC R s w _ (rnum s p 8 p 0) _ _
      rw [HP.out]
      exact ⟨rfl, HG.out⟩
    · have hlt : q < s.size := by omega
      have HN : Hid (∀ W, RdAt W R s q → _) := fun W h => next_bt R s q W h hlt
      have hbl := bt_lt s q
      have HD : Hid (∀ W, _) := fun W => digit_any (bt s q) hbl W
      have HMS : Hid (pos R wr = q) := hI.rd.pos
      cases hd : digq (bt s q) with
      | false =>
        rw [hd] at HD
        have HP : Hid _ := hI.at_stop hlt hd
        clear hI hqs hd h1
        go_wp2_with (go_at_call 77; refine (HN.out _ HI.out.rd).mono ?_)
        first | rintro e w3 rfl hb3 | rintro e w3 ⟨rfl, hb3⟩
        have HF : Hid (RdAt w3 R s q ∧ w.grownBy w3 (some R)) := ⟨HI.out.rd.below hb3 HI.out.rd.lt, grown_tr HI.out.gr (grown_of_below hb3 _)⟩
        clear hb3
        go_wp2_with (go_at_call 78; refine (HD.out _).mono ?_; rintro e w4 ⟨rfl, rfl⟩)
        go_ret
        show RC R s w _ (rnum s p 8 p 0) _ _
        rw [HP.out]
        exact ⟨rfl, HF.out⟩
      | true =>
        rw [hd] at HD
        obtain ⟨k, hk⟩ : ∃ k, q - p = k := ⟨_, rfl⟩
        have hlo := hI.lo
        have h6 := hI.six
        have hbd := hI.bnd
        have hpw := pow_le6 (q - p) h6
        have hm6 : m < 1000000 := by omega
        have hkI : (q : Int) - (p : Int) = (k : Int) := by omega
        have hk6 : k ≤ 6 := by omega
        have hq6 : (q : Int) ≤ 65536 := by have := HM.out; omega
        have hcd : 48 ≤ bt s q ∧ bt s q ≤ 57 := by
          unfold digq at hd; simp only [Bool.and_eq_true, decide_eq_true_eq] at hd; exact hd
        have HF : Hid (∀ W, RdAt W R s q → _) := fun W h => fail_any R s q 11 W h
        obtain ⟨c, hc⟩ : ∃ c, bt s q - 48 = c := ⟨_, rfl⟩
        have hcI : (bt s q : Int) - 48 = (c : Int) := by omega
        have hc9 : c ≤ 9 := by omega
        have HNI : Hid (¬ (q - p = 6 ∨ q - p > 0 ∧ m = 0) → ∀ W', RdAt W' R s (q + 1) → w.grownBy W' (some R) → NI w R s p (q + 1) (10 * m + c) W') := fun hb W' hr hg => by
          have := HI.out.next hlt hd hb hr hg
          rw [hc] at this; exact this
        have HBAD : Hid ((q - p = 6 ∨ q - p > 0 ∧ m = 0) → rnum s p 8 p 0 = .bad q 11) := fun hb => HI.out.at_bad hlt hd hb
        have HLT : Hid _ := hlt
        clear hI hd hpw hbd hlo h6 hqs h1 hcd hc hlt
        by_cases k6 : k = 6
        · have HP : Hid _ := HBAD.out (.inl (by omega))
          have e6 : ((k : Int) == 6) = true := by simp; omega
          clear k6 hk hm6 hc9
          go_wp2_with (go_at_call 77; refine (HN.out _ HI.out.rd).mono ?_)
          first | rintro e w3 rfl hb3 | rintro e w3 ⟨rfl, hb3⟩
          have h3 := HI.out.rd.below hb3 HI.out.rd.lt
          have g3 := grown_tr HI.out.gr (grown_of_below hb3 (some R))
          have q1 := h3.at'
          have HR3 : Hid _ := h3
          have HG3 : Hid _ := g3
          clear h3 g3 hb3
          go_wp2_with (go_at_call 78; refine (HD.out _).mono ?_; rintro e w4 ⟨rfl, rfl⟩)
          refine (HF.out _ HR3.out).mono ?_
          first | rintro e w4 rfl rfl | rintro e w4 ⟨rfl, rfl⟩
          simp only [FE]
          go_wp2
          refine ⟨rfl, ?_⟩
          show RC R s w _ (rnum s p 8 p 0) _ _
          rw [HP.out]
          exact ⟨rfl, HG3.out⟩
        · have e6 : ((k : Int) == 6) = false := by simp; omega
          by_cases k0 : k = 0
          · have HNI := HNI.out (by omega)
            replace HNI : Hid _ := HNI
            have e0 : decide ((0 : Int) < (k : Int)) = false := by simp; omega
            have e0' : ¬ (0 : Int) < (k : Int) := by omega
            clear k6 k0 hk
            go_wp2_with (go_at_call 77; refine (HN.out _ HI.out.rd).mono ?_)
            first | rintro e w3 rfl hb3 | rintro e w3 ⟨rfl, hb3⟩
            have h3 := HI.out.rd.below hb3 HI.out.rd.lt
            have g3 := grown_tr HI.out.gr (grown_of_below hb3 (some R))
            have q1 := h3.at'
            have HR3 : Hid _ := h3
            have HG3 : Hid _ := g3
            clear h3 g3 hb3
            go_wp2_with (go_at_call 78; refine (HD.out _).mono ?_; rintro e w4 ⟨rfl, rfl⟩)
            refine (HN.out _ HR3.out).mono ?_
            first | rintro e w5 rfl hb5 | rintro e w5 ⟨rfl, hb5⟩
            have h5 := HR3.out.below hb5 HR3.out.lt
            have g5 := grown_tr HG3.out (grown_of_below hb5 (some R))
            have r1 := h5.at'
            have r2 := h5.fz
            have HNX : Hid (NI w R s p (q + 1) (10 * m + c) (w5.setCell ⟨R, 1, none⟩ (.int .i64 ((q : Int) + 1)))) := HNI.out _ (h5.put (q + 1)) (grown_tr g5 (grown_set _ _ _ _))
            clear h5 g5 hb5 q1
            go_wp2
            go_roundw
            case rel => exact ⟨q + 1, 10 * m + c, by go_num, HNX.out⟩
            case measure => rw [HNX.out.rd.pos, HMS.out]; have := HLT.out; omega
          · have e0 : decide ((0 : Int) < (k : Int)) = true := by simp; omega
            have e0' : (0 : Int) < (k : Int) := by omega
            by_cases hm0 : m = 0
            · have HP : Hid _ := HBAD.out (.inr ⟨by omega, hm0⟩)
              have em : ((m : Int) == 0) = true := by simp [hm0]
              clear k6 k0 hk hm0
              go_wp2_with (go_at_call 77; refine (HN.out _ HI.out.rd).mono ?_)
              first | rintro e w3 rfl hb3 | rintro e w3 ⟨rfl, hb3⟩
              have h3 := HI.out.rd.below hb3 HI.out.rd.lt
              have g3 := grown_tr HI.out.gr (grown_of_below hb3 (some R))
              have q1 := h3.at'
              have HR3 : Hid _ := h3
              have HG3 : Hid _ := g3
              clear h3 g3 hb3
              go_wp2_with (go_at_call 78; refine (HD.out _).mono ?_; rintro e w4 ⟨rfl, rfl⟩)
              refine (HF.out _ HR3.out).mono ?_
              first | rintro e w4 rfl rfl | rintro e w4 ⟨rfl, rfl⟩
              simp only [FE]
              go_wp2
              refine ⟨rfl, ?_⟩
              show RC R s w _ (rnum s p 8 p 0) _ _
              rw [HP.out]
              exact ⟨rfl, HG3.out⟩
            · have HNI := HNI.out (by omega)
              replace HNI : Hid _ := HNI
              have em : ((m : Int) == 0) = false := by simp [hm0]
              clear k6 k0 hk hm0
              go_wp2_with (go_at_call 77; refine (HN.out _ HI.out.rd).mono ?_)
              first | rintro e w3 rfl hb3 | rintro e w3 ⟨rfl, hb3⟩
              have h3 := HI.out.rd.below hb3 HI.out.rd.lt
              have g3 := grown_tr HI.out.gr (grown_of_below hb3 (some R))
              have q1 := h3.at'
              have HR3 : Hid _ := h3
              have HG3 : Hid _ := g3
              clear h3 g3 hb3
              go_wp2_with (go_at_call 78; refine (HD.out _).mono ?_; rintro e w4 ⟨rfl, rfl⟩)
              refine (HN.out _ HR3.out).mono ?_
              first | rintro e w5 rfl hb5 | rintro e w5 ⟨rfl, hb5⟩
              have h5 := HR3.out.below hb5 HR3.out.lt
              have g5 := grown_tr HG3.out (grown_of_below hb5 (some R))
              have r1 := h5.at'
              have r2 := h5.fz
              have HNX : Hid (NI w R s p (q + 1) (10 * m + c) (w5.setCell ⟨R, 1, none⟩ (.int .i64 ((q : Int) + 1)))) := HNI.out _ (h5.put (q + 1)) (grown_tr g5 (grown_set _ _ _ _))
              clear h5 g5 hb5 q1
              go_wp2
              go_roundw
              case rel => exact ⟨q + 1, 10 * m + c, by go_num, HNX.out⟩
              case measure => rw [HNX.out.rd.pos, HMS.out]; have := HLT.out; omega
end
section
open Go.RowKit Go.Shelf

theorem rhalf_pos {s : ByteArray} {p a q : Nat} (h : rhalf s p = .ok a q) : q = p + 1 ∧ q ≤ s.size ∧ a < 16 := by
  unfold rhalf at h
  split at h
  · cases h
  · split at h
    · cases h
    · have := hv_le (bt s p)
      cases h; exact ⟨rfl, by omega, by omega⟩
theorem rleaf_pos {s : ByteArray} {p q : Nat} {d : Tr} (h : rleaf s p = .ok d q) : q = p + 2 ∧ q ≤ s.size ∧ d.kids = [] := by
  unfold rleaf at h
  split at h
  · cases h
  · split at h
    · cases h
    · rename_i h1 _ _ _ h2
      have a := rhalf_pos h1
      have b := rhalf_pos h2
      cases h
      exact ⟨by omega, by omega, rfl⟩
theorem rnum_pos {s : ByteArray} {fr : Nat} : ∀ {f p n m q : Nat}, rnum s fr f p n = .ok m q → p ≤ q ∧ q < s.size := by
  intro f
  induction f with
  | zero => intro p n m q h; cases h
  | succ f ih =>
    intro p n m q h
    rw [rnum] at h
    split at h
    · cases h
    · split at h
      · cases h; exact ⟨Nat.le_refl _, by omega⟩
      · split at h
        · cases h
        · have := ih h; exact ⟨by omega, this.2⟩
theorem rwant_pos {s : ByteArray} {p c q : Nat} {u : Unit} (h : rwant s p c = .ok u q) : q = p + 1 ∧ q ≤ s.size := by
  unfold rwant at h
  split at h
  · cases h
  · split at h
    · cases h; exact ⟨rfl, by omega⟩
    · cases h
theorem rt_rk_pos (s : ByteArray) : ∀ f, (∀ p m d q, rt s f p m = .ok d q → p < q ∧ q ≤ s.size) ∧ (∀ p m l l' q, rk s f p m l = .ok l' q → p < q ∧ q ≤ s.size) := by
  intro f
  induction f with
  | zero => exact ⟨fun p m d q h => (by rw [rt] at h; cases h), fun p m l l' q h => (by rw [rk] at h; cases h)⟩
  | succ f ih =>
    refine ⟨fun p m d q h => ?_, fun p m l l' q h => ?_⟩
    · rw [rt] at h
      split at h
      · cases h
      split at h
      · cases h
      split at h
      · cases h
      split at h
      · have := rleaf_pos h; omega
      split at h
      · cases h
      rename_i hn
      split at h
      · cases h
      rename_i hw
      split at h
      · cases h
      rename_i hk
      have a := rnum_pos hn
      have b := rwant_pos hw
      have c := ih.2 _ _ _ _ _ hk
      cases h
      exact ⟨by omega, c.2⟩
    · rw [rk] at h
      split at h
      · cases h
      split at h
      · cases h; exact ⟨by omega, by omega⟩
      split at h
      · cases h
      rename_i hw
      split at h
      · cases h
      rename_i ht
      have hq : ∀ {u : Unit} {q' : Nat}, (if l = [] then PR.ok () p else rwant s p 32) = .ok u q' → p ≤ q' := fun hh => by
        split at hh
        · cases hh; exact Nat.le_refl _
        · have := rwant_pos hh; omega
      have a := hq hw
      have b := ih.1 _ _ _ _ ht
      have c := ih.2 _ _ _ _ _ h
      exact ⟨by omega, c.2⟩
/-- What reading a tree comes to. -/
def TPost (R : Nat) (s : ByteArray) (f : Nat) (w : World) : PR Tr → Ending → World → Prop
  | .ok d q, e, w' => (∃ va vc, e = .returned (.agg #[.int .i64 d.rule, .int .u8 (d.byte.toNat : Int), .slice va d.kids.length vc]) ∧ d.kids.length ≤ vc ∧ TIn w' (fun b => w.heap.size ≤ b ∧ b < w'.heap.size) f va d.kids) ∧ RdAt w' R s q ∧ w.grownBy w' (some R)
  | .bad q c, e, w' => e = FE q c ∧ w.grownBy w' (some R)
/-- What reading kids comes to. -/
def KPost (R : Nat) (s : ByteArray) (f : Nat) (w : World) : PR (List Tr) → Ending → World → Prop
  | .ok l q, e, w' => (∃ v xs, e = .returned v ∧ w'.ownsRow w.heap.size 27 3 v l.length xs ∧ Cx f w.heap.size w' v l xs ∧ l.length ≤ 65536) ∧ RdAt w' R s q ∧ w.grownBy w' (some R)
  | .bad q c, e, w' => e = FE q c ∧ w.grownBy w' (some R)
def TCalls (R : Nat) (s : ByteArray) (f p m : Nat) (w : World) : Prop := Calls Tryd.prog 58 #[.pointer (some ⟨R, 0, none⟩), .int .i64 (m : Int)] w fun e w' => TPost R s f w (rt s f p m) e w'
theorem TIn.le {w : World} {U : Nat → Prop} {f : Nat} {a : Option Addr} {l : List Tr} (h : TIn w U f a l) : ∀ k, TIn w U (f + k) a l := by
  intro k
  induction k with
  | zero => exact h
  | succ k ih => exact ih.up
end
end Go.Proofs.YtlnlkbkmnkjbhaaDoor
