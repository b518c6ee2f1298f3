/- A term's text, read: where it stands, blanks, the next byte. -/
import Derived.Test.YtlkcadibjmfmcaaDoorQa
import Derived.Shelf.Strings.SlTrimAscii
import Derived.Defers
import Derived.Recover
import Derived.BigRegion
namespace Go.Proofs.YtlkcadibjmfmcaaDoor
open Go.RowKit

/-- What is read up to a place, or a fault at a place. -/
inductive PR (α : Type) where
  | ok (a : α) (at' : Nat)
  | bad (at' code : Nat)
def blq (n : Nat) : Bool := n == 32 || n == 9 || n == 10 || n == 13
/-- The place behind blanks. -/
def skp (s : ByteArray) (p : Nat) : Nat := p + lspan blq (s.data.toList.drop p)
theorem skp_ge (s : ByteArray) (p : Nat) : p ≤ skp s p := by unfold skp; omega
theorem skp_le (s : ByteArray) (p : Nat) (h : p ≤ s.size) : skp s p ≤ s.size := by
  have := lspan_le blq (s.data.toList.drop p)
  rw [List.length_drop, list_len] at this
  unfold skp; omega
theorem blq_mem : ∀ c : Fin 256, ([32, 9, 10, 13] : List UInt8).contains (UInt8.ofNat c.val) = blq c.val := by decide +kernel
theorem blq_mem' (c : UInt8) : ([32, 9, 10, 13] : List UInt8).contains c = blq c.toNat := by
  have := blq_mem ⟨c.toNat, UInt8.toNat_lt _⟩
  simpa using this
theorem drop_span (l : List UInt8) : (Lib.trimLeftS l [32, 9, 10, 13]).length = l.length - lspan blq l := by
  unfold Lib.trimLeftS
  induction l with
  | nil => rfl
  | cons c l ih =>
    rw [List.dropWhile_cons, lspan, blq_mem' c]
    cases h : blq c.toNat with
    | true =>
      have := lspan_le blq l
      simp only [if_true, ih, List.length_cons]; omega
    | false => simp
theorem trim_any (s : ByteArray) (w : World) : Calls Tryd.prog 72 #[.string s, .string ⟨#[32, 9, 10, 13]⟩] w fun e w' => e = .returned (.string ⟨(Lib.trimLeftS s.data.toList [32, 9, 10, 13]).toArray⟩) ∧ Below w.heap.size w w' :=
  Any.strings_TrimLeft_ascii lays161 (fun _ => by kernel_rfl) (by kernel_rfl) s ⟨#[32, 9, 10, 13]⟩ w (by decide) (fun j b hb => by
    match j, hb with
    | 0, hb => cases hb; decide
    | 1, hb => cases hb; decide
    | 2, hb => cases hb; decide
    | 3, hb => cases hb; decide)
/-- A reader in memory: its text, and up to where it was read. -/
structure RdAt (W : World) (R : Nat) (s : ByteArray) (k : Nat) : Prop where
  text : W.cell? ⟨R, 0, none⟩ = some (.string s)
  at' : W.cell? ⟨R, 1, none⟩ = some (.int .i64 (k : Int))
  fz : W.frozen? ⟨R, 1, none⟩ = false
  lt : R < W.heap.size
theorem RdAt.below {W W' : World} {R : Nat} {s : ByteArray} {k B : Nat} (h : RdAt W R s k) (hb : Below B W W') (hR : R < B) : RdAt W' R s k :=
  ⟨(hb.cell (p := ⟨R, 0, none⟩) hR).trans h.text, (hb.cell (p := ⟨R, 1, none⟩) hR).trans h.at', (hb.frozen (p := ⟨R, 1, none⟩) hR).trans h.fz, Nat.lt_of_lt_of_le h.lt hb.size⟩
theorem RdAt.put {W : World} {R : Nat} {s : ByteArray} {k : Nat} (h : RdAt W R s k) (m : Nat) : RdAt (W.setCell ⟨R, 1, none⟩ (.int .i64 (m : Int))) R s m :=
  ⟨(World.cell?_setCell_other _ _ _ _ (by simp)).trans h.text, World.cell?_setCell_same' _ _ _ (by rw [h.at']; rfl), (World.frozen?_setCell _ _ _ _).trans h.fz, by have := h.lt; simp [World.setCell]; exact this⟩
theorem RdAt.grown {W W' : World} {R B : Nat} {s : ByteArray} {k : Nat} (h : RdAt W R s k) (hg : W.grownBy W' (some B)) (hne : R ≠ B) : RdAt W' R s k := by
  have hb := hg.block R h.lt (by simpa using hne)
  exact ⟨(World.cell?_of_block (a := ⟨R, 0, none⟩) hb).trans h.text, (World.cell?_of_block (a := ⟨R, 1, none⟩) hb).trans h.at', (World.frozen?_of_block (a := ⟨R, 1, none⟩) hb).trans h.fz, Nat.lt_of_lt_of_le h.lt hg.size⟩
theorem grown_tr {w X Y : World} {R : Option Nat} (h : w.grownBy X R) (k : X.grownBy Y R) : w.grownBy Y R :=
  ⟨k.os.trans h.os, k.tape.trans h.tape, k.output.trans h.output, Nat.le_trans h.size k.size, fun b hb hne => (k.block b (Nat.lt_of_lt_of_le hb h.size) hne).trans (h.block b hb hne)⟩
theorem grown_of_below {w W : World} (h : Below w.heap.size w W) (R : Option Nat) : w.grownBy W R := ⟨h.os, h.tape, h.output, h.size, fun b hb _ => h.block b hb⟩
theorem grown_refl (w : World) (R : Option Nat) : w.grownBy w R := ⟨rfl, rfl, rfl, Nat.le_refl _, fun _ _ _ => rfl⟩
/-- A fault at a place, given up with. -/
def FE (p c : Nat) : Ending := .panicked [{ v := .iface 44 (.agg #[.int .i64 (p : Int), .int .i64 (c : Int)]), recovered := false }]
set_option maxRecDepth 100000 in
set_option maxHeartbeats 4000000 in
theorem fail_any (R : Nat) (p c : Nat) (w : World) : Calls Tryd.prog 53 #[.pointer (some ⟨R, 0, none⟩), .int .i64 (p : Int), .int .i64 (c : Int)] w fun e w' => e = FE p c ∧ w' = w := by
  have hpn : ∀ (t : TypeId) (v : Value) (w : World), (Instr.panic (.iface t v)).run Tryd.prog w = .halt (.panic (.iface t v)) w := fun _ _ _ => rfl
  go_enter Tryd.func53, Tryd.ntmps53
  go_wp2
  refine ⟨rfl, ?_⟩
  exact ⟨rfl, rfl⟩
/-- What comes of reading: a value and the place behind it, or a fault. -/
def RC {α : Type} (R : Nat) (s : ByteArray) (w : World) (enc : α → Value) : PR α → Ending → World → Prop
  | .ok a q, e, w' => e = .returned (enc a) ∧ RdAt w' R s q ∧ w.grownBy w' (some R)
  | .bad q c, e, w' => e = FE q c ∧ w.grownBy w' (some R)
def rbound (p m : Nat) : PR Unit := if 200 < m then .bad p 2 else .ok () p
set_option maxRecDepth 100000 in
set_option maxHeartbeats 4000000 in
theorem bound_any (R : Nat) (s : ByteArray) (p m : Nat) (w : World) (h : RdAt w R s p) :
    Calls Tryd.prog 85 #[.pointer (some ⟨R, 0, none⟩), .int .i64 (m : Int)] w fun e w' => if 200 < m then e = FE p 2 ∧ w' = w else e = .returned (.tuple #[]) ∧ w' = w := by
  have h1 := h.at'
  have HF : Hid (∀ W, _) := fun W => fail_any R p 2 W
  by_cases hm : 200 < m
  · simp only [if_pos hm]
    have hmI : (200 : Int) < (m : Int) := by omega
    clear h hm
    go_enter Tryd.func85, Tryd.ntmps85
    go_wp2_with (go_at_call 53; refine (HF.out _).mono ?_)
    first | rintro e w4 rfl rfl | rintro e w4 ⟨rfl, rfl⟩
    simp only [FE]
    go_wp2
    refine ⟨rfl, ?_⟩
    exact ⟨rfl, rfl⟩
  · simp only [if_neg hm]
    have hmI : ¬ (200 : Int) < (m : Int) := by omega
    clear h hm
    go_enter Tryd.func85, Tryd.ntmps85
    go_wp2
    go_end0
    exact ⟨rfl, rfl⟩
def rsign (p m : Nat) : PR Unit := if 200 < m then .bad p 2 else .ok () (p + 1)
set_option maxRecDepth 100000 in
set_option maxHeartbeats 4000000 in
theorem sign_any (R : Nat) (s : ByteArray) (p m : Nat) (w : World) (h : RdAt w R s p) (hp : p ≤ 65536) :
    Calls Tryd.prog 68 #[.pointer (some ⟨R, 0, none⟩), .int .i64 (m : Int)] w fun e w' => RC R s w (fun _ => .tuple #[]) (rsign p m) e w' := by
  have hb := bound_any R s p m w h
  have h1 := h.at'
  have h2 := h.fz
  have hp' : (p : Int) ≤ 65536 := by omega
  have HR : Hid _ := h
  unfold rsign
  by_cases hm : 200 < m
  · rw [if_pos hm]
    simp only [if_pos hm] at hb
    have HB : Hid _ := fun (_ : Unit) => hb
    clear h hm hb
    go_enter Tryd.func68, Tryd.ntmps68
    go_wp2_with (go_at_call 85; refine (HB.out ()).mono ?_)
    first | rintro e w4 rfl rfl | rintro e w4 ⟨rfl, rfl⟩
    simp only [FE]
    go_wp2
    refine ⟨rfl, ?_⟩
    exact ⟨rfl, grown_refl _ _⟩
  · rw [if_neg hm]
    simp only [if_neg hm] at hb
    have HB : Hid _ := fun (_ : Unit) => hb
    have HF : Hid (RdAt (w.setCell ⟨R, 1, none⟩ (.int .i64 ((p : Int) + 1))) R s (p + 1) ∧ w.grownBy (w.setCell ⟨R, 1, none⟩ (.int .i64 ((p : Int) + 1))) (some R)) := ⟨h.put (p + 1), grown_set _ _ _ _⟩
    clear h hm hb
    go_enter Tryd.func68, Tryd.ntmps68
    go_wp2_with (go_at_call 85; refine (HB.out ()).mono ?_; rintro e w4 ⟨rfl, rfl⟩)
    go_end0
    exact ⟨rfl, HF.out⟩
set_option maxRecDepth 100000 in
set_option maxHeartbeats 4000000 in
theorem skip_any (R : Nat) (s : ByteArray) (p : Nat) (w : World) (h : RdAt w R s p) (hp : p ≤ s.size) (hm : s.size ≤ 65536) :
    Calls Tryd.prog 52 #[.pointer (some ⟨R, 0, none⟩)] w fun e w' => e = .returned (.tuple #[]) ∧ RdAt w' R s (skp s p) ∧ w.grownBy w' (some R) := by
  have h0 := h.text
  have h1 := h.at'
  have hpI : (p : Int) ≤ (s.size : Int) := by omega
  have ht : (⟨(Lib.trimLeftS (s.extract p s.size).data.toList [32, 9, 10, 13]).toArray⟩ : ByteArray).size = s.size - skp s p := by
    show (List.toArray _).size = _
    rw [List.size_toArray, drop_span, extract_post, List.length_drop, list_len]
    unfold skp; omega
  have hrs : (s.extract p s.size).size = s.size - p := by simp
  have HTT : Hid (∀ W, _) := fun W => trim_any (s.extract p s.size) W
  have hge := skp_ge s p
  have hle := skp_le s p hp
  obtain ⟨tr, htr⟩ : ∃ tr, (⟨(Lib.trimLeftS (s.extract p s.size).data.toList [32, 9, 10, 13]).toArray⟩ : ByteArray) = tr := ⟨_, rfl⟩
  rw [htr] at ht HTT
  obtain ⟨rs, hrr⟩ : ∃ rs, s.extract p s.size = rs := ⟨_, rfl⟩
  rw [hrr] at HTT hrs
  have HT : Hid (∀ W, Calls Tryd.prog 72 #[.string rs, .string ⟨#[32, 9, 10, 13]⟩] W fun e w' => e = .returned (.string tr) ∧ Below W.heap.size W w') := HTT.out
  have hw1 : IntKind.i64.wrap ((rs.size : Int) - (tr.size : Int)) = ((skp s p - p : Nat) : Int) := by rw [IntKind.wrap_i64]; omega
  have hw2 : IntKind.i64.wrap ((p : Int) + ((skp s p - p : Nat) : Int)) = ((skp s p : Nat) : Int) := by rw [IntKind.wrap_i64]; omega
  have HRR : Hid _ := hrr
  have hR := h.lt
  have HQ : Hid (∀ W, Below w.heap.size w W → W.cell? ⟨R, 1, none⟩ = some (.int .i64 (p : Int)) ∧ W.frozen? ⟨R, 1, none⟩ = false) := fun W hb => ⟨(h.below hb hR).at', (h.below hb hR).fz⟩
  have HF : Hid (∀ W, Below w.heap.size w W → RdAt (W.setCell ⟨R, 1, none⟩ (.int .i64 (skp s p : Int))) R s (skp s p) ∧ w.grownBy (W.setCell ⟨R, 1, none⟩ (.int .i64 (skp s p : Int))) (some R)) := fun W hb => ⟨(h.below hb hR).put _, grown_tr (grown_of_below hb _) (grown_set _ _ _ _)⟩
  obtain ⟨k2, hk2⟩ : ∃ k, skp s p = k := ⟨_, rfl⟩
  obtain ⟨k1, hk1⟩ : ∃ k, k2 - p = k := ⟨_, rfl⟩
  simp only [hk2, hk1] at hw1 hw2 HF ⊢
  have hR0 := hR
  clear h HTT htr ht hrs hrr hge hle hk2 hk1
  go_enter Tryd.func52, Tryd.ntmps52
  go_wp2
  go_quiet (fail)
  rw [HRR.out]
  obtain ⟨W0, hW0⟩ : ∃ W0, (w.drewN nq).drew = W0 := ⟨_, rfl⟩
  have hB0 : Below w.heap.size w W0 := by rw [← hW0]; exact ⟨rfl, rfl, rfl, Nat.le_refl _, fun _ _ => rfl⟩
  obtain ⟨p1, p2⟩ := HQ.out W0 hB0
  go_wp2
  refine wp_region_held_drew (S := fun _ => True) (by kernel_rfl) trivial (fun hHeld => ?_)
  rw [hW0]
  refine wpAnyH_take (i := 0) (v := ?v1) rfl (by kernel_rfl) (by kernel_rfl) (by kernel_rfl) (fun _ _ _ h => h) (Or.inl ⟨by rfl, ?y1⟩) (by assumption) ?_
  case y1 => (intro w hSw; (try dsimp only at hSw); go_simp <;> with_reducible rfl)
  try simp only [Act.put, List.getElem_toArray, List.getElem_cons_zero, List.setIfInBounds_toArray, List.set_cons_zero, List.set_cons_succ]
  refine wpAnyH_take (i := 1) (v := ?v2) rfl (by kernel_rfl) (by kernel_rfl) (by kernel_rfl) (fun _ _ _ h => h) (Or.inl ⟨by rfl, ?y2⟩) (by assumption) ?_
  case y2 => (intro w hSw; (try dsimp only at hSw); go_simp <;> with_reducible rfl)
  try simp only [Act.put, List.getElem_toArray, List.getElem_cons_zero, List.getElem_cons_succ, List.setIfInBounds_toArray, List.set_cons_zero, List.set_cons_succ]
  refine wpAnyH_take (i := 2) (v := ?v3) rfl (by kernel_rfl) (by kernel_rfl) (by kernel_rfl) (fun _ _ _ h => h) (Or.inl ⟨by rfl, ?y3⟩) (by assumption) ?_
  case y3 => (intro w hSw; (try dsimp only at hSw); go_simp <;> with_reducible rfl)
  try simp only [Act.put, List.getElem_toArray, List.getElem_cons_zero, List.getElem_cons_succ, List.setIfInBounds_toArray, List.set_cons_zero, List.set_cons_succ]
  refine wpAnyH_take (i := 4) (v := ?v4) rfl (by kernel_rfl) (by kernel_rfl) (by kernel_rfl) (fun _ _ _ h => h) (Or.inl ⟨by rfl, ?y4⟩) (by assumption) ?_
  case y4 => (intro w hSw; (try dsimp only at hSw); go_simp <;> with_reducible rfl)
  try simp only [Act.put, List.getElem_toArray, List.getElem_cons_zero, List.getElem_cons_succ, List.setIfInBounds_toArray, List.set_cons_zero, List.set_cons_succ]
  refine wpAnyH_take (i := 5) (v := ?v5) rfl (by kernel_rfl) (by kernel_rfl) (by kernel_rfl) (fun _ _ _ h => h) (Or.inl ⟨by rfl, ?y5⟩) (by assumption) ?_
  case y5 => (intro w hSw; (try dsimp only at hSw); go_simp <;> with_reducible rfl)
  try simp only [Act.put, List.getElem_toArray, List.getElem_cons_zero, List.getElem_cons_succ, List.setIfInBounds_toArray, List.set_cons_zero, List.set_cons_succ]
  refine wpAnyH_take (i := 6) (v := ?v6) rfl (by kernel_rfl) (by kernel_rfl) (by kernel_rfl) (fun _ _ _ h => h) (Or.inl ⟨by rfl, ?y6⟩) (by assumption) ?_
  case y6 => (intro w hSw; (try dsimp only at hSw); go_simp <;> with_reducible rfl)
  try simp only [Act.put, List.getElem_toArray, List.getElem_cons_zero, List.getElem_cons_succ, List.setIfInBounds_toArray, List.set_cons_zero, List.set_cons_succ]
  refine wpAnyH_ready (rs := [3, 7]) (by kernel_rfl) (by simp) ?_
  refine (AllReadyH.cons rfl (fun K hK => ?_) (AllReadyH.cons rfl (fun K hK => ?_) AllReadyH.nil))
  · skip
    go_simp
    refine hK.out _ _ trivial (fun hHeld => ?_)
    clear hK K
    try simp only [Act.put, List.getElem_toArray, List.getElem_cons_zero, List.getElem_cons_succ, List.setIfInBounds_toArray, List.set_cons_zero, List.set_cons_succ]
    refine wpAnyH_ready (rs := [7]) (by kernel_rfl) (by simp) ?_
    refine (AllReadyH.cons rfl (fun K hK => ?_) AllReadyH.nil)
    go_simp
    go_at_call 72
    refine (HT.out _).mono ?_
    rintro e w2 ⟨rfl, hb2⟩
    have hB2 := hB0.trans (hb2.mono hB0.size)
    obtain ⟨q1, q2⟩ := HQ.out w2 hB2
    go_wp2_with fail
    refine hK.out _ _ trivial (fun hHeld => ?_)
    clear hK K
    try simp only [Act.put, List.getElem_toArray, List.getElem_cons_zero, List.getElem_cons_succ, List.setIfInBounds_toArray, List.set_cons_zero, List.set_cons_succ]
    refine wpAnyH_take (i := 8) (v := ?v7) rfl (by kernel_rfl) (by kernel_rfl) (by kernel_rfl) (fun _ _ _ h => h) (Or.inl ⟨by rfl, ?y7⟩) (by assumption) ?_
    case y7 => (intro w hSw; (try dsimp only at hSw); go_simp <;> with_reducible rfl)
    try simp only [Act.put, List.getElem_toArray, List.getElem_cons_zero, List.getElem_cons_succ, List.setIfInBounds_toArray, List.set_cons_zero, List.set_cons_succ]
    refine wpAnyH_take (i := 9) (v := ?v8) rfl (by kernel_rfl) (by kernel_rfl) (by kernel_rfl) (fun _ _ _ h => h) (Or.inl ⟨by rfl, ?y8⟩) (by assumption) ?_
    case y8 => (intro w hSw; (try dsimp only at hSw); go_simp <;> with_reducible rfl)
    try simp only [Act.put, List.getElem_toArray, List.getElem_cons_zero, List.getElem_cons_succ, List.setIfInBounds_toArray, List.set_cons_zero, List.set_cons_succ]
    refine wpAnyH_take (i := 10) (v := ?v9) rfl (by kernel_rfl) (by kernel_rfl) (by kernel_rfl) (fun _ _ _ h => h) (Or.inl ⟨by rfl, ?y9⟩) (by assumption) ?_
    case y9 => (intro w hSw; (try dsimp only at hSw); go_simp <;> with_reducible rfl)
    try simp only [Act.put, List.getElem_toArray, List.getElem_cons_zero, List.getElem_cons_succ, List.setIfInBounds_toArray, List.set_cons_zero, List.set_cons_succ]
    refine wpAnyH_take (i := 11) (v := ?v10) rfl (by kernel_rfl) (by kernel_rfl) (by kernel_rfl) (fun _ _ _ h => h) (Or.inl ⟨by rfl, ?y10⟩) (by assumption) ?_
    case y10 => (intro w hSw; (try dsimp only at hSw); go_simp <;> with_reducible rfl)
    try simp only [Act.put, List.getElem_toArray, List.getElem_cons_zero, List.getElem_cons_succ, List.setIfInBounds_toArray, List.set_cons_zero, List.set_cons_succ]
    refine wpAnyH_take (i := 12) (v := ?v11) rfl (by kernel_rfl) (by kernel_rfl) (by kernel_rfl) (fun _ _ _ h => h) (Or.inl ⟨by rfl, ?y11⟩) (by assumption) ?_
    case y11 => (intro w hSw; (try dsimp only at hSw); go_simp <;> with_reducible rfl)
    try simp only [Act.put, List.getElem_toArray, List.getElem_cons_zero, List.getElem_cons_succ, List.setIfInBounds_toArray, List.set_cons_zero, List.set_cons_succ]
    refine wpAnyH_ready (rs := [13]) (by kernel_rfl) (by simp) ?_
    refine (AllReadyH.cons rfl (fun K hK => ?_) AllReadyH.nil)
    go_simp
    refine hK.out _ _ trivial (fun hHeld => ?_)
    clear hK K
    try simp only [Act.put, List.getElem_toArray, List.getElem_cons_zero, List.getElem_cons_succ, List.setIfInBounds_toArray, List.set_cons_zero, List.set_cons_succ]
    refine wpAnyH_done (by kernel_rfl) ?_ _
    go_wp2
    go_end0
    exact ⟨rfl, HF.out w2 hB2⟩
  · skip
    go_simp
    go_at_call 72
    refine (HT.out _).mono ?_
    rintro e w2 ⟨rfl, hb2⟩
    have hB2 := hB0.trans (hb2.mono hB0.size)
    obtain ⟨q1, q2⟩ := HQ.out w2 hB2
    go_wp2_with fail
    refine hK.out _ _ trivial (fun hHeld => ?_)
    clear hK K
    try simp only [Act.put, List.getElem_toArray, List.getElem_cons_zero, List.getElem_cons_succ, List.setIfInBounds_toArray, List.set_cons_zero, List.set_cons_succ]
    refine wpAnyH_take (i := 8) (v := ?v12) rfl (by kernel_rfl) (by kernel_rfl) (by kernel_rfl) (fun _ _ _ h => h) (Or.inl ⟨by rfl, ?y12⟩) (by assumption) ?_
    case y12 => (intro w hSw; (try dsimp only at hSw); go_simp <;> with_reducible rfl)
    try simp only [Act.put, List.getElem_toArray, List.getElem_cons_zero, List.getElem_cons_succ, List.setIfInBounds_toArray, List.set_cons_zero, List.set_cons_succ]
    refine wpAnyH_take (i := 9) (v := ?v13) rfl (by kernel_rfl) (by kernel_rfl) (by kernel_rfl) (fun _ _ _ h => h) (Or.inl ⟨by rfl, ?y13⟩) (by assumption) ?_
    case y13 => (intro w hSw; (try dsimp only at hSw); go_simp <;> with_reducible rfl)
    try simp only [Act.put, List.getElem_toArray, List.getElem_cons_zero, List.getElem_cons_succ, List.setIfInBounds_toArray, List.set_cons_zero, List.set_cons_succ]
    refine wpAnyH_ready (rs := [3]) (by kernel_rfl) (by simp) ?_
    refine (AllReadyH.cons rfl (fun K hK => ?_) AllReadyH.nil)
    go_simp
    refine hK.out _ _ trivial (fun hHeld => ?_)
    clear hK K
    try simp only [Act.put, List.getElem_toArray, List.getElem_cons_zero, List.getElem_cons_succ, List.setIfInBounds_toArray, List.set_cons_zero, List.set_cons_succ]
    refine wpAnyH_take (i := 10) (v := ?v14) rfl (by kernel_rfl) (by kernel_rfl) (by kernel_rfl) (fun _ _ _ h => h) (Or.inl ⟨by rfl, ?y14⟩) (by assumption) ?_
    case y14 => (intro w hSw; (try dsimp only at hSw); go_simp <;> with_reducible rfl)
    try simp only [Act.put, List.getElem_toArray, List.getElem_cons_zero, List.getElem_cons_succ, List.setIfInBounds_toArray, List.set_cons_zero, List.set_cons_succ]
    refine wpAnyH_take (i := 11) (v := ?v15) rfl (by kernel_rfl) (by kernel_rfl) (by kernel_rfl) (fun _ _ _ h => h) (Or.inl ⟨by rfl, ?y15⟩) (by assumption) ?_
    case y15 => (intro w hSw; (try dsimp only at hSw); go_simp <;> with_reducible rfl)
    try simp only [Act.put, List.getElem_toArray, List.getElem_cons_zero, List.getElem_cons_succ, List.setIfInBounds_toArray, List.set_cons_zero, List.set_cons_succ]
    refine wpAnyH_take (i := 12) (v := ?v16) rfl (by kernel_rfl) (by kernel_rfl) (by kernel_rfl) (fun _ _ _ h => h) (Or.inl ⟨by rfl, ?y16⟩) (by assumption) ?_
    case y16 => (intro w hSw; (try dsimp only at hSw); go_simp <;> with_reducible rfl)
    try simp only [Act.put, List.getElem_toArray, List.getElem_cons_zero, List.getElem_cons_succ, List.setIfInBounds_toArray, List.set_cons_zero, List.set_cons_succ]
    refine wpAnyH_ready (rs := [13]) (by kernel_rfl) (by simp) ?_
    refine (AllReadyH.cons rfl (fun K hK => ?_) AllReadyH.nil)
    go_simp
    refine hK.out _ _ trivial (fun hHeld => ?_)
    clear hK K
    try simp only [Act.put, List.getElem_toArray, List.getElem_cons_zero, List.getElem_cons_succ, List.setIfInBounds_toArray, List.set_cons_zero, List.set_cons_succ]
    refine wpAnyH_done (by kernel_rfl) ?_ _
    go_wp2
    go_end0
    exact ⟨rfl, HF.out w2 hB2⟩
/-- The next byte that is no blank. -/
def rnext (s : ByteArray) (p : Nat) : PR Nat := if s.size ≤ skp s p then .bad (skp s p) 14 else .ok (bt s (skp s p)) (skp s p)
set_option maxRecDepth 100000 in
set_option maxHeartbeats 4000000 in
theorem next_any (R : Nat) (s : ByteArray) (p : Nat) (w : World) (h : RdAt w R s p) (hp : p ≤ s.size) (hm : s.size ≤ 65536) :
    Calls Tryd.prog 66 #[.pointer (some ⟨R, 0, none⟩)] w fun e w' => RC R s w (fun (c : Nat) => .int .u8 (c : Int)) (rnext s p) e w' := by
  have HS : Hid _ := fun (_ : Unit) => skip_any R s p w h hp hm
  have hle := skp_le s p hp
  unfold rnext
  obtain ⟨k, hk⟩ : ∃ k, skp s p = k := ⟨_, rfl⟩
  rw [hk] at HS hle ⊢
  have HF : Hid (∀ W, _) := fun W => fail_any R s.size 14 W
  clear h hp
  by_cases hks : s.size ≤ k
  · rw [if_pos hks]
    obtain rfl : k = s.size := by omega
    have hne : ((s.size : Int) == (s.size : Int)) = true := by simp
    clear hk hks hle
    go_enter Tryd.func66, Tryd.ntmps66
    go_wp2_with (go_at_call 52; refine (HS.out ()).mono ?_)
    first | rintro e w2 rfl hr2 hg2 | rintro e w2 ⟨rfl, hr2, hg2⟩
    have r0 := hr2.text
    have r1 := hr2.at'
    have HG : Hid _ := hg2
    clear hr2 hg2
    go_wp2
    go_quiet (fail)
    go_wp2_with (go_at_call 53; refine (HF.out _).mono ?_)
    first | rintro e w' rfl rfl | rintro e w' ⟨rfl, rfl⟩
    simp only [FE]
    go_wp2
    refine ⟨rfl, ?_⟩
    exact ⟨rfl, ⟨HG.out.os, HG.out.tape, HG.out.output, HG.out.size, HG.out.block⟩⟩
  · rw [if_neg hks]
    have hlt : k < s.size := by omega
    have hkI : (k : Int) < (s.size : Int) := by omega
    have hne : ((k : Int) == (s.size : Int)) = false := by simp; omega
    have hb0 := bt_eq s k hlt
    clear hk hks hle
    go_enter Tryd.func66, Tryd.ntmps66
    go_wp2_with (go_at_call 52; refine (HS.out ()).mono ?_)
    first | rintro e w2 rfl hr2 hg2 | rintro e w2 ⟨rfl, hr2, hg2⟩
    have r0 := hr2.text
    have r1 := hr2.at'
    have HG : Hid _ := hg2
    have HR2 : Hid _ := hr2
    clear hr2 hg2
    go_wp2
    go_quiet (fail)
    go_wp2
    go_quiet (fail)
    go_wp2
    go_ret
    exact ⟨by rw [← hb0]; rfl, ⟨HR2.out.text, HR2.out.at', HR2.out.fz, HR2.out.lt⟩, ⟨HG.out.os, HG.out.tape, HG.out.output, HG.out.size, HG.out.block⟩⟩
end Go.Proofs.YtlkcadibjmfmcaaDoor
