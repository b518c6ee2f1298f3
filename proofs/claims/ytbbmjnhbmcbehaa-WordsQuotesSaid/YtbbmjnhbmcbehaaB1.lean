/- The law WordsBack, walked. -/
import Derived.Test.YtbbmjnhbmcbehaaN16
import Derived.Test.YtbbmjnhbmcbehaaQ1
import Derived.Deep.RegionHeld3
namespace Go.Proofs.Ytbbmjnhbmcbehaa
open Go.RowKit

/-- A row of bytes that came in, turned into a text. -/
theorem arg_conv {W : World} {a : Option Addr} {L : List Nat} (h : Row W a L) (c : Nat) : (convert 30 9 (.slice a L.length c)).run Try.prog W = .ok (.string (strN L)) W := by
  cases hL : L.length with
  | zero =>
    obtain rfl := List.eq_nil_of_length_eq_zero hL
    rw [run_convert_bytes_string W 30 9 5 a 0 c Try.underlying30 Try.underlying5 Try.underlying9]
    cases a with
    | none => simp [Conv.bytesToString]; rfl
    | some x =>
      have hld : (loadCells x 0).run Try.prog W = .ok (([] : List Int).map (Value.int .u8)).toArray W := run_loadCells_list W x [] (fun j v hj => by simp at hj)
      rw [run_bytesToString W x 0 c [] hld]; rfl
  | succ n =>
    obtain ⟨b, o, rfl, _, _⟩ := h 0 (by omega)
    rw [← hL]
    refine run_convert_bytes_arg W 30 5 Try.underlying30 Try.underlying5 b o L.length c (L.map (fun n : Nat => (n : Int))) (by simp) (fun i hi => ?_) 9 Try.underlying9
    obtain ⟨b', o', e, _, hc⟩ := h i hi
    cases e
    rw [hc]
    simp [List.getD_eq_getElem?_getD, List.getElem?_eq_getElem hi]
theorem toList_ne {x y : ByteArray} (h : ¬ x = y) : x.toList ≠ y.toList := by
  intro e
  rw [ByteArray.toList_eq, ByteArray.toList_eq] at e
  exact h (by rw [ba_list x, ba_list y, e])
/-- What stands while the law's last line is reckoned. -/
structure Bk (w : World) (B : Nat) (v : Value) (a b : Option Addr) (L M : List Nat) (W : World) : Prop where
  box : Blk W B 26 #[.int .i64 0, .int .i64 0]
  row : W.ownsRow w.heap.size 5 1 v L.length (bytesV L)
  ra : Row W a L
  rb : Row W b M
  bel : Below w.heap.size w W
theorem Bk.drew {w W : World} {B : Nat} {v : Value} {a b : Option Addr} {L M : List Nat} (h : Bk w B v a b L M W) : Bk w B v a b L M W.drew := ⟨h.box, h.row, h.ra, h.rb, h.bel.drew⟩
theorem Bk.nx {w W W' : World} {B : Nat} {v : Value} {a b : Option Addr} {L M : List Nat} (hb : Below W.heap.size W W') (h : Bk w B v a b L M W) : Bk w B v a b L M W' :=
  ⟨h.box.after hb, row_below h.row hb, h.ra.below hb (Nat.le_refl _), h.rb.below hb (Nat.le_refl _), below_of h.bel hb⟩
theorem Bk.facts {w W : World} {B : Nat} {v : Value} {a b : Option Addr} {L M : List Nat} (h : Bk w B v a b L M W) (c d : Nat) {SL SM : ByteArray} (h1 : strN L = SL) (h2 : strN M = SM) :
    W.cell? ⟨B, 0, none⟩ = some (.int .i64 0) ∧ W.cell? ⟨B, 1, none⟩ = some (.int .i64 0) ∧ (convert 30 9 v).run Try.prog W = .ok (.string SL) W ∧ (convert 30 9 (.slice a L.length c)).run Try.prog W = .ok (.string SL) W ∧ (convert 30 9 (.slice b M.length d)).run Try.prog W = .ok (.string SM) W :=
  ⟨h.box.cell 0 rfl, h.box.cell 1 rfl, by rw [← h1]; exact row_conv h.row, by rw [← h1]; exact arg_conv h.ra c, by rw [← h2]; exact arg_conv h.rb d⟩
set_option maxRecDepth 100000 in
set_option maxHeartbeats 4000000 in
theorem back_walk (L : List Nat) (a : Option Addr) (c : Nat) (hL : ∀ n ∈ L, n < 256) (hm : L.length ≤ maxLen) (M : List Nat) (b : Option Addr) (d : Nat) (hM : ∀ n ∈ M, n < 256) (hm' : M.length ≤ maxLen) (w : World) (ha : Row w a L) (hb : Row w b M) :
    Calls Try.prog 7 #[.slice a L.length c, .slice b M.length d] w fun e w' => e = .returned (.bool true) ∧ Below w.heap.size w w' := by
  unfold maxLen at hm hm'
  have HL : Hid _ := fun w => alive_any w
  by_cases h1 : 16000 < L.length
  · have h1' : (16000 : Int) < L.length := by omega
    go_enter Try.func7, Try.ntmps7
    go_wp2_with (go_at_call 12; refine (HL.out _).mono ?_; rintro e w1 ⟨rfl, hb1⟩)
    go_ret
    exact ⟨rfl, hb1⟩
  have h1' : (L.length : Int) ≤ 16000 := by omega
  by_cases h2 : 16000 < M.length
  · have h2' : (16000 : Int) < M.length := by omega
    go_enter Try.func7, Try.ntmps7
    go_wp2_with (go_at_call 12; refine (HL.out _).mono ?_; rintro e w1 ⟨rfl, hb1⟩)
    go_ret
    exact ⟨rfl, hb1⟩
  have h2' : (M.length : Int) ≤ 16000 := by omega
  have HA : Hid _ := fun (W : World) (hr : Row W a L) => quote_any L a c W hL (by omega) hr
  have HB : Hid _ := fun (W : World) (hr : Row W b M) => quote_any M b d W hM (by omega) hr
  have hub := unq_back L hL (by omega)
  obtain ⟨QL, hQL⟩ : ∃ q : ByteArray, (⟨(quoteL L).toArray⟩ : ByteArray) = q := ⟨_, rfl⟩
  obtain ⟨QM, hQM⟩ : ∃ q : ByteArray, (⟨(quoteL M).toArray⟩ : ByteArray) = q := ⟨_, rfl⟩
  obtain ⟨SL, hSL⟩ : ∃ q : ByteArray, strN L = q := ⟨_, rfl⟩
  obtain ⟨SM, hSM⟩ : ∃ q : ByteArray, strN M = q := ⟨_, rfl⟩
  have HU : Hid _ := fun w => unquote_any QL w
  have hql : QL.data.toList = quoteL L := by rw [← hQL]
  rw [hql, hub] at HU
  simp only [fv] at HU
  have heq : (QL = QM) ↔ (SL = SM) := by
    rw [← hQL, ← hQM, ← hSL, ← hSM]
    constructor
    · intro h
      have : quoteL L = quoteL M := by
        have := congrArg (fun x : ByteArray => x.data.toList) h; simpa using this
      rw [quote_inj hL hM this]
    · intro h; rw [strN_inj hL hM h]
  rw [hQL] at HA
  rw [hQM] at HB
  have HSL : Hid _ := hSL
  have HSM : Hid _ := hSM
  have HEQ : Hid _ := heq
  clear hQL hQM hSL hSM hql hub heq hL hM h1 h2
  go_enter Try.func7, Try.ntmps7
  go_wp2_with (go_at_call 18; refine (HA.out _ ha).mono ?_)
  rintro e w1 ⟨rfl, hb1⟩
  go_wp2_with (go_at_call 16; refine (HU.out _).mono ?_)
  rintro e w2 ⟨v, rfl, hrow, hb2⟩
  have hB2 := below_of hb1 hb2
  have T : Bk w w2.heap.size v a b L M (w2.alloc (.cells #[.int .i64 0, .int .i64 0] 26)) :=
    ⟨Blk.new _ _ _, (row_mono hrow hb1.size).alloc _, (ha.below hB2 (Nat.le_refl _)).below ((Below.refl _ _).alloc (Nat.le_refl _) _) (Nat.le_refl _), (hb.below hB2 (Nat.le_refl _)).below ((Below.refl _ _).alloc (Nat.le_refl _) _) (Nat.le_refl _), hB2.alloc hB2.size _⟩
  obtain ⟨va, vc, rfl⟩ := row_slice hrow
  clear hb1 hb2 hrow hB2 ha hb HU
  go_wp2
  obtain ⟨W0, hW0⟩ : ∃ W0, w2.alloc (.cells #[.int .i64 0, .int .i64 0] 26) = W0 := ⟨_, rfl⟩
  rw [hW0] at T ⊢
  clear hW0
  have TC := T.facts c d HSL.out HSM.out
  by_cases hq : QL = QM
  · have hs := HEQ.out.1 hq
    subst hq
    subst hs
    clear HEQ
    go_region_held3 (fun W' => W'.cell? ⟨w2.heap.size, 0, none⟩ = some (.int .i64 0) ∧ W'.cell? ⟨w2.heap.size, 1, none⟩ = some (.int .i64 0) ∧ (convert 30 9 (.slice va L.length vc)).run Try.prog W' = .ok (.string SL) W' ∧ (convert 30 9 (.slice a L.length c)).run Try.prog W' = .ok (.string SL) W' ∧ (convert 30 9 (.slice b M.length d)).run Try.prog W' = .ok (.string SL) W') (first | exact T.facts c d HSL.out HSM.out | exact T.drew.facts c d HSL.out HSM.out) (first | (go_at_call 12; refine (HL.out _).mono ?_; rintro e w5 ⟨rfl, hb5⟩; replace T : Bk w w2.heap.size (.slice va L.length vc) a b L M w5 := (by first | exact Bk.nx hb5 T | exact Bk.nx hb5 T.drew); clear hb5) | (go_at_call_of 18 a; refine (HA.out _ T.ra).mono ?_; rintro e w5 ⟨rfl, hb5⟩; replace T : Bk w w2.heap.size (.slice va L.length vc) a b L M w5 := (by first | exact Bk.nx hb5 T | exact Bk.nx hb5 T.drew); clear hb5) | (go_at_call_of 18 b; refine (HB.out _ T.rb).mono ?_; rintro e w5 ⟨rfl, hb5⟩; replace T : Bk w w2.heap.size (.slice va L.length vc) a b L M w5 := (by first | exact Bk.nx hb5 T | exact Bk.nx hb5 T.drew); clear hb5))
    all_goals go_wp2
    all_goals go_ret
    all_goals exact ⟨rfl, T.bel⟩
  · have hs : ¬ SL = SM := fun e => hq (HEQ.out.2 e)
    clear HEQ
    go_region_held3 (fun W' => W'.cell? ⟨w2.heap.size, 0, none⟩ = some (.int .i64 0) ∧ W'.cell? ⟨w2.heap.size, 1, none⟩ = some (.int .i64 0) ∧ (convert 30 9 (.slice va L.length vc)).run Try.prog W' = .ok (.string SL) W' ∧ (convert 30 9 (.slice a L.length c)).run Try.prog W' = .ok (.string SL) W' ∧ (convert 30 9 (.slice b M.length d)).run Try.prog W' = .ok (.string SM) W') (first | exact T.facts c d HSL.out HSM.out | exact T.drew.facts c d HSL.out HSM.out) (first | (go_at_call 12; refine (HL.out _).mono ?_; rintro e w5 ⟨rfl, hb5⟩; replace T : Bk w w2.heap.size (.slice va L.length vc) a b L M w5 := (by first | exact Bk.nx hb5 T | exact Bk.nx hb5 T.drew); clear hb5) | (go_at_call_of 18 a; refine (HA.out _ T.ra).mono ?_; rintro e w5 ⟨rfl, hb5⟩; replace T : Bk w w2.heap.size (.slice va L.length vc) a b L M w5 := (by first | exact Bk.nx hb5 T | exact Bk.nx hb5 T.drew); clear hb5) | (go_at_call_of 18 b; refine (HB.out _ T.rb).mono ?_; rintro e w5 ⟨rfl, hb5⟩; replace T : Bk w w2.heap.size (.slice va L.length vc) a b L M w5 := (by first | exact Bk.nx hb5 T | exact Bk.nx hb5 T.drew); clear hb5))
    all_goals go_wp2
    all_goals go_ret
    all_goals exact ⟨ret_bool (by rw [beq_eq_false_iff_ne.2 (toList_ne hq), beq_eq_false_iff_ne.2 (toList_ne hs)]; rfl), T.bel⟩
end Go.Proofs.Ytbbmjnhbmcbehaa
