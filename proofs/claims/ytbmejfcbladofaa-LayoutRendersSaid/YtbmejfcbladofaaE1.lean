/- Whether a document is without hard breaks; its flat text. -/
import Derived.Test.YtbmejfcbladofaaG1
import Derived.Test.YtbmejfcbladofaaE0
namespace Go.Proofs.Ytbmejfcbladofaa
open Go.RowKit

/-- Leaves in a row that are read. -/
def LsAt (W : World) (v : Value) (ls : List Dc) : Prop := ∃ lo, W.ownsRow lo 24 4 v ls.length (lfV ls)
set_option maxRecDepth 100000 in
theorem isHard_any (k : Int) (t : ByteArray) (n : Int) (v : Value) (w : World) (hv : v = .slice none 0 0) : Calls Try.prog 26 #[.agg #[.int .i64 k, .string t, .int .i64 n, v]] w fun e w' => e = .returned (.bool (decide (k = 3))) ∧ Below w.heap.size w w' := by
  subst hv
  have hB : Below w.heap.size w (w.alloc (.cells #[.int .i64 k, .string t, .int .i64 n, .slice none 0 0] 24)) := (Below.refl _ _).alloc (Nat.le_refl _) _
  go_enter Try.func26, Try.ntmps26
  go_wp2
  go_ret
  refine ⟨ret_bool ?_, hB⟩
  rw [Bool.eq_iff_iff]; simp
theorem lfV_get4 {ls : List Dc} {k : Nat} {x : Dc} (h : ls[k]? = some x) : (lfV ls)[k * 4]? = some (.int .i64 x.kind) ∧ (lfV ls)[k * 4 + 1]? = some (.string x.text) ∧ (lfV ls)[k * 4 + 2]? = some (.int .i64 x.n) ∧ (lfV ls)[k * 4 + 3]? = some (.slice none 0 0) := by
  induction ls generalizing k with
  | nil => cases h
  | cons y l ih =>
    have e : lfV (y :: l) = lfC y ++ lfV l := by simp [lfV]
    cases k with
    | zero => simp at h; subst h; rw [e]; exact ⟨rfl, rfl, rfl, rfl⟩
    | succ k =>
      simp at h
      have := ih h
      have hl : (lfC y).length = 4 := rfl
      have g : ∀ j, (lfC y ++ lfV l)[(k + 1) * 4 + j]? = (lfV l)[k * 4 + j]? := fun j => by
        rw [List.getElem?_append_right (by rw [hl]; omega), hl, show (k + 1) * 4 + j - 4 = k * 4 + j by omega]
      rw [e]
      exact ⟨(g 0).trans this.1, (g 1).trans this.2.1, (g 2).trans this.2.2.1, (g 3).trans this.2.2.2⟩
def hasHard (ls : List Dc) : Bool := ls.any (kindIs 3)
set_option maxRecDepth 100000 in
set_option maxHeartbeats 1000000 in
theorem indexFunc_any (ls : List Dc) (v : Value) (w : World) (hr : LsAt w v ls) (hl : ls.length ≤ 1000000) :
    Calls Try.prog 40 #[v, .func (.func 26) #[] #[]] w fun e w' => (∃ i : Int, e = .returned (.int .i64 i) ∧ -1 ≤ i ∧ (0 ≤ i ↔ hasHard ls = true)) ∧ Below w.heap.size w w' := by
  obtain ⟨lo, hr⟩ := hr
  have HR : Hid (∀ W, Below w.heap.size w W → W.ownsRow lo 24 4 v ls.length (lfV ls)) := fun W hW => row_below hr hW
  obtain ⟨va, vc, rfl⟩ := row_slice hr
  clear hr
  go_enter Try.func40, Try.ntmps40
  go_wp2
  go_loopw [5, 8] (fun _ iv W => ∃ k : Nat, k ≤ ls.length ∧ iv = .int .i64 k ∧ hasHard (ls.take k) = false ∧ Below w.heap.size w W) (fun _ iv _ => ls.length - (intOf iv).toNat)
  case atStart => exact ⟨0, Nat.zero_le _, rfl, rfl, Below.refl _ _⟩
  case round =>
    obtain ⟨k, hk, rfl, hh, hB⟩ := hrel
    have HH : Hid _ := hh
    clear hh
    by_cases hlt : k < ls.length
    · obtain ⟨x, hx⟩ : ∃ x, ls[k]? = some x := ⟨ls[k], by simp [hlt]⟩
      have hrow : wr.ownsRow lo 24 4 (.slice va ls.length vc) ls.length (lfV ls) := HR.out wr hB
      obtain ⟨g, cap, hsl, _, hglt⟩ := hrow.form (by omega)
      cases hsl
      obtain ⟨q0, q1, q2, q3⟩ := lfV_get4 hx
      have c0 := (own_cell hrow q0).1
      have c1 := (own_cell hrow q1).1
      have c2 := (own_cell hrow q2).1
      have c3 := (own_cell hrow q3).1
      have hltI : (k : Int) < ls.length := by omega
      have HT : Hid (hasHard (ls.take (k + 1)) = (hasHard (ls.take k) || decide (x.kind = 3))) := by
        have h := List.getElem?_eq_some_iff.1 hx
        show _ = _
        rw [List.take_succ_eq_append_getElem h.1, h.2]
        unfold hasHard
        rw [List.any_append]
        simp [kindIs]
      have HM : Hid (decide (x.kind = 3) = true → hasHard ls = true) := fun h => by
        unfold hasHard
        rw [List.any_eq_true]
        exact ⟨x, List.mem_of_getElem? hx, h⟩
      have HC : Hid _ := fun (W : World) => isHard_any x.kind x.text x.n (.slice none 0 0) W rfl
      clear hrow hx q0 q1 q2 q3
      cases h3 : decide (x.kind = 3) with
      | true =>
        rw [h3] at HC
        have HMM : Hid _ := HM.out h3
        clear h3 HT HM
        go_wp2_with (go_at_call 26; refine (HC.out _).mono ?_)
        rintro e w6 ⟨rfl, hb6⟩
        have HB6 : Hid (Below w.heap.size w w6) := hB.trans (hb6.mono hB.size)
        clear hb6 c0 c1 c2 c3
        go_wp2
        go_ret
        exact ⟨⟨(k : Int), rfl, by omega, by rw [HMM.out]; simp⟩, HB6.out⟩
      | false =>
        rw [h3] at HC
        have HE : Hid (hasHard (ls.take (k + 1)) = false) := by show _ = _; rw [HT.out, h3, HH.out]; rfl
        clear h3 HT HM
        go_wp2_with (go_at_call 26; refine (HC.out _).mono ?_)
        rintro e w6 ⟨rfl, hb6⟩
        have HB6 : Hid (Below w.heap.size w w6) := hB.trans (hb6.mono hB.size)
        clear hb6 c0 c1 c2 c3
        go_wp2
        go_roundw
        case rel => exact ⟨k + 1, by omega, by go_num, HE.out, HB6.out⟩
        case measure => simp [intOf]; omega
    · obtain rfl : k = ls.length := by omega
      rw [List.take_length] at HH
      go_wp2
      go_ret
      exact ⟨⟨-1, rfl, by omega, by rw [HH.out]; simp⟩, hB⟩
set_option maxRecDepth 100000 in
theorem contains_any (ls : List Dc) (v : Value) (w : World) (hr : LsAt w v ls) (hl : ls.length ≤ 1000000) :
    Calls Try.prog 25 #[v, .func (.func 26) #[] #[]] w fun e w' => e = .returned (.bool (hasHard ls)) ∧ Below w.heap.size w w' := by
  have HC : Hid _ := fun (_ : Unit) => indexFunc_any ls v w hr hl
  obtain ⟨lo, hr⟩ := hr
  obtain ⟨va, vc, rfl⟩ := row_slice hr
  clear hr
  go_enter Try.func25, Try.ntmps25
  go_wp2_with (go_at_call 40; refine (HC.out ()).mono ?_)
  rintro e w1 ⟨⟨i, rfl, h1, h2⟩, hb⟩
  have HE : Hid (decide ((0 : Int) ≤ i) = hasHard ls) := by
    show _ = _
    rw [Bool.eq_iff_iff, ← h2]; simp
  clear h2
  go_wp2
  go_ret
  refine ⟨?_, hb⟩
  rw [← HE.out]
  rfl
end Go.Proofs.Ytbmejfcbladofaa
