/- The document's own writer: whether leaves fit. -/
import Derived.Test.YtbmejfcbladofaaM4
namespace Go.Proofs.Ytbmejfcbladofaa
open Go.RowKit

theorem szS_app (a b : List Dc) : szS (a ++ b) = szS a + szS b := by
  induction a with
  | nil => simp [szS]
  | cons x a ih => unfold szS at ih ⊢; simp only [List.cons_append, List.foldr_cons]; omega
theorem szS_one (x : Dc) : szS [x] = x.text.size := by simp [szS]
theorem take_one {l : List Dc} {k : Nat} {x : Dc} (h : l[k]? = some x) : l.take (k + 1) = l.take k ++ [x] := by
  have hk := List.getElem?_eq_some_iff.1 h
  rw [List.take_succ_eq_append_getElem hk.1, hk.2]
theorem szS_take {l : List Dc} {k : Nat} {x : Dc} (h : l[k]? = some x) : szS (l.take (k + 1)) = szS (l.take k) + x.text.size := by rw [take_one h, szS_app, szS_one]
theorem hasHard_take {l : List Dc} {k : Nat} {x : Dc} (h : l[k]? = some x) : hasHard (l.take (k + 1)) = (hasHard (l.take k) || decide (x.kind = 3)) := by
  rw [take_one h]
  unfold hasHard
  rw [List.any_append]
  simp [kindIs]
theorem szS_le {l : List Dc} {m : Nat} (h : ∀ x ∈ l, x.text.size ≤ m) : szS l ≤ l.length * m := by
  induction l with
  | nil => simp [szS]
  | cons x l ih =>
    have h1 := ih (fun y hy => h y (by simp [hy]))
    have h2 := h x (by simp)
    have e : szS (x :: l) = x.text.size + szS l := rfl
    rw [e, List.length_cons, Nat.succ_mul]; omega
theorem nearS_take {l : List Dc} {k : Nat} (h : ∀ x ∈ l.take k, x.kind = 1) (he : ∀ x, l[k]? = some x → x.kind ≠ 1) : nearS l = szS (l.take k) := by
  induction l generalizing k with
  | nil => simp [nearS, szS]
  | cons x l ih =>
    cases k with
    | zero =>
      have := he x rfl
      rw [nearS, if_neg this]; rfl
    | succ k =>
      have h1 : x.kind = 1 := h x (by simp)
      have e : szS ((x :: l).take (k + 1)) = x.text.size + szS (l.take k) := rfl
      rw [nearS, if_pos h1, e, ih (fun y hy => h y (by rw [List.take_succ_cons]; exact List.mem_cons_of_mem _ hy)) (fun y hy => he y (by simpa using hy))]
theorem hasHard_mem {l : List Dc} {x : Dc} (h : x ∈ l) (hk : x.kind = 3) : hasHard l = true := by
  unfold hasHard
  rw [List.any_eq_true]
  exact ⟨x, h, by simp [kindIs, hk]⟩
set_option maxRecDepth 100000 in
set_option maxHeartbeats 8000000 in
theorem rfits_any (lo WB : Nat) (s : Wr) (wd : Int) (lv tv : Value) (ls : List Dc) (n : Nat) (w : World) (h : WrAt lo WB s wd lv tv ls w) (hc0 : 0 ≤ s.col) (hc1 : s.col ≤ 1000000) (hp : s.pos + n ≤ ls.length) (hls : ls.length ≤ 1000) (htx : ∀ x ∈ ls, x.text.size ≤ 12000) :
    Calls Try.prog 39 #[.pointer (some ⟨WB, 0, none⟩), .int .i64 (n : Int)] w fun e w' => e = .returned (.bool (rfits ls wd s n)) ∧ w' = w := by
  obtain ⟨lo', hl⟩ := h.lrow
  have HROW : Hid _ := fun (_ : Unit) => hl
  obtain ⟨c0, f0⟩ := blk_cell h.blk (j := 0) rfl
  obtain ⟨c1, f1⟩ := blk_cell h.blk (j := 1) rfl
  obtain ⟨c3, f3⟩ := blk_cell h.blk (j := 3) rfl
  obtain ⟨c4, f4⟩ := blk_cell h.blk (j := 4) rfl
  have HSZ : Hid (∀ l : List Dc, (∀ x ∈ l, x ∈ ls) → szS l ≤ l.length * 12000) := fun l hm => szS_le (fun x hx => htx x (hm x hx))
  have HRF : Hid (rfits ls wd s n = (!hasHard ((ls.drop s.pos).take n) && decide (s.col + (szS ((ls.drop s.pos).take n) : Int) + (nearS (ls.drop (s.pos + n)) : Int) ≤ wd))) := rfl
  obtain ⟨p, hpp⟩ : ∃ p, s.pos = p := ⟨_, rfl⟩
  obtain ⟨cl, hcl⟩ : ∃ p, s.col = p := ⟨_, rfl⟩
  rw [hpp] at c1 HRF hp
  rw [hcl] at c3 HRF hc0 hc1
  clear h hpp hcl htx
  obtain ⟨va, vc, hva⟩ := row_slice hl
  subst hva
  clear hl
  have hspI : IntKind.i64.wrap ((p : Int) + n) = (p : Int) + n := by rw [IntKind.wrap_i64]; omega
  go_enter Try.func39, Try.ntmps39
  go_wp2
  go_loopw [5, 6] (fun sv iv W => W = w ∧ ∃ (k z : Nat), k ≤ n ∧ iv = .int .i64 ((p + k : Nat) : Int) ∧ z = szS ((ls.drop p).take k) ∧ z ≤ k * 12000 ∧ sv = .int .i64 (cl + z) ∧ hasHard ((ls.drop p).take k) = false) (fun _ iv _ => p + n - (intOf iv).toNat)
  case atStart => exact ⟨rfl, 0, 0, Nat.zero_le _, by simp, rfl, Nat.zero_le _, by simp, rfl⟩
  case round =>
    obtain ⟨rfl, k, z, hk, rfl, hz, hzk, rfl, hh⟩ := hrel
    have HZ : Hid _ := hz
    have HHH : Hid _ := hh
    clear hz hh
    by_cases hlt : k < n
    · obtain ⟨x, hx⟩ : ∃ x, ls[p + k]? = some x := ⟨ls[p + k], by simp⟩
      have hx2 : (ls.drop p)[k]? = some x := by rw [List.getElem?_drop]; exact hx
      have hrow := HROW.out ()
      obtain ⟨g, cap, hsl, _, hglt⟩ := hrow.form (by omega)
      cases hsl
      have cK := (own_cell hrow (lfV_get hx).1).1
      have cT := (own_cell hrow (lfV_get hx).2).1
      have hltI : ((p : Int) + k) < (p : Int) + n := by omega
      have hltL : ((p : Int) + k) < ls.length := by omega
      have htx : x.text.size ≤ 12000 := by
        have := HSZ.out [x] (fun y hy => by simp at hy; subst hy; exact List.mem_of_getElem? hx)
        rw [szS_one] at this; simpa using this
      have HZT : Hid _ := szS_take hx2
      have HHT : Hid _ := hasHard_take hx2
      have HMM : Hid (x.kind = 3 → hasHard ((ls.drop p).take n) = true) := fun e => by
        refine hasHard_mem (x := x) ?_ e
        have : x ∈ (ls.drop p).take (k + 1) := by rw [take_one hx2]; simp
        exact List.take_subset_take_left _ (by omega) this
      clear hrow hx hx2
      by_cases h3 : x.kind = 3
      · have HV : Hid (rfits ls wd s n = false) := by show _ = _; rw [HRF.out, HMM.out h3]; rfl
        rw [h3] at cK
        clear HZT HHT HMM h3
        go_wp2
        go_ret
        rw [HV.out]
        exact ⟨rfl, rfl⟩
      · have h3b : (x.kind == 3) = false := by simpa using h3
        have HE : Hid (hasHard ((ls.drop p).take (k + 1)) = false) := by show _ = _; rw [HHT.out, HHH.out, decide_eq_false h3]; rfl
        clear HHT HMM
        go_wp2
        go_roundw
        case rel => exact ⟨trivial, k + 1, z + x.text.size, by omega, by go_num, by rw [HZT.out, HZ.out], by rw [Nat.succ_mul]; omega, by go_num, HE.out⟩
        case measure => simp [intOf]; omega
    · obtain rfl : k = n := by omega
      have HRF2 : Hid (rfits ls wd s k = decide (cl + (z : Int) + (nearS (ls.drop (p + k)) : Int) ≤ wd)) := by
        show _ = _
        rw [HRF.out, HHH.out, ← HZ.out]; rfl
      clear HZ HHH HRF
      go_wp2
      obtain ⟨wo, hwo⟩ : ∃ wo : World, wo = wr := ⟨_, rfl⟩
      rw [← hwo] at HROW c0 c1 c3 c4 ⊢
      have HWO : Hid _ := hwo
      clear hwo
      go_loopw [5, 7] (fun sv iv W => W = wo ∧ ∃ (j y : Nat), p + k + j ≤ ls.length ∧ iv = .int .i64 ((p + k + j : Nat) : Int) ∧ y = szS ((ls.drop (p + k)).take j) ∧ y ≤ j * 12000 ∧ sv = .int .i64 (cl + z + y) ∧ ∀ x ∈ (ls.drop (p + k)).take j, x.kind = 1) (fun _ iv _ => ls.length - (intOf iv).toNat)
      case atStart => exact ⟨rfl, 0, 0, by omega, by simp, rfl, Nat.zero_le _, by simp, by simp⟩
      case round =>
        obtain ⟨rfl, j, y, hj, rfl, hy, hyj, rfl, hall⟩ := hrel
        have HY : Hid _ := hy
        have HALL : Hid _ := hall
        clear hy hall
        by_cases hlt2 : p + k + j < ls.length
        · obtain ⟨x, hx⟩ : ∃ x, ls[p + k + j]? = some x := ⟨ls[p + k + j], by simp [hlt2]⟩
          have hx2 : (ls.drop (p + k))[j]? = some x := by rw [List.getElem?_drop]; exact hx
          have hrow := HROW.out ()
          obtain ⟨g, cap, hsl, _, hglt⟩ := hrow.form (by omega)
          cases hsl
          have cK := (own_cell hrow (lfV_get hx).1).1
          have cT := (own_cell hrow (lfV_get hx).2).1
          have hltL : ((p : Int) + k + j) < ls.length := by omega
          have htx : x.text.size ≤ 12000 := by
            have := HSZ.out [x] (fun y hy => by simp at hy; subst hy; exact List.mem_of_getElem? hx)
            rw [szS_one] at this; simpa using this
          have HZT : Hid _ := szS_take hx2
          have HTO : Hid _ := take_one hx2
          have HNS : Hid (x.kind ≠ 1 → nearS (ls.drop (p + k)) = y) := fun e => by
            rw [HY.out]
            exact nearS_take HALL.out (fun q hq => by rw [hx2] at hq; cases hq; exact e)
          clear hrow hx hx2
          by_cases h1 : x.kind = 1
          · rw [h1] at cK
            have HE : Hid (∀ q ∈ (ls.drop (p + k)).take (j + 1), q.kind = 1) := fun q hq => by
              rw [HTO.out] at hq
              rcases List.mem_append.1 hq with hq | hq
              · exact HALL.out q hq
              · simp at hq; subst hq; exact h1
            clear HNS HTO h1
            go_wp2
            go_roundw
            case rel => exact ⟨trivial, j + 1, y + x.text.size, by omega, by go_num, by rw [HZT.out, HY.out], by rw [Nat.succ_mul]; omega, by go_num, HE.out⟩
            case measure => simp [intOf]; omega
          · have h1b : (x.kind == 1) = false := by simpa using h1
            have HV : Hid (rfits ls wd s k = decide (cl + (z : Int) + (y : Int) ≤ wd)) := by show _ = _; rw [HRF2.out, HNS.out h1]
            clear HNS HTO HZT HRF2
            go_wp2
            go_ret
            rw [HV.out]
            exact ⟨rfl, HWO.out⟩
        · have HV : Hid (rfits ls wd s k = decide (cl + (z : Int) + (y : Int) ≤ wd)) := by
            show _ = _
            have : nearS (ls.drop (p + k)) = y := by
              rw [HY.out]
              refine nearS_take HALL.out (fun q hq => ?_)
              rw [List.getElem?_drop, List.getElem?_eq_none (by omega)] at hq
              cases hq
            rw [HRF2.out, this]
          have hgeI : (ls.length : Int) ≤ (p : Int) + k + j := by omega
          clear HRF2 hlt2 hj
          go_wp2
          go_ret
          rw [HV.out]
          exact ⟨rfl, HWO.out⟩
end Go.Proofs.Ytbmejfcbladofaa
