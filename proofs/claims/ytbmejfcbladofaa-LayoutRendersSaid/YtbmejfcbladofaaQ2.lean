/- M5 to M7 in one text. -/
import Derived.Test.YtbmejfcbladofaaQ1
namespace Go.Proofs.Ytbmejfcbladofaa
open Go.RowKit

theorem szS_app (a b : List Dc) : szS (a ++ b) = szS a + szS b := by
  induction a with
  | nil => simp [szS]
  | cons x a ih => unfold szS at ih ⊢; simp only [List.cons_append, List.foldr_cons]; omega
theorem szS_one (x : Dc) : szS [x] = x.text.size := by simp [szS]
theorem take_one {l : List Dc} {k : Nat} {x : Dc} (h : l[k]? = some x) : l.take (k + 1) = l.take k ++ [x] := by
  have hk := List.getElem?_eq_some_iff.1 h
  rw [List.take_succ_eq_append_getElem hk.1, hk.2]
theorem szS_take {l : List Dc} {k : Nat} {x : Dc} (h : l[k]? = some x) : szS (l.take (k + 1)) = szS (l.take k) + x.text.size := by rw [take_one h, szS_app, szS_one]
theorem hasHard_take {l : List Dc} {k : Nat} {x : Dc} (h : l[k]? = some x) : hasHard (l.take (k + 1)) = (hasHard (l.take k) || decide (x.kind = 3)) := by
  rw [take_one h]
  unfold hasHard
  rw [List.any_append]
  simp [kindIs]
theorem szS_le {l : List Dc} {m : Nat} (h : ∀ x ∈ l, x.text.size ≤ m) : szS l ≤ l.length * m := by
  induction l with
  | nil => simp [szS]
  | cons x l ih =>
    have h1 := ih (fun y hy => h y (by simp [hy]))
    have h2 := h x (by simp)
    have e : szS (x :: l) = x.text.size + szS l := rfl
    rw [e, List.length_cons, Nat.succ_mul]; omega
theorem nearS_take {l : List Dc} {k : Nat} (h : ∀ x ∈ l.take k, x.kind = 1) (he : ∀ x, l[k]? = some x → x.kind ≠ 1) : nearS l = szS (l.take k) := by
  induction l generalizing k with
  | nil => simp [nearS, szS]
  | cons x l ih =>
    cases k with
    | zero =>
      have := he x rfl
      rw [nearS, if_neg this]; rfl
    | succ k =>
      have h1 : x.kind = 1 := h x (by simp)
      have e : szS ((x :: l).take (k + 1)) = x.text.size + szS (l.take k) := rfl
      rw [nearS, if_pos h1, e, ih (fun y hy => h y (by rw [List.take_succ_cons]; exact List.mem_cons_of_mem _ hy)) (fun y hy => he y (by simpa using hy))]
theorem hasHard_mem {l : List Dc} {x : Dc} (h : x ∈ l) (hk : x.kind = 3) : hasHard l = true := by
  unfold hasHard
  rw [List.any_eq_true]
  exact ⟨x, h, by simp [kindIs, hk]⟩
set_option maxRecDepth 100000 in
set_option maxHeartbeats 8000000 in
theorem rfits_any (lo WB : Nat) (s : Wr) (wd : Int) (lv tv : Value) (ls : List Dc) (n : Nat) (w : World) (h : WrAt lo WB s wd lv tv ls w) (hc0 : 0 ≤ s.col) (hc1 : s.col ≤ 1000000) (hp : s.pos + n ≤ ls.length) (hls : ls.length ≤ 1000) (htx : ∀ x ∈ ls, x.text.size ≤ 12000) :
    Calls Try.prog 39 #[.pointer (some ⟨WB, 0, none⟩), .int .i64 (n : Int)] w fun e w' => e = .returned (.bool (rfits ls wd s n)) ∧ w' = w := by
  obtain ⟨lo', hl⟩ := h.lrow
  have HROW : Hid _ := fun (_ : Unit) => hl
  obtain ⟨c0, f0⟩ := blk_cell h.blk (j := 0) rfl
  obtain ⟨c1, f1⟩ := blk_cell h.blk (j := 1) rfl
  obtain ⟨c3, f3⟩ := blk_cell h.blk (j := 3) rfl
  obtain ⟨c4, f4⟩ := blk_cell h.blk (j := 4) rfl
  have HSZ : Hid (∀ l : List Dc, (∀ x ∈ l, x ∈ ls) → szS l ≤ l.length * 12000) := fun l hm => szS_le (fun x hx => htx x (hm x hx))
  have HRF : Hid (rfits ls wd s n = (!hasHard ((ls.drop s.pos).take n) && decide (s.col + (szS ((ls.drop s.pos).take n) : Int) + (nearS (ls.drop (s.pos + n)) : Int) ≤ wd))) := rfl
  obtain ⟨p, hpp⟩ : ∃ p, s.pos = p := ⟨_, rfl⟩
  obtain ⟨cl, hcl⟩ : ∃ p, s.col = p := ⟨_, rfl⟩
  rw [hpp] at c1 HRF hp
  rw [hcl] at c3 HRF hc0 hc1
  clear h hpp hcl htx
  obtain ⟨va, vc, hva⟩ := row_slice hl
  subst hva
  clear hl
  have hspI : IntKind.i64.wrap ((p : Int) + n) = (p : Int) + n := by rw [IntKind.wrap_i64]; omega
  go_enter Try.func39, Try.ntmps39
  go_wp2
  go_loopw [5, 6] (fun sv iv W => W = w ∧ ∃ (k z : Nat), k ≤ n ∧ iv = .int .i64 ((p + k : Nat) : Int) ∧ z = szS ((ls.drop p).take k) ∧ z ≤ k * 12000 ∧ sv = .int .i64 (cl + z) ∧ hasHard ((ls.drop p).take k) = false) (fun _ iv _ => p + n - (intOf iv).toNat)
  case atStart => exact ⟨rfl, 0, 0, Nat.zero_le _, by simp, rfl, Nat.zero_le _, by simp, rfl⟩
  case round =>
    obtain ⟨rfl, k, z, hk, rfl, hz, hzk, rfl, hh⟩ := hrel
    have HZ : Hid _ := hz
    have HHH : Hid _ := hh
    clear hz hh
    by_cases hlt : k < n
    · obtain ⟨x, hx⟩ : ∃ x, ls[p + k]? = some x := ⟨ls[p + k], by simp⟩
      have hx2 : (ls.drop p)[k]? = some x := by rw [List.getElem?_drop]; exact hx
      have hrow := HROW.out ()
      obtain ⟨g, cap, hsl, _, hglt⟩ := hrow.form (by omega)
      cases hsl
      have cK := (own_cell hrow (lfV_get hx).1).1
      have cT := (own_cell hrow (lfV_get hx).2).1
      have hltI : ((p : Int) + k) < (p : Int) + n := by omega
      have hltL : ((p : Int) + k) < ls.length := by omega
      have htx : x.text.size ≤ 12000 := by
        have := HSZ.out [x] (fun y hy => by simp at hy; subst hy; exact List.mem_of_getElem? hx)
        rw [szS_one] at this; simpa using this
      have HZT : Hid _ := szS_take hx2
      have HHT : Hid _ := hasHard_take hx2
      have HMM : Hid (x.kind = 3 → hasHard ((ls.drop p).take n) = true) := fun e => by
        refine hasHard_mem (x := x) ?_ e
        have : x ∈ (ls.drop p).take (k + 1) := by rw [take_one hx2]; simp
        exact List.take_subset_take_left _ (by omega) this
      clear hrow hx hx2
      by_cases h3 : x.kind = 3
      · have HV : Hid (rfits ls wd s n = false) := by show _ = _; rw [HRF.out, HMM.out h3]; rfl
        rw [h3] at cK
        clear HZT HHT HMM h3
        go_wp2
        go_ret
        rw [HV.out]
        exact ⟨rfl, rfl⟩
      · have h3b : (x.kind == 3) = false := by simpa using h3
        have HE : Hid (hasHard ((ls.drop p).take (k + 1)) = false) := by show _ = _; rw [HHT.out, HHH.out, decide_eq_false h3]; rfl
        clear HHT HMM
        go_wp2
        go_roundw
        case rel => exact ⟨trivial, k + 1, z + x.text.size, by omega, by go_num, by rw [HZT.out, HZ.out], by rw [Nat.succ_mul]; omega, by go_num, HE.out⟩
        case measure => simp [intOf]; omega
    · obtain rfl : k = n := by omega
      have HRF2 : Hid (rfits ls wd s k = decide (cl + (z : Int) + (nearS (ls.drop (p + k)) : Int) ≤ wd)) := by
        show _ = _
        rw [HRF.out, HHH.out, ← HZ.out]; rfl
      clear HZ HHH HRF
      go_wp2
      obtain ⟨wo, hwo⟩ : ∃ wo : World, wo = wr := ⟨_, rfl⟩
      rw [← hwo] at HROW c0 c1 c3 c4 ⊢
      have HWO : Hid _ := hwo
      clear hwo
      go_loopw [5, 7] (fun sv iv W => W = wo ∧ ∃ (j y : Nat), p + k + j ≤ ls.length ∧ iv = .int .i64 ((p + k + j : Nat) : Int) ∧ y = szS ((ls.drop (p + k)).take j) ∧ y ≤ j * 12000 ∧ sv = .int .i64 (cl + z + y) ∧ ∀ x ∈ (ls.drop (p + k)).take j, x.kind = 1) (fun _ iv _ => ls.length - (intOf iv).toNat)
      case atStart => exact ⟨rfl, 0, 0, by omega, by simp, rfl, Nat.zero_le _, by simp, by simp⟩
      case round =>
        obtain ⟨rfl, j, y, hj, rfl, hy, hyj, rfl, hall⟩ := hrel
        have HY : Hid _ := hy
        have HALL : Hid _ := hall
        clear hy hall
        by_cases hlt2 : p + k + j < ls.length
        · obtain ⟨x, hx⟩ : ∃ x, ls[p + k + j]? = some x := ⟨ls[p + k + j], by simp [hlt2]⟩
          have hx2 : (ls.drop (p + k))[j]? = some x := by rw [List.getElem?_drop]; exact hx
          have hrow := HROW.out ()
          obtain ⟨g, cap, hsl, _, hglt⟩ := hrow.form (by omega)
          cases hsl
          have cK := (own_cell hrow (lfV_get hx).1).1
          have cT := (own_cell hrow (lfV_get hx).2).1
          have hltL : ((p : Int) + k + j) < ls.length := by omega
          have htx : x.text.size ≤ 12000 := by
            have := HSZ.out [x] (fun y hy => by simp at hy; subst hy; exact List.mem_of_getElem? hx)
            rw [szS_one] at this; simpa using this
          have HZT : Hid _ := szS_take hx2
          have HTO : Hid _ := take_one hx2
          have HNS : Hid (x.kind ≠ 1 → nearS (ls.drop (p + k)) = y) := fun e => by
            rw [HY.out]
            exact nearS_take HALL.out (fun q hq => by rw [hx2] at hq; cases hq; exact e)
          clear hrow hx hx2
          by_cases h1 : x.kind = 1
          · rw [h1] at cK
            have HE : Hid (∀ q ∈ (ls.drop (p + k)).take (j + 1), q.kind = 1) := fun q hq => by
              rw [HTO.out] at hq
              rcases List.mem_append.1 hq with hq | hq
              · exact HALL.out q hq
              · simp at hq; subst hq; exact h1
            clear HNS HTO h1
            go_wp2
            go_roundw
            case rel => exact ⟨trivial, j + 1, y + x.text.size, by omega, by go_num, by rw [HZT.out, HY.out], by rw [Nat.succ_mul]; omega, by go_num, HE.out⟩
            case measure => simp [intOf]; omega
          · have h1b : (x.kind == 1) = false := by simpa using h1
            have HV : Hid (rfits ls wd s k = decide (cl + (z : Int) + (y : Int) ≤ wd)) := by show _ = _; rw [HRF2.out, HNS.out h1]
            clear HNS HTO HZT HRF2
            go_wp2
            go_ret
            rw [HV.out]
            exact ⟨rfl, HWO.out⟩
        · have HV : Hid (rfits ls wd s k = decide (cl + (z : Int) + (y : Int) ≤ wd)) := by
            show _ = _
            have : nearS (ls.drop (p + k)) = y := by
              rw [HY.out]
              refine nearS_take HALL.out (fun q hq => ?_)
              rw [List.getElem?_drop, List.getElem?_eq_none (by omega)] at hq
              cases hq
            rw [HRF2.out, this]
          have hgeI : (ls.length : Int) ≤ (p : Int) + k + j := by omega
          clear HRF2 hlt2 hj
          go_wp2
          go_ret
          rw [HV.out]
          exact ⟨rfl, HWO.out⟩
/-- A writer whose numbers are bounded. -/
structure WOk (s : Wr) : Prop where
  out : s.out.length ≤ 65536
  col : 0 ≤ s.col ∧ s.col ≤ 200000 + s.out.length
theorem rleaf_ok {L : List Dc} {s : Wr} (h : WOk s) {i : Nat} (hi : i ≤ 200000) (fl : Bool) : WOk (rleaf L s i fl) ∧ (rleaf L s i fl).pos ≤ s.pos + 1 ∧ (rleaf L s i fl).br = s.br := by
  unfold rleaf
  split
  · exact ⟨h, by omega, rfl⟩
  · have h1 : WOk { s with pos := s.pos + 1 } := ⟨h.out, h.col⟩
    split
    · refine ⟨⟨rput_len _ h1.out, rput_col _ h1.col⟩, ?_, ?_⟩
      · unfold rput; split <;> exact Nat.le_refl _
      · unfold rput; split <;> rfl
    · have h2 := rspc_ok i (rput_len ⟨#[10]⟩ h1.out) (rput_col ⟨#[10]⟩ h1.col)
      have hp : ∀ (n : Nat) (u : Wr), (rspc n u).pos = u.pos ∧ (rspc n u).br = u.br := by
        intro n
        induction n with
        | zero => intro u; exact ⟨rfl, rfl⟩
        | succ n ih =>
          intro u
          rw [rspc]
          split
          · exact ⟨rfl, rfl⟩
          · have := ih (rput u ⟨#[32]⟩)
            rw [this.1, this.2]
            unfold rput; split <;> exact ⟨rfl, rfl⟩
      have hq := hp i (rput { s with pos := s.pos + 1 } ⟨#[10]⟩)
      refine ⟨⟨h2.1, ⟨by show (0 : Int) ≤ i; omega, by show (i : Int) ≤ 200000 + ((rspc i _).out.length : Int); omega⟩⟩, ?_, ?_⟩
      · show (rspc i _).pos ≤ _
        rw [hq.1]; unfold rput; split <;> exact Nat.le_refl _
      · show (rspc i _).br = _
        rw [hq.2]; unfold rput; split <;> rfl
mutual
theorem rlay_ok (L : List Dc) (wd : Int) : ∀ (d : Dc) (m : Nat) (s : Wr) (i : Int) (fl : Bool), (∀ p ∈ pre d m, okP p = true) → 1 ≤ m → 0 ≤ i → i ≤ 1000 * (m - 1 : Nat) → WOk s → WOk (rlay L wd d s i fl) ∧ (rlay L wd d s i fl).pos ≤ s.pos + (rlv d).length ∧ (rlay L wd d s i fl).br ≤ s.br + cnt d
  | .mk k t n l, m, s, i, fl, hp, h1, hi0, hi1, hs => by
    rw [pre] at hp
    obtain ⟨hm, hn0, hn1⟩ := okP_n (hp _ List.mem_cons_self)
    simp only [Dc.n] at hn0 hn1
    simp only at hm
    have hpl : ∀ q ∈ preL l (m + 1), okP q = true := fun q hq => hp q (List.mem_cons_of_mem _ hq)
    rw [rlay, rlv, cnt]
    split
    · have := rleaf_ok hs (L := L) (i := i.toNat) (by omega) fl
      refine ⟨this.1, by simpa using this.2.1, by rw [this.2.2]; omega⟩
    split
    · have := rlayL_ok L wd l (m + 1) s (i + n) fl hpl (by omega) (by omega) (by omega) hs
      exact ⟨this.1, this.2.1, by omega⟩
    split
    · split
      · have := rlayL_ok L wd l (m + 1) s i true hpl (by omega) (by omega) (by omega) hs
        exact ⟨this.1, this.2.1, by omega⟩
      · have := rlayL_ok L wd l (m + 1) { s with br := s.br + 1 } i false hpl (by omega) (by omega) (by omega) ⟨hs.out, hs.col⟩
        exact ⟨this.1, this.2.1, by have := this.2.2; simp only at this; omega⟩
    · have := rlayL_ok L wd l (m + 1) s i fl hpl (by omega) (by omega) (by omega) hs
      exact ⟨this.1, this.2.1, by omega⟩
theorem rlayL_ok (L : List Dc) (wd : Int) : ∀ (l : List Dc) (m : Nat) (s : Wr) (i : Int) (fl : Bool), (∀ p ∈ preL l m, okP p = true) → 1 ≤ m → 0 ≤ i → i ≤ 1000 * (m - 1 : Nat) → WOk s → WOk (rlayL L wd l s i fl) ∧ (rlayL L wd l s i fl).pos ≤ s.pos + (rlvL l).length ∧ (rlayL L wd l s i fl).br ≤ s.br + cntL l
  | [], m, s, i, fl, _, _, _, _, hs => by rw [rlayL]; exact ⟨hs, by omega, by omega⟩
  | d :: l, m, s, i, fl, hp, h1, hi0, hi1, hs => by
    rw [preL] at hp
    rw [rlayL, rlvL, cntL, List.length_append]
    split
    · exact ⟨hs, by omega, by omega⟩
    · have a := rlay_ok L wd d m s i fl (fun q h => hp q (List.mem_append_left _ h)) h1 hi0 hi1 hs
      have b := rlayL_ok L wd l m _ i fl (fun q h => hp q (List.mem_append_right _ h)) h1 hi0 hi1 a.1
      exact ⟨b.1, by omega, by omega⟩
end
theorem rlayL_take {L : List Dc} {wd : Int} {l : List Dc} {k : Nat} {x : Dc} (h : l[k]? = some x) (s : Wr) (i : Int) (fl : Bool) : rlayL L wd (l.take (k + 1)) s i fl = if (rlayL L wd (l.take k) s i fl).long then rlayL L wd (l.take k) s i fl else rlay L wd x (rlayL L wd (l.take k) s i fl) i fl := by
  induction l generalizing k s with
  | nil => cases h
  | cons y l ih =>
    cases k with
    | zero =>
      simp at h; subst h
      rw [List.take_succ_cons, List.take_zero, List.take_zero, rlayL, rlayL, rlayL]
    | succ k =>
      simp at h
      rw [List.take_succ_cons, List.take_succ_cons, rlayL, rlayL]
      by_cases hs : s.long = true
      · rw [if_pos hs, if_pos hs, if_pos hs]
      · rw [if_neg hs, if_neg hs, ih h]
theorem rlayL_stop {L : List Dc} {wd : Int} {l : List Dc} {k : Nat} {s : Wr} {i : Int} {fl : Bool} (h : (rlayL L wd (l.take k) s i fl).long = true) : rlayL L wd l s i fl = rlayL L wd (l.take k) s i fl := by
  induction l generalizing k s with
  | nil => simp
  | cons y l ih =>
    cases k with
    | zero =>
      rw [List.take_zero, rlayL] at h ⊢
      rw [rlayL, if_pos h]
    | succ k =>
      rw [List.take_succ_cons, rlayL] at h ⊢
      rw [rlayL]
      by_cases hs : s.long = true
      · rw [if_pos hs, if_pos hs]
      · rw [if_neg hs] at h
        rw [if_neg hs, if_neg hs]
        exact ih h
theorem rlay_eq (L : List Dc) (wd : Int) (d : Dc) (s : Wr) (i : Int) (fl : Bool) : rlay L wd d s i fl = if d.kind = 1 ∨ d.kind = 2 ∨ d.kind = 3 then rleaf L s i.toNat fl else if d.kind = 4 then rlayL L wd d.kids s (i + d.n) fl else if d.kind = 5 ∧ fl = false then (if rfits L wd s (rlvL d.kids).length then rlayL L wd d.kids s i true else rlayL L wd d.kids { s with br := s.br + 1 } i false) else rlayL L wd d.kids s i fl := by
  cases d; rw [rlay]; rfl
theorem cntL_mono (l : List Dc) (k : Nat) : cntL (l.take k) ≤ cntL l ∧ (rlvL (l.take k)).length ≤ (rlvL l).length := by
  induction l generalizing k with
  | nil => simp
  | cons x l ih =>
    cases k with
    | zero => simp [cntL, rlvL]
    | succ k => rw [List.take_succ_cons, cntL, cntL, rlvL, rlvL, List.length_append, List.length_append]; have := ih k; omega
theorem preL_take {l : List Dc} {m k : Nat} (h : ∀ p ∈ preL l m, okP p = true) : ∀ p ∈ preL (l.take k) m, okP p = true := by
  intro p hp
  induction l generalizing k with
  | nil => simp [preL] at hp
  | cons x l ih =>
    rw [preL] at h
    cases k with
    | zero => simp [preL] at hp
    | succ k =>
      rw [List.take_succ_cons, preL] at hp
      rcases List.mem_append.1 hp with hp | hp
      · exact h p (List.mem_append_left _ hp)
      · exact ih (fun q hq => h q (List.mem_append_right _ hq)) hp
set_option maxRecDepth 100000 in
set_option maxHeartbeats 16000000 in
theorem rlay_any (lo WB : Nat) (wd : Int) (lv : Value) (ls : List Dc) (f : Nat) (hls : ls.length ≤ 1000) (htx : ∀ x ∈ ls, x.text.size ≤ 12000) (hlw : lo ≤ WB) : ∀ (N : Nat) (d : Dc) (m : Nat) (sa : Option Addr) (sc : Nat) (s : Wr) (tv : Value) (i : Int) (fl : Bool) (w : World), wt d ≤ N → (∀ p ∈ pre d m, okP p = true) → 1 ≤ m → 0 ≤ i → i ≤ 1000 * (m - 1 : Nat) → DAt w lo f sa d.kids → wt d ≤ 700 → WrAt lo WB s wd lv tv ls w → WOk s → s.pos + (rlv d).length ≤ ls.length → s.br + cnt d ≤ 1000000 → lo ≤ w.heap.size →
    Calls Try.prog 24 #[.pointer (some ⟨WB, 0, none⟩), .agg #[.int .i64 d.kind, .string d.text, .int .i64 d.n, .slice sa d.kids.length sc], .int .i64 i, .bool fl] w fun e w' => (∃ r, e = .returned r) ∧ ∃ tv', WrAt lo WB (rlay ls wd d s i fl) wd lv tv' ls w' ∧ Turn WB tv tv' w w' := by
  intro N
  induction N with
  | zero => intro d m sa sc s tv i fl w hN; rw [wt_eq] at hN; omega
  | succ N ih =>
  intro d m sa sc s tv i fl w hN hp h1 hi0 hi1 hk h700 h hok hpos hbr hlo
  have hlen := hk.len
  have hwt := wt_eq d
  have hpe := pre_eq d m
  obtain ⟨hm, hn0, hn1⟩ := okP_n (hp (d, m) (by rw [hpe]; simp))
  simp only at hm hn0 hn1
  have hpl : ∀ p ∈ preL d.kids (m + 1), okP p = true := fun p hq => hp p (by rw [hpe]; exact List.mem_cons_of_mem _ hq)
  have hWB := (Array.getElem?_eq_some_iff.1 h.blk).1
  have htvlt : ∀ b, tv.ownBlock = some b → lo ≤ b ∧ b < w.heap.size := fun b e => h.row.lt b e
  obtain ⟨w1, hw1⟩ : ∃ w1, w.alloc (.cells #[.int .i64 d.kind, .string d.text, .int .i64 d.n, .slice sa d.kids.length sc] 24) = w1 := ⟨_, rfl⟩
  have hB1 : Below w.heap.size w w1 := by rw [← hw1]; exact (Below.refl _ _).alloc (Nat.le_refl _) _
  have s1 : w1.heap.size = w.heap.size + 1 := by rw [← hw1]; simp
  have x1 : Bx w1 w.heap.size d.kind d.text d.n (.slice sa d.kids.length sc) := by rw [← hw1]; exact Bx.new _ _ _ _ _ _
  have HX1 : Hid _ := x1
  obtain ⟨a0, a1, a2, a3⟩ := x1
  have HRL : Hid _ := rlay_eq ls wd d s i fl
  have HT1 : Hid (Turn WB tv tv w w1) := Turn.of_below hB1
  have H1 : Hid _ := h.below hB1
  obtain ⟨i, rfl⟩ := Int.eq_ofNat_of_zero_le hi0
  have hi2 : i ≤ 199000 := by omega
  have hi3 : i + 1000 ≤ 1000 * m := by omega
  have HI : Hid (∀ (x : Dc) (k : Nat) (xa : Option Addr) (xc : Nat) (u : Wr) (tvk : Value) (j : Int) (b : Bool) (W : World), d.kids[k]? = some x → 0 ≤ j → j ≤ 1000 * (m : Nat) → DAt W lo f xa x.kids → WrAt lo WB u wd lv tvk ls W → WOk u → u.pos ≤ s.pos + (rlvL (d.kids.take k)).length → u.br ≤ s.br + 1 + cntL (d.kids.take k) → (rlv d = rlvL d.kids) → lo ≤ W.heap.size → Calls Try.prog 24 #[.pointer (some ⟨WB, 0, none⟩), .agg #[.int .i64 x.kind, .string x.text, .int .i64 x.n, .slice xa x.kids.length xc], .int .i64 j, .bool b] W fun e w' => (∃ r, e = .returned r) ∧ ∃ tv', WrAt lo WB (rlay ls wd x u j b) wd lv tv' ls w' ∧ Turn WB tvk tv' W w') := fun x k xa xc u tvk j b W hx hj0 hj1 hxk hW hu hup hub hrl hlo2 => by
    have hxm : x ∈ d.kids := List.mem_of_getElem? hx
    have g1 := wtL_take hx
    have g2 := wtL_take_le d.kids (k + 1)
    have g3 := cntL_mono d.kids (k + 1)
    rw [cntL_take hx, rlvL_take hx, List.length_append] at g3
    have g4 := cnt_eq d
    rw [hrl] at hpos
    exact ih x (m + 1) xa xc u tvk j b W (by omega) (fun p hq => hpl p (preL_mem hxm hq)) (by omega) hj0 (by omega) hxk (by omega) hW hu (by omega) (by omega) hlo2
  have HK : Hid _ := hk
  have HDT : Hid (∀ (tvk : Value) (W : World), Turn WB tv tvk w W → DAt W lo f sa d.kids) := fun tvk W hT => hT.dat hlw (fun b e => (htvlt b e).1) hlo HK.out
  have HLK : Hid (∀ (tvk : Value) (W : World), Turn WB tv tvk w1 W → W.cell? ⟨w.heap.size, 3, none⟩ = some (.slice sa d.kids.length sc)) := fun tvk W hT => by
    refine (World.cell?_of_block (a := ⟨w.heap.size, 3, none⟩) (hT.keep w.heap.size (by omega) (by omega) (fun e => ?_))).trans HX1.out.c3
    have := (htvlt _ e).2
    omega
  have HOKL : Hid (∀ (s0 : Wr) (j : Int) (b : Bool) (k : Nat), WOk s0 → s0.pos = s.pos → s0.br ≤ s.br + 1 → 0 ≤ j → j ≤ 1000 * (m : Nat) → WOk (rlayL ls wd (d.kids.take k) s0 j b) ∧ (rlayL ls wd (d.kids.take k) s0 j b).pos ≤ s.pos + (rlvL (d.kids.take k)).length ∧ (rlayL ls wd (d.kids.take k) s0 j b).br ≤ s.br + 1 + cntL (d.kids.take k)) := fun s0 j b k hs0 hsp hsb hj0 hj1 => by
    have := rlayL_ok ls wd (d.kids.take k) (m + 1) s0 j b (preL_take hpl) (by omega) hj0 (by omega) hs0
    rw [hsp] at this
    exact ⟨this.1, this.2.1, by omega⟩
  have HOK : Hid _ := hok
  have HLO1 : Hid (lo ≤ w1.heap.size) := by show _ ≤ _; omega
  have HRV : Hid (isLf d = false → rlv d = rlvL d.kids) := fun e => rlv_no e
  have HRY : Hid (isLf d = true → (rlv d).length = 1) := fun e => by rw [rlv_yes e]; rfl
  have HPOS : Hid _ := hpos
  have HBRB : Hid (s.br ≤ 1000000) := by show _ ≤ _; omega
  have HLEAF : Hid (s.pos < ls.length → ∀ b, Calls Try.prog 38 #[.pointer (some ⟨WB, 0, none⟩), .int .i64 (i : Int), .bool b] w1 fun e w' => (∃ r, e = .returned r) ∧ ∃ tv', WrAt lo WB (rleaf ls s i b) wd lv tv' ls w' ∧ Turn WB tv tv' w1 w') := fun hps b => rleaf_any lo WB s wd lv tv ls i b w1 H1.out hok.out hok.col hps (by omega) (fun x hx => Nat.le_trans (htx x hx) (by omega)) (by omega) HLO1.out
  have HLVS : Hid _ := fun (_ : Unit) => refLeaves_any f (wt d) d sa sc w1 (Nat.le_refl _) (DAt.mono HLO1.out (HDT.out tv w1 HT1.out)) h700
  have HFITS : Hid (∀ W, Below w1.heap.size w1 W → Calls Try.prog 39 #[.pointer (some ⟨WB, 0, none⟩), .int .i64 ((rlv d).length : Int)] W fun e w' => e = .returned (.bool (rfits ls wd s (rlv d).length)) ∧ w' = W) := fun W hW => rfits_any lo WB s wd lv tv ls (rlv d).length W (H1.out.below hW) hok.col.1 (by have := hok.col; have := hok.out; omega) HPOS.out hls htx
  have HS1 : Hid _ := s1
  have HWB : Hid _ := hWB
  have HTVL : Hid _ := htvlt
  have hsc1 : s.col ≤ 1000000 := by have := hok.col; have := hok.out; omega
  clear hwt ih hk hN hB1 s1 h700 hp hpe hpl hWB htvlt h hok hpos hbr hls htx hi0 hi1
  cases hlf : isLf d with
  | true =>
    have hk3 : d.kind = 1 ∨ d.kind = 2 ∨ d.kind = 3 := by
      unfold isLf at hlf; simp at hlf; omega
    rw [if_pos hk3] at HRL
    have hps : s.pos < ls.length := by have := HPOS.out; have := HRY.out hlf; omega
    have HL : Hid _ := fun (_ : Unit) => HLEAF.out hps fl
    have HKD : Hid _ := hk3
    obtain ⟨kd, hkd⟩ : ∃ k, d.kind = k := ⟨_, rfl⟩
    rw [hkd] at HKD a0
    clear hkd hlf hk3
    rcases HKD.out with rfl | rfl | rfl
    all_goals
      clear HKD
      go_enter Try.func24, Try.ntmps24
      go_wp2_with (go_at_call 38; refine (HL.out ()).mono ?_)
      rintro e w3 ⟨⟨r, rfl⟩, tv', hP3, hT3⟩
      have HP3 : Hid _ := hP3
      have HT3 : Hid _ := hT3
      clear hP3 hT3
      go_wp2
      first | go_end0 | refine bodyPost_ret (results_none rfl _ _ _) rfl ?_
      rw [HRL.out]
      exact ⟨⟨_, rfl⟩, tv', HP3.out, HT1.out.trans HT3.out⟩
  | false =>
    have HRV2 : Hid _ := HRV.out hlf
    have hk3 : ¬ d.kind = 1 ∧ ¬ d.kind = 2 ∧ ¬ d.kind = 3 := by
      unfold isLf at hlf; simp at hlf; omega
    rw [if_neg (show ¬ (d.kind = 1 ∨ d.kind = 2 ∨ d.kind = 3) by omega)] at HRL
    have e1 : (d.kind == 1) = false := by simpa using hk3.1
    have e2 : (d.kind == 2) = false := by simpa using hk3.2.1
    have e3 : (d.kind == 3) = false := by simpa using hk3.2.2
    clear hlf HLEAF
    by_cases h4 : d.kind = 4
    · rw [if_pos h4] at HRL
      rw [h4] at a0
      clear e1 e2 e3 hk3 h4
      obtain ⟨nn, hnn⟩ := Int.eq_ofNat_of_zero_le hn0
      rw [hnn] at HRL a2 hn1
      have hj2 : i + nn ≤ 1000 * m := by omega
      have HS0 : Hid _ := H1.out
      have HTL : Hid _ := Turn.refl WB tv w1
      have HLOL : Hid _ := HLO1.out
      have HOK0 : Hid _ := HOK.out
      have HBR0 : Hid (s.br ≤ s.br + 1) := by show _ ≤ _; omega
      clear hnn hn0
      go_enter Try.func24, Try.ntmps24
      go_wp2
      go_loopw [9] (fun kv W => ∃ (k : Nat) (tvk : Value), k ≤ d.kids.length ∧ kv = .int .i64 k ∧ WrAt lo WB (rlayL ls wd (d.kids.take k) s ((i : Int) + (nn : Int)) fl) wd lv tvk ls W ∧ Turn WB tv tvk w1 W ∧ lo ≤ W.heap.size) (fun kv _ => d.kids.length - (intOf kv).toNat)
      case atStart => exact ⟨0, tv, Nat.zero_le _, rfl, by rw [List.take_zero, rlayL]; exact HS0.out, HTL.out, HLOL.out⟩
      case round =>
        obtain ⟨k, tvk, hk, rfl, hP, hT, hlo'⟩ := hrel
        have b3 := HLK.out tvk wr hT
        obtain ⟨c6, f6⟩ := blk_cell hP.blk (j := 6) rfl
        have hokk := HOKL.out s ((i : Int) + (nn : Int)) fl k HOK0.out rfl HBR0.out (by omega) (by omega)
        have HOKK : Hid _ := hokk
        have HPk : Hid _ := hP
        have HTk : Hid _ := hT
        have HTw : Hid (Turn WB tv tvk w wr) := HT1.out.trans hT
        have HST : Hid ((rlayL ls wd (d.kids.take k) s ((i : Int) + (nn : Int)) fl).long = true → rlayL ls wd d.kids s ((i : Int) + (nn : Int)) fl = rlayL ls wd (d.kids.take k) s ((i : Int) + (nn : Int)) fl) := fun e => rlayL_stop e
        clear hP hT hokk HS0 HTL HLOL
        by_cases hlt : k < d.kids.length
        · have hltI : (k : Int) < d.kids.length := by omega
          cases hlg : (rlayL ls wd (d.kids.take k) s ((i : Int) + (nn : Int)) fl).long with
          | true =>
            have HE : Hid _ := HST.out hlg
            rw [hlg] at c6
            clear hlg HST HOKK
            go_wp2
            first | go_end0 | refine bodyPost_ret (results_none rfl _ _ _) rfl ?_
            rw [HRL.out, HE.out]
            exact ⟨⟨_, rfl⟩, tvk, HPk.out, HTw.out⟩
          | false =>
            obtain ⟨x, hx⟩ : ∃ x, d.kids[k]? = some x := ⟨d.kids[k], by simp [hlt]⟩
            obtain ⟨bb, o, hsa, hb, xa, xc, c0, c1, c2, c3, hxc, hxk⟩ := (HDT.out tvk wr HTw.out).one hx
            have HCX : Hid _ := fun (_ : Unit) => HI.out x k xa xc _ tvk ((i : Int) + (nn : Int)) fl wr hx (by omega) (by omega) hxk HPk.out HOKK.out.1 HOKK.out.2.1 HOKK.out.2.2 HRV2.out hlo'
            have HTK : Hid (rlayL ls wd (d.kids.take (k + 1)) s ((i : Int) + (nn : Int)) fl = rlay ls wd x (rlayL ls wd (d.kids.take k) s ((i : Int) + (nn : Int)) fl) ((i : Int) + (nn : Int)) fl) := by
              show _ = _
              rw [rlayL_take hx, hlg]; rfl
            rw [hlg] at c6
            subst hsa
            clear hlg HST HOKK hx hxk
            go_wp2_with (go_at_call 24; refine (HCX.out ()).mono ?_)
            rintro e w4 ⟨⟨r, rfl⟩, tv4, hP4, hT4⟩
            have HP4 : Hid _ := hP4
            have HT4 : Hid (Turn WB tv tv4 w1 w4) := HTk.out.trans hT4
            have HLO4 : Hid (lo ≤ w4.heap.size) := Nat.le_trans hlo' hT4.size
            clear hP4 hT4 c6 f6 b3 c0 c1 c2 c3
            go_wp2
            go_roundw
            case rel => exact ⟨k + 1, tv4, by omega, by go_num, by rw [HTK.out]; exact HP4.out, HT4.out, HLO4.out⟩
            case measure => simp [intOf]; omega
        · obtain rfl : k = d.kids.length := by omega
          rw [List.take_length] at HPk
          clear HST HOKK
          go_wp2
          first | go_end0 | refine bodyPost_ret (results_none rfl _ _ _) rfl ?_
          rw [HRL.out]
          exact ⟨⟨_, rfl⟩, tvk, HPk.out, HTw.out⟩
    · rw [if_neg h4] at HRL
      have e4 : (d.kind == 4) = false := by simpa using h4
      have hj2 : i ≤ 1000 * m := by omega
      have HS0 : Hid _ := H1.out
      have HTL : Hid _ := Turn.refl WB tv w1
      have HLOL : Hid _ := HLO1.out
      by_cases h5 : d.kind = 5
      · rw [h5] at a0
        clear e1 e2 e3 e4 hk3 h4
        cases fl with
        | true =>
          rw [if_neg (show ¬ (d.kind = 5 ∧ true = false) by simp)] at HRL
          have HOK0 : Hid _ := HOK.out
          have HBR0 : Hid (s.br ≤ s.br + 1) := by show _ ≤ _; omega
          clear h5
          go_enter Try.func24, Try.ntmps24
          go_wp2
          go_loopw [9] (fun kv W => ∃ (k : Nat) (tvk : Value), k ≤ d.kids.length ∧ kv = .int .i64 k ∧ WrAt lo WB (rlayL ls wd (d.kids.take k) s (i : Int) true) wd lv tvk ls W ∧ Turn WB tv tvk w1 W ∧ lo ≤ W.heap.size) (fun kv _ => d.kids.length - (intOf kv).toNat)
          case atStart => exact ⟨0, tv, Nat.zero_le _, rfl, by rw [List.take_zero, rlayL]; exact HS0.out, HTL.out, HLOL.out⟩
          case round =>
            obtain ⟨k, tvk, hk, rfl, hP, hT, hlo'⟩ := hrel
            have b3 := HLK.out tvk wr hT
            obtain ⟨c6, f6⟩ := blk_cell hP.blk (j := 6) rfl
            have hokk := HOKL.out s (i : Int) true k HOK0.out rfl HBR0.out (by omega) (by omega)
            have HOKK : Hid _ := hokk
            have HPk : Hid _ := hP
            have HTk : Hid _ := hT
            have HTw : Hid (Turn WB tv tvk w wr) := HT1.out.trans hT
            have HST : Hid ((rlayL ls wd (d.kids.take k) s (i : Int) true).long = true → rlayL ls wd d.kids s (i : Int) true = rlayL ls wd (d.kids.take k) s (i : Int) true) := fun e => rlayL_stop e
            clear hP hT hokk HS0 HTL HLOL
            by_cases hlt : k < d.kids.length
            · have hltI : (k : Int) < d.kids.length := by omega
              cases hlg : (rlayL ls wd (d.kids.take k) s (i : Int) true).long with
              | true =>
                have HE : Hid _ := HST.out hlg
                rw [hlg] at c6
                clear hlg HST HOKK
                go_wp2
                first | go_end0 | refine bodyPost_ret (results_none rfl _ _ _) rfl ?_
                rw [HRL.out, HE.out]
                exact ⟨⟨_, rfl⟩, tvk, HPk.out, HTw.out⟩
              | false =>
                obtain ⟨x, hx⟩ : ∃ x, d.kids[k]? = some x := ⟨d.kids[k], by simp [hlt]⟩
                obtain ⟨bb, o, hsa, hb, xa, xc, c0, c1, c2, c3, hxc, hxk⟩ := (HDT.out tvk wr HTw.out).one hx
                have HCX : Hid _ := fun (_ : Unit) => HI.out x k xa xc _ tvk (i : Int) true wr hx (by omega) (by omega) hxk HPk.out HOKK.out.1 HOKK.out.2.1 HOKK.out.2.2 HRV2.out hlo'
                have HTK : Hid (rlayL ls wd (d.kids.take (k + 1)) s (i : Int) true = rlay ls wd x (rlayL ls wd (d.kids.take k) s (i : Int) true) (i : Int) true) := by
                  show _ = _
                  rw [rlayL_take hx, hlg]; rfl
                rw [hlg] at c6
                subst hsa
                clear hlg HST HOKK hx hxk
                go_wp2_with (go_at_call 24; refine (HCX.out ()).mono ?_)
                rintro e w4 ⟨⟨r, rfl⟩, tv4, hP4, hT4⟩
                have HP4 : Hid _ := hP4
                have HT4 : Hid (Turn WB tv tv4 w1 w4) := HTk.out.trans hT4
                have HLO4 : Hid (lo ≤ w4.heap.size) := Nat.le_trans hlo' hT4.size
                clear hP4 hT4 c6 f6 b3 c0 c1 c2 c3
                go_wp2
                go_roundw
                case rel => exact ⟨k + 1, tv4, by omega, by go_num, by rw [HTK.out]; exact HP4.out, HT4.out, HLO4.out⟩
                case measure => simp [intOf]; omega
            · obtain rfl : k = d.kids.length := by omega
              rw [List.take_length] at HPk
              clear HST HOKK
              go_wp2
              first | go_end0 | refine bodyPost_ret (results_none rfl _ _ _) rfl ?_
              rw [HRL.out]
              exact ⟨⟨_, rfl⟩, tvk, HPk.out, HTw.out⟩
        | false =>
          rw [if_pos ⟨h5, rfl⟩, ← HRV2.out] at HRL
          rw [h5] at HLVS
          clear h5
          go_enter Try.func24, Try.ntmps24
          go_wp2_with (go_at_call 23; refine (HLVS.out ()).mono ?_)
          rintro e w2 ⟨⟨v, rfl, hrow⟩, hb2⟩
          obtain ⟨va, vc, rfl⟩ := row_slice hrow
          have HF : Hid _ := fun (_ : Unit) => HFITS.out w2 hb2
          have HT2 : Hid (Turn WB tv tv w1 w2) := Turn.of_below hb2
          have H2 : Hid _ := H1.out.below hb2
          have HLO2 : Hid (lo ≤ w2.heap.size) := Nat.le_trans HLO1.out hb2.size
          clear hrow hb2
          cases hft : rfits ls wd s (rlv d).length with
          | true =>
            rw [hft] at HF
            rw [hft, if_pos rfl] at HRL
            have HOK0 : Hid _ := HOK.out
            have HBR0 : Hid (s.br ≤ s.br + 1) := by show _ ≤ _; omega
            clear hft HS0 HTL HLOL
            have HS0 : Hid _ := H2.out
            have HTL : Hid _ := HT2.out
            have HLOL : Hid _ := HLO2.out
            go_wp2_with (go_at_call 39; refine (HF.out ()).mono ?_; rintro e w3 ⟨rfl, hw3⟩; replace hw3 := hw3.symm; subst hw3)
            go_loopw [9] (fun kv W => ∃ (k : Nat) (tvk : Value), k ≤ d.kids.length ∧ kv = .int .i64 k ∧ WrAt lo WB (rlayL ls wd (d.kids.take k) s (i : Int) true) wd lv tvk ls W ∧ Turn WB tv tvk w1 W ∧ lo ≤ W.heap.size) (fun kv _ => d.kids.length - (intOf kv).toNat)
            case atStart => exact ⟨0, tv, Nat.zero_le _, rfl, by rw [List.take_zero, rlayL]; exact HS0.out, HTL.out, HLOL.out⟩
            case round =>
              obtain ⟨k, tvk, hk, rfl, hP, hT, hlo'⟩ := hrel
              have b3 := HLK.out tvk wr hT
              obtain ⟨c6, f6⟩ := blk_cell hP.blk (j := 6) rfl
              have hokk := HOKL.out s (i : Int) true k HOK0.out rfl HBR0.out (by omega) (by omega)
              have HOKK : Hid _ := hokk
              have HPk : Hid _ := hP
              have HTk : Hid _ := hT
              have HTw : Hid (Turn WB tv tvk w wr) := HT1.out.trans hT
              have HST : Hid ((rlayL ls wd (d.kids.take k) s (i : Int) true).long = true → rlayL ls wd d.kids s (i : Int) true = rlayL ls wd (d.kids.take k) s (i : Int) true) := fun e => rlayL_stop e
              clear hP hT hokk HS0 HTL HLOL
              by_cases hlt : k < d.kids.length
              · have hltI : (k : Int) < d.kids.length := by omega
                cases hlg : (rlayL ls wd (d.kids.take k) s (i : Int) true).long with
                | true =>
                  have HE : Hid _ := HST.out hlg
                  rw [hlg] at c6
                  clear hlg HST HOKK
                  go_wp2
                  first | go_end0 | refine bodyPost_ret (results_none rfl _ _ _) rfl ?_
                  rw [HRL.out, HE.out]
                  exact ⟨⟨_, rfl⟩, tvk, HPk.out, HTw.out⟩
                | false =>
                  obtain ⟨x, hx⟩ : ∃ x, d.kids[k]? = some x := ⟨d.kids[k], by simp [hlt]⟩
                  obtain ⟨bb, o, hsa, hb, xa, xc, c0, c1, c2, c3, hxc, hxk⟩ := (HDT.out tvk wr HTw.out).one hx
                  have HCX : Hid _ := fun (_ : Unit) => HI.out x k xa xc _ tvk (i : Int) true wr hx (by omega) (by omega) hxk HPk.out HOKK.out.1 HOKK.out.2.1 HOKK.out.2.2 HRV2.out hlo'
                  have HTK : Hid (rlayL ls wd (d.kids.take (k + 1)) s (i : Int) true = rlay ls wd x (rlayL ls wd (d.kids.take k) s (i : Int) true) (i : Int) true) := by
                    show _ = _
                    rw [rlayL_take hx, hlg]; rfl
                  rw [hlg] at c6
                  subst hsa
                  clear hlg HST HOKK hx hxk
                  go_wp2_with (go_at_call 24; refine (HCX.out ()).mono ?_)
                  rintro e w4 ⟨⟨r, rfl⟩, tv4, hP4, hT4⟩
                  have HP4 : Hid _ := hP4
                  have HT4 : Hid (Turn WB tv tv4 w1 w4) := HTk.out.trans hT4
                  have HLO4 : Hid (lo ≤ w4.heap.size) := Nat.le_trans hlo' hT4.size
                  clear hP4 hT4 c6 f6 b3 c0 c1 c2 c3
                  go_wp2
                  go_roundw
                  case rel => exact ⟨k + 1, tv4, by omega, by go_num, by rw [HTK.out]; exact HP4.out, HT4.out, HLO4.out⟩
                  case measure => simp [intOf]; omega
              · obtain rfl : k = d.kids.length := by omega
                rw [List.take_length] at HPk
                clear HST HOKK
                go_wp2
                first | go_end0 | refine bodyPost_ret (results_none rfl _ _ _) rfl ?_
                rw [HRL.out]
                exact ⟨⟨_, rfl⟩, tvk, HPk.out, HTw.out⟩
          | false =>
            rw [hft] at HF
            rw [hft, if_neg (show ¬ (false = true) by decide)] at HRL
            have hs5 := H2.out.set 5 (.int .i64 ((s.br : Int) + 1)) (w' := { s with br := s.br + 1 }) rfl rfl
            obtain ⟨c5, f5⟩ := blk_cell H2.out.blk (j := 5) rfl
            have hbrI := HBRB.out
            clear hft HS0 HTL HLOL
            have HS0 : Hid _ := hs5.1
            have HTL : Hid (Turn WB tv tv w1 (w2.setCell ⟨WB, 5, none⟩ (.int .i64 ((s.br : Int) + 1)))) := HT2.out.trans hs5.2
            have HLOL : Hid (lo ≤ (w2.setCell ⟨WB, 5, none⟩ (.int .i64 ((s.br : Int) + 1))).heap.size) := Nat.le_trans HLO2.out hs5.2.size
            have HOK0 : Hid (WOk { s with br := s.br + 1 }) := ⟨HOK.out.out, HOK.out.col⟩
            have HBR0 : Hid (({ s with br := s.br + 1 } : Wr).br ≤ s.br + 1) := Nat.le_refl _
            clear hs5
            go_wp2_with (go_at_call 39; refine (HF.out ()).mono ?_; rintro e w3 ⟨rfl, hw3⟩; replace hw3 := hw3.symm; subst hw3)
            go_loopw [9] (fun kv W => ∃ (k : Nat) (tvk : Value), k ≤ d.kids.length ∧ kv = .int .i64 k ∧ WrAt lo WB (rlayL ls wd (d.kids.take k) { s with br := s.br + 1 } (i : Int) false) wd lv tvk ls W ∧ Turn WB tv tvk w1 W ∧ lo ≤ W.heap.size) (fun kv _ => d.kids.length - (intOf kv).toNat)
            case atStart => exact ⟨0, tv, Nat.zero_le _, rfl, by rw [List.take_zero, rlayL]; exact HS0.out, HTL.out, HLOL.out⟩
            case round =>
              obtain ⟨k, tvk, hk, rfl, hP, hT, hlo'⟩ := hrel
              have b3 := HLK.out tvk wr hT
              obtain ⟨c6, f6⟩ := blk_cell hP.blk (j := 6) rfl
              have hokk := HOKL.out { s with br := s.br + 1 } (i : Int) false k HOK0.out rfl HBR0.out (by omega) (by omega)
              have HOKK : Hid _ := hokk
              have HPk : Hid _ := hP
              have HTk : Hid _ := hT
              have HTw : Hid (Turn WB tv tvk w wr) := HT1.out.trans hT
              have HST : Hid ((rlayL ls wd (d.kids.take k) { s with br := s.br + 1 } (i : Int) false).long = true → rlayL ls wd d.kids { s with br := s.br + 1 } (i : Int) false = rlayL ls wd (d.kids.take k) { s with br := s.br + 1 } (i : Int) false) := fun e => rlayL_stop e
              clear hP hT hokk HS0 HTL HLOL
              by_cases hlt : k < d.kids.length
              · have hltI : (k : Int) < d.kids.length := by omega
                cases hlg : (rlayL ls wd (d.kids.take k) { s with br := s.br + 1 } (i : Int) false).long with
                | true =>
                  have HE : Hid _ := HST.out hlg
                  rw [hlg] at c6
                  clear hlg HST HOKK
                  go_wp2
                  first | go_end0 | refine bodyPost_ret (results_none rfl _ _ _) rfl ?_
                  rw [HRL.out, HE.out]
                  exact ⟨⟨_, rfl⟩, tvk, HPk.out, HTw.out⟩
                | false =>
                  obtain ⟨x, hx⟩ : ∃ x, d.kids[k]? = some x := ⟨d.kids[k], by simp [hlt]⟩
                  obtain ⟨bb, o, hsa, hb, xa, xc, c0, c1, c2, c3, hxc, hxk⟩ := (HDT.out tvk wr HTw.out).one hx
                  have HCX : Hid _ := fun (_ : Unit) => HI.out x k xa xc _ tvk (i : Int) false wr hx (by omega) (by omega) hxk HPk.out HOKK.out.1 HOKK.out.2.1 HOKK.out.2.2 HRV2.out hlo'
                  have HTK : Hid (rlayL ls wd (d.kids.take (k + 1)) { s with br := s.br + 1 } (i : Int) false = rlay ls wd x (rlayL ls wd (d.kids.take k) { s with br := s.br + 1 } (i : Int) false) (i : Int) false) := by
                    show _ = _
                    rw [rlayL_take hx, hlg]; rfl
                  rw [hlg] at c6
                  subst hsa
                  clear hlg HST HOKK hx hxk
                  go_wp2_with (go_at_call 24; refine (HCX.out ()).mono ?_)
                  rintro e w4 ⟨⟨r, rfl⟩, tv4, hP4, hT4⟩
                  have HP4 : Hid _ := hP4
                  have HT4 : Hid (Turn WB tv tv4 w1 w4) := HTk.out.trans hT4
                  have HLO4 : Hid (lo ≤ w4.heap.size) := Nat.le_trans hlo' hT4.size
                  clear hP4 hT4 c6 f6 b3 c0 c1 c2 c3
                  go_wp2
                  go_roundw
                  case rel => exact ⟨k + 1, tv4, by omega, by go_num, by rw [HTK.out]; exact HP4.out, HT4.out, HLO4.out⟩
                  case measure => simp [intOf]; omega
              · obtain rfl : k = d.kids.length := by omega
                rw [List.take_length] at HPk
                clear HST HOKK
                go_wp2
                first | go_end0 | refine bodyPost_ret (results_none rfl _ _ _) rfl ?_
                rw [HRL.out]
                exact ⟨⟨_, rfl⟩, tvk, HPk.out, HTw.out⟩
      · rw [if_neg (show ¬ (d.kind = 5 ∧ fl = false) by simp [h5])] at HRL
        have e5 : (d.kind == 5) = false := by simpa using h5
        have HOK0 : Hid _ := HOK.out
        have HBR0 : Hid (s.br ≤ s.br + 1) := by show _ ≤ _; omega
        go_enter Try.func24, Try.ntmps24
        go_wp2
        go_loopw [9] (fun kv W => ∃ (k : Nat) (tvk : Value), k ≤ d.kids.length ∧ kv = .int .i64 k ∧ WrAt lo WB (rlayL ls wd (d.kids.take k) s (i : Int) fl) wd lv tvk ls W ∧ Turn WB tv tvk w1 W ∧ lo ≤ W.heap.size) (fun kv _ => d.kids.length - (intOf kv).toNat)
        case atStart => exact ⟨0, tv, Nat.zero_le _, rfl, by rw [List.take_zero, rlayL]; exact HS0.out, HTL.out, HLOL.out⟩
        case round =>
          obtain ⟨k, tvk, hk, rfl, hP, hT, hlo'⟩ := hrel
          have b3 := HLK.out tvk wr hT
          obtain ⟨c6, f6⟩ := blk_cell hP.blk (j := 6) rfl
          have hokk := HOKL.out s (i : Int) fl k HOK0.out rfl HBR0.out (by omega) (by omega)
          have HOKK : Hid _ := hokk
          have HPk : Hid _ := hP
          have HTk : Hid _ := hT
          have HTw : Hid (Turn WB tv tvk w wr) := HT1.out.trans hT
          have HST : Hid ((rlayL ls wd (d.kids.take k) s (i : Int) fl).long = true → rlayL ls wd d.kids s (i : Int) fl = rlayL ls wd (d.kids.take k) s (i : Int) fl) := fun e => rlayL_stop e
          clear hP hT hokk HS0 HTL HLOL
          by_cases hlt : k < d.kids.length
          · have hltI : (k : Int) < d.kids.length := by omega
            cases hlg : (rlayL ls wd (d.kids.take k) s (i : Int) fl).long with
            | true =>
              have HE : Hid _ := HST.out hlg
              rw [hlg] at c6
              clear hlg HST HOKK
              go_wp2
              first | go_end0 | refine bodyPost_ret (results_none rfl _ _ _) rfl ?_
              rw [HRL.out, HE.out]
              exact ⟨⟨_, rfl⟩, tvk, HPk.out, HTw.out⟩
            | false =>
              obtain ⟨x, hx⟩ : ∃ x, d.kids[k]? = some x := ⟨d.kids[k], by simp [hlt]⟩
              obtain ⟨bb, o, hsa, hb, xa, xc, c0, c1, c2, c3, hxc, hxk⟩ := (HDT.out tvk wr HTw.out).one hx
              have HCX : Hid _ := fun (_ : Unit) => HI.out x k xa xc _ tvk (i : Int) fl wr hx (by omega) (by omega) hxk HPk.out HOKK.out.1 HOKK.out.2.1 HOKK.out.2.2 HRV2.out hlo'
              have HTK : Hid (rlayL ls wd (d.kids.take (k + 1)) s (i : Int) fl = rlay ls wd x (rlayL ls wd (d.kids.take k) s (i : Int) fl) (i : Int) fl) := by
                show _ = _
                rw [rlayL_take hx, hlg]; rfl
              rw [hlg] at c6
              subst hsa
              clear hlg HST HOKK hx hxk
              go_wp2_with (go_at_call 24; refine (HCX.out ()).mono ?_)
              rintro e w4 ⟨⟨r, rfl⟩, tv4, hP4, hT4⟩
              have HP4 : Hid _ := hP4
              have HT4 : Hid (Turn WB tv tv4 w1 w4) := HTk.out.trans hT4
              have HLO4 : Hid (lo ≤ w4.heap.size) := Nat.le_trans hlo' hT4.size
              clear hP4 hT4 c6 f6 b3 c0 c1 c2 c3
              go_wp2
              go_roundw
              case rel => exact ⟨k + 1, tv4, by omega, by go_num, by rw [HTK.out]; exact HP4.out, HT4.out, HLO4.out⟩
              case measure => simp [intOf]; omega
          · obtain rfl : k = d.kids.length := by omega
            rw [List.take_length] at HPk
            clear HST HOKK
            go_wp2
            first | go_end0 | refine bodyPost_ret (results_none rfl _ _ _) rfl ?_
            rw [HRL.out]
            exact ⟨⟨_, rfl⟩, tvk, HPk.out, HTw.out⟩
end Go.Proofs.Ytbmejfcbladofaa
