/- M1 to M4 in one text. -/
import Derived.Test.YtbmejfcbladofaaQ0
import Derived.Laws.AppendOwnNone
import Derived.BigRegion
namespace Go.Proofs.Ytbmejfcbladofaa
open Go.RowKit

set_option maxRecDepth 100000 in
set_option maxHeartbeats 8000000 in
theorem well_any (f : Nat) : ∀ (N : Nat) (d : Dc) (sa : Option Addr) (sc : Nat) (w : World), wt d ≤ N → DAt w w.heap.size f sa d.kids → wt d ≤ 700 →
    Calls Try.prog 37 #[.agg #[.int .i64 d.kind, .string d.text, .int .i64 d.n, .slice sa d.kids.length sc]] w fun e w' => e = .returned (.bool (wellD d)) ∧ Below w.heap.size w w' := by
  intro N
  induction N with
  | zero => intro d sa sc w hN; rw [wt_eq] at hN; omega
  | succ N ih =>
  intro d sa sc w hN hk h700
  have hlen := hk.len
  have hwt := wt_eq d
  have hts : d.text.size ≤ 12000 := by omega
  have HC : Hid _ := wellD_eq d
  obtain ⟨w1, hw1⟩ : ∃ w1, w.alloc (.cells #[.int .i64 d.kind, .string d.text, .int .i64 d.n, .slice sa d.kids.length sc] 24) = w1 := ⟨_, rfl⟩
  have hB1 : Below w.heap.size w w1 := by rw [← hw1]; exact (Below.refl _ _).alloc (Nat.le_refl _) _
  have s1 : w1.heap.size = w.heap.size + 1 := by rw [← hw1]; simp
  have x1 : Bx w1 w.heap.size d.kind d.text d.n (.slice sa d.kids.length sc) := by rw [← hw1]; exact Bx.new _ _ _ _ _ _
  have HX1 : Hid _ := x1
  obtain ⟨a0, a1, a2, a3⟩ := x1
  have HIX : Hid (∀ x ∈ d.kids, wt x ≤ N ∧ wt x ≤ 700) := fun x hx => by
    obtain ⟨k, hk, rfl⟩ := List.getElem_of_mem hx
    have h1 := wtL_take (List.getElem?_eq_getElem hk)
    have h2 := wtL_take_le d.kids (k + 1)
    omega
  have HI : Hid _ := ih
  have HK : Hid _ := hk
  have HB1 : Hid _ := hB1
  have HS1 : Hid _ := s1
  clear hwt ih hk hN hB1 s1 h700
  go_enter Try.func37, Try.ntmps37
  go_wp2
  go_loopw [3] (fun iv W => W = w1 ∧ ∃ k : Nat, k ≤ d.text.size ∧ iv = .int .i64 k ∧ (10 : UInt8) ∉ d.text.data.toList.take k) (fun iv _ => d.text.size - (intOf iv).toNat)
  case atStart => exact ⟨rfl, 0, Nat.zero_le _, rfl, by simp⟩
  case round =>
    obtain ⟨rfl, k, hk, rfl, hno⟩ := hrel
    have HNO : Hid _ := hno
    clear hno
    by_cases hlt : k < d.text.size
    · have hlt' : (k : Int) < d.text.size := by omega
      have hbt := bt_eq d.text k hlt
      obtain ⟨u, hu, htk⟩ := bt_take d.text k hlt
      have HU : Hid _ := hu
      have HTK : Hid _ := htk
      clear hu htk
      generalize bt d.text k = c at *
      by_cases hc : c = 10
      · have HV : Hid (wellD d = false) := by
          show _ = _
          rw [HC.out]
          cases ho : okC d.kind d.text d.n d.kids.length with
          | false => rfl
          | true =>
            refine absurd ?_ (okC_ten ho)
            have : u = 10 := UInt8.toNat_inj.1 (by rw [← HU.out, hc]; rfl)
            have h2 : u ∈ d.text.data.toList.take (k + 1) := by rw [HTK.out]; simp
            rw [← this]
            exact List.mem_of_mem_take h2
        subst hc
        go_wp2
        go_ret
        rw [HV.out]
        exact ⟨rfl, HB1.out⟩
      · have hcI : ¬ (c : Int) = 10 := by omega
        have hcB : ((c : Int) == 10) = false := by simp; omega
        have HNN : Hid ((10 : UInt8) ∉ d.text.data.toList.take (k + 1)) := by
          show ¬ _
          rw [HTK.out]
          intro h
          rcases List.mem_append.1 h with h | h
          · exact HNO.out h
          · simp at h
            apply hc
            rw [HU.out, ← h]; rfl
        clear hc HNO
        go_wp2
        go_roundw
        case rel => exact ⟨trivial, k + 1, by omega, by go_num, HNN.out⟩
        case measure => simp [intOf]; omega
    · obtain rfl : k = d.text.size := by omega
      have HNT : Hid (noTen d.text = true) := by
        show _ = _
        refine noTen_yes ?_
        have := HNO.out
        rw [List.take_of_length_le (by simp)] at this
        exact this
      clear HNO hlt hk
      go_wp2
      have hB0 : Hid (Below wr.heap.size wr wr) := Below.refl _ _
      obtain ⟨wo, hwo⟩ : ∃ wo : World, wo = wr := ⟨_, rfl⟩
      rw [← hwo] at HX1 HB1 HS1 a0 a1 a2 a3 hB0 ⊢
      clear hwo
      go_loopw [4] (fun iv W => ∃ k : Nat, k ≤ d.kids.length ∧ iv = .int .i64 k ∧ wellL (d.kids.take k) = true ∧ Below wo.heap.size wo W) (fun iv _ => d.kids.length - (intOf iv).toNat)
      case atStart => exact ⟨0, Nat.zero_le _, rfl, rfl, hB0.out⟩
      case round =>
        obtain ⟨k2, hk, rfl, hwl, hB⟩ := hrel
        have hs1 := HS1.out
        have x2 := HX1.out.keep hB (by omega)
        obtain ⟨b0, b1, b2, b3⟩ := x2
        have hBw : Below w.heap.size w wr := HB1.out.trans (hB.mono (by omega))
        have HBw : Hid _ := hBw
        have HWL : Hid _ := hwl
        have HB : Hid _ := hB
        clear hBw hwl hB hs1 a0 a1 a2 a3
        by_cases hlt : k2 < d.kids.length
        · obtain ⟨x, hx⟩ : ∃ x, d.kids[k2]? = some x := ⟨d.kids[k2], by simp [hlt]⟩
          have hxm : x ∈ d.kids := List.mem_of_getElem? hx
          obtain ⟨bb, o, hsa, hb, xa, xc, c0, c1, c2, c3, hxc, hxk⟩ := ((HK.out.keep HBw.out).mono HBw.out.size).one hx
          have HCX : Hid _ := fun (_ : Unit) => HI.out x xa xc wr (HIX.out x hxm).1 hxk (HIX.out x hxm).2
          have HT : Hid _ := wellL_take hx
          have HM : Hid (wellD x = false → wellL d.kids = false) := fun h => wellL_mem hxm h
          subst hsa
          clear hx hxm hxk
          cases hwx : wellD x with
          | true =>
            rw [hwx] at HCX
            have HE : Hid (wellL (d.kids.take (k2 + 1)) = true) := by show _ = _; rw [HT.out, HWL.out, hwx]; rfl
            clear hwx HT HM
            go_wp2_with (go_at_call 37; refine (HCX.out ()).mono ?_)
            rintro e w2 ⟨rfl, hb2⟩
            have HB2 : Hid (Below wo.heap.size wo w2) := HB.out.trans (hb2.mono HB.out.size)
            clear hb2
            go_wp2
            go_roundw
            case rel => exact ⟨k2 + 1, by omega, by go_num, HE.out, HB2.out⟩
            case measure => simp [intOf]; omega
          | false =>
            rw [hwx] at HCX
            have HV : Hid (wellD d = false) := by show _ = _; rw [HC.out, HM.out hwx, Bool.and_false]
            clear hwx HT HM
            go_wp2_with (go_at_call 37; refine (HCX.out ()).mono ?_)
            rintro e w2 ⟨rfl, hb2⟩
            have HB2 : Hid (Below w.heap.size w w2) := HBw.out.trans (hb2.mono HBw.out.size)
            clear hb2
            go_wp2
            go_ret
            rw [HV.out]
            exact ⟨rfl, HB2.out⟩
        · obtain rfl : k2 = d.kids.length := by omega
          have HWA : Hid (wellD d = okC d.kind d.text d.n d.kids.length) := by
            have := HWL.out
            rw [List.take_length] at this
            show _ = _
            rw [HC.out, this, Bool.and_true]
          have HNT2 := HNT
          clear HC HIX HI HK HNT HWL hlt hk HB1 HS1 HX1 hts hlen hB0 HB
          obtain ⟨kd, hkd⟩ : ∃ k, d.kind = k := ⟨_, rfl⟩
          obtain ⟨nn, hnn⟩ : ∃ k, d.n = k := ⟨_, rfl⟩
          rw [hkd] at b0 HWA
          rw [hnn] at b2 HWA
          clear hkd hnn
          by_cases h1 : kd = 1
          · subst h1
            go_wp2
            all_goals (go_ret; refine ⟨ret_bool ?_, HBw.out⟩; rw [HWA.out]; have hnt := HNT2.out; simp [okC, *] <;> (first | (intros; omega) | (rw [Bool.eq_iff_iff]; simp)))
          by_cases h2 : kd = 2
          · subst h2
            go_wp2
            all_goals (go_ret; refine ⟨ret_bool ?_, HBw.out⟩; rw [HWA.out]; have hnt := HNT2.out; simp [okC, *] <;> (first | (intros; omega) | (rw [Bool.eq_iff_iff]; simp)))
          by_cases h3 : kd = 3
          · subst h3
            go_wp2
            all_goals (go_ret; refine ⟨ret_bool ?_, HBw.out⟩; rw [HWA.out]; have hnt := HNT2.out; simp [okC, *] <;> (first | (intros; omega) | (rw [Bool.eq_iff_iff]; simp)))
          by_cases h4 : kd = 4
          · subst h4
            go_wp2
            all_goals (go_ret; refine ⟨ret_bool ?_, HBw.out⟩; rw [HWA.out]; have hnt := HNT2.out; simp [okC, *] <;> (first | (intros; omega) | (rw [Bool.eq_iff_iff]; simp)))
          by_cases h5 : kd = 5
          · subst h5
            go_wp2
            all_goals (go_ret; refine ⟨ret_bool ?_, HBw.out⟩; rw [HWA.out]; have hnt := HNT2.out; simp [okC, *] <;> (first | (intros; omega) | (rw [Bool.eq_iff_iff]; simp)))
          by_cases h6 : kd = 6
          · subst h6
            go_wp2
            all_goals (go_ret; refine ⟨ret_bool ?_, HBw.out⟩; rw [HWA.out]; have hnt := HNT2.out; simp [okC, *] <;> (first | (intros; omega) | (rw [Bool.eq_iff_iff]; simp)))
          have e1 : (kd == 1) = false := by simpa using h1
          have e2 : (kd == 2) = false := by simpa using h2
          have e3 : (kd == 3) = false := by simpa using h3
          have e4 : (kd == 4) = false := by simpa using h4
          have e5 : (kd == 5) = false := by simpa using h5
          have e6 : (kd == 6) = false := by simpa using h6
          go_wp2
          go_ret
          refine ⟨ret_bool ?_, HBw.out⟩
          rw [HWA.out]
          simp [okC, h1, h2, h3, h4, h5, h6]
set_option maxRecDepth 100000 in
set_option maxHeartbeats 1000000 in
theorem refRight_any (d : Dc) (sa : Option Addr) (sc f : Nat) (w : World) (hk : DAt w w.heap.size f sa d.kids) (hw : wt d ≤ 700) :
    Calls Try.prog 22 #[.agg #[.int .i64 d.kind, .string d.text, .int .i64 d.n, .slice sa d.kids.length sc]] w fun e w' => e = .returned (.bool (rightD d)) ∧ Below w.heap.size w w' := by
  obtain ⟨w1, hw1⟩ : ∃ w1, w.alloc (.cells #[.int .i64 d.kind, .string d.text, .int .i64 d.n, .slice sa d.kids.length sc] 24) = w1 := ⟨_, rfl⟩
  have hB1 : Below w.heap.size w w1 := by rw [← hw1]; exact (Below.refl _ _).alloc (Nat.le_refl _) _
  have s1 : w1.heap.size = w.heap.size + 1 := by rw [← hw1]; simp
  have x1 : Bx w1 w.heap.size d.kind d.text d.n (.slice sa d.kids.length sc) := by rw [← hw1]; exact Bx.new _ _ _ _ _ _
  have HX1 : Hid _ := x1
  obtain ⟨a0, a1, a2, a3⟩ := x1
  have hD : ∀ W, Below w.heap.size w W → DAt W W.heap.size f sa d.kids := fun W hW => (hk.keep hW).mono hW.size
  have HC : Hid _ := fun (_ : Unit) => count_any f (wt d) d sa sc w1 (Nat.le_refl _) (hD w1 hB1) hw
  have HW : Hid _ := fun (W : World) (hW : Below w.heap.size w W) => well_any f (wt d) d sa sc W (Nat.le_refl _) (hD W hW) hw
  have HB1 : Hid _ := hB1
  have HS1 : Hid _ := s1
  have HR : Hid _ := right_eq d
  have hcw := cnt_wt d
  clear hk hD hB1 s1
  obtain ⟨c, hc⟩ : ∃ q, cnt d = q := ⟨_, rfl⟩
  obtain ⟨dp, hdp⟩ : ∃ q, dep d = q := ⟨_, rfl⟩
  rw [hc, hdp] at HC HR hcw
  clear hc hdp
  have h1 : (c : Int) ≤ 20000 := by omega
  have HR1 : Hid (rightD d = (decide (dp ≤ 200) && wellD d)) := by
    show _ = _
    rw [HR.out, decide_eq_true (show c ≤ 20000 by omega)]; rfl
  clear HR
  by_cases h2 : dp ≤ 200
  · have h2' : (dp : Int) ≤ 200 := by omega
    rw [decide_eq_true h2] at HR1
    clear h2
    go_enter Try.func22, Try.ntmps22
    go_wp2_with (first
      | (go_at_call 36; refine (HC.out ()).mono ?_; rintro e w2 ⟨rfl, hb2⟩; obtain ⟨b0, b1, b2, b3⟩ := HX1.out.keep hb2 (by rw [HS1.out]; omega); have HB2 : Hid (Below w.heap.size w w2) := HB1.out.trans (hb2.mono HB1.out.size); clear hb2 a0 a1 a2 a3)
      | (go_at_call 37; refine (HW.out w2 HB2.out).mono ?_))
    rintro e w3 ⟨rfl, hb3⟩
    have HB3 : Hid (Below w.heap.size w w3) := HB2.out.trans (hb3.mono HB2.out.size)
    clear hb3
    go_wp2
    go_ret
    refine ⟨?_, HB3.out⟩
    rw [HR1.out]
    simp
  · have h2' : (200 : Int) < dp := by omega
    rw [decide_eq_false h2] at HR1
    clear h2
    go_enter Try.func22, Try.ntmps22
    go_wp2_with (go_at_call 36; refine (HC.out ()).mono ?_)
    rintro e w2 ⟨rfl, hb2⟩
    have HB2 : Hid (Below w.heap.size w w2) := HB1.out.trans (hb2.mono HB1.out.size)
    clear hb2
    go_wp2
    go_ret
    refine ⟨?_, HB2.out⟩
    rw [HR1.out]
    simp
theorem wpList_app_rows {ops : Array Oper} {rest : List Oper} {o : Oper} {a : Act} {Q : Exit → Act → World → Prop} {w : World} (hgd : o.guard = none) (s x : Operand)
    (ho : o.op = .call { callee := .builtin .append, args := #[s, x], argTypes := #[22, 22] }) (lo : Nat) (v : Value) (n : Nat) (xs : List Value) (hs : a.eval s = v) (hown : w.ownsRow lo 24 4 v n xs)
    (lo2 : Nat) (v2 : Value) (m : Nat) (ys : List Value) (hx : a.eval x = v2) (hown2 : w.ownsRow lo2 24 4 v2 m ys) (h1 : ∀ u ∈ ys, u.oneCell' = true) (h63 : n + m ≤ 1000000) (hbase : lo ≤ w.heap.size)
    (h : ∀ v' w', w'.ownsRow lo 24 4 v' (n + m) (xs ++ ys) → w.grownBy w' v.ownBlock → wpList Try.prog ops Q rest (a.put o.dst v') w') : wpList Try.prog ops Q (o :: rest) a w := by
  obtain ⟨i0, hinf, hz0, hz1, hz2⟩ := info_parts info24
  rcases hown2.2 with ⟨rfl, rfl⟩ | ⟨g, cap, cur, rfl, hbg, hg, hcap, hcm, hcs, ht⟩
  · have hy : ys = [] := by have := hown2.1; simpa using this
    subst hy
    refine wpList_append_own_none hgd s x 22 ho lo 24 i0 4 Try.underlying22 hinf v n xs hs hown hx ?_
    exact h v w (by simpa using hown) (World.grownBy.refl _ _)
  · refine wpList_append_own w hgd s x 22 ho lo 24 i0 _ 4 56 Try.underlying22 hinf hz0 hz1 hz2 rfl (by decide) v n xs hs hown ⟨g, 0, none⟩ m cap ys hx hown2.1 (fun j u hu => ?_) h1 (by unfold maxLen; omega) (by omega) hbase (fun v' w' a b _ => h v' w' a b)
    have e : (⟨g, 0, none⟩ : Addr).add j = ⟨g, j, none⟩ := by simp [Addr.add]; omega
    rw [e]
    exact (own_cell hown2 hu).1
theorem lfV_one (ls : List Dc) : ∀ u ∈ lfV ls, u.oneCell' = true := by
  intro u hu
  unfold lfV at hu
  rw [List.mem_flatMap] at hu
  obtain ⟨x, _, hu⟩ := hu
  simp [lfC] at hu
  rcases hu with rfl | rfl | rfl | rfl <;> rfl
theorem rlvL_take {l : List Dc} {k : Nat} {d : Dc} (h : l[k]? = some d) : rlvL (l.take (k + 1)) = rlvL (l.take k) ++ rlv d := by
  induction l generalizing k with
  | nil => cases h
  | cons x l ih =>
    cases k with
    | zero => simp at h; subst h; simp [rlvL]
    | succ k => simp at h; rw [List.take_succ_cons, List.take_succ_cons, rlvL, rlvL, ih h, List.append_assoc]
mutual
theorem rlv_wt : ∀ (d : Dc), (rlv d).length ≤ wt d
  | .mk k t n l => by
    have := rlvL_wt l
    rw [rlv, wt]
    split
    · simp; omega
    · omega
theorem rlvL_wt : ∀ (l : List Dc), (rlvL l).length ≤ wtL l
  | [] => by simp [rlvL]
  | d :: l => by
    have h1 := rlv_wt d
    have h2 := rlvL_wt l
    rw [rlvL, wtL, List.length_append]; omega
end
theorem rlv_yes {d : Dc} (h : isLf d = true) : rlv d = [.mk d.kind d.text d.n []] := by
  cases d with
  | mk k t n l =>
    have h' : (decide (k = 1) || decide (k = 2) || decide (k = 3)) = true := h
    simp at h'
    rw [rlv, if_pos (by omega)]; rfl
theorem rlv_no {d : Dc} (h : isLf d = false) : rlv d = rlvL d.kids := by
  cases d with
  | mk k t n l =>
    have h' : (decide (k = 1) || decide (k = 2) || decide (k = 3)) = false := h
    simp at h'
    rw [rlv, if_neg (by omega)]; rfl
set_option maxRecDepth 100000 in
set_option maxHeartbeats 8000000 in
theorem refLeaves_any (f : Nat) : ∀ (N : Nat) (d : Dc) (sa : Option Addr) (sc : Nat) (w : World), wt d ≤ N → DAt w w.heap.size f sa d.kids → wt d ≤ 700 →
    Calls Try.prog 23 #[.agg #[.int .i64 d.kind, .string d.text, .int .i64 d.n, .slice sa d.kids.length sc]] w fun e w' => (∃ v, e = .returned v ∧ w'.ownsRow w.heap.size 24 4 v (rlv d).length (lfV (rlv d))) ∧ Below w.heap.size w w' := by
  intro N
  induction N with
  | zero => intro d sa sc w hN; rw [wt_eq] at hN; omega
  | succ N ih =>
  intro d sa sc w hN hk h700
  obtain ⟨i0, hinf, hz0, hz1, hz2⟩ := info_parts info24
  have hlen := hk.len
  have hwt := wt_eq d
  obtain ⟨w1, hw1⟩ : ∃ w1, w.alloc (.cells #[.int .i64 d.kind, .string d.text, .int .i64 d.n, .slice sa d.kids.length sc] 24) = w1 := ⟨_, rfl⟩
  have hB1 : Below w.heap.size w w1 := by rw [← hw1]; exact (Below.refl _ _).alloc (Nat.le_refl _) _
  have s1 : w1.heap.size = w.heap.size + 1 := by rw [← hw1]; simp
  have x1 : Bx w1 w.heap.size d.kind d.text d.n (.slice sa d.kids.length sc) := by rw [← hw1]; exact Bx.new _ _ _ _ _ _
  have HX1 : Hid _ := x1
  obtain ⟨a0, a1, a2, a3⟩ := x1
  have HIX : Hid (∀ x ∈ d.kids, wt x ≤ N ∧ wt x ≤ 700) := fun x hx => by
    obtain ⟨k, hk, rfl⟩ := List.getElem_of_mem hx
    have h1 := wtL_take (List.getElem?_eq_getElem hk)
    have h2 := wtL_take_le d.kids (k + 1)
    omega
  have HLB : Hid (∀ k, (rlvL (d.kids.take k)).length ≤ 700) := fun k => by
    have h1 := rlvL_wt (d.kids.take k)
    have h2 := wtL_take_le d.kids k
    omega
  have HI : Hid _ := ih
  have HK : Hid _ := hk
  have HB1 : Hid _ := hB1
  have HS1 : Hid _ := s1
  clear hwt ih hk hN hB1 s1 h700
  cases hlf : isLf d with
  | true =>
    have HR : Hid _ := rlv_yes hlf
    have hlf' : d.kind = 1 ∨ d.kind = 2 ∨ d.kind = 3 := by
      unfold isLf at hlf; simp at hlf; omega
    have HKD : Hid _ := hlf'
    clear hlf hlf' HIX HLB HI HK
    obtain ⟨kd, hkd⟩ : ∃ k, d.kind = k := ⟨_, rfl⟩
    rw [hkd] at HKD a0
    have HKE : Hid _ := hkd
    clear hkd
    have HFIN : Hid (∀ v' w', w'.ownsRow w1.heap.size 24 4 v' (0 + 1) ([] ++ [.int .i64 kd, .string d.text, .int .i64 d.n, .slice none 0 0]) → (w1.alloc (.cells #[.int .i64 kd, .string d.text, .int .i64 d.n, .slice none 0 0] 24)).grownBy w' (Value.slice none 0 0).ownBlock → (∃ v, Ending.returned v' = .returned v ∧ w'.ownsRow w.heap.size 24 4 v (rlv d).length (lfV (rlv d))) ∧ Below w.heap.size w w') := fun v' w' h1 h2 => by
      have hs1 := HS1.out
      refine ⟨⟨v', rfl, ?_⟩, ?_⟩
      · rw [HR.out, HKE.out]
        exact row_base (by omega) h1
      · have hb := ((Below.refl w1.heap.size w1).alloc (Nat.le_refl _) (.cells #[.int .i64 kd, .string d.text, .int .i64 d.n, .slice none 0 0] 24)).grown h2 (by simp) (fun j hj => by simp [Value.ownBlock] at hj)
        exact HB1.out.trans (hb.mono (by omega))
    rcases HKD.out with rfl | rfl | rfl
    · clear HKD HKE HR
      go_enter Try.func23, Try.ntmps23
      go_wp2_with (at_builtin; refine wpList_append_own _ rfl _ _ 22 rfl w1.heap.size 24 i0 (.agg #[.int .i64 0, .string ⟨#[]⟩, .int .i64 0, .slice none 0 0]) 4 56 Try.underlying22 hinf hz0 hz1 hz2 rfl (by decide) (.slice none 0 0) 0 [] rfl (World.ownsRow_nil _ _ _ _) ⟨w1.heap.size, 0, none⟩ 1 1 [.int .i64 1, .string d.text, .int .i64 d.n, .slice none 0 0] rfl rfl ?ca11 ?ca12 ?ca13 ?ca14 ?ca15 ?_)
      case ca11 => exact cells_new _ _ _
      case ca12 => simp [Value.oneCell']
      case ca13 => unfold maxLen; omega
      case ca14 => omega
      case ca15 => simp
      intro v' w2 hown' hgrow _
      have HZ : Hid _ := HFIN.out v' w2 hown' hgrow
      obtain ⟨g', cap', rfl⟩ := ownsRow_succ hown'
      clear hown' hgrow HFIN
      go_wp2
      go_ret
      exact HZ.out
    · clear HKD HKE HR
      go_enter Try.func23, Try.ntmps23
      go_wp2_with (at_builtin; refine wpList_append_own _ rfl _ _ 22 rfl w1.heap.size 24 i0 (.agg #[.int .i64 0, .string ⟨#[]⟩, .int .i64 0, .slice none 0 0]) 4 56 Try.underlying22 hinf hz0 hz1 hz2 rfl (by decide) (.slice none 0 0) 0 [] rfl (World.ownsRow_nil _ _ _ _) ⟨w1.heap.size, 0, none⟩ 1 1 [.int .i64 2, .string d.text, .int .i64 d.n, .slice none 0 0] rfl rfl ?ca21 ?ca22 ?ca23 ?ca24 ?ca25 ?_)
      case ca21 => exact cells_new _ _ _
      case ca22 => simp [Value.oneCell']
      case ca23 => unfold maxLen; omega
      case ca24 => omega
      case ca25 => simp
      intro v' w2 hown' hgrow _
      have HZ : Hid _ := HFIN.out v' w2 hown' hgrow
      obtain ⟨g', cap', rfl⟩ := ownsRow_succ hown'
      clear hown' hgrow HFIN
      go_wp2
      go_ret
      exact HZ.out
    · clear HKD HKE HR
      go_enter Try.func23, Try.ntmps23
      go_wp2_with (at_builtin; refine wpList_append_own _ rfl _ _ 22 rfl w1.heap.size 24 i0 (.agg #[.int .i64 0, .string ⟨#[]⟩, .int .i64 0, .slice none 0 0]) 4 56 Try.underlying22 hinf hz0 hz1 hz2 rfl (by decide) (.slice none 0 0) 0 [] rfl (World.ownsRow_nil _ _ _ _) ⟨w1.heap.size, 0, none⟩ 1 1 [.int .i64 3, .string d.text, .int .i64 d.n, .slice none 0 0] rfl rfl ?ca31 ?ca32 ?ca33 ?ca34 ?ca35 ?_)
      case ca31 => exact cells_new _ _ _
      case ca32 => simp [Value.oneCell']
      case ca33 => unfold maxLen; omega
      case ca34 => omega
      case ca35 => simp
      intro v' w2 hown' hgrow _
      have HZ : Hid _ := HFIN.out v' w2 hown' hgrow
      obtain ⟨g', cap', rfl⟩ := ownsRow_succ hown'
      clear hown' hgrow HFIN
      go_wp2
      go_ret
      exact HZ.out
  | false =>
    have HR : Hid _ := rlv_no hlf
    have hlf' : ¬ d.kind = 1 ∧ ¬ d.kind = 2 ∧ ¬ d.kind = 3 := by
      unfold isLf at hlf; simp at hlf; omega
    have e1 : (d.kind == 1) = false := by simpa using hlf'.1
    have e2 : (d.kind == 2) = false := by simpa using hlf'.2.1
    have e3 : (d.kind == 3) = false := by simpa using hlf'.2.2
    clear hlf hlf'
    go_enter Try.func23, Try.ntmps23
    go_wp2
    go_loopw [3, 4] (fun v iv W => ∃ (k : Nat) (l : List Dc), k ≤ d.kids.length ∧ iv = .int .i64 k ∧ l = rlvL (d.kids.take k) ∧ W.ownsRow w1.heap.size 24 4 v l.length (lfV l) ∧ Below w1.heap.size w1 W) (fun _ iv _ => d.kids.length - (intOf iv).toNat)
    case atStart => exact ⟨0, [], Nat.zero_le _, rfl, by simp [rlvL], World.ownsRow_nil _ _ _ _, Below.refl _ _⟩
    case round =>
      obtain ⟨k, l, hk, rfl, hl, hrow, hB⟩ := hrel
      have hs1 := HS1.out
      have x2 := HX1.out.keep hB (by omega)
      obtain ⟨b0, b1, b2, b3⟩ := x2
      have hBw : Below w.heap.size w wr := HB1.out.trans (hB.mono (by omega))
      have HBw : Hid _ := hBw
      have HL : Hid _ := hl
      have HB : Hid _ := hB
      have hll : l.length ≤ 700 := by rw [hl]; exact HLB.out k
      clear hBw hl hB hs1 a0 a1 a2 a3
      by_cases hlt : k < d.kids.length
      · obtain ⟨x, hx⟩ : ∃ x, d.kids[k]? = some x := ⟨d.kids[k], by simp [hlt]⟩
        have hxm : x ∈ d.kids := List.mem_of_getElem? hx
        obtain ⟨bb, o, hsa, hb, xa, xc, c0, c1, c2, c3, hxc, hxk⟩ := ((HK.out.keep HBw.out).mono HBw.out.size).one hx
        have HCX : Hid _ := fun (_ : Unit) => HI.out x xa xc wr (HIX.out x hxm).1 hxk (HIX.out x hxm).2
        have HE : Hid (l ++ rlv x = rlvL (d.kids.take (k + 1))) := by show _ = _; rw [rlvL_take hx, HL.out]
        have hlx : (rlv x).length ≤ 700 := Nat.le_trans (rlv_wt x) (HIX.out x hxm).2
        have HRK : Hid (∀ W, Below wr.heap.size wr W → W.ownsRow w1.heap.size 24 4 u3 l.length (lfV l)) := fun W hW => row_below hrow hW
        have HLT : Hid (∀ b, u3.ownBlock = some b → w1.heap.size ≤ b) := fun b hb => (hrow.lt b hb).1
        obtain ⟨va, vc, hva⟩ := row_slice hrow
        subst hva
        subst hsa
        clear hx hxm hxk hrow
        go_wp2_with (go_at_call 23; refine (HCX.out ()).mono ?_)
        rintro e w2 ⟨⟨v2, rfl, hrow2⟩, hb2⟩
        have hrw := HRK.out w2 hb2
        have HB2 : Hid (Below w1.heap.size w1 w2) := HB.out.trans (hb2.mono HB.out.size)
        obtain ⟨va2, vc2, hva2⟩ := row_slice hrow2
        subst hva2
        clear hb2
        go_wp2_with (at_builtin; refine wpList_app_rows rfl _ _ rfl w1.heap.size _ _ _ rfl hrw wr.heap.size _ _ _ rfl hrow2 (lfV_one _) ?cb1 ?cb2 ?_)
        case cb1 => omega
        case cb2 => exact HB2.out.size
        intro v' w3 hown' hgrow
        have HW3 : Hid (w3.ownsRow w1.heap.size 24 4 v' (l ++ rlv x).length (lfV (l ++ rlv x))) := by
          show World.ownsRow _ _ _ _ _ _ _
          rw [lfV_app, List.length_append]; exact hown'
        have HB3 : Hid (Below w1.heap.size w1 w3) := HB2.out.grown hgrow HB2.out.size (fun j hj => HLT.out j hj)
        obtain ⟨va3, vc3, hva3⟩ := row_slice hown'
        subst hva3
        clear hown' hgrow hrw hrow2
        go_wp2
        go_roundw
        case rel => exact ⟨k + 1, l ++ rlv x, by omega, by go_num, HE.out, by simpa using HW3.out, HB3.out⟩
        case measure => simp [intOf]; omega
      · obtain rfl : k = d.kids.length := by omega
        have HE : Hid (l = rlv d) := by show _ = _; rw [HR.out, HL.out, List.take_length]
        have hs1 := HS1.out
        have HRW : Hid (wr.ownsRow w.heap.size 24 4 u3 l.length (lfV l)) := row_base (by omega) hrow
        obtain ⟨va, vc, hva⟩ := row_slice hrow
        subst hva
        clear hrow
        go_wp2
        go_ret
        exact ⟨⟨_, rfl, by rw [← HE.out]; exact HRW.out⟩, HBw.out⟩
structure WrAt (lo WB : Nat) (w : Wr) (wd : Int) (lv tv : Value) (ls : List Dc) (W : World) : Prop where
  blk : W.heap[WB]? = some (.cells #[lv, .int .i64 (w.pos : Int), tv, .int .i64 w.col, .int .i64 wd, .int .i64 (w.br : Int), .bool w.long] 46 (0, 0))
  row : W.ownsRow lo 5 1 tv w.out.length (bytesU w.out)
  lrow : ∃ lo', W.ownsRow lo' 24 4 lv ls.length (lfV ls)
  n1 : tv.ownBlock ≠ some WB
  n2 : lv.ownBlock ≠ some WB
  n3 : ∀ b, lv.ownBlock = some b → tv.ownBlock ≠ some b
theorem WrAt.set {lo WB : Nat} {w w' : Wr} {wd : Int} {lv tv : Value} {ls : List Dc} {W : World} (h : WrAt lo WB w wd lv tv ls W) (j : Nat) (u : Value) (hb : (#[lv, Value.int .i64 (w.pos : Int), tv, .int .i64 w.col, .int .i64 wd, .int .i64 (w.br : Int), .bool w.long]).setIfInBounds j u = #[lv, .int .i64 (w'.pos : Int), tv, .int .i64 w'.col, .int .i64 wd, .int .i64 (w'.br : Int), .bool w'.long]) (ho : w'.out = w.out) :
    WrAt lo WB w' wd lv tv ls (W.setCell ⟨WB, j, none⟩ u) ∧ Turn WB tv tv W (W.setCell ⟨WB, j, none⟩ u) := by
  have hk : ∀ b, b ≠ WB → (W.setCell ⟨WB, j, none⟩ u).heap[b]? = W.heap[b]? := fun b hb => Below.heap_setCell W ⟨WB, j, none⟩ u b hb
  have hs : (W.setCell ⟨WB, j, none⟩ u).heap.size = W.heap.size := by simp [World.setCell]
  obtain ⟨lo', hl⟩ := h.lrow
  refine ⟨⟨by rw [blk_set h.blk j u, hb], by rw [ho]; exact row_keep h.row (fun b e => hk b (fun e2 => h.n1 (by rw [← e2]; exact e))), ⟨lo', row_keep hl (fun b e => hk b (fun e2 => h.n2 (by rw [← e2]; exact e)))⟩, h.n1, h.n2, h.n3⟩, ⟨rfl, rfl, rfl, Nat.le_of_eq hs.symm, fun b _ hb _ => hk b hb, fun _ h => .inl h⟩⟩
theorem WrAt.below {lo WB : Nat} {w : Wr} {wd : Int} {lv tv : Value} {ls : List Dc} {W W' : World} (h : WrAt lo WB w wd lv tv ls W) (hb : Below W.heap.size W W') : WrAt lo WB w wd lv tv ls W' := by
  obtain ⟨lo', hl⟩ := h.lrow
  exact ⟨(hb.block WB (Array.getElem?_eq_some_iff.1 h.blk).1).trans h.blk, row_below h.row hb, ⟨lo', row_below hl hb⟩, h.n1, h.n2, h.n3⟩
/-- The text has grown. -/
theorem WrAt.grown {lo WB : Nat} {w : Wr} {wd : Int} {lv tv : Value} {ls : List Dc} {W w1 : World} (h : WrAt lo WB w wd lv tv ls W) {v' : Value} {tx' : List UInt8} (hg : W.grownBy w1 tv.ownBlock) (hown : w1.ownsRow lo 5 1 v' tx'.length (bytesU tx')) (hat : v'.ownBlock = tv.ownBlock ∨ v'.ownBlock = some W.heap.size) :
    WrAt lo WB { w with out := tx' } wd lv v' ls (w1.setCell ⟨WB, 2, none⟩ v') ∧ Turn WB tv v' W (w1.setCell ⟨WB, 2, none⟩ v') ∧ w1.heap[WB]? = W.heap[WB]? := by
  have hp := (Array.getElem?_eq_some_iff.1 h.blk).1
  have hgs := hg.size
  obtain ⟨lo', hl⟩ := h.lrow
  have hne : ∀ b, b < W.heap.size → tv.ownBlock ≠ some b → v'.ownBlock ≠ some b := fun b hb h1 e => by
    rcases hat with h' | h'
    · exact h1 (by rw [← h']; exact e)
    · rw [h'] at e; simp at e; omega
  have hw : ∀ b, b < W.heap.size → tv.ownBlock ≠ some b → w1.heap[b]? = W.heap[b]? := fun b hb h1 => hg.block b hb (fun e => h1 e.symm)
  have hk : ∀ b, b ≠ WB → (w1.setCell ⟨WB, 2, none⟩ v').heap[b]? = w1.heap[b]? := fun b hb => Below.heap_setCell w1 ⟨WB, 2, none⟩ v' b hb
  have hs : (w1.setCell ⟨WB, 2, none⟩ v').heap.size = w1.heap.size := by simp [World.setCell]
  have hb1 : w1.heap[WB]? = _ := (hw WB hp h.n1).trans h.blk
  refine ⟨⟨?_, row_keep hown (fun b e => hk b (fun e2 => hne WB hp h.n1 (by rw [← e2]; exact e))), ⟨lo', row_keep hl (fun b e => (hk b (fun e2 => h.n2 (by rw [← e2]; exact e))).trans (hw b (hl.lt b e).2 (h.n3 b e)))⟩, hne WB hp h.n1, h.n2, fun b e => hne b (hl.lt b e).2 (h.n3 b e)⟩, ⟨hg.os, hg.tape, hg.output, by omega, fun b hb h1 h2 => (hk b h1).trans (hw b hb h2), fun b hb => ?_⟩, hw WB hp h.n1⟩
  · rw [blk_set hb1 2 v']; rfl
  · rcases hat with h' | h'
    · exact .inl (by rw [← h']; exact hb)
    · rw [h'] at hb; simp at hb; exact .inr (by omega)
set_option maxRecDepth 100000 in
set_option maxHeartbeats 4000000 in
theorem rput_any (lo WB : Nat) (wt : Wr) (wd : Int) (lv tv : Value) (ls : List Dc) (s : ByteArray) (w : World) (h : WrAt lo WB wt wd lv tv ls w) (ht : wt.out.length ≤ 65536) (hc0 : 0 ≤ wt.col) (hc1 : wt.col ≤ 1000000) (hs : s.size ≤ 1000000) (hlo : lo ≤ w.heap.size) :
    Calls Try.prog 47 #[.pointer (some ⟨WB, 0, none⟩), .string s] w fun e w' => (∃ r, e = .returned r) ∧ ∃ tv', WrAt lo WB (rput wt s) wd lv tv' ls w' ∧ Turn WB tv tv' w w' := by
  obtain ⟨i0, hinf, hz0, hz1, hz2⟩ := info_parts info5
  obtain ⟨ta, tc, rfl⟩ := row_slice h.row
  obtain ⟨c2, f2⟩ := blk_cell h.blk (j := 2) rfl
  obtain ⟨c3, f3⟩ := blk_cell h.blk (j := 3) rfl
  obtain ⟨c6, f6⟩ := blk_cell h.blk (j := 6) rfl
  have hrow := h.row
  by_cases hlong : 65536 < wt.out.length + s.size
  · have hlongI : (65536 : Int) < (wt.out.length : Int) + s.size := by omega
    have HP := h.set 6 (.bool true) (w' := { wt with long := true }) rfl rfl
    have HE : Hid (rput wt s = { wt with long := true }) := by show _ = _; unfold rput; rw [if_pos hlong]
    have H2 : Hid _ := HP
    clear HP h hrow hlong
    go_enter Try.func47, Try.ntmps47
    go_wp2
    first | go_end0 | refine bodyPost_ret (results_none rfl _ _ _) rfl ?_
    rw [HE.out]
    exact ⟨⟨_, rfl⟩, _, H2.out.1, H2.out.2⟩
  · have hlongI : (wt.out.length : Int) + s.size ≤ 65536 := by omega
    have hlongD : decide ((65536 : Int) < (wt.out.length : Int) + s.size) = false := by simp; omega
    have HE : Hid (rput wt s = { wt with out := wt.out ++ s.data.toList, col := wt.col + s.size }) := by show _ = _; unfold rput; rw [if_neg hlong]
    clear hlong
    go_enter Try.func47, Try.ntmps47
    go_wp2_with (at_builtin; refine wpList_app_str rfl _ _ rfl lo _ _ _ rfl hrow s rfl ?ca1 hlo ?_)
    case ca1 => omega
    intro v' w1 hown hgrow hat
    have hlen : (wt.out ++ s.data.toList).length = wt.out.length + s.size := by rw [List.length_append]; rfl
    obtain ⟨hP1, hT1, hb1⟩ := h.grown (tx' := wt.out ++ s.data.toList) hgrow (by rw [hlen, bytesU_app]; exact hown) hat
    have hPw := hb1.trans h.blk
    obtain ⟨d2, e2⟩ := blk_cell hPw (j := 2) rfl
    obtain ⟨W2, hW2⟩ : ∃ W2, w1.setCell ⟨WB, 2, none⟩ v' = W2 := ⟨_, rfl⟩
    rw [hW2] at hP1 hT1
    obtain ⟨g3, k3⟩ := blk_cell hP1.blk (j := 3) rfl
    have hP2 := hP1.set 3 (.int .i64 (wt.col + (s.size : Int))) (w' := { wt with out := wt.out ++ s.data.toList, col := wt.col + s.size }) rfl rfl
    have H2 : Hid _ := hP2
    have HT : Hid _ := hT1
    obtain ⟨va, vc, rfl⟩ := row_slice hown
    clear hP2 hP1 hT1 hown hgrow hat h hrow hPw hb1 c2 c3 c6 f2 f3 f6
    go_wp2
    first | go_end0 | refine bodyPost_ret (results_none rfl _ _ _) rfl ?_
    rw [HE.out]
    exact ⟨⟨_, rfl⟩, _, H2.out.1, HT.out.trans H2.out.2⟩
theorem rspc_snoc (n : Nat) (w : Wr) : rspc (n + 1) w = if (rspc n w).long then rspc n w else rput (rspc n w) ⟨#[32]⟩ := by
  induction n generalizing w with
  | zero => rfl
  | succ n ih =>
    rw [rspc]
    by_cases hw : w.long = true
    · rw [if_pos hw, rspc_long _ hw, if_pos hw]
    · rw [if_neg hw, ih, rspc, if_neg hw]
theorem rput_len {w : Wr} (s : ByteArray) (h : w.out.length ≤ 65536) : (rput w s).out.length ≤ 65536 := by
  unfold rput
  split
  · exact h
  · rw [List.length_append]; show _ + s.data.toList.length ≤ _; simp; omega
theorem rput_col {w : Wr} (s : ByteArray) (hc : 0 ≤ w.col ∧ w.col ≤ 200000 + w.out.length) : 0 ≤ (rput w s).col ∧ (rput w s).col ≤ 200000 + (rput w s).out.length := by
  unfold rput
  split
  · exact hc
  · rw [List.length_append]; show 0 ≤ w.col + s.size ∧ w.col + s.size ≤ _; simp; omega
theorem rspc_ok (n : Nat) {w : Wr} (h : w.out.length ≤ 65536) (hc : 0 ≤ w.col ∧ w.col ≤ 200000 + w.out.length) : (rspc n w).out.length ≤ 65536 ∧ 0 ≤ (rspc n w).col ∧ (rspc n w).col ≤ 200000 + (rspc n w).out.length := by
  induction n with
  | zero => exact ⟨h, hc⟩
  | succ n ih =>
    rw [rspc_snoc]
    split
    · exact ih
    · exact ⟨rput_len _ ih.1, rput_col _ ih.2⟩
theorem rspc_stop {w : Wr} {k i : Nat} (h : (rspc k w).long = true) (hk : k ≤ i) : rspc i w = rspc k w := by
  induction i with
  | zero => obtain rfl : k = 0 := by omega
            rfl
  | succ i ih =>
    rcases Nat.lt_or_ge i k with h' | h'
    · obtain rfl : k = i + 1 := by omega
      rfl
    · rw [rspc_snoc, ih h', if_pos h]
theorem WrAt.drew {lo WB : Nat} {w : Wr} {wd : Int} {lv tv : Value} {ls : List Dc} {W : World} (h : WrAt lo WB w wd lv tv ls W) : WrAt lo WB w wd lv tv ls W.drew := ⟨h.blk, h.row, h.lrow, h.n1, h.n2, h.n3⟩
set_option maxRecDepth 100000 in
set_option maxHeartbeats 8000000 in
theorem rleaf_any (lo WB : Nat) (wt : Wr) (wd : Int) (lv tv : Value) (ls : List Dc) (i : Nat) (flat : Bool) (w : World) (h : WrAt lo WB wt wd lv tv ls w) (ht : wt.out.length ≤ 65536) (hc : 0 ≤ wt.col ∧ wt.col ≤ 200000 + wt.out.length) (hp : wt.pos < ls.length) (hls : ls.length ≤ 1000000) (htx : ∀ x ∈ ls, x.text.size ≤ 1000000) (hi : i ≤ 200000) (hlo : lo ≤ w.heap.size) :
    Calls Try.prog 38 #[.pointer (some ⟨WB, 0, none⟩), .int .i64 (i : Int), .bool flat] w fun e w' => (∃ r, e = .returned r) ∧ ∃ tv', WrAt lo WB (rleaf ls wt i flat) wd lv tv' ls w' ∧ Turn WB tv tv' w w' := by
  obtain ⟨x, hx⟩ : ∃ x, ls[wt.pos]? = some x := ⟨ls[wt.pos], by simp [hp]⟩
  obtain ⟨lo', hl⟩ := h.lrow
  obtain ⟨g, cap, hsl, _, hglt⟩ := hl.form (by omega)
  subst hsl
  obtain ⟨q0, q1, q2, q3⟩ := lfV_get4 hx
  have r0 := (own_cell hl q0).1
  have r1 := (own_cell hl q1).1
  have r2 := (own_cell hl q2).1
  have r3 := (own_cell hl q3).1
  have hWB := (Array.getElem?_eq_some_iff.1 h.blk).1
  obtain ⟨c0, f0⟩ := blk_cell h.blk (j := 0) rfl
  obtain ⟨c1, f1⟩ := blk_cell h.blk (j := 1) rfl
  have hpI : (wt.pos : Int) < ls.length := by omega
  have hxt : x.text.size ≤ 1000000 := htx x (List.mem_of_getElem? hx)
  have HH : Hid _ := h
  clear h hl q0 q1 q2 q3 htx
  go_enter Try.func38, Try.ntmps38
  go_wp2
  go_region
  have HBX : Hid (Below w.heap.size w (w.alloc (.cells #[.int .i64 x.kind, .string x.text, .int .i64 x.n, .slice none 0 0] 24)).drew) := ((Below.refl _ _).alloc (Nat.le_refl _) _).drew
  have xB : Bx (w.alloc (.cells #[.int .i64 x.kind, .string x.text, .int .i64 x.n, .slice none 0 0] 24)).drew w.heap.size x.kind x.text x.n (.slice none 0 0) := by
    have b := Bx.new w x.kind x.text x.n (.slice none 0 0) 24
    exact ⟨b.c0, b.c1, b.c2, b.c3⟩
  obtain ⟨w1, hw1⟩ : ∃ w1, (w.alloc (.cells #[.int .i64 x.kind, .string x.text, .int .i64 x.n, .slice none 0 0] 24)).drew = w1 := ⟨_, rfl⟩
  rw [hw1] at HBX xB ⊢
  have hs1 : w.heap.size < w1.heap.size := by rw [← hw1]; show _ < (w.alloc _).heap.size; simp
  clear hw1 r0 r1 r2 r3 c0 c1 f0 f1 hpI
  have h1 := HH.out.below HBX.out
  have hs2 := h1.set 1 (.int .i64 ((wt.pos : Int) + 1)) (w' := { wt with pos := wt.pos + 1 }) rfl rfl
  obtain ⟨c1, f1⟩ := blk_cell h1.blk (j := 1) rfl
  obtain ⟨w2, hw2⟩ : ∃ w2, w1.setCell ⟨WB, 1, none⟩ (.int .i64 ((wt.pos : Int) + 1)) = w2 := ⟨_, rfl⟩
  rw [hw2] at hs2
  have x2 : Bx w2 w.heap.size x.kind x.text x.n (.slice none 0 0) := by
    have e : ∀ q, w2.cell? ⟨w.heap.size, q, none⟩ = w1.cell? ⟨w.heap.size, q, none⟩ := fun q => by
      rw [← hw2]
      exact World.cell?_of_block (a := ⟨w.heap.size, q, none⟩) (Below.heap_setCell w1 ⟨WB, 1, none⟩ _ w.heap.size (by show w.heap.size ≠ WB; omega))
    exact ⟨(e _).trans xB.c0, (e _).trans xB.c1, (e _).trans xB.c2, (e _).trans xB.c3⟩
  have HLO2 : Hid (lo ≤ w2.heap.size) := Nat.le_trans (Nat.le_trans hlo HBX.out.size) hs2.2.size
  obtain ⟨d0, d1, d2, d3⟩ := x2
  have H2 : Hid _ := hs2.1
  have HT2 : Hid (Turn WB tv tv w w2) := (Turn.of_below HBX.out).trans hs2.2
  have HRL : Hid (rleaf ls wt i flat = if x.kind = 1 ∨ (x.kind = 2 ∧ flat = true) then rput { wt with pos := wt.pos + 1 } x.text else rbrk { wt with pos := wt.pos + 1 } i) := by
    show _ = _
    unfold rleaf
    rw [hx]
  have hc1 : wt.col ≤ 1000000 := by omega
  have hc0 : 0 ≤ wt.col := hc.1
  have HCC : Hid _ := hc
  clear hs2 h1 xB hx hc
  by_cases hk : x.kind = 1 ∨ (x.kind = 2 ∧ flat = true)
  · rw [if_pos hk] at HRL
    have HP : Hid _ := fun (_ : Unit) => rput_any lo WB { wt with pos := wt.pos + 1 } wd (.slice (some ⟨g, 0, none⟩) ls.length cap) tv ls x.text w2 H2.out ht hc0 hc1 hxt HLO2.out
    have HK : Hid _ := hk
    clear hk
    rcases HK.out with h1 | ⟨h2, h3⟩
    · rw [h1] at d0
      clear h1 HK
      go_wp2_with (go_at_call 47; refine (HP.out ()).mono ?_)
      rintro e w3 ⟨⟨r, rfl⟩, tv', hP3, hT3⟩
      have HP3 : Hid _ := hP3
      have HT3 : Hid _ := hT3
      clear hP3 hT3
      go_wp2
      first | go_end0 | refine bodyPost_ret (results_none rfl _ _ _) rfl ?_
      rw [HRL.out]
      exact ⟨⟨_, rfl⟩, tv', HP3.out, HT2.out.trans HT3.out⟩
    · rw [h2] at d0
      subst h3
      clear h2 HK
      go_wp2_with (go_at_call 47; refine (HP.out ()).mono ?_)
      rintro e w3 ⟨⟨r, rfl⟩, tv', hP3, hT3⟩
      have HP3 : Hid _ := hP3
      have HT3 : Hid _ := hT3
      clear hP3 hT3
      go_wp2
      first | go_end0 | refine bodyPost_ret (results_none rfl _ _ _) rfl ?_
      rw [HRL.out]
      exact ⟨⟨_, rfl⟩, tv', HP3.out, HT2.out.trans HT3.out⟩
  · rw [if_neg hk] at HRL
    have k1 : ¬ x.kind = 1 := fun e => hk (.inl e)
    have k1b : (x.kind == 1) = false := by simpa using k1
    have HP : Hid _ := fun (_ : Unit) => rput_any lo WB { wt with pos := wt.pos + 1 } wd (.slice (some ⟨g, 0, none⟩) ls.length cap) tv ls ⟨#[10]⟩ w2 H2.out ht hc0 hc1 (by show 1 ≤ _; omega) HLO2.out
    have HOK : Hid (∀ k, (rspc k (rput { wt with pos := wt.pos + 1 } ⟨#[10]⟩)).out.length ≤ 65536 ∧ 0 ≤ (rspc k (rput { wt with pos := wt.pos + 1 } ⟨#[10]⟩)).col ∧ (rspc k (rput { wt with pos := wt.pos + 1 } ⟨#[10]⟩)).col ≤ 200000 + (rspc k (rput { wt with pos := wt.pos + 1 } ⟨#[10]⟩)).out.length) := fun k => rspc_ok k (rput_len _ ht) (rput_col _ HCC.out)
    have HRB : Hid (rbrk { wt with pos := wt.pos + 1 } i = { rspc i (rput { wt with pos := wt.pos + 1 } ⟨#[10]⟩) with col := (i : Int) }) := rfl
    rw [HRB.out] at HRL
    obtain ⟨u, hu⟩ : ∃ u, rput { wt with pos := wt.pos + 1 } ⟨#[10]⟩ = u := ⟨_, rfl⟩
    rw [hu] at HP HOK HRL
    clear HRB hu
    have HMAIN : Hid (∀ W1 tv1, WrAt lo WB u wd (.slice (some ⟨g, 0, none⟩) ls.length cap) tv1 ls W1 → Turn WB tv tv1 w W1 → lo ≤ W1.heap.size → True) := fun _ _ _ _ _ => trivial
    clear HMAIN
    have HK2 : Hid (x.kind = 2 → flat = false) := fun e => by
      cases flat with
      | true => exact absurd (.inr ⟨e, rfl⟩) hk
      | false => rfl
    clear hk
    by_cases k2 : x.kind = 2
    · have hfl := HK2.out k2
      subst hfl
      rw [k2] at d0
      clear k1 k1b k2 HK2
      go_wp2_with (go_at_call 47; refine (HP.out ()).mono ?_; rintro e w3 ⟨⟨r, rfl⟩, tv3, hP3, hT3⟩; have HP3 : Hid _ := hP3; have HT3 : Hid (Turn WB tv tv3 w w3) := HT2.out.trans hT3; have HLO3 : Hid (lo ≤ w3.heap.size) := Nat.le_trans HLO2.out hT3.size; clear hP3 hT3 d0 d1 d2 d3)
      go_loopw [7] (fun kv W => ∃ (k : Nat) (tv' : Value), k ≤ i ∧ kv = .int .i64 k ∧ WrAt lo WB (rspc k u) wd (.slice (some ⟨g, 0, none⟩) ls.length cap) tv' ls W ∧ Turn WB tv tv' w W ∧ lo ≤ W.heap.size) (fun kv _ => i - (intOf kv).toNat)
      case atStart => exact ⟨0, tv3, Nat.zero_le _, rfl, HP3.out, HT3.out, HLO3.out⟩
      case round =>
        obtain ⟨k, tv', hk, rfl, hP, hT, hlo'⟩ := hrel
        have HPk : Hid _ := hP
        have HTk : Hid _ := hT
        obtain ⟨c6, f6⟩ := blk_cell hP.blk (j := 6) rfl
        obtain ⟨c3, f3⟩ := blk_cell hP.blk (j := 3) rfl
        have HFIN : Hid (rspc i u = rspc k u → ∀ W', W' = wr.setCell ⟨WB, 3, none⟩ (.int .i64 (i : Int)) → ∃ tv'', WrAt lo WB (rleaf ls wt i false) wd (.slice (some ⟨g, 0, none⟩) ls.length cap) tv'' ls W' ∧ Turn WB tv tv'' w W') := fun e W' hW' => by
          subst hW'
          have := HPk.out.set 3 (.int .i64 (i : Int)) (w' := { rspc k u with col := (i : Int) }) rfl rfl
          rw [HRL.out, e]
          exact ⟨tv', this.1, HTk.out.trans this.2⟩
        have hok := HOK.out k
        have HPUT : Hid _ := fun (_ : Unit) => rput_any lo WB (rspc k u) wd (.slice (some ⟨g, 0, none⟩) ls.length cap) tv' ls ⟨#[32]⟩ wr HPk.out hok.1 hok.2.1 (by omega) (by show 1 ≤ _; omega) hlo'
        have HSN : Hid _ := rspc_snoc k u
        have HST : Hid ((rspc k u).long = true → rspc i u = rspc k u) := fun h => rspc_stop h hk
        clear hP hT hok HP3 HT3
        by_cases hlt : k < i
        · have hltI : (k : Int) < i := by omega
          cases hlg : (rspc k u).long with
          | true =>
            have HF : Hid _ := HFIN.out (HST.out hlg) _ rfl
            rw [hlg] at c6
            clear hlg HFIN HST HSN HPUT
            go_wp2
            first | go_end0 | refine bodyPost_ret (results_none rfl _ _ _) rfl ?_
            exact ⟨⟨_, rfl⟩, HF.out⟩
          | false =>
            have HS2 : Hid (rspc (k + 1) u = rput (rspc k u) ⟨#[32]⟩) := by show _ = _; rw [HSN.out, hlg]; rfl
            rw [hlg] at c6
            clear hlg HFIN HST HSN
            go_wp2_with (go_at_call 47; refine (HPUT.out ()).mono ?_)
            rintro e w4 ⟨⟨r, rfl⟩, tv4, hP4, hT4⟩
            have HP4 : Hid _ := hP4
            have HT4 : Hid (Turn WB tv tv4 w w4) := HTk.out.trans hT4
            have HLO4 : Hid (lo ≤ w4.heap.size) := Nat.le_trans hlo' hT4.size
            clear hP4 hT4 c6 f6 c3 f3
            go_wp2
            go_roundw
            case rel => exact ⟨k + 1, tv4, by omega, by go_num, by rw [HS2.out]; exact HP4.out, HT4.out, HLO4.out⟩
            case measure => simp [intOf]; omega
        · obtain rfl : k = i := by omega
          have HF : Hid _ := HFIN.out rfl _ rfl
          clear HFIN HST HSN HPUT
          go_wp2
          first | go_end0 | refine bodyPost_ret (results_none rfl _ _ _) rfl ?_
          exact ⟨⟨_, rfl⟩, HF.out⟩
    · have k2b : (x.kind == 2) = false := by simpa using k2
      go_wp2_with (go_at_call 47; refine (HP.out ()).mono ?_; rintro e w3 ⟨⟨r, rfl⟩, tv3, hP3, hT3⟩; have HP3 : Hid _ := hP3; have HT3 : Hid (Turn WB tv tv3 w w3) := HT2.out.trans hT3; have HLO3 : Hid (lo ≤ w3.heap.size) := Nat.le_trans HLO2.out hT3.size; clear hP3 hT3 d0 d1 d2 d3)
      go_loopw [7] (fun kv W => ∃ (k : Nat) (tv' : Value), k ≤ i ∧ kv = .int .i64 k ∧ WrAt lo WB (rspc k u) wd (.slice (some ⟨g, 0, none⟩) ls.length cap) tv' ls W ∧ Turn WB tv tv' w W ∧ lo ≤ W.heap.size) (fun kv _ => i - (intOf kv).toNat)
      case atStart => exact ⟨0, tv3, Nat.zero_le _, rfl, HP3.out, HT3.out, HLO3.out⟩
      case round =>
        obtain ⟨k, tv', hk, rfl, hP, hT, hlo'⟩ := hrel
        have HPk : Hid _ := hP
        have HTk : Hid _ := hT
        obtain ⟨c6, f6⟩ := blk_cell hP.blk (j := 6) rfl
        obtain ⟨c3, f3⟩ := blk_cell hP.blk (j := 3) rfl
        have HFIN : Hid (rspc i u = rspc k u → ∀ W', W' = wr.setCell ⟨WB, 3, none⟩ (.int .i64 (i : Int)) → ∃ tv'', WrAt lo WB (rleaf ls wt i flat) wd (.slice (some ⟨g, 0, none⟩) ls.length cap) tv'' ls W' ∧ Turn WB tv tv'' w W') := fun e W' hW' => by
          subst hW'
          have := HPk.out.set 3 (.int .i64 (i : Int)) (w' := { rspc k u with col := (i : Int) }) rfl rfl
          rw [HRL.out, e]
          exact ⟨tv', this.1, HTk.out.trans this.2⟩
        have hok := HOK.out k
        have HPUT : Hid _ := fun (_ : Unit) => rput_any lo WB (rspc k u) wd (.slice (some ⟨g, 0, none⟩) ls.length cap) tv' ls ⟨#[32]⟩ wr HPk.out hok.1 hok.2.1 (by omega) (by show 1 ≤ _; omega) hlo'
        have HSN : Hid _ := rspc_snoc k u
        have HST : Hid ((rspc k u).long = true → rspc i u = rspc k u) := fun h => rspc_stop h hk
        clear hP hT hok HP3 HT3
        by_cases hlt : k < i
        · have hltI : (k : Int) < i := by omega
          cases hlg : (rspc k u).long with
          | true =>
            have HF : Hid _ := HFIN.out (HST.out hlg) _ rfl
            rw [hlg] at c6
            clear hlg HFIN HST HSN HPUT
            go_wp2
            first | go_end0 | refine bodyPost_ret (results_none rfl _ _ _) rfl ?_
            exact ⟨⟨_, rfl⟩, HF.out⟩
          | false =>
            have HS2 : Hid (rspc (k + 1) u = rput (rspc k u) ⟨#[32]⟩) := by show _ = _; rw [HSN.out, hlg]; rfl
            rw [hlg] at c6
            clear hlg HFIN HST HSN
            go_wp2_with (go_at_call 47; refine (HPUT.out ()).mono ?_)
            rintro e w4 ⟨⟨r, rfl⟩, tv4, hP4, hT4⟩
            have HP4 : Hid _ := hP4
            have HT4 : Hid (Turn WB tv tv4 w w4) := HTk.out.trans hT4
            have HLO4 : Hid (lo ≤ w4.heap.size) := Nat.le_trans hlo' hT4.size
            clear hP4 hT4 c6 f6 c3 f3
            go_wp2
            go_roundw
            case rel => exact ⟨k + 1, tv4, by omega, by go_num, by rw [HS2.out]; exact HP4.out, HT4.out, HLO4.out⟩
            case measure => simp [intOf]; omega
        · obtain rfl : k = i := by omega
          have HF : Hid _ := HFIN.out rfl _ rfl
          clear HFIN HST HSN HPUT
          go_wp2
          first | go_end0 | refine bodyPost_ret (results_none rfl _ _ _) rfl ?_
          exact ⟨⟨_, rfl⟩, HF.out⟩
end Go.Proofs.Ytbmejfcbladofaa
