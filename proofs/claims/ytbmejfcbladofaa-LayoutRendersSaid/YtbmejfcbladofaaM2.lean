/- A document's leaves: the document's own answer. -/
import Derived.Test.YtbmejfcbladofaaM1
import Derived.Laws.AppendOwnNone
namespace Go.Proofs.Ytbmejfcbladofaa
open Go.RowKit

theorem wpList_app_rows {ops : Array Oper} {rest : List Oper} {o : Oper} {a : Act} {Q : Exit → Act → World → Prop} {w : World} (hgd : o.guard = none) (s x : Operand)
    (ho : o.op = .call { callee := .builtin .append, args := #[s, x], argTypes := #[22, 22] }) (lo : Nat) (v : Value) (n : Nat) (xs : List Value) (hs : a.eval s = v) (hown : w.ownsRow lo 24 4 v n xs)
    (lo2 : Nat) (v2 : Value) (m : Nat) (ys : List Value) (hx : a.eval x = v2) (hown2 : w.ownsRow lo2 24 4 v2 m ys) (h1 : ∀ u ∈ ys, u.oneCell' = true) (h63 : n + m ≤ 1000000) (hbase : lo ≤ w.heap.size)
    (h : ∀ v' w', w'.ownsRow lo 24 4 v' (n + m) (xs ++ ys) → w.grownBy w' v.ownBlock → wpList Try.prog ops Q rest (a.put o.dst v') w') : wpList Try.prog ops Q (o :: rest) a w := by
  obtain ⟨i0, hinf, hz0, hz1, hz2⟩ := info_parts info24
  rcases hown2.2 with ⟨rfl, rfl⟩ | ⟨g, cap, cur, rfl, hbg, hg, hcap, hcm, hcs, ht⟩
  · have hy : ys = [] := by have := hown2.1; simpa using this
    subst hy
    refine wpList_append_own_none hgd s x 22 ho lo 24 i0 4 Try.underlying22 hinf v n xs hs hown hx ?_
    exact h v w (by simpa using hown) (World.grownBy.refl _ _)
  · refine wpList_append_own w hgd s x 22 ho lo 24 i0 _ 4 56 Try.underlying22 hinf hz0 hz1 hz2 rfl (by decide) v n xs hs hown ⟨g, 0, none⟩ m cap ys hx hown2.1 (fun j u hu => ?_) h1 (by unfold maxLen; omega) (by omega) hbase (fun v' w' a b _ => h v' w' a b)
    have e : (⟨g, 0, none⟩ : Addr).add j = ⟨g, j, none⟩ := by simp [Addr.add]; omega
    rw [e]
    exact (own_cell hown2 hu).1
theorem lfV_one (ls : List Dc) : ∀ u ∈ lfV ls, u.oneCell' = true := by
  intro u hu
  unfold lfV at hu
  rw [List.mem_flatMap] at hu
  obtain ⟨x, _, hu⟩ := hu
  simp [lfC] at hu
  rcases hu with rfl | rfl | rfl | rfl <;> rfl
theorem rlvL_take {l : List Dc} {k : Nat} {d : Dc} (h : l[k]? = some d) : rlvL (l.take (k + 1)) = rlvL (l.take k) ++ rlv d := by
  induction l generalizing k with
  | nil => cases h
  | cons x l ih =>
    cases k with
    | zero => simp at h; subst h; simp [rlvL]
    | succ k => simp at h; rw [List.take_succ_cons, List.take_succ_cons, rlvL, rlvL, ih h, List.append_assoc]
mutual
theorem rlv_wt : ∀ (d : Dc), (rlv d).length ≤ wt d
  | .mk k t n l => by
    have := rlvL_wt l
    rw [rlv, wt]
    split
    · simp; omega
    · omega
theorem rlvL_wt : ∀ (l : List Dc), (rlvL l).length ≤ wtL l
  | [] => by simp [rlvL]
  | d :: l => by
    have h1 := rlv_wt d
    have h2 := rlvL_wt l
    rw [rlvL, wtL, List.length_append]; omega
end
theorem rlv_yes {d : Dc} (h : isLf d = true) : rlv d = [.mk d.kind d.text d.n []] := by
  cases d with
  | mk k t n l =>
    have h' : (decide (k = 1) || decide (k = 2) || decide (k = 3)) = true := h
    simp at h'
    rw [rlv, if_pos (by omega)]; rfl
theorem rlv_no {d : Dc} (h : isLf d = false) : rlv d = rlvL d.kids := by
  cases d with
  | mk k t n l =>
    have h' : (decide (k = 1) || decide (k = 2) || decide (k = 3)) = false := h
    simp at h'
    rw [rlv, if_neg (by omega)]; rfl
set_option maxRecDepth 100000 in
set_option maxHeartbeats 8000000 in
theorem refLeaves_any (f : Nat) : ∀ (N : Nat) (d : Dc) (sa : Option Addr) (sc : Nat) (w : World), wt d ≤ N → DAt w w.heap.size f sa d.kids → wt d ≤ 700 →
    Calls Try.prog 23 #[.agg #[.int .i64 d.kind, .string d.text, .int .i64 d.n, .slice sa d.kids.length sc]] w fun e w' => (∃ v, e = .returned v ∧ w'.ownsRow w.heap.size 24 4 v (rlv d).length (lfV (rlv d))) ∧ Below w.heap.size w w' := by
  intro N
  induction N with
  | zero => intro d sa sc w hN; rw [wt_eq] at hN; omega
  | succ N ih =>
  intro d sa sc w hN hk h700
  obtain ⟨i0, hinf, hz0, hz1, hz2⟩ := info_parts info24
  have hlen := hk.len
  have hwt := wt_eq d
  obtain ⟨w1, hw1⟩ : ∃ w1, w.alloc (.cells #[.int .i64 d.kind, .string d.text, .int .i64 d.n, .slice sa d.kids.length sc] 24) = w1 := ⟨_, rfl⟩
  have hB1 : Below w.heap.size w w1 := by rw [← hw1]; exact (Below.refl _ _).alloc (Nat.le_refl _) _
  have s1 : w1.heap.size = w.heap.size + 1 := by rw [← hw1]; simp
  have x1 : Bx w1 w.heap.size d.kind d.text d.n (.slice sa d.kids.length sc) := by rw [← hw1]; exact Bx.new _ _ _ _ _ _
  have HX1 : Hid _ := x1
  obtain ⟨a0, a1, a2, a3⟩ := x1
  have HIX : Hid (∀ x ∈ d.kids, wt x ≤ N ∧ wt x ≤ 700) := fun x hx => by
    obtain ⟨k, hk, rfl⟩ := List.getElem_of_mem hx
    have h1 := wtL_take (List.getElem?_eq_getElem hk)
    have h2 := wtL_take_le d.kids (k + 1)
    omega
  have HLB : Hid (∀ k, (rlvL (d.kids.take k)).length ≤ 700) := fun k => by
    have h1 := rlvL_wt (d.kids.take k)
    have h2 := wtL_take_le d.kids k
    omega
  have HI : Hid _ := ih
  have HK : Hid _ := hk
  have HB1 : Hid _ := hB1
  have HS1 : Hid _ := s1
  clear hwt ih hk hN hB1 s1 h700
  cases hlf : isLf d with
  | true =>
    have HR : Hid _ := rlv_yes hlf
    have hlf' : d.kind = 1 ∨ d.kind = 2 ∨ d.kind = 3 := by
      unfold isLf at hlf; simp at hlf; omega
    have HKD : Hid _ := hlf'
    clear hlf hlf' HIX HLB HI HK
    obtain ⟨kd, hkd⟩ : ∃ k, d.kind = k := ⟨_, rfl⟩
    rw [hkd] at HKD a0
    have HKE : Hid _ := hkd
    clear hkd
    have HFIN : Hid (∀ v' w', w'.ownsRow w1.heap.size 24 4 v' (0 + 1) ([] ++ [.int .i64 kd, .string d.text, .int .i64 d.n, .slice none 0 0]) → (w1.alloc (.cells #[.int .i64 kd, .string d.text, .int .i64 d.n, .slice none 0 0] 24)).grownBy w' (Value.slice none 0 0).ownBlock → (∃ v, Ending.returned v' = .returned v ∧ w'.ownsRow w.heap.size 24 4 v (rlv d).length (lfV (rlv d))) ∧ Below w.heap.size w w') := fun v' w' h1 h2 => by
      have hs1 := HS1.out
      refine ⟨⟨v', rfl, ?_⟩, ?_⟩
      · rw [HR.out, HKE.out]
        exact row_base (by omega) h1
      · have hb := ((Below.refl w1.heap.size w1).alloc (Nat.le_refl _) (.cells #[.int .i64 kd, .string d.text, .int .i64 d.n, .slice none 0 0] 24)).grown h2 (by simp) (fun j hj => by simp [Value.ownBlock] at hj)
        exact HB1.out.trans (hb.mono (by omega))
    rcases HKD.out with rfl | rfl | rfl
    · clear HKD HKE HR
      go_enter Try.func23, Try.ntmps23
      go_wp2_with (at_builtin; refine wpList_append_own _ rfl _ _ 22 rfl w1.heap.size 24 i0 (.agg #[.int .i64 0, .string ⟨#[]⟩, .int .i64 0, .slice none 0 0]) 4 56 Try.underlying22 hinf hz0 hz1 hz2 rfl (by decide) (.slice none 0 0) 0 [] rfl (World.ownsRow_nil _ _ _ _) ⟨w1.heap.size, 0, none⟩ 1 1 [.int .i64 1, .string d.text, .int .i64 d.n, .slice none 0 0] rfl rfl ?ca11 ?ca12 ?ca13 ?ca14 ?ca15 ?_)
      case ca11 => exact cells_new _ _ _
      case ca12 => simp [Value.oneCell']
      case ca13 => unfold maxLen; omega
      case ca14 => omega
      case ca15 => simp
      intro v' w2 hown' hgrow _
      have HZ : Hid _ := HFIN.out v' w2 hown' hgrow
      obtain ⟨g', cap', rfl⟩ := ownsRow_succ hown'
      clear hown' hgrow HFIN
      go_wp2
      go_ret
      exact HZ.out
    · clear HKD HKE HR
      go_enter Try.func23, Try.ntmps23
      go_wp2_with (at_builtin; refine wpList_append_own _ rfl _ _ 22 rfl w1.heap.size 24 i0 (.agg #[.int .i64 0, .string ⟨#[]⟩, .int .i64 0, .slice none 0 0]) 4 56 Try.underlying22 hinf hz0 hz1 hz2 rfl (by decide) (.slice none 0 0) 0 [] rfl (World.ownsRow_nil _ _ _ _) ⟨w1.heap.size, 0, none⟩ 1 1 [.int .i64 2, .string d.text, .int .i64 d.n, .slice none 0 0] rfl rfl ?ca21 ?ca22 ?ca23 ?ca24 ?ca25 ?_)
      case ca21 => exact cells_new _ _ _
      case ca22 => simp [Value.oneCell']
      case ca23 => unfold maxLen; omega
      case ca24 => omega
      case ca25 => simp
      intro v' w2 hown' hgrow _
      have HZ : Hid _ := HFIN.out v' w2 hown' hgrow
      obtain ⟨g', cap', rfl⟩ := ownsRow_succ hown'
      clear hown' hgrow HFIN
      go_wp2
      go_ret
      exact HZ.out
    · clear HKD HKE HR
      go_enter Try.func23, Try.ntmps23
      go_wp2_with (at_builtin; refine wpList_append_own _ rfl _ _ 22 rfl w1.heap.size 24 i0 (.agg #[.int .i64 0, .string ⟨#[]⟩, .int .i64 0, .slice none 0 0]) 4 56 Try.underlying22 hinf hz0 hz1 hz2 rfl (by decide) (.slice none 0 0) 0 [] rfl (World.ownsRow_nil _ _ _ _) ⟨w1.heap.size, 0, none⟩ 1 1 [.int .i64 3, .string d.text, .int .i64 d.n, .slice none 0 0] rfl rfl ?ca31 ?ca32 ?ca33 ?ca34 ?ca35 ?_)
      case ca31 => exact cells_new _ _ _
      case ca32 => simp [Value.oneCell']
      case ca33 => unfold maxLen; omega
      case ca34 => omega
      case ca35 => simp
      intro v' w2 hown' hgrow _
      have HZ : Hid _ := HFIN.out v' w2 hown' hgrow
      obtain ⟨g', cap', rfl⟩ := ownsRow_succ hown'
      clear hown' hgrow HFIN
      go_wp2
      go_ret
      exact HZ.out
  | false =>
    have HR : Hid _ := rlv_no hlf
    have hlf' : ¬ d.kind = 1 ∧ ¬ d.kind = 2 ∧ ¬ d.kind = 3 := by
      unfold isLf at hlf; simp at hlf; omega
    have e1 : (d.kind == 1) = false := by simpa using hlf'.1
    have e2 : (d.kind == 2) = false := by simpa using hlf'.2.1
    have e3 : (d.kind == 3) = false := by simpa using hlf'.2.2
    clear hlf hlf'
    go_enter Try.func23, Try.ntmps23
    go_wp2
    go_loopw [3, 4] (fun v iv W => ∃ (k : Nat) (l : List Dc), k ≤ d.kids.length ∧ iv = .int .i64 k ∧ l = rlvL (d.kids.take k) ∧ W.ownsRow w1.heap.size 24 4 v l.length (lfV l) ∧ Below w1.heap.size w1 W) (fun _ iv _ => d.kids.length - (intOf iv).toNat)
    case atStart => exact ⟨0, [], Nat.zero_le _, rfl, by simp [rlvL], World.ownsRow_nil _ _ _ _, Below.refl _ _⟩
    case round =>
      obtain ⟨k, l, hk, rfl, hl, hrow, hB⟩ := hrel
      have hs1 := HS1.out
      have x2 := HX1.out.keep hB (by omega)
      obtain ⟨b0, b1, b2, b3⟩ := x2
      have hBw : Below w.heap.size w wr := HB1.out.trans (hB.mono (by omega))
      have HBw : Hid _ := hBw
      have HL : Hid _ := hl
      have HB : Hid _ := hB
      have hll : l.length ≤ 700 := by rw [hl]; exact HLB.out k
      clear hBw hl hB hs1 a0 a1 a2 a3
      by_cases hlt : k < d.kids.length
      · obtain ⟨x, hx⟩ : ∃ x, d.kids[k]? = some x := ⟨d.kids[k], by simp [hlt]⟩
        have hxm : x ∈ d.kids := List.mem_of_getElem? hx
        obtain ⟨bb, o, hsa, hb, xa, xc, c0, c1, c2, c3, hxc, hxk⟩ := ((HK.out.keep HBw.out).mono HBw.out.size).one hx
        have HCX : Hid _ := fun (_ : Unit) => HI.out x xa xc wr (HIX.out x hxm).1 hxk (HIX.out x hxm).2
        have HE : Hid (l ++ rlv x = rlvL (d.kids.take (k + 1))) := by show _ = _; rw [rlvL_take hx, HL.out]
        have hlx : (rlv x).length ≤ 700 := Nat.le_trans (rlv_wt x) (HIX.out x hxm).2
        have HRK : Hid (∀ W, Below wr.heap.size wr W → W.ownsRow w1.heap.size 24 4 u3 l.length (lfV l)) := fun W hW => row_below hrow hW
        have HLT : Hid (∀ b, u3.ownBlock = some b → w1.heap.size ≤ b) := fun b hb => (hrow.lt b hb).1
        obtain ⟨va, vc, hva⟩ := row_slice hrow
        subst hva
        subst hsa
        clear hx hxm hxk hrow
        go_wp2_with (go_at_call 23; refine (HCX.out ()).mono ?_)
        rintro e w2 ⟨⟨v2, rfl, hrow2⟩, hb2⟩
        have hrw := HRK.out w2 hb2
        have HB2 : Hid (Below w1.heap.size w1 w2) := HB.out.trans (hb2.mono HB.out.size)
        obtain ⟨va2, vc2, hva2⟩ := row_slice hrow2
        subst hva2
        clear hb2
        go_wp2_with (at_builtin; refine wpList_app_rows rfl _ _ rfl w1.heap.size _ _ _ rfl hrw wr.heap.size _ _ _ rfl hrow2 (lfV_one _) ?cb1 ?cb2 ?_)
        case cb1 => omega
        case cb2 => exact HB2.out.size
        intro v' w3 hown' hgrow
        have HW3 : Hid (w3.ownsRow w1.heap.size 24 4 v' (l ++ rlv x).length (lfV (l ++ rlv x))) := by
          show World.ownsRow _ _ _ _ _ _ _
          rw [lfV_app, List.length_append]; exact hown'
        have HB3 : Hid (Below w1.heap.size w1 w3) := HB2.out.grown hgrow HB2.out.size (fun j hj => HLT.out j hj)
        obtain ⟨va3, vc3, hva3⟩ := row_slice hown'
        subst hva3
        clear hown' hgrow hrw hrow2
        go_wp2
        go_roundw
        case rel => exact ⟨k + 1, l ++ rlv x, by omega, by go_num, HE.out, by simpa using HW3.out, HB3.out⟩
        case measure => simp [intOf]; omega
      · obtain rfl : k = d.kids.length := by omega
        have HE : Hid (l = rlv d) := by show _ = _; rw [HR.out, HL.out, List.take_length]
        have hs1 := HS1.out
        have HRW : Hid (wr.ownsRow w.heap.size 24 4 u3 l.length (lfV l)) := row_base (by omega) hrow
        obtain ⟨va, vc, hva⟩ := row_slice hrow
        subst hva
        clear hrow
        go_wp2
        go_ret
        exact ⟨⟨_, rfl, by rw [← HE.out]; exact HRW.out⟩, HBw.out⟩
end Go.Proofs.Ytbmejfcbladofaa
