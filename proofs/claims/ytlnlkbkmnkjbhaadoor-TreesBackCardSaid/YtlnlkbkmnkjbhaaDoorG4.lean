/- The law TreesBack, walked. -/
import Derived.Test.YtlnlkbkmnkjbhaaDoorG3
import Derived.Test.YtlnlkbkmnkjbhaaDoorB0
import Derived.Test.YtlnlkbkmnkjbhaaDoorG2
namespace Go.Proofs.YtlnlkbkmnkjbhaaDoor
open Go.RowKit

mutual
theorem sz_txt : ∀ d : Tr, pl d = true → sz d ≤ (txt d).length
  | .mk r b l, h => by
    by_cases hr : r = -1
    · rw [pl_leaf (d := .mk r b l) hr] at h
      have hl : l = [] := by simpa [Tr.kids] using h
      subst hl
      rw [txt_leaf (d := .mk r b []) hr]
      simp [sz, szL]
    · rw [pl_node (d := .mk r b l) hr] at h
      simp only [Bool.and_eq_true, Tr.kids] at h
      have h1 := szL_txt l true h.2
      rw [txt_node (d := .mk r b l) hr, sz]
      simp only [Tr.rule, Tr.kids, List.length_append, List.length_cons, List.length_nil]
      omega
theorem szL_txt : ∀ (l : List Tr) (b : Bool), plL l = true → szL l ≤ (txtL b l).length
  | [], b, h => by simp [szL]
  | d :: l, b, h => by
    rw [plL] at h
    simp only [Bool.and_eq_true] at h
    have h1 := sz_txt d h.1
    have h2 := szL_txt l false h.2
    rw [szL, txtL]
    simp only [List.length_append]
    omega
end
theorem prt_back {s : ByteArray} {d : Tr} {q : Nat} (h : rpar s = .ok d q) : prt d = (s, 0) ∧ sz d ≤ 65536 := by
  obtain ⟨h1, h2, h3, h4⟩ := rpar_back h
  have := sz_txt d h1
  refine ⟨?_, by omega⟩
  unfold prt
  rw [h1, decide_eq_true h2, if_pos (by rfl), if_neg (by omega), h4]
theorem prt_two (a : Tr) : (prt a = (bstr (txt a), 0) ∧ rpar (bstr (txt a)) = .ok a (txt a).length ∧ (bstr (txt a)).size ≤ 65536) ∨ (prt a).2 ≠ 0 := by
  unfold prt
  split
  · rename_i h
    simp only [Bool.and_eq_true, decide_eq_true_eq] at h
    split
    · exact .inr (by simp)
    · rename_i h3
      exact .inl ⟨rfl, rpar_txt a h.1 h.2 (by omega), by show (txt a).toArray.size ≤ _; simp; omega⟩
  · exact .inr (by simp)
set_option maxRecDepth 100000 in
set_option maxHeartbeats 16000000 in
theorem treesBack_walk (a : Tr) (sa : Option Addr) (sc f : Nat) (s : ByteArray) (w : World) (hka : TAt w w.heap.size f sa a.kids) (hsc : a.kids.length ≤ sc) (hs : s.size ≤ maxLen) (hTab : Tab w.heap.size w) :
    Calls Tryd.prog 9 #[.agg #[.int .i64 a.rule, .int .u8 (a.byte.toNat : Int), .slice sa a.kids.length sc], .string s] w fun e w' => e = .returned (.bool true) ∧ Below w.heap.size w w' := by
  have T0 := To.start w a f sa sc hka
  obtain ⟨w2, hw2⟩ : ∃ w2, w.alloc (.cells #[.int .i64 a.rule, .int .u8 (a.byte.toNat : Int), .slice sa a.kids.length sc] 27) = w2 := ⟨_, rfl⟩
  rw [hw2] at T0
  obtain ⟨e0, e1, e2⟩ := T0.facts
  have HT0 : Hid _ := T0
  have HALV : Hid (∀ W, Below w.heap.size w W → Calls Tryd.prog 15 #[] W fun e w' => e = .returned (.bool true) ∧ Below W.heap.size W w') := fun W h => alive_any W (hTab.nx h)
  have HHA : Hid (∀ W, To w a f sa sc W → Calls Tryd.prog 13 #[.agg #[.int .i64 a.rule, .int .u8 (a.byte.toNat : Int), .slice sa a.kids.length sc]] W fun e w' => e = .returned (.bool (decide (1500 < sz a))) ∧ Below W.heap.size W w') := fun W h => heavy_any a sa sc f W h.ka
  by_cases ha : 1500 < sz a
  · rw [decide_eq_true ha] at HHA
    clear ha T0 hka hTab hs
    go_enter Tryd.func9, Tryd.ntmps9
    go_wp2_with (go_at_call 13; refine (HHA.out _ HT0.out).mono ?_; rintro e w3 ⟨rfl, hb3⟩; have HT3 : Hid _ := HT0.out.nx hb3; clear hb3)
    refine (HALV.out _ HT3.out.bel).mono ?_
    rintro e w4 ⟨rfl, hb4⟩
    have HT4 : Hid _ := HT3.out.nx hb4
    clear hb4
    go_wp2
    go_ret
    exact ⟨rfl, HT4.out.bel⟩
  rw [decide_eq_false ha] at HHA
  unfold maxLen at hs
  by_cases hl : 20000 < s.size
  · have hlI : (20000 : Int) < (s.size : Int) := by omega
    clear ha T0 hka hTab hs hl
    go_enter Tryd.func9, Tryd.ntmps9
    go_wp2_with (go_at_call 13; refine (HHA.out _ HT0.out).mono ?_; rintro e w3 ⟨rfl, hb3⟩; have HT3 : Hid _ := HT0.out.nx hb3; clear hb3)
    refine (HALV.out _ HT3.out.bel).mono ?_
    rintro e w4 ⟨rfl, hb4⟩
    have HT4 : Hid _ := HT3.out.nx hb4
    clear hb4
    go_wp2
    go_ret
    exact ⟨rfl, HT4.out.bel⟩
  have hlI : ¬ (20000 : Int) < (s.size : Int) := by omega
  have HPA : Hid (∀ W, To w a f sa sc W → Calls Tryd.prog 33 #[.agg #[.int .i64 a.rule, .int .u8 (a.byte.toNat : Int), .slice sa a.kids.length sc]] W fun e w' => e = .returned (.tuple #[.string (prt a).1, .int .i64 (prt a).2]) ∧ Below W.heap.size W w') := fun W h => print_any a sa sc f W h.ka hsc (by omega) (hTab.nx h.bel)
  rcases prt_two a with ⟨hp1, hp2, hp3⟩ | hp
  · rw [hp1] at HPA
    have HPX : Hid (∀ W, Calls Tryd.prog 35 #[.string (bstr (txt a))] W fun e w' => (∃ va vc, e = .returned (.tuple #[.agg #[.int .i64 a.rule, .int .u8 (a.byte.toNat : Int), .slice va a.kids.length vc], .agg #[.int .i64 0, .int .i64 0]]) ∧ a.kids.length ≤ vc ∧ TIn w' (fun b => W.heap.size ≤ b ∧ b < w'.heap.size) (2 * (bstr (txt a)).size + 2) va a.kids) ∧ Below W.heap.size W w') := fun W => by
      have := parse_any (bstr (txt a)) W (by unfold maxLen; omega)
      rw [hp2] at this
      exact this
    have HSA : Hid (∀ W va vc, TAt W W.heap.size (2 * (bstr (txt a)).size + 2) va a.kids → To w a f sa sc W → Calls Tryd.prog 19 #[.agg #[.int .i64 a.rule, .int .u8 (a.byte.toNat : Int), .slice va a.kids.length vc], .agg #[.int .i64 a.rule, .int .u8 (a.byte.toNat : Int), .slice sa a.kids.length sc]] W fun e w' => e = .returned (.bool true) ∧ Below W.heap.size W w') := fun W va vc h1 h2 => by
      have := refSame_any _ _ a a va sa vc sc W h1 h2.ka
      rw [eqT_true rfl] at this
      exact this
    generalize 2 * (bstr (txt a)).size + 2 = fx at HPX HSA
    clear hp1 hp2 hp3
    generalize bstr (txt a) = x at HPA HPX
    cases hr : rpar s with
    | bad q c =>
      have hb : rpar s = .bad q c := hr
      have HPS : Hid (∀ W, Calls Tryd.prog 35 #[.string s] W fun e w' => e = .returned (.tuple #[.agg #[.int .i64 0, .int .u8 0, .slice none 0 0], .agg #[.int .i64 (q : Int), .int .i64 (c : Int)]]) ∧ Below W.heap.size W w') := fun W => by
        have := parse_any s W (by unfold maxLen; omega)
        rw [hr] at this
        exact this
      have HSB : Hid (∀ W, Calls Tryd.prog 19 #[.agg #[.int .i64 0, .int .u8 0, .slice none 0 0], .agg #[.int .i64 0, .int .u8 0, .slice none 0 0]] W fun e w' => e = .returned (.bool true) ∧ Below W.heap.size W w') := fun W => by
        have := refSame_any 1 1 (.mk 0 0 []) (.mk 0 0 []) none none 0 0 W ⟨by decide, fun j d hj => by cases hj⟩ ⟨by decide, fun j d hj => by cases hj⟩
        rw [eqT_true rfl] at this
        exact this
      have hqc := rpar_bad hr
      have hc0 : ((c : Int) != 0) = true := by simp; omega
      have hq0 : (0 : Int) ≤ (q : Int) := by omega
      have hqs : (q : Int) ≤ (s.size : Int) := by omega
      clear hr hb hqc hs hl
      clear ha T0 hka hTab
      go_enter Tryd.func9, Tryd.ntmps9
      go_wp2_with (go_at_call 13; refine (HHA.out _ HT0.out).mono ?_; rintro e w3 ⟨rfl, hb3⟩; have HT3 : Hid _ := HT0.out.nx hb3; clear hb3; obtain ⟨e0, e1, e2⟩ := HT3.out.facts)
      refine (HPA.out _ HT3.out).mono ?_
      rintro e w4 ⟨rfl, hb4⟩
      have HT4 : Hid _ := HT3.out.nx hb4
      clear hb4
      go_wp2_with (go_at_call 35; refine (HPX.out _).mono ?_; rintro e w5 ⟨⟨xa, xc, rfl, hxc, hxin⟩, hb5⟩; have HT5 : Hid _ := HT4.out.nx hb5; have HR5 : Hid _ := R1.start (q := 0) (c := 0) HT5.out.bel (hxin.tat (fun b h => h.2)) hxc; have HT5' : Hid _ := HT5.out.nx (((Below.refl _ w5).alloc (Nat.le_refl _) (.cells #[.int .i64 a.rule, .int .u8 (a.byte.toNat : Int), .slice xa a.kids.length xc] 27)).alloc (by simp) (.cells #[.int .i64 0, .int .i64 0] 52)); clear hb5 hxc hxin; obtain ⟨e0, e1, e2⟩ := HT5'.out.facts)
      refine (HSA.out _ xa xc HR5.out.ka HT5'.out).mono ?_
      rintro e w6 ⟨rfl, hb6⟩
      have HTA : Hid _ := HT5'.out.nx hb6
      clear hb6
      go_wp2_with (go_at_call 35; refine (HPS.out _).mono ?_; rintro e w7 ⟨rfl, hb7⟩; have HT7 : Hid _ := HTA.out.nx hb7; have HR7 : Hid _ := R1.start (d := .mk 0 0 []) (q := (q : Int)) (c := (c : Int)) (va := none) (vc := 0) (f := 1) HT7.out.bel ⟨by decide, fun j d hj => by cases hj⟩ (Nat.le_refl _); clear hb7)
      refine (HALV.out _ HR7.out.bel).mono ?_
      rintro e w8 ⟨rfl, hb8⟩
      have HR8 : Hid _ := HR7.out.nx hb8
      clear hb8
      obtain ⟨e0, e1, e2, g0, g1⟩ := HR8.out.facts
      go_wp2_with (go_at_call 19; refine (HSB.out _).mono ?_; rintro e w9 ⟨rfl, hb9⟩; have HR9 : Hid _ := HR8.out.nx hb9; clear hb9; obtain ⟨e0, e1, e2, g0, g1⟩ := HR9.out.facts)
      go_ret
      exact ⟨by simp, HR9.out.bel⟩
    | ok d q =>
      have hpd := prt_back hr
      have HPS : Hid (∀ W, Calls Tryd.prog 35 #[.string s] W fun e w' => (∃ va vc, e = .returned (.tuple #[.agg #[.int .i64 d.rule, .int .u8 (d.byte.toNat : Int), .slice va d.kids.length vc], .agg #[.int .i64 0, .int .i64 0]]) ∧ d.kids.length ≤ vc ∧ TIn w' (fun b => W.heap.size ≤ b ∧ b < w'.heap.size) (2 * s.size + 2) va d.kids) ∧ Below W.heap.size W w') := fun W => by
        have := parse_any s W (by unfold maxLen; omega)
        rw [hr] at this
        exact this
      have HPD : Hid (∀ W va vc, TAt W W.heap.size (2 * s.size + 2) va d.kids → d.kids.length ≤ vc → Below w.heap.size w W → Calls Tryd.prog 33 #[.agg #[.int .i64 d.rule, .int .u8 (d.byte.toNat : Int), .slice va d.kids.length vc]] W fun e w' => e = .returned (.tuple #[.string s, .int .i64 0]) ∧ Below W.heap.size W w') := fun W va vc h1 h2 h3 => by
        have := print_any d va vc _ W h1 h2 (by omega) (hTab.nx h3)
        rw [hpd.1] at this
        exact this
      clear hr hpd hs hl
      clear ha T0 hka hTab
      go_enter Tryd.func9, Tryd.ntmps9
      go_wp2_with (go_at_call 13; refine (HHA.out _ HT0.out).mono ?_; rintro e w3 ⟨rfl, hb3⟩; have HT3 : Hid _ := HT0.out.nx hb3; clear hb3; obtain ⟨e0, e1, e2⟩ := HT3.out.facts)
      refine (HPA.out _ HT3.out).mono ?_
      rintro e w4 ⟨rfl, hb4⟩
      have HT4 : Hid _ := HT3.out.nx hb4
      clear hb4
      go_wp2_with (go_at_call 35; refine (HPX.out _).mono ?_; rintro e w5 ⟨⟨xa, xc, rfl, hxc, hxin⟩, hb5⟩; have HT5 : Hid _ := HT4.out.nx hb5; have HR5 : Hid _ := R1.start (q := 0) (c := 0) HT5.out.bel (hxin.tat (fun b h => h.2)) hxc; have HT5' : Hid _ := HT5.out.nx (((Below.refl _ w5).alloc (Nat.le_refl _) (.cells #[.int .i64 a.rule, .int .u8 (a.byte.toNat : Int), .slice xa a.kids.length xc] 27)).alloc (by simp) (.cells #[.int .i64 0, .int .i64 0] 52)); clear hb5 hxc hxin; obtain ⟨e0, e1, e2⟩ := HT5'.out.facts)
      refine (HSA.out _ xa xc HR5.out.ka HT5'.out).mono ?_
      rintro e w6 ⟨rfl, hb6⟩
      have HTA : Hid _ := HT5'.out.nx hb6
      clear hb6
      go_wp2_with (go_at_call 35; refine (HPS.out _).mono ?_; rintro e w7 ⟨⟨va, vc, rfl, hvc, htin⟩, hb7⟩; have HT7 : Hid _ := HTA.out.nx hb7; have HR7 : Hid _ := R1.start (q := 0) (c := 0) HT7.out.bel (htin.tat (fun b h => h.2)) hvc; clear hb7 hvc htin)
      refine (HPD.out _ _ _ HR7.out.ka HR7.out.hc HR7.out.bel).mono ?_
      rintro e w8 ⟨rfl, hb8⟩
      have HR8 : Hid _ := HR7.out.nx hb8
      clear hb8
      go_wp2_with (go_at_call 15; refine (HALV.out _ HR8.out.bel).mono ?_; rintro e w9 ⟨rfl, hb9⟩; have HR9 : Hid _ := HR8.out.nx hb9; clear hb9)
      go_ret
      exact ⟨by simp, HR9.out.bel⟩
  · have hpn : ((prt a).2 == 0) = false := by simpa using hp
    clear hp
    generalize (prt a).1 = p1 at HPA
    generalize (prt a).2 = p2 at HPA hpn
    cases hr : rpar s with
    | bad q c =>
      have hb : rpar s = .bad q c := hr
      have HPS : Hid (∀ W, Calls Tryd.prog 35 #[.string s] W fun e w' => e = .returned (.tuple #[.agg #[.int .i64 0, .int .u8 0, .slice none 0 0], .agg #[.int .i64 (q : Int), .int .i64 (c : Int)]]) ∧ Below W.heap.size W w') := fun W => by
        have := parse_any s W (by unfold maxLen; omega)
        rw [hr] at this
        exact this
      have HSB : Hid (∀ W, Calls Tryd.prog 19 #[.agg #[.int .i64 0, .int .u8 0, .slice none 0 0], .agg #[.int .i64 0, .int .u8 0, .slice none 0 0]] W fun e w' => e = .returned (.bool true) ∧ Below W.heap.size W w') := fun W => by
        have := refSame_any 1 1 (.mk 0 0 []) (.mk 0 0 []) none none 0 0 W ⟨by decide, fun j d hj => by cases hj⟩ ⟨by decide, fun j d hj => by cases hj⟩
        rw [eqT_true rfl] at this
        exact this
      have hqc := rpar_bad hr
      have hc0 : ((c : Int) != 0) = true := by simp; omega
      have hq0 : (0 : Int) ≤ (q : Int) := by omega
      have hqs : (q : Int) ≤ (s.size : Int) := by omega
      clear hr hb hqc hs hl
      clear ha T0 hka hTab
      go_enter Tryd.func9, Tryd.ntmps9
      go_wp2_with (go_at_call 13; refine (HHA.out _ HT0.out).mono ?_; rintro e w3 ⟨rfl, hb3⟩; have HT3 : Hid _ := HT0.out.nx hb3; clear hb3; obtain ⟨e0, e1, e2⟩ := HT3.out.facts)
      refine (HPA.out _ HT3.out).mono ?_
      rintro e w4 ⟨rfl, hb4⟩
      have HTA : Hid _ := HT3.out.nx hb4
      clear hb4
      go_wp2_with (go_at_call 35; refine (HPS.out _).mono ?_; rintro e w7 ⟨rfl, hb7⟩; have HT7 : Hid _ := HTA.out.nx hb7; have HR7 : Hid _ := R1.start (d := .mk 0 0 []) (q := (q : Int)) (c := (c : Int)) (va := none) (vc := 0) (f := 1) HT7.out.bel ⟨by decide, fun j d hj => by cases hj⟩ (Nat.le_refl _); clear hb7)
      refine (HALV.out _ HR7.out.bel).mono ?_
      rintro e w8 ⟨rfl, hb8⟩
      have HR8 : Hid _ := HR7.out.nx hb8
      clear hb8
      obtain ⟨e0, e1, e2, g0, g1⟩ := HR8.out.facts
      go_wp2_with (go_at_call 19; refine (HSB.out _).mono ?_; rintro e w9 ⟨rfl, hb9⟩; have HR9 : Hid _ := HR8.out.nx hb9; clear hb9; obtain ⟨e0, e1, e2, g0, g1⟩ := HR9.out.facts)
      go_ret
      exact ⟨by simp, HR9.out.bel⟩
    | ok d q =>
      have hpd := prt_back hr
      have HPS : Hid (∀ W, Calls Tryd.prog 35 #[.string s] W fun e w' => (∃ va vc, e = .returned (.tuple #[.agg #[.int .i64 d.rule, .int .u8 (d.byte.toNat : Int), .slice va d.kids.length vc], .agg #[.int .i64 0, .int .i64 0]]) ∧ d.kids.length ≤ vc ∧ TIn w' (fun b => W.heap.size ≤ b ∧ b < w'.heap.size) (2 * s.size + 2) va d.kids) ∧ Below W.heap.size W w') := fun W => by
        have := parse_any s W (by unfold maxLen; omega)
        rw [hr] at this
        exact this
      have HPD : Hid (∀ W va vc, TAt W W.heap.size (2 * s.size + 2) va d.kids → d.kids.length ≤ vc → Below w.heap.size w W → Calls Tryd.prog 33 #[.agg #[.int .i64 d.rule, .int .u8 (d.byte.toNat : Int), .slice va d.kids.length vc]] W fun e w' => e = .returned (.tuple #[.string s, .int .i64 0]) ∧ Below W.heap.size W w') := fun W va vc h1 h2 h3 => by
        have := print_any d va vc _ W h1 h2 (by omega) (hTab.nx h3)
        rw [hpd.1] at this
        exact this
      clear hr hpd hs hl
      clear ha T0 hka hTab
      go_enter Tryd.func9, Tryd.ntmps9
      go_wp2_with (go_at_call 13; refine (HHA.out _ HT0.out).mono ?_; rintro e w3 ⟨rfl, hb3⟩; have HT3 : Hid _ := HT0.out.nx hb3; clear hb3; obtain ⟨e0, e1, e2⟩ := HT3.out.facts)
      refine (HPA.out _ HT3.out).mono ?_
      rintro e w4 ⟨rfl, hb4⟩
      have HTA : Hid _ := HT3.out.nx hb4
      clear hb4
      go_wp2_with (go_at_call 35; refine (HPS.out _).mono ?_; rintro e w7 ⟨⟨va, vc, rfl, hvc, htin⟩, hb7⟩; have HT7 : Hid _ := HTA.out.nx hb7; have HR7 : Hid _ := R1.start (q := 0) (c := 0) HT7.out.bel (htin.tat (fun b h => h.2)) hvc; clear hb7 hvc htin)
      refine (HPD.out _ _ _ HR7.out.ka HR7.out.hc HR7.out.bel).mono ?_
      rintro e w8 ⟨rfl, hb8⟩
      have HR8 : Hid _ := HR7.out.nx hb8
      clear hb8
      go_wp2_with (go_at_call 15; refine (HALV.out _ HR8.out.bel).mono ?_; rintro e w9 ⟨rfl, hb9⟩; have HR9 : Hid _ := HR8.out.nx hb9; clear hb9)
      go_ret
      exact ⟨by simp, HR9.out.bel⟩
end Go.Proofs.YtlnlkbkmnkjbhaaDoor
