/- The law TermsBlanks, walked. -/
import Derived.Test.YtlkcadibjmfmcaaDoorVb
import Derived.Test.YtlkcadibjmfmcaaDoorWa
import Derived.Test.YtlkcadibjmfmcaaDoorOa
import Derived.Laws.BitsLemmas
namespace Go.Proofs.YtlkcadibjmfmcaaDoor
open Go.RowKit

theorem i64_and3 (n : Int) : bits .and .i64 n 3 = n % 4 := by
  have h3 : (BitVec.ofInt 64 3).toNat = 2 ^ 2 - 1 := by decide
  have key : (BitVec.ofInt 64 n &&& BitVec.ofInt 64 3).toNat = (n % ((2 ^ 64 : Nat) : Int)).toNat % 2 ^ 2 := by
    rw [BitVec.toNat_and, BitVec.toNat_ofInt, h3, Nat.and_two_pow_sub_one_eq_mod]
  show IntKind.i64.wrap ((BitVec.ofInt 64 n &&& BitVec.ofInt 64 3).toNat : Nat) = n % 4
  rw [key, IntKind.wrap_i64]
  omega
theorem and3 (z : Int) : ∃ m : Nat, m < 4 ∧ bits .and .i64 z 3 = (m : Int) := ⟨(z % 4).toNat, by omega, by rw [i64_and3]; omega⟩
theorem mod_of {z : Int} {m : Nat} (h : bits .and .i64 z 3 = (m : Int)) : (z % 4).toNat = m := by rw [i64_and3] at h; omega
def blN (m : Nat) : Nat := [32, 10, 9, 13].getD m 0
theorem bl_at : ∀ k : Fin 4, (⟨#[32, 10, 9, 13]⟩ : ByteArray)[k.val].toNat = blN k.val := by decide +kernel
theorem bl_blank : ∀ k : Fin 4, blq (UInt8.ofNat (blN k.val)).toNat = true := by decide +kernel
theorem blN_lt (m : Nat) : blN m < 256 := by
  unfold blN
  match m with
  | 0 => decide
  | 1 => decide
  | 2 => decide
  | 3 => decide
  | m + 4 => simp
theorem ofNat_toNat {n : Nat} (h : n < 256) : (UInt8.ofNat n).toNat = n := by simp; omega
theorem bc_snoc (l : List UInt8) (c : UInt8) : Lib.byteCells (l ++ [c]) = Lib.byteCells l ++ [.int .u8 (c.toNat : Int)] := by simp [Lib.byteCells]
/-- The blanks that integers name. -/
def blOf (L : List Int) : List (UInt8 × UInt8) := L.map fun z => (UInt8.ofNat (blN (z % 4).toNat), UInt8.ofNat (blN ((z / 4) % 4).toNat))
theorem blOf_ok (L : List Int) : BlP (blOf L) := fun p hp => by
  obtain ⟨z, _, rfl⟩ := List.mem_map.1 hp
  exact ⟨bl_blank ⟨(z % 4).toNat, by omega⟩, bl_blank ⟨((z / 4) % 4).toNat, by omega⟩⟩
theorem sgn_or {c : Nat} (h : sgn c = true) : c = 40 ∨ c = 41 ∨ c = 44 ∨ c = 91 ∨ c = 93 ∨ c = 63 ∨ c = 45 := by
  unfold sgn at h; simp at h; omega
theorem or_sgn {c : Nat} (h : c = 40 ∨ c = 41 ∨ c = 44 ∨ c = 91 ∨ c = 93 ∨ c = 63 ∨ c = 45) : sgn c = true := by
  rcases h with rfl | rfl | rfl | rfl | rfl | rfl | rfl <;> rfl
/-- How far one has come. -/
def StB (X : List UInt8) (L : List Int) (k : Nat) (Q : Bool) (n : Nat) (out : List UInt8) : Prop := (run (X.take k) ⟨false, true, blOf L, []⟩).q = Q ∧ (run (X.take k) ⟨false, true, blOf L, []⟩).bl = (blOf L).drop n ∧ (run (X.take k) ⟨false, true, blOf L, []⟩).out = out
theorem run_take {X : List UInt8} {k : Nat} (h : k < X.length) (st : Bs) : run (X.take (k + 1)) st = stp (run (X.take k) st) (X.getD k 0) := by
  rw [List.take_succ_eq_append_getElem h, run_app, run_cons, run_nil]
  simp [List.getD_eq_getElem?_getD, List.getElem?_eq_getElem h]
theorem stb_A {X : List UInt8} {L : List Int} {k n : Nat} {out : List UInt8} (hk : k < X.length) (h : StB X L k false n out) {z : Int} (hz : L[n]? = some z) (hs : sgn (X.getD k 0).toNat = true) : StB X L (k + 1) false (n + 1) (((out ++ [UInt8.ofNat (blN (z % 4).toNat)]) ++ [X.getD k 0]) ++ [UInt8.ofNat (blN ((z / 4) % 4).toNat)]) := by
  obtain ⟨h1, h2, h3⟩ := h
  unfold StB
  rw [run_take hk]
  have hn : n < L.length := (List.getElem?_eq_some_iff.1 hz).1
  have hzz : L[n] = z := by rw [List.getElem?_eq_getElem hn] at hz; simpa using hz
  have hd : (blOf L).drop n = (UInt8.ofNat (blN (z % 4).toNat), UInt8.ofNat (blN ((z / 4) % 4).toNat)) :: (blOf L).drop (n + 1) := by
    rw [List.drop_eq_getElem_cons (by unfold blOf; rw [List.length_map]; exact hn)]
    congr 1
    unfold blOf
    rw [List.getElem_map, hzz]
  rw [hd] at h2
  have h34 : (X.getD k 0).toNat ≠ 34 := by intro e; rw [e] at hs; exact absurd hs (by decide)
  refine ⟨?_, ?_, ?_⟩
  · rw [(stp_q).1, if_neg (fun h => h34 h.1)]; exact h1
  · show (putB _ _).1 = _
    unfold putB
    rw [h1, hs, h2]
    rfl
  · show (putB _ _).2 = _
    unfold putB
    rw [h1, hs, h2, h3]
    simp
theorem putB_one {st : Bs} {c : UInt8} (h : st.q = true ∨ st.bl = [] ∨ sgn c.toNat = false) : putB st c = (st.bl, st.out ++ [c]) := by
  unfold putB
  rcases h with h | h | h
  · rw [h]; rfl
  · rw [h]; simp
  · rw [h]; simp
theorem stb_B {X : List UInt8} {L : List Int} {k n : Nat} {out : List UInt8} {Q : Bool} (hk : k < X.length) (h : StB X L k Q n out) (hc : Q = true ∨ L.length ≤ n ∨ sgn (X.getD k 0).toNat = false) (h34 : (X.getD k 0).toNat ≠ 34) : StB X L (k + 1) Q n (out ++ [X.getD k 0]) := by
  obtain ⟨h1, h2, h3⟩ := h
  unfold StB
  rw [run_take hk]
  have hp := putB_one (st := run (X.take k) ⟨false, true, blOf L, []⟩) (c := X.getD k 0) (by
    rcases hc with hc | hc | hc
    · exact .inl (h1.trans hc)
    · exact .inr (.inl (by rw [h2]; exact List.drop_eq_nil_of_le (by unfold blOf; rw [List.length_map]; exact hc)))
    · exact .inr (.inr hc))
  refine ⟨?_, ?_, ?_⟩
  · rw [(stp_q).1, if_neg (fun h => h34 h.1)]; exact h1
  · show (putB _ _).1 = _
    rw [hp]; exact h2
  · show (putB _ _).2 = _
    rw [hp, h3]
theorem stb_C {X : List UInt8} {L : List Int} {k n : Nat} {out : List UInt8} {Q : Bool} (hk : k < X.length) (h : StB X L k Q n out) (h34 : (X.getD k 0).toNat = 34) : StB X L (k + 1) (if Q = false ∨ decide (tbs (X.take k) % 2 = 0) = true then !Q else Q) n (out ++ [X.getD k 0]) := by
  obtain ⟨h1, h2, h3⟩ := h
  have he := run_ev (X.take k) ⟨false, true, blOf L, []⟩ [] (by rfl)
  rw [List.nil_append] at he
  unfold StB
  rw [run_take hk]
  have hp := putB_one (st := run (X.take k) ⟨false, true, blOf L, []⟩) (c := X.getD k 0) (.inr (.inr (by rw [h34]; rfl)))
  refine ⟨?_, ?_, ?_⟩
  · rw [(stp_q).1, h1, he]
    by_cases hq : Q = false ∨ decide (tbs (X.take k) % 2 = 0) = true
    · rw [if_pos hq, if_pos ⟨h34, hq⟩]
    · rw [if_neg hq, if_neg (fun h => hq h.2)]
  · show (putB _ _).1 = _
    rw [hp]; exact h2
  · show (putB _ _).2 = _
    rw [hp, h3]
theorem tbs_zero {X : List UInt8} {k m : Nat} (hk : k ≤ X.length) (h : k = m + 1) (hc : (X.getD m 0).toNat ≠ 92) : decide (tbs (X.take k) % 2 = 0) = true := by
  subst h
  rw [List.take_succ_eq_append_getElem (by omega), tbs_snoc, if_neg]
  · rfl
  · intro e
    apply hc
    rw [List.getD_eq_getElem?_getD, List.getElem?_eq_getElem (by omega)]
    exact e
set_option maxRecDepth 100000 in
set_option maxHeartbeats 40000000 in
theorem termsBlanks_walk (t : Tm) (ta : Option Addr) (tc : Nat) (sa : Option Addr) (sc : Nat) (L : List Int) (pa : Option Addr) (pc : Nat) (w : World) (hka : TA w t ta tc sa sc) (hpa : IAt w w.heap.size pa L) (hpm : L.length ≤ maxLen) (_ : L.length ≤ pc) :
    Calls Tryd.prog 8 #[.agg #[.int .i64 t.kind, .string t.cons, .slice ta t.text.length tc, .slice sa t.kids.length sc], .slice pa L.length pc] w fun e w' => e = .returned (.bool true) ∧ Below w.heap.size w w' := by
  unfold maxLen at hpm
  obtain ⟨w2, hw2⟩ : ∃ w2, w.alloc (.cells #[.int .i64 t.kind, .string t.cons, .slice ta t.text.length tc, .slice sa t.kids.length sc] 25) = w2 := ⟨_, rfl⟩
  have T0 := To.first hka w2 hw2
  obtain ⟨e0, e1, e2, e3⟩ := T0.facts
  have HT0 : Hid _ := T0
  have HI0 : Hid (∀ W, Below w.heap.size w W → IAt W W.heap.size pa L) := fun W hb => hpa.nx hb
  clear hka T0 hpa
  have HALV : Hid (∀ W, Calls Tryd.prog 13 #[] W fun e w' => e = .returned (.bool true) ∧ Below W.heap.size W w') := fun W => alive_any W
  have HHA : Hid (∀ W, To w t ta tc sa sc W → Calls Tryd.prog 12 #[.agg #[.int .i64 t.kind, .string t.cons, .slice ta t.text.length tc, .slice sa t.kids.length sc]] W fun e w' => e = .returned (.bool (decide (1000 < wt t))) ∧ Below W.heap.size W w') := fun W h => heavy_t t ta tc sa sc W h.ka
  by_cases ha : 1000 < wt t
  · rw [decide_eq_true ha] at HHA
    clear ha
    go_enter Tryd.func8, Tryd.ntmps8
    go_wp2_with (go_at_call 12; refine (HHA.out _ HT0.out).mono ?_; rintro e w3 ⟨rfl, hb3⟩; have HT3 : Hid _ := HT0.out.nx hb3; clear hb3)
    refine (HALV.out _).mono ?_
    rintro e w4 ⟨rfl, hb4⟩
    have HT4 : Hid _ := HT3.out.nx hb4
    clear hb4
    go_wp2
    go_ret
    exact ⟨rfl, HT4.out.bel⟩
  rw [decide_eq_false ha] at HHA
  have hsz := sz_wt t
  have HP1 : Hid (∀ W, To w t ta tc sa sc W → Calls Tryd.prog 28 #[.agg #[.int .i64 t.kind, .string t.cons, .slice ta t.text.length tc, .slice sa t.kids.length sc]] W fun e w' => e = .returned (.tuple #[.string (prt t).1, .int .i64 (prt t).2]) ∧ Below W.heap.size W w') := fun W h => print_t t ta tc sa sc W h.ka (by omega)
  clear ha hsz
  rcases prt_cases t with ⟨ea, wa, da, la⟩ | ⟨ca, ea, hca⟩
  rotate_left
  · rw [ea] at HP1
    have hc1 : (ca != 0) = true := by simpa using hca
    clear ea
    go_enter Tryd.func8, Tryd.ntmps8
    go_wp2_with (go_at_call 12; refine (HHA.out _ HT0.out).mono ?_; rintro e w3 ⟨rfl, hb3⟩; have HT3 : Hid _ := HT0.out.nx hb3; clear hb3; clear e0 e1 e2 e3; obtain ⟨e0, e1, e2, e3⟩ := HT3.out.facts; refine hold_it ?_)
    unfold Held
    go_wp2_with (go_at_call 28; refine (HP1.out _ HT3.out).mono ?_; rintro e w4 ⟨rfl, hb4⟩; have HT4 : Hid _ := HT3.out.nx hb4; clear hb4; refine hold_it ?_)
    unfold Held
    go_wp2_with (go_at_call 13; refine (HALV.out _).mono ?_; rintro e w5 ⟨rfl, hb5⟩)
    go_ret
    exact ⟨rfl, (HT4.out.nx hb5).bel⟩
  rw [ea] at HP1
  have hbs := bstr_size (txt t)
  by_cases hl : 5000 < (txt t).length
  · have hlI : (5000 : Int) < ((bstr (txt t)).size : Int) := by rw [hbs]; omega
    generalize bstr (txt t) = X at *
    clear ea hl la hbs
    go_enter Tryd.func8, Tryd.ntmps8
    go_wp2_with (go_at_call 12; refine (HHA.out _ HT0.out).mono ?_; rintro e w3 ⟨rfl, hb3⟩; have HT3 : Hid _ := HT0.out.nx hb3; clear hb3; clear e0 e1 e2 e3; obtain ⟨e0, e1, e2, e3⟩ := HT3.out.facts; refine hold_it ?_)
    unfold Held
    go_wp2_with (go_at_call 28; refine (HP1.out _ HT3.out).mono ?_; rintro e w4 ⟨rfl, hb4⟩; have HT4 : Hid _ := HT3.out.nx hb4; clear hb4; refine hold_it ?_)
    unfold Held
    go_wp2_with (go_at_call 13; refine (HALV.out _).mono ?_; rintro e w5 ⟨rfl, hb5⟩)
    go_ret
    exact ⟨rfl, (HT4.out.nx hb5).bel⟩
  have hlI : ¬ (5000 : Int) < ((bstr (txt t)).size : Int) := by rw [hbs]; omega
  have hrl := run_len (txt t) ⟨false, true, blOf L, []⟩
  simp only [List.length_nil, Nat.zero_add] at hrl
  have HR1 : Hid (∀ W, Calls Tryd.prog 30 #[.string (bstr (run (txt t) ⟨false, true, blOf L, []⟩).out)] W fun e w' => (∃ ya yc yb yd, e = .returned (.tuple #[.agg #[.int .i64 t.kind, .string t.cons, .slice ya t.text.length yc, .slice yb t.kids.length yd], .agg #[.int .i64 0, .int .i64 0]]) ∧ TA w' t ya yc yb yd) ∧ Below W.heap.size W w') := fun W => par_ok (run_par wa da (blOf L) (blOf_ok L) (by omega)) (by rw [bstr_size]; unfold maxLen; omega) W
  have HSM : Hid (∀ W (ya : Option Addr) (yc : Nat) (yb : Option Addr) (yd : Nat), TA W t ya yc yb yd → To w t ta tc sa sc W → Calls Tryd.prog 21 #[.agg #[.int .i64 t.kind, .string t.cons, .slice ya t.text.length yc, .slice yb t.kids.length yd], .agg #[.int .i64 t.kind, .string t.cons, .slice ta t.text.length tc, .slice sa t.kids.length sc]] W fun e w' => e = .returned (.bool true) ∧ Below W.heap.size W w') := fun W ya yc yb yd h1 h2 => by
    have := refSame_t t t ya yc yb yd ta tc sa sc W h1 h2.ka
    rw [eqT_true rfl] at this
    exact this
  obtain ⟨X, hX⟩ : ∃ X, bstr (txt t) = X := ⟨_, rfl⟩
  have hXl : txt t = X.data.toList := by rw [← hX]; simp [bstr]
  rw [hX] at HP1 hlI hbs
  rw [hXl] at HR1 hrl hbs
  have hXs : X.size ≤ 5000 := by omega
  have HSA : Hid (∀ k n out, k < X.size → StB X.data.toList L k false n out → ∀ z, L[n]? = some z → (bt X k = 40 ∨ bt X k = 41 ∨ bt X k = 44 ∨ bt X k = 91 ∨ bt X k = 93 ∨ bt X k = 63 ∨ bt X k = 45) → StB X.data.toList L (k + 1) false (n + 1) (((out ++ [UInt8.ofNat (blN (z % 4).toNat)]) ++ [X.data.toList.getD k 0]) ++ [UInt8.ofNat (blN ((z / 4) % 4).toNat)])) := fun k n out hk h z hz hs => stb_A (by rw [list_len]; exact hk) h hz (by rw [← bt_list]; exact or_sgn hs)
  have HSB : Hid (∀ k n out Q, k < X.size → StB X.data.toList L k Q n out → (Q = true ∨ L.length ≤ n ∨ sgn (bt X k) = false) → bt X k ≠ 34 → StB X.data.toList L (k + 1) Q n (out ++ [X.data.toList.getD k 0])) := fun k n out Q hk h h1 h2 => stb_B (by rw [list_len]; exact hk) h (by rw [← bt_list]; exact h1) (by rw [← bt_list]; exact h2)
  have HSC : Hid (∀ k n out Q, k < X.size → StB X.data.toList L k Q n out → bt X k = 34 → StB X.data.toList L (k + 1) (if Q = false ∨ decide (tbs (X.data.toList.take k) % 2 = 0) = true then !Q else Q) n (out ++ [X.data.toList.getD k 0])) := fun k n out Q hk h h1 => stb_C (by rw [list_len]; exact hk) h (by rw [← bt_list]; exact h1)
  have HS0 : Hid (StB X.data.toList L 0 false 0 []) := ⟨rfl, rfl, rfl⟩
  have HQ0 : Hid (∀ n out, StB X.data.toList L 0 true n out → False) := fun n out h => by have := h.1; cases this
  have HOL : Hid (∀ k Q n out, StB X.data.toList L k Q n out → k ≤ X.size → out.length ≤ 15000) := fun k Q n out h hk => by
    have := run_len (X.data.toList.take k) ⟨false, true, blOf L, []⟩
    rw [h.2.2, List.length_take, list_len] at this
    simp only [List.length_nil, Nat.zero_add] at this
    omega
  have HFI : Hid (∀ Q n out, StB X.data.toList L X.size Q n out → bstr out = bstr (run X.data.toList ⟨false, true, blOf L, []⟩).out) := fun Q n out h => by
    rw [← h.2.2, List.take_of_length_le (by rw [list_len]; exact Nat.le_refl _)]
  generalize hStB : StB X.data.toList L = St at HSA HSB HSC HS0 HQ0 HOL HFI
  generalize bstr (run X.data.toList ⟨false, true, blOf L, []⟩).out = Z at HR1 HFI
  clear hStB hX hXl hrl hbs ea wa da la hl
  obtain ⟨i0, hinf, hz0, hz1, hz2⟩ := info_parts info5
  go_enter Tryd.func8, Tryd.ntmps8
  go_wp2_with (go_at_call 12; refine (HHA.out _ HT0.out).mono ?_; rintro e w3 ⟨rfl, hb3⟩; have HT3 : Hid _ := HT0.out.nx hb3; clear hb3; clear e0 e1 e2 e3; obtain ⟨e0, e1, e2, e3⟩ := HT3.out.facts; refine hold_it ?_)
  unfold Held
  go_wp2_with (go_at_call 28; refine (HP1.out _ HT3.out).mono ?_; rintro e u ⟨rfl, hb4⟩; have HTu : Hid _ := HT3.out.nx hb4; clear hb4 e0 e1 e2 e3; refine hold_it ?_)
  unfold Held
  have HIA : Hid (∀ W, Below u.heap.size u W → IAt W W.heap.size pa L) := fun W hb => HI0.out W (below_of HTu.out.bel hb)
  clear HI0 HT0 HT3 HP1 HHA hw2
  go_wp2
  go_loopw [7, 8, 9, 10] (fun v qv nv iv W => ∃ (k n : Nat) (out : List UInt8) (Q : Bool), k ≤ X.size ∧ iv = .int .i64 k ∧ nv = .int .i64 n ∧ n ≤ L.length ∧ qv = .bool Q ∧ St k Q n out ∧ W.ownsRow u.heap.size 5 1 v out.length (Lib.byteCells out) ∧ Below u.heap.size u W) (fun _ _ _ iv _ => X.size - (intOf iv).toNat)
  case atStart => exact ⟨0, 0, [], false, by omega, rfl, rfl, by omega, rfl, HS0.out, World.ownsRow_nil _ _ _ _, Below.refl _ _⟩
  case round =>
    obtain ⟨k, n, out, Q, hkl, rfl, rfl, hnL, rfl, hSt, hrow, hB⟩ := hrel
    have hout := HOL.out k Q n out hSt hkl
    by_cases hk : k < X.size
    · have hkI : (k : Int) < (X.size : Int) := by omega
      have hbk := bt_eq X k hk
      have hbl := bt_lt X k
      obtain ⟨c8, hc8⟩ : ∃ c8, c8 = X.data.toList.getD k 0 := ⟨_, rfl⟩
      have hcb' : c8.toNat = bt X k := by rw [hc8, bt_list]
      obtain ⟨c, hcb⟩ : ∃ c, bt X k = c := ⟨_, rfl⟩
      rw [hcb] at hbk hcb' hbl
      have HC8 : Hid _ := hcb'
      clear hcb' HOL HS0
      cases Q with
      | false =>
        by_cases hs : sgn c = true
        · have hsg := sgn_or hs
          clear hs
          by_cases hnl : n < L.length
          · have hnI : (n : Int) < (L.length : Int) := by omega
            obtain ⟨z, hz⟩ : ∃ z, L[n]? = some z := ⟨L[n], by simp [hnl]⟩
            obtain ⟨pb, po, hpa, hpl, hpc⟩ := (HIA.out _ hB) n z hz
            have HIC : Hid (∀ W, Below u.heap.size u W → W.cell? ⟨pb, po + n, none⟩ = some (.int .i64 z)) := fun W hW => by
              obtain ⟨b', o', e', _, hc'⟩ := (HIA.out W hW) n z hz
              rw [hpa] at e'
              cases e'
              exact hc'
            have HST : Hid _ := HSA.out k n out hk hSt z hz
            obtain ⟨m1, l1, hm1⟩ := and3 z
            obtain ⟨m2, l2, hm2⟩ := and3 (z / 4)
            have q1 : (m1 : Int) < 4 := by omega
            have q2 : (m2 : Int) < 4 := by omega
            have hb1 := bl_at ⟨m1, l1⟩
            have hb2 := bl_at ⟨m2, l2⟩
            simp only at hb1 hb2
            have hbl1 := blN_lt m1
            have hbl2 := blN_lt m2
            replace HST : Hid (c = 40 ∨ c = 41 ∨ c = 44 ∨ c = 91 ∨ c = 93 ∨ c = 63 ∨ c = 45 → St (k + 1) false (n + 1) (((out ++ [UInt8.ofNat (blN m1)]) ++ [c8]) ++ [UInt8.ofNat (blN m2)])) := fun h => by
              have := HST.out (by rw [← hcb] at h; exact h)
              rw [mod_of hm1, mod_of hm2, ← hc8] at this
              exact this
            generalize blN m1 = y1 at *
            generalize blN m2 = y2 at *
            subst hpa
            clear hz hSt HSA HSB HSC hcb
            rcases hsg with rfl | rfl | rfl | rfl | rfl | rfl | rfl
            · have HS2 : Hid _ := HST.out (by simp)
              clear HST
              go_wp2_with (at_builtin; refine wpList_append_own _ rfl _ _ 22 rfl u.heap.size 5 i0 (.int .u8 0) 1 1 Tryd.underlying22 hinf hz0 hz1 hz2 rfl (by decide) _ _ _ rfl (hrow.alloc _) ⟨wr.heap.size, 0, none⟩ 1 1 [.int .u8 ((y1 : Nat) : Int)] rfl rfl ?a1 ?b1 ?c1 ?d1 ?e1 ?_)
              try case a1 => exact cells_new _ _ _
              case b1 => first | rfl | (intro u hu; simp at hu; subst hu; rfl) | simp
              case c1 => unfold maxLen; omega
              case d1 => omega
              case e1 => have := hB.size; first | omega | (simp; omega)
              intro v1 x1 hr1 hg1 _
              have hB1 := (hB.alloc hB.size (.cells #[.int .u8 ((y1 : Nat) : Int)] 5)).grown hg1 (by have := hB.size; simp; omega) (fun j hj => by have := (hrow.lt j hj).1; omega)
              obtain ⟨g1, cap1, rfl⟩ := ownsRow_succ hr1
              clear hg1
              go_wp2_with (at_builtin; refine wpList_append_own _ rfl _ _ 22 rfl u.heap.size 5 i0 (.int .u8 0) 1 1 Tryd.underlying22 hinf hz0 hz1 hz2 rfl (by decide) _ _ _ rfl (hr1.alloc _) ⟨x1.heap.size, 0, none⟩ 1 1 [.int .u8 40] rfl rfl ?a2 ?b2 ?c2 ?d2 ?e2 ?_)
              try case a2 => exact cells_new _ _ _
              case b2 => first | rfl | (intro u hu; simp at hu; subst hu; rfl) | simp
              case c2 => unfold maxLen; omega
              case d2 => omega
              case e2 => have := hB1.size; first | omega | (simp; omega)
              intro v2 x2 hr2 hg2 _
              have hB2 := (hB1.alloc hB1.size (.cells #[.int .u8 40] 5)).grown hg2 (by have := hB1.size; simp; omega) (fun j hj => by have := (hr1.lt j hj).1; omega)
              obtain ⟨g2, cap2, rfl⟩ := ownsRow_succ hr2
              clear hg2
              have hc2 := HIC.out _ hB2
              go_wp2_with (at_builtin; refine wpList_append_own _ rfl _ _ 22 rfl u.heap.size 5 i0 (.int .u8 0) 1 1 Tryd.underlying22 hinf hz0 hz1 hz2 rfl (by decide) _ _ _ rfl (hr2.alloc _) ⟨x2.heap.size, 0, none⟩ 1 1 [.int .u8 ((y2 : Nat) : Int)] rfl rfl ?a3 ?b3 ?c3 ?d3 ?e3 ?_)
              try case a3 => exact cells_new _ _ _
              case b3 => first | rfl | (intro u hu; simp at hu; subst hu; rfl) | simp
              case c3 => unfold maxLen; omega
              case d3 => omega
              case e3 => have := hB2.size; first | omega | (simp; omega)
              intro v3 x3 hr3 hg3 _
              have hB3 := (hB2.alloc hB2.size (.cells #[.int .u8 ((y2 : Nat) : Int)] 5)).grown hg3 (by have := hB2.size; simp; omega) (fun j hj => by have := (hr2.lt j hj).1; omega)
              obtain ⟨g3, cap3, rfl⟩ := ownsRow_succ hr3
              clear hg3
              go_wp2
              go_roundw
              case rel => exact ⟨k + 1, n + 1, ((out ++ [UInt8.ofNat y1]) ++ [c8]) ++ [UInt8.ofNat y2], false, by omega, by go_num, by go_num, by omega, rfl, HS2.out, by rw [bc_snoc, bc_snoc, bc_snoc, HC8.out, ofNat_toNat hbl1, ofNat_toNat hbl2, List.length_append, List.length_append, List.length_append, List.append_assoc, List.append_assoc]; exact hr3, hB3⟩
              case measure => simp [intOf]; omega
            · have HS2 : Hid _ := HST.out (by simp)
              clear HST
              go_wp2_with (at_builtin; refine wpList_append_own _ rfl _ _ 22 rfl u.heap.size 5 i0 (.int .u8 0) 1 1 Tryd.underlying22 hinf hz0 hz1 hz2 rfl (by decide) _ _ _ rfl (hrow.alloc _) ⟨wr.heap.size, 0, none⟩ 1 1 [.int .u8 ((y1 : Nat) : Int)] rfl rfl ?a4 ?b4 ?c4 ?d4 ?e4 ?_)
              try case a4 => exact cells_new _ _ _
              case b4 => first | rfl | (intro u hu; simp at hu; subst hu; rfl) | simp
              case c4 => unfold maxLen; omega
              case d4 => omega
              case e4 => have := hB.size; first | omega | (simp; omega)
              intro v4 x4 hr4 hg4 _
              have hB4 := (hB.alloc hB.size (.cells #[.int .u8 ((y1 : Nat) : Int)] 5)).grown hg4 (by have := hB.size; simp; omega) (fun j hj => by have := (hrow.lt j hj).1; omega)
              obtain ⟨g4, cap4, rfl⟩ := ownsRow_succ hr4
              clear hg4
              go_wp2_with (at_builtin; refine wpList_append_own _ rfl _ _ 22 rfl u.heap.size 5 i0 (.int .u8 0) 1 1 Tryd.underlying22 hinf hz0 hz1 hz2 rfl (by decide) _ _ _ rfl (hr4.alloc _) ⟨x4.heap.size, 0, none⟩ 1 1 [.int .u8 41] rfl rfl ?a5 ?b5 ?c5 ?d5 ?e5 ?_)
              try case a5 => exact cells_new _ _ _
              case b5 => first | rfl | (intro u hu; simp at hu; subst hu; rfl) | simp
              case c5 => unfold maxLen; omega
              case d5 => omega
              case e5 => have := hB4.size; first | omega | (simp; omega)
              intro v5 x5 hr5 hg5 _
              have hB5 := (hB4.alloc hB4.size (.cells #[.int .u8 41] 5)).grown hg5 (by have := hB4.size; simp; omega) (fun j hj => by have := (hr4.lt j hj).1; omega)
              obtain ⟨g5, cap5, rfl⟩ := ownsRow_succ hr5
              clear hg5
              have hc2 := HIC.out _ hB5
              go_wp2_with (at_builtin; refine wpList_append_own _ rfl _ _ 22 rfl u.heap.size 5 i0 (.int .u8 0) 1 1 Tryd.underlying22 hinf hz0 hz1 hz2 rfl (by decide) _ _ _ rfl (hr5.alloc _) ⟨x5.heap.size, 0, none⟩ 1 1 [.int .u8 ((y2 : Nat) : Int)] rfl rfl ?a6 ?b6 ?c6 ?d6 ?e6 ?_)
              try case a6 => exact cells_new _ _ _
              case b6 => first | rfl | (intro u hu; simp at hu; subst hu; rfl) | simp
              case c6 => unfold maxLen; omega
              case d6 => omega
              case e6 => have := hB5.size; first | omega | (simp; omega)
              intro v6 x6 hr6 hg6 _
              have hB6 := (hB5.alloc hB5.size (.cells #[.int .u8 ((y2 : Nat) : Int)] 5)).grown hg6 (by have := hB5.size; simp; omega) (fun j hj => by have := (hr5.lt j hj).1; omega)
              obtain ⟨g6, cap6, rfl⟩ := ownsRow_succ hr6
              clear hg6
              go_wp2
              go_roundw
              case rel => exact ⟨k + 1, n + 1, ((out ++ [UInt8.ofNat y1]) ++ [c8]) ++ [UInt8.ofNat y2], false, by omega, by go_num, by go_num, by omega, rfl, HS2.out, by rw [bc_snoc, bc_snoc, bc_snoc, HC8.out, ofNat_toNat hbl1, ofNat_toNat hbl2, List.length_append, List.length_append, List.length_append, List.append_assoc, List.append_assoc]; exact hr6, hB6⟩
              case measure => simp [intOf]; omega
            · have HS2 : Hid _ := HST.out (by simp)
              clear HST
              go_wp2_with (at_builtin; refine wpList_append_own _ rfl _ _ 22 rfl u.heap.size 5 i0 (.int .u8 0) 1 1 Tryd.underlying22 hinf hz0 hz1 hz2 rfl (by decide) _ _ _ rfl (hrow.alloc _) ⟨wr.heap.size, 0, none⟩ 1 1 [.int .u8 ((y1 : Nat) : Int)] rfl rfl ?a7 ?b7 ?c7 ?d7 ?e7 ?_)
              try case a7 => exact cells_new _ _ _
              case b7 => first | rfl | (intro u hu; simp at hu; subst hu; rfl) | simp
              case c7 => unfold maxLen; omega
              case d7 => omega
              case e7 => have := hB.size; first | omega | (simp; omega)
              intro v7 x7 hr7 hg7 _
              have hB7 := (hB.alloc hB.size (.cells #[.int .u8 ((y1 : Nat) : Int)] 5)).grown hg7 (by have := hB.size; simp; omega) (fun j hj => by have := (hrow.lt j hj).1; omega)
              obtain ⟨g7, cap7, rfl⟩ := ownsRow_succ hr7
              clear hg7
              go_wp2_with (at_builtin; refine wpList_append_own _ rfl _ _ 22 rfl u.heap.size 5 i0 (.int .u8 0) 1 1 Tryd.underlying22 hinf hz0 hz1 hz2 rfl (by decide) _ _ _ rfl (hr7.alloc _) ⟨x7.heap.size, 0, none⟩ 1 1 [.int .u8 44] rfl rfl ?a8 ?b8 ?c8 ?d8 ?e8 ?_)
              try case a8 => exact cells_new _ _ _
              case b8 => first | rfl | (intro u hu; simp at hu; subst hu; rfl) | simp
              case c8 => unfold maxLen; omega
              case d8 => omega
              case e8 => have := hB7.size; first | omega | (simp; omega)
              intro v8 x8 hr8 hg8 _
              have hB8 := (hB7.alloc hB7.size (.cells #[.int .u8 44] 5)).grown hg8 (by have := hB7.size; simp; omega) (fun j hj => by have := (hr7.lt j hj).1; omega)
              obtain ⟨g8, cap8, rfl⟩ := ownsRow_succ hr8
              clear hg8
              have hc2 := HIC.out _ hB8
              go_wp2_with (at_builtin; refine wpList_append_own _ rfl _ _ 22 rfl u.heap.size 5 i0 (.int .u8 0) 1 1 Tryd.underlying22 hinf hz0 hz1 hz2 rfl (by decide) _ _ _ rfl (hr8.alloc _) ⟨x8.heap.size, 0, none⟩ 1 1 [.int .u8 ((y2 : Nat) : Int)] rfl rfl ?a9 ?b9 ?c9 ?d9 ?e9 ?_)
              try case a9 => exact cells_new _ _ _
              case b9 => first | rfl | (intro u hu; simp at hu; subst hu; rfl) | simp
              case c9 => unfold maxLen; omega
              case d9 => omega
              case e9 => have := hB8.size; first | omega | (simp; omega)
              intro v9 x9 hr9 hg9 _
              have hB9 := (hB8.alloc hB8.size (.cells #[.int .u8 ((y2 : Nat) : Int)] 5)).grown hg9 (by have := hB8.size; simp; omega) (fun j hj => by have := (hr8.lt j hj).1; omega)
              obtain ⟨g9, cap9, rfl⟩ := ownsRow_succ hr9
              clear hg9
              go_wp2
              go_roundw
              case rel => exact ⟨k + 1, n + 1, ((out ++ [UInt8.ofNat y1]) ++ [c8]) ++ [UInt8.ofNat y2], false, by omega, by go_num, by go_num, by omega, rfl, HS2.out, by rw [bc_snoc, bc_snoc, bc_snoc, HC8.out, ofNat_toNat hbl1, ofNat_toNat hbl2, List.length_append, List.length_append, List.length_append, List.append_assoc, List.append_assoc]; exact hr9, hB9⟩
              case measure => simp [intOf]; omega
            · have HS2 : Hid _ := HST.out (by simp)
              clear HST
              go_wp2_with (at_builtin; refine wpList_append_own _ rfl _ _ 22 rfl u.heap.size 5 i0 (.int .u8 0) 1 1 Tryd.underlying22 hinf hz0 hz1 hz2 rfl (by decide) _ _ _ rfl (hrow.alloc _) ⟨wr.heap.size, 0, none⟩ 1 1 [.int .u8 ((y1 : Nat) : Int)] rfl rfl ?a10 ?b10 ?c10 ?d10 ?e10 ?_)
              try case a10 => exact cells_new _ _ _
              case b10 => first | rfl | (intro u hu; simp at hu; subst hu; rfl) | simp
              case c10 => unfold maxLen; omega
              case d10 => omega
              case e10 => have := hB.size; first | omega | (simp; omega)
              intro v10 x10 hr10 hg10 _
              have hB10 := (hB.alloc hB.size (.cells #[.int .u8 ((y1 : Nat) : Int)] 5)).grown hg10 (by have := hB.size; simp; omega) (fun j hj => by have := (hrow.lt j hj).1; omega)
              obtain ⟨g10, cap10, rfl⟩ := ownsRow_succ hr10
              clear hg10
              go_wp2_with (at_builtin; refine wpList_append_own _ rfl _ _ 22 rfl u.heap.size 5 i0 (.int .u8 0) 1 1 Tryd.underlying22 hinf hz0 hz1 hz2 rfl (by decide) _ _ _ rfl (hr10.alloc _) ⟨x10.heap.size, 0, none⟩ 1 1 [.int .u8 91] rfl rfl ?a11 ?b11 ?c11 ?d11 ?e11 ?_)
              try case a11 => exact cells_new _ _ _
              case b11 => first | rfl | (intro u hu; simp at hu; subst hu; rfl) | simp
              case c11 => unfold maxLen; omega
              case d11 => omega
              case e11 => have := hB10.size; first | omega | (simp; omega)
              intro v11 x11 hr11 hg11 _
              have hB11 := (hB10.alloc hB10.size (.cells #[.int .u8 91] 5)).grown hg11 (by have := hB10.size; simp; omega) (fun j hj => by have := (hr10.lt j hj).1; omega)
              obtain ⟨g11, cap11, rfl⟩ := ownsRow_succ hr11
              clear hg11
              have hc2 := HIC.out _ hB11
              go_wp2_with (at_builtin; refine wpList_append_own _ rfl _ _ 22 rfl u.heap.size 5 i0 (.int .u8 0) 1 1 Tryd.underlying22 hinf hz0 hz1 hz2 rfl (by decide) _ _ _ rfl (hr11.alloc _) ⟨x11.heap.size, 0, none⟩ 1 1 [.int .u8 ((y2 : Nat) : Int)] rfl rfl ?a12 ?b12 ?c12 ?d12 ?e12 ?_)
              try case a12 => exact cells_new _ _ _
              case b12 => first | rfl | (intro u hu; simp at hu; subst hu; rfl) | simp
              case c12 => unfold maxLen; omega
              case d12 => omega
              case e12 => have := hB11.size; first | omega | (simp; omega)
              intro v12 x12 hr12 hg12 _
              have hB12 := (hB11.alloc hB11.size (.cells #[.int .u8 ((y2 : Nat) : Int)] 5)).grown hg12 (by have := hB11.size; simp; omega) (fun j hj => by have := (hr11.lt j hj).1; omega)
              obtain ⟨g12, cap12, rfl⟩ := ownsRow_succ hr12
              clear hg12
              go_wp2
              go_roundw
              case rel => exact ⟨k + 1, n + 1, ((out ++ [UInt8.ofNat y1]) ++ [c8]) ++ [UInt8.ofNat y2], false, by omega, by go_num, by go_num, by omega, rfl, HS2.out, by rw [bc_snoc, bc_snoc, bc_snoc, HC8.out, ofNat_toNat hbl1, ofNat_toNat hbl2, List.length_append, List.length_append, List.length_append, List.append_assoc, List.append_assoc]; exact hr12, hB12⟩
              case measure => simp [intOf]; omega
            · have HS2 : Hid _ := HST.out (by simp)
              clear HST
              go_wp2_with (at_builtin; refine wpList_append_own _ rfl _ _ 22 rfl u.heap.size 5 i0 (.int .u8 0) 1 1 Tryd.underlying22 hinf hz0 hz1 hz2 rfl (by decide) _ _ _ rfl (hrow.alloc _) ⟨wr.heap.size, 0, none⟩ 1 1 [.int .u8 ((y1 : Nat) : Int)] rfl rfl ?a13 ?b13 ?c13 ?d13 ?e13 ?_)
              try case a13 => exact cells_new _ _ _
              case b13 => first | rfl | (intro u hu; simp at hu; subst hu; rfl) | simp
              case c13 => unfold maxLen; omega
              case d13 => omega
              case e13 => have := hB.size; first | omega | (simp; omega)
              intro v13 x13 hr13 hg13 _
              have hB13 := (hB.alloc hB.size (.cells #[.int .u8 ((y1 : Nat) : Int)] 5)).grown hg13 (by have := hB.size; simp; omega) (fun j hj => by have := (hrow.lt j hj).1; omega)
              obtain ⟨g13, cap13, rfl⟩ := ownsRow_succ hr13
              clear hg13
              go_wp2_with (at_builtin; refine wpList_append_own _ rfl _ _ 22 rfl u.heap.size 5 i0 (.int .u8 0) 1 1 Tryd.underlying22 hinf hz0 hz1 hz2 rfl (by decide) _ _ _ rfl (hr13.alloc _) ⟨x13.heap.size, 0, none⟩ 1 1 [.int .u8 93] rfl rfl ?a14 ?b14 ?c14 ?d14 ?e14 ?_)
              try case a14 => exact cells_new _ _ _
              case b14 => first | rfl | (intro u hu; simp at hu; subst hu; rfl) | simp
              case c14 => unfold maxLen; omega
              case d14 => omega
              case e14 => have := hB13.size; first | omega | (simp; omega)
              intro v14 x14 hr14 hg14 _
              have hB14 := (hB13.alloc hB13.size (.cells #[.int .u8 93] 5)).grown hg14 (by have := hB13.size; simp; omega) (fun j hj => by have := (hr13.lt j hj).1; omega)
              obtain ⟨g14, cap14, rfl⟩ := ownsRow_succ hr14
              clear hg14
              have hc2 := HIC.out _ hB14
              go_wp2_with (at_builtin; refine wpList_append_own _ rfl _ _ 22 rfl u.heap.size 5 i0 (.int .u8 0) 1 1 Tryd.underlying22 hinf hz0 hz1 hz2 rfl (by decide) _ _ _ rfl (hr14.alloc _) ⟨x14.heap.size, 0, none⟩ 1 1 [.int .u8 ((y2 : Nat) : Int)] rfl rfl ?a15 ?b15 ?c15 ?d15 ?e15 ?_)
              try case a15 => exact cells_new _ _ _
              case b15 => first | rfl | (intro u hu; simp at hu; subst hu; rfl) | simp
              case c15 => unfold maxLen; omega
              case d15 => omega
              case e15 => have := hB14.size; first | omega | (simp; omega)
              intro v15 x15 hr15 hg15 _
              have hB15 := (hB14.alloc hB14.size (.cells #[.int .u8 ((y2 : Nat) : Int)] 5)).grown hg15 (by have := hB14.size; simp; omega) (fun j hj => by have := (hr14.lt j hj).1; omega)
              obtain ⟨g15, cap15, rfl⟩ := ownsRow_succ hr15
              clear hg15
              go_wp2
              go_roundw
              case rel => exact ⟨k + 1, n + 1, ((out ++ [UInt8.ofNat y1]) ++ [c8]) ++ [UInt8.ofNat y2], false, by omega, by go_num, by go_num, by omega, rfl, HS2.out, by rw [bc_snoc, bc_snoc, bc_snoc, HC8.out, ofNat_toNat hbl1, ofNat_toNat hbl2, List.length_append, List.length_append, List.length_append, List.append_assoc, List.append_assoc]; exact hr15, hB15⟩
              case measure => simp [intOf]; omega
            · have HS2 : Hid _ := HST.out (by simp)
              clear HST
              go_wp2_with (at_builtin; refine wpList_append_own _ rfl _ _ 22 rfl u.heap.size 5 i0 (.int .u8 0) 1 1 Tryd.underlying22 hinf hz0 hz1 hz2 rfl (by decide) _ _ _ rfl (hrow.alloc _) ⟨wr.heap.size, 0, none⟩ 1 1 [.int .u8 ((y1 : Nat) : Int)] rfl rfl ?a16 ?b16 ?c16 ?d16 ?e16 ?_)
              try case a16 => exact cells_new _ _ _
              case b16 => first | rfl | (intro u hu; simp at hu; subst hu; rfl) | simp
              case c16 => unfold maxLen; omega
              case d16 => omega
              case e16 => have := hB.size; first | omega | (simp; omega)
              intro v16 x16 hr16 hg16 _
              have hB16 := (hB.alloc hB.size (.cells #[.int .u8 ((y1 : Nat) : Int)] 5)).grown hg16 (by have := hB.size; simp; omega) (fun j hj => by have := (hrow.lt j hj).1; omega)
              obtain ⟨g16, cap16, rfl⟩ := ownsRow_succ hr16
              clear hg16
              go_wp2_with (at_builtin; refine wpList_append_own _ rfl _ _ 22 rfl u.heap.size 5 i0 (.int .u8 0) 1 1 Tryd.underlying22 hinf hz0 hz1 hz2 rfl (by decide) _ _ _ rfl (hr16.alloc _) ⟨x16.heap.size, 0, none⟩ 1 1 [.int .u8 63] rfl rfl ?a17 ?b17 ?c17 ?d17 ?e17 ?_)
              try case a17 => exact cells_new _ _ _
              case b17 => first | rfl | (intro u hu; simp at hu; subst hu; rfl) | simp
              case c17 => unfold maxLen; omega
              case d17 => omega
              case e17 => have := hB16.size; first | omega | (simp; omega)
              intro v17 x17 hr17 hg17 _
              have hB17 := (hB16.alloc hB16.size (.cells #[.int .u8 63] 5)).grown hg17 (by have := hB16.size; simp; omega) (fun j hj => by have := (hr16.lt j hj).1; omega)
              obtain ⟨g17, cap17, rfl⟩ := ownsRow_succ hr17
              clear hg17
              have hc2 := HIC.out _ hB17
              go_wp2_with (at_builtin; refine wpList_append_own _ rfl _ _ 22 rfl u.heap.size 5 i0 (.int .u8 0) 1 1 Tryd.underlying22 hinf hz0 hz1 hz2 rfl (by decide) _ _ _ rfl (hr17.alloc _) ⟨x17.heap.size, 0, none⟩ 1 1 [.int .u8 ((y2 : Nat) : Int)] rfl rfl ?a18 ?b18 ?c18 ?d18 ?e18 ?_)
              try case a18 => exact cells_new _ _ _
              case b18 => first | rfl | (intro u hu; simp at hu; subst hu; rfl) | simp
              case c18 => unfold maxLen; omega
              case d18 => omega
              case e18 => have := hB17.size; first | omega | (simp; omega)
              intro v18 x18 hr18 hg18 _
              have hB18 := (hB17.alloc hB17.size (.cells #[.int .u8 ((y2 : Nat) : Int)] 5)).grown hg18 (by have := hB17.size; simp; omega) (fun j hj => by have := (hr17.lt j hj).1; omega)
              obtain ⟨g18, cap18, rfl⟩ := ownsRow_succ hr18
              clear hg18
              go_wp2
              go_roundw
              case rel => exact ⟨k + 1, n + 1, ((out ++ [UInt8.ofNat y1]) ++ [c8]) ++ [UInt8.ofNat y2], false, by omega, by go_num, by go_num, by omega, rfl, HS2.out, by rw [bc_snoc, bc_snoc, bc_snoc, HC8.out, ofNat_toNat hbl1, ofNat_toNat hbl2, List.length_append, List.length_append, List.length_append, List.append_assoc, List.append_assoc]; exact hr18, hB18⟩
              case measure => simp [intOf]; omega
            · have HS2 : Hid _ := HST.out (by simp)
              clear HST
              go_wp2_with (at_builtin; refine wpList_append_own _ rfl _ _ 22 rfl u.heap.size 5 i0 (.int .u8 0) 1 1 Tryd.underlying22 hinf hz0 hz1 hz2 rfl (by decide) _ _ _ rfl (hrow.alloc _) ⟨wr.heap.size, 0, none⟩ 1 1 [.int .u8 ((y1 : Nat) : Int)] rfl rfl ?a19 ?b19 ?c19 ?d19 ?e19 ?_)
              try case a19 => exact cells_new _ _ _
              case b19 => first | rfl | (intro u hu; simp at hu; subst hu; rfl) | simp
              case c19 => unfold maxLen; omega
              case d19 => omega
              case e19 => have := hB.size; first | omega | (simp; omega)
              intro v19 x19 hr19 hg19 _
              have hB19 := (hB.alloc hB.size (.cells #[.int .u8 ((y1 : Nat) : Int)] 5)).grown hg19 (by have := hB.size; simp; omega) (fun j hj => by have := (hrow.lt j hj).1; omega)
              obtain ⟨g19, cap19, rfl⟩ := ownsRow_succ hr19
              clear hg19
              go_wp2_with (at_builtin; refine wpList_append_own _ rfl _ _ 22 rfl u.heap.size 5 i0 (.int .u8 0) 1 1 Tryd.underlying22 hinf hz0 hz1 hz2 rfl (by decide) _ _ _ rfl (hr19.alloc _) ⟨x19.heap.size, 0, none⟩ 1 1 [.int .u8 45] rfl rfl ?a20 ?b20 ?c20 ?d20 ?e20 ?_)
              try case a20 => exact cells_new _ _ _
              case b20 => first | rfl | (intro u hu; simp at hu; subst hu; rfl) | simp
              case c20 => unfold maxLen; omega
              case d20 => omega
              case e20 => have := hB19.size; first | omega | (simp; omega)
              intro v20 x20 hr20 hg20 _
              have hB20 := (hB19.alloc hB19.size (.cells #[.int .u8 45] 5)).grown hg20 (by have := hB19.size; simp; omega) (fun j hj => by have := (hr19.lt j hj).1; omega)
              obtain ⟨g20, cap20, rfl⟩ := ownsRow_succ hr20
              clear hg20
              have hc2 := HIC.out _ hB20
              go_wp2_with (at_builtin; refine wpList_append_own _ rfl _ _ 22 rfl u.heap.size 5 i0 (.int .u8 0) 1 1 Tryd.underlying22 hinf hz0 hz1 hz2 rfl (by decide) _ _ _ rfl (hr20.alloc _) ⟨x20.heap.size, 0, none⟩ 1 1 [.int .u8 ((y2 : Nat) : Int)] rfl rfl ?a21 ?b21 ?c21 ?d21 ?e21 ?_)
              try case a21 => exact cells_new _ _ _
              case b21 => first | rfl | (intro u hu; simp at hu; subst hu; rfl) | simp
              case c21 => unfold maxLen; omega
              case d21 => omega
              case e21 => have := hB20.size; first | omega | (simp; omega)
              intro v21 x21 hr21 hg21 _
              have hB21 := (hB20.alloc hB20.size (.cells #[.int .u8 ((y2 : Nat) : Int)] 5)).grown hg21 (by have := hB20.size; simp; omega) (fun j hj => by have := (hr20.lt j hj).1; omega)
              obtain ⟨g21, cap21, rfl⟩ := ownsRow_succ hr21
              clear hg21
              go_wp2
              go_roundw
              case rel => exact ⟨k + 1, n + 1, ((out ++ [UInt8.ofNat y1]) ++ [c8]) ++ [UInt8.ofNat y2], false, by omega, by go_num, by go_num, by omega, rfl, HS2.out, by rw [bc_snoc, bc_snoc, bc_snoc, HC8.out, ofNat_toNat hbl1, ofNat_toNat hbl2, List.length_append, List.length_append, List.length_append, List.append_assoc, List.append_assoc]; exact hr21, hB21⟩
              case measure => simp [intOf]; omega
          · have hnI : ¬ (n : Int) < (L.length : Int) := by omega
            have HST : Hid (c ≠ 34 → St (k + 1) false n (out ++ [c8])) := fun h => by
              have := HSB.out k n out false hk hSt (.inr (.inl (by omega))) (by rw [hcb]; exact h)
              rw [← hc8] at this
              exact this
            clear hSt HSA HSB HSC hcb
            rcases hsg with rfl | rfl | rfl | rfl | rfl | rfl | rfl
            · have HS2 : Hid _ := HST.out (by omega)
              clear HST
              go_wp2_with (at_builtin; refine wpList_append_own _ rfl _ _ 22 rfl u.heap.size 5 i0 (.int .u8 0) 1 1 Tryd.underlying22 hinf hz0 hz1 hz2 rfl (by decide) _ _ _ rfl (hrow.alloc _) ⟨wr.heap.size, 0, none⟩ 1 1 [.int .u8 40] rfl rfl ?a22 ?b22 ?c22 ?d22 ?e22 ?_)
              try case a22 => exact cells_new _ _ _
              case b22 => first | rfl | (intro u hu; simp at hu; subst hu; rfl) | simp
              case c22 => unfold maxLen; omega
              case d22 => omega
              case e22 => have := hB.size; first | omega | (simp; omega)
              intro v22 x22 hr22 hg22 _
              have hB22 := (hB.alloc hB.size (.cells #[.int .u8 40] 5)).grown hg22 (by have := hB.size; simp; omega) (fun j hj => by have := (hrow.lt j hj).1; omega)
              obtain ⟨g22, cap22, rfl⟩ := ownsRow_succ hr22
              clear hg22
              go_wp2
              go_roundw
              case rel => exact ⟨k + 1, n, out ++ [c8], false, by omega, by go_num, rfl, by omega, rfl, HS2.out, by rw [bc_snoc, HC8.out, List.length_append]; exact hr22, hB22⟩
              case measure => simp [intOf]; omega
            · have HS2 : Hid _ := HST.out (by omega)
              clear HST
              go_wp2_with (at_builtin; refine wpList_append_own _ rfl _ _ 22 rfl u.heap.size 5 i0 (.int .u8 0) 1 1 Tryd.underlying22 hinf hz0 hz1 hz2 rfl (by decide) _ _ _ rfl (hrow.alloc _) ⟨wr.heap.size, 0, none⟩ 1 1 [.int .u8 41] rfl rfl ?a23 ?b23 ?c23 ?d23 ?e23 ?_)
              try case a23 => exact cells_new _ _ _
              case b23 => first | rfl | (intro u hu; simp at hu; subst hu; rfl) | simp
              case c23 => unfold maxLen; omega
              case d23 => omega
              case e23 => have := hB.size; first | omega | (simp; omega)
              intro v23 x23 hr23 hg23 _
              have hB23 := (hB.alloc hB.size (.cells #[.int .u8 41] 5)).grown hg23 (by have := hB.size; simp; omega) (fun j hj => by have := (hrow.lt j hj).1; omega)
              obtain ⟨g23, cap23, rfl⟩ := ownsRow_succ hr23
              clear hg23
              go_wp2
              go_roundw
              case rel => exact ⟨k + 1, n, out ++ [c8], false, by omega, by go_num, rfl, by omega, rfl, HS2.out, by rw [bc_snoc, HC8.out, List.length_append]; exact hr23, hB23⟩
              case measure => simp [intOf]; omega
            · have HS2 : Hid _ := HST.out (by omega)
              clear HST
              go_wp2_with (at_builtin; refine wpList_append_own _ rfl _ _ 22 rfl u.heap.size 5 i0 (.int .u8 0) 1 1 Tryd.underlying22 hinf hz0 hz1 hz2 rfl (by decide) _ _ _ rfl (hrow.alloc _) ⟨wr.heap.size, 0, none⟩ 1 1 [.int .u8 44] rfl rfl ?a24 ?b24 ?c24 ?d24 ?e24 ?_)
              try case a24 => exact cells_new _ _ _
              case b24 => first | rfl | (intro u hu; simp at hu; subst hu; rfl) | simp
              case c24 => unfold maxLen; omega
              case d24 => omega
              case e24 => have := hB.size; first | omega | (simp; omega)
              intro v24 x24 hr24 hg24 _
              have hB24 := (hB.alloc hB.size (.cells #[.int .u8 44] 5)).grown hg24 (by have := hB.size; simp; omega) (fun j hj => by have := (hrow.lt j hj).1; omega)
              obtain ⟨g24, cap24, rfl⟩ := ownsRow_succ hr24
              clear hg24
              go_wp2
              go_roundw
              case rel => exact ⟨k + 1, n, out ++ [c8], false, by omega, by go_num, rfl, by omega, rfl, HS2.out, by rw [bc_snoc, HC8.out, List.length_append]; exact hr24, hB24⟩
              case measure => simp [intOf]; omega
            · have HS2 : Hid _ := HST.out (by omega)
              clear HST
              go_wp2_with (at_builtin; refine wpList_append_own _ rfl _ _ 22 rfl u.heap.size 5 i0 (.int .u8 0) 1 1 Tryd.underlying22 hinf hz0 hz1 hz2 rfl (by decide) _ _ _ rfl (hrow.alloc _) ⟨wr.heap.size, 0, none⟩ 1 1 [.int .u8 91] rfl rfl ?a25 ?b25 ?c25 ?d25 ?e25 ?_)
              try case a25 => exact cells_new _ _ _
              case b25 => first | rfl | (intro u hu; simp at hu; subst hu; rfl) | simp
              case c25 => unfold maxLen; omega
              case d25 => omega
              case e25 => have := hB.size; first | omega | (simp; omega)
              intro v25 x25 hr25 hg25 _
              have hB25 := (hB.alloc hB.size (.cells #[.int .u8 91] 5)).grown hg25 (by have := hB.size; simp; omega) (fun j hj => by have := (hrow.lt j hj).1; omega)
              obtain ⟨g25, cap25, rfl⟩ := ownsRow_succ hr25
              clear hg25
              go_wp2
              go_roundw
              case rel => exact ⟨k + 1, n, out ++ [c8], false, by omega, by go_num, rfl, by omega, rfl, HS2.out, by rw [bc_snoc, HC8.out, List.length_append]; exact hr25, hB25⟩
              case measure => simp [intOf]; omega
            · have HS2 : Hid _ := HST.out (by omega)
              clear HST
              go_wp2_with (at_builtin; refine wpList_append_own _ rfl _ _ 22 rfl u.heap.size 5 i0 (.int .u8 0) 1 1 Tryd.underlying22 hinf hz0 hz1 hz2 rfl (by decide) _ _ _ rfl (hrow.alloc _) ⟨wr.heap.size, 0, none⟩ 1 1 [.int .u8 93] rfl rfl ?a26 ?b26 ?c26 ?d26 ?e26 ?_)
              try case a26 => exact cells_new _ _ _
              case b26 => first | rfl | (intro u hu; simp at hu; subst hu; rfl) | simp
              case c26 => unfold maxLen; omega
              case d26 => omega
              case e26 => have := hB.size; first | omega | (simp; omega)
              intro v26 x26 hr26 hg26 _
              have hB26 := (hB.alloc hB.size (.cells #[.int .u8 93] 5)).grown hg26 (by have := hB.size; simp; omega) (fun j hj => by have := (hrow.lt j hj).1; omega)
              obtain ⟨g26, cap26, rfl⟩ := ownsRow_succ hr26
              clear hg26
              go_wp2
              go_roundw
              case rel => exact ⟨k + 1, n, out ++ [c8], false, by omega, by go_num, rfl, by omega, rfl, HS2.out, by rw [bc_snoc, HC8.out, List.length_append]; exact hr26, hB26⟩
              case measure => simp [intOf]; omega
            · have HS2 : Hid _ := HST.out (by omega)
              clear HST
              go_wp2_with (at_builtin; refine wpList_append_own _ rfl _ _ 22 rfl u.heap.size 5 i0 (.int .u8 0) 1 1 Tryd.underlying22 hinf hz0 hz1 hz2 rfl (by decide) _ _ _ rfl (hrow.alloc _) ⟨wr.heap.size, 0, none⟩ 1 1 [.int .u8 63] rfl rfl ?a27 ?b27 ?c27 ?d27 ?e27 ?_)
              try case a27 => exact cells_new _ _ _
              case b27 => first | rfl | (intro u hu; simp at hu; subst hu; rfl) | simp
              case c27 => unfold maxLen; omega
              case d27 => omega
              case e27 => have := hB.size; first | omega | (simp; omega)
              intro v27 x27 hr27 hg27 _
              have hB27 := (hB.alloc hB.size (.cells #[.int .u8 63] 5)).grown hg27 (by have := hB.size; simp; omega) (fun j hj => by have := (hrow.lt j hj).1; omega)
              obtain ⟨g27, cap27, rfl⟩ := ownsRow_succ hr27
              clear hg27
              go_wp2
              go_roundw
              case rel => exact ⟨k + 1, n, out ++ [c8], false, by omega, by go_num, rfl, by omega, rfl, HS2.out, by rw [bc_snoc, HC8.out, List.length_append]; exact hr27, hB27⟩
              case measure => simp [intOf]; omega
            · have HS2 : Hid _ := HST.out (by omega)
              clear HST
              go_wp2_with (at_builtin; refine wpList_append_own _ rfl _ _ 22 rfl u.heap.size 5 i0 (.int .u8 0) 1 1 Tryd.underlying22 hinf hz0 hz1 hz2 rfl (by decide) _ _ _ rfl (hrow.alloc _) ⟨wr.heap.size, 0, none⟩ 1 1 [.int .u8 45] rfl rfl ?a28 ?b28 ?c28 ?d28 ?e28 ?_)
              try case a28 => exact cells_new _ _ _
              case b28 => first | rfl | (intro u hu; simp at hu; subst hu; rfl) | simp
              case c28 => unfold maxLen; omega
              case d28 => omega
              case e28 => have := hB.size; first | omega | (simp; omega)
              intro v28 x28 hr28 hg28 _
              have hB28 := (hB.alloc hB.size (.cells #[.int .u8 45] 5)).grown hg28 (by have := hB.size; simp; omega) (fun j hj => by have := (hrow.lt j hj).1; omega)
              obtain ⟨g28, cap28, rfl⟩ := ownsRow_succ hr28
              clear hg28
              go_wp2
              go_roundw
              case rel => exact ⟨k + 1, n, out ++ [c8], false, by omega, by go_num, rfl, by omega, rfl, HS2.out, by rw [bc_snoc, HC8.out, List.length_append]; exact hr28, hB28⟩
              case measure => simp [intOf]; omega
        · have hsg : sgn c = false := by simpa using hs
          clear hs
          by_cases h34 : c = 34
          · subst h34
            clear hsg
            by_cases hkz : k = 0
            · have HST : Hid (St (k + 1) true n (out ++ [c8])) := by
                have := HSC.out k n out false hk hSt (by rw [hcb])
                rw [← hc8, if_pos (.inl rfl)] at this
                exact this
              have hk0 : ((k : Int) == 0) = true := by simp; omega
              clear hSt HSA HSB HSC hcb hkz
              go_wp2_with (at_builtin; refine wpList_append_own _ rfl _ _ 22 rfl u.heap.size 5 i0 (.int .u8 0) 1 1 Tryd.underlying22 hinf hz0 hz1 hz2 rfl (by decide) _ _ _ rfl (hrow.alloc _) ⟨wr.heap.size, 0, none⟩ 1 1 [.int .u8 34] rfl rfl ?a31 ?b31 ?c31 ?d31 ?e31 ?_)
              try case a31 => exact cells_new _ _ _
              case b31 => first | rfl | (intro u hu; simp at hu; subst hu; rfl) | simp
              case c31 => unfold maxLen; omega
              case d31 => omega
              case e31 => have := hB.size; first | omega | (simp; omega)
              intro v31 x31 hr31 hg31 _
              have hB31 := (hB.alloc hB.size (.cells #[.int .u8 34] 5)).grown hg31 (by have := hB.size; simp; omega) (fun j hj => by have := (hrow.lt j hj).1; omega)
              obtain ⟨g31, cap31, rfl⟩ := ownsRow_succ hr31
              clear hg31
              go_wp2
              go_roundw
              case rel => exact ⟨k + 1, n, out ++ [c8], true, by omega, by go_num, rfl, by omega, rfl, HST.out, by rw [bc_snoc, HC8.out, List.length_append]; exact hr31, hB31⟩
              case measure => simp [intOf]; omega
            · have HST : Hid (St (k + 1) true n (out ++ [c8])) := by
                have := HSC.out k n out false hk hSt (by rw [hcb])
                rw [← hc8, if_pos (.inl rfl)] at this
                exact this
              have hk0 : ((k : Int) == 0) = false := by simp; omega
              clear hSt HSA HSB HSC hcb hkz
              go_wp2_with (at_builtin; refine wpList_append_own _ rfl _ _ 22 rfl u.heap.size 5 i0 (.int .u8 0) 1 1 Tryd.underlying22 hinf hz0 hz1 hz2 rfl (by decide) _ _ _ rfl (hrow.alloc _) ⟨wr.heap.size, 0, none⟩ 1 1 [.int .u8 34] rfl rfl ?a32 ?b32 ?c32 ?d32 ?e32 ?_)
              try case a32 => exact cells_new _ _ _
              case b32 => first | rfl | (intro u hu; simp at hu; subst hu; rfl) | simp
              case c32 => unfold maxLen; omega
              case d32 => omega
              case e32 => have := hB.size; first | omega | (simp; omega)
              intro v32 x32 hr32 hg32 _
              have hB32 := (hB.alloc hB.size (.cells #[.int .u8 34] 5)).grown hg32 (by have := hB.size; simp; omega) (fun j hj => by have := (hrow.lt j hj).1; omega)
              obtain ⟨g32, cap32, rfl⟩ := ownsRow_succ hr32
              clear hg32
              go_wp2
              go_roundw
              case rel => exact ⟨k + 1, n, out ++ [c8], true, by omega, by go_num, rfl, by omega, rfl, HST.out, by rw [bc_snoc, HC8.out, List.length_append]; exact hr32, hB32⟩
              case measure => simp [intOf]; omega
          · have hsgs := hsg
            unfold sgn at hsgs
            simp at hsgs
            have hne40 : ((c : Int) == 40) = false := by simp; omega
            have hne41 : ((c : Int) == 41) = false := by simp; omega
            have hne44 : ((c : Int) == 44) = false := by simp; omega
            have hne91 : ((c : Int) == 91) = false := by simp; omega
            have hne93 : ((c : Int) == 93) = false := by simp; omega
            have hne63 : ((c : Int) == 63) = false := by simp; omega
            have hne45 : ((c : Int) == 45) = false := by simp; omega
            have hne34 : ((c : Int) == 34) = false := by simp; omega
            clear hsgs
            have HST : Hid (St (k + 1) false n (out ++ [c8])) := by
              have := HSB.out k n out false hk hSt (.inr (.inr (by rw [hcb]; exact hsg))) (by rw [hcb]; exact h34)
              rw [← hc8] at this
              exact this
            clear hSt HSA HSB HSC hcb hsg h34
            go_wp2_with (at_builtin; refine wpList_append_own _ rfl _ _ 22 rfl u.heap.size 5 i0 (.int .u8 0) 1 1 Tryd.underlying22 hinf hz0 hz1 hz2 rfl (by decide) _ _ _ rfl (hrow.alloc _) ⟨wr.heap.size, 0, none⟩ 1 1 [.int .u8 ((c : Nat) : Int)] rfl rfl ?a29 ?b29 ?c29 ?d29 ?e29 ?_)
            try case a29 => exact cells_new _ _ _
            case b29 => first | rfl | (intro u hu; simp at hu; subst hu; rfl) | simp
            case c29 => unfold maxLen; omega
            case d29 => omega
            case e29 => have := hB.size; first | omega | (simp; omega)
            intro v29 x29 hr29 hg29 _
            have hB29 := (hB.alloc hB.size (.cells #[.int .u8 ((c : Nat) : Int)] 5)).grown hg29 (by have := hB.size; simp; omega) (fun j hj => by have := (hrow.lt j hj).1; omega)
            obtain ⟨g29, cap29, rfl⟩ := ownsRow_succ hr29
            clear hg29
            go_wp2
            go_roundw
            case rel => exact ⟨k + 1, n, out ++ [c8], false, by omega, by go_num, rfl, by omega, rfl, HST.out, by rw [bc_snoc, HC8.out, List.length_append]; exact hr29, hB29⟩
            case measure => simp [intOf]; omega
      | true =>
        by_cases h34 : c = 34
        · subst h34
          have hkp : 0 < k := by
            rcases Nat.eq_zero_or_pos k with h0 | h0
            · subst h0; exact (HQ0.out _ _ hSt).elim
            · exact h0
          by_cases hb92 : bt X (k - 1) = 92
          · cases hev : decide (tbs (X.data.toList.take k) % 2 = 0) with
            | true =>
                obtain ⟨m, hm⟩ : ∃ m, k = m + 1 := ⟨k - 1, by omega⟩
                rw [show k - 1 = m by omega] at hb92
                have hk0 : ((k : Int) == 0) = false := by simp; omega
                have hidx : (k : Int) - 1 = (m : Int) := by omega
                have hmI : (m : Int) < (X.size : Int) := by omega
                have hms : m < X.size := by omega
                have hbm := bt_eq X m hms
                have hne : ((bt X m : Int) != 92) = false := by rw [hb92]; rfl
                have hne' : (bt X m : Int) = 92 := by omega
                have HST : Hid (St (k + 1) false n (out ++ [c8])) := by
                  have := HSC.out k n out true hk hSt (by rw [hcb])
                  rw [← hc8, if_pos (.inr hev)] at this
                  exact this
                have HEV : Hid _ := fun W => even_any X k W (by omega) (by omega)
                rw [hev] at HEV
                clear hSt HSA HSB HSC hcb hev hm
                rw [hb92] at hbm
                clear hb92
                go_wp2_with (at_builtin; refine wpList_append_own _ rfl _ _ 22 rfl u.heap.size 5 i0 (.int .u8 0) 1 1 Tryd.underlying22 hinf hz0 hz1 hz2 rfl (by decide) _ _ _ rfl (hrow.alloc _) ⟨wr.heap.size, 0, none⟩ 1 1 [.int .u8 34] rfl rfl ?a34 ?b34 ?c34 ?d34 ?e34 ?_)
                try case a34 => exact cells_new _ _ _
                case b34 => first | rfl | (intro u hu; simp at hu; subst hu; rfl) | simp
                case c34 => unfold maxLen; omega
                case d34 => omega
                case e34 => have := hB.size; first | omega | (simp; omega)
                intro v34 x34 hr34 hg34 _
                have hB34 := (hB.alloc hB.size (.cells #[.int .u8 34] 5)).grown hg34 (by have := hB.size; simp; omega) (fun j hj => by have := (hrow.lt j hj).1; omega)
                obtain ⟨g34, cap34, rfl⟩ := ownsRow_succ hr34
                clear hg34
                go_wp2_with (go_at_call 31; refine (HEV.out _).mono ?_; rintro e we ⟨rfl, rfl⟩)
                try go_wp2
                go_roundw
                case rel => exact ⟨k + 1, n, out ++ [c8], false, by omega, by go_num, rfl, by omega, rfl, HST.out, by rw [bc_snoc, HC8.out, List.length_append]; exact hr34, hB34⟩
                case measure => simp [intOf]; omega
            | false =>
                obtain ⟨m, hm⟩ : ∃ m, k = m + 1 := ⟨k - 1, by omega⟩
                rw [show k - 1 = m by omega] at hb92
                have hk0 : ((k : Int) == 0) = false := by simp; omega
                have hidx : (k : Int) - 1 = (m : Int) := by omega
                have hmI : (m : Int) < (X.size : Int) := by omega
                have hms : m < X.size := by omega
                have hbm := bt_eq X m hms
                have hne : ((bt X m : Int) != 92) = false := by rw [hb92]; rfl
                have hne' : (bt X m : Int) = 92 := by omega
                have HST : Hid (St (k + 1) true n (out ++ [c8])) := by
                  have := HSC.out k n out true hk hSt (by rw [hcb])
                  rw [← hc8, if_neg (by rw [hev]; simp)] at this
                  exact this
                have HEV : Hid _ := fun W => even_any X k W (by omega) (by omega)
                rw [hev] at HEV
                clear hSt HSA HSB HSC hcb hev hm
                rw [hb92] at hbm
                clear hb92
                go_wp2_with (at_builtin; refine wpList_append_own _ rfl _ _ 22 rfl u.heap.size 5 i0 (.int .u8 0) 1 1 Tryd.underlying22 hinf hz0 hz1 hz2 rfl (by decide) _ _ _ rfl (hrow.alloc _) ⟨wr.heap.size, 0, none⟩ 1 1 [.int .u8 34] rfl rfl ?a35 ?b35 ?c35 ?d35 ?e35 ?_)
                try case a35 => exact cells_new _ _ _
                case b35 => first | rfl | (intro u hu; simp at hu; subst hu; rfl) | simp
                case c35 => unfold maxLen; omega
                case d35 => omega
                case e35 => have := hB.size; first | omega | (simp; omega)
                intro v35 x35 hr35 hg35 _
                have hB35 := (hB.alloc hB.size (.cells #[.int .u8 34] 5)).grown hg35 (by have := hB.size; simp; omega) (fun j hj => by have := (hrow.lt j hj).1; omega)
                obtain ⟨g35, cap35, rfl⟩ := ownsRow_succ hr35
                clear hg35
                go_wp2_with (go_at_call 31; refine (HEV.out _).mono ?_; rintro e we ⟨rfl, rfl⟩)
                try go_wp2
                go_roundw
                case rel => exact ⟨k + 1, n, out ++ [c8], true, by omega, by go_num, rfl, by omega, rfl, HST.out, by rw [bc_snoc, HC8.out, List.length_append]; exact hr35, hB35⟩
                case measure => simp [intOf]; omega
          · obtain ⟨m, hm⟩ : ∃ m, k = m + 1 := ⟨k - 1, by omega⟩
            rw [show k - 1 = m by omega] at hb92
            have hk0 : ((k : Int) == 0) = false := by simp; omega
            have hidx : (k : Int) - 1 = (m : Int) := by omega
            have hmI : (m : Int) < (X.size : Int) := by omega
            have hms : m < X.size := by omega
            have hbm := bt_eq X m hms
            have hne : ((bt X m : Int) != 92) = true := by simp; omega
            have hne' : ¬ (bt X m : Int) = 92 := by omega
            have HST : Hid (St (k + 1) false n (out ++ [c8])) := by
              have := HSC.out k n out true hk hSt (by rw [hcb])
              rw [← hc8, if_pos (.inr (tbs_zero (by rw [list_len]; omega) hm (by rw [← bt_list]; exact hb92)))] at this
              exact this
            clear hSt HSA HSB HSC hcb hb92 hm
            go_wp2_with (at_builtin; refine wpList_append_own _ rfl _ _ 22 rfl u.heap.size 5 i0 (.int .u8 0) 1 1 Tryd.underlying22 hinf hz0 hz1 hz2 rfl (by decide) _ _ _ rfl (hrow.alloc _) ⟨wr.heap.size, 0, none⟩ 1 1 [.int .u8 34] rfl rfl ?a33 ?b33 ?c33 ?d33 ?e33 ?_)
            try case a33 => exact cells_new _ _ _
            case b33 => first | rfl | (intro u hu; simp at hu; subst hu; rfl) | simp
            case c33 => unfold maxLen; omega
            case d33 => omega
            case e33 => have := hB.size; first | omega | (simp; omega)
            intro v33 x33 hr33 hg33 _
            have hB33 := (hB.alloc hB.size (.cells #[.int .u8 34] 5)).grown hg33 (by have := hB.size; simp; omega) (fun j hj => by have := (hrow.lt j hj).1; omega)
            obtain ⟨g33, cap33, rfl⟩ := ownsRow_succ hr33
            clear hg33
            go_wp2
            go_roundw
            case rel => exact ⟨k + 1, n, out ++ [c8], false, by omega, by go_num, rfl, by omega, rfl, HST.out, by rw [bc_snoc, HC8.out, List.length_append]; exact hr33, hB33⟩
            case measure => simp [intOf]; omega
        · have hne34 : ((c : Int) == 34) = false := by simp; omega
          have HST : Hid (St (k + 1) true n (out ++ [c8])) := by
            have := HSB.out k n out true hk hSt (.inl rfl) (by rw [hcb]; exact h34)
            rw [← hc8] at this
            exact this
          clear hSt HSA HSB HSC hcb h34
          go_wp2_with (at_builtin; refine wpList_append_own _ rfl _ _ 22 rfl u.heap.size 5 i0 (.int .u8 0) 1 1 Tryd.underlying22 hinf hz0 hz1 hz2 rfl (by decide) _ _ _ rfl (hrow.alloc _) ⟨wr.heap.size, 0, none⟩ 1 1 [.int .u8 ((c : Nat) : Int)] rfl rfl ?a30 ?b30 ?c30 ?d30 ?e30 ?_)
          try case a30 => exact cells_new _ _ _
          case b30 => first | rfl | (intro u hu; simp at hu; subst hu; rfl) | simp
          case c30 => unfold maxLen; omega
          case d30 => omega
          case e30 => have := hB.size; first | omega | (simp; omega)
          intro v30 x30 hr30 hg30 _
          have hB30 := (hB.alloc hB.size (.cells #[.int .u8 ((c : Nat) : Int)] 5)).grown hg30 (by have := hB.size; simp; omega) (fun j hj => by have := (hrow.lt j hj).1; omega)
          obtain ⟨g30, cap30, rfl⟩ := ownsRow_succ hr30
          clear hg30
          go_wp2
          go_roundw
          case rel => exact ⟨k + 1, n, out ++ [c8], true, by omega, by go_num, rfl, by omega, rfl, HST.out, by rw [bc_snoc, HC8.out, List.length_append]; exact hr30, hB30⟩
          case measure => simp [intOf]; omega
    · obtain rfl : k = X.size := by omega
      have hkI : ¬ (X.size : Int) < (X.size : Int) := by omega
      have HZ := HFI.out _ _ _ hSt
      have HCV := row_conv hrow
      rw [HZ] at HCV
      have HTw : Hid _ := HTu.out.nx hB
      clear hSt HSA HSB HSC HOL HFI HS0 HQ0 hk HZ hrow hB
      go_wp2_with (go_at_call 30; refine (HR1.out _).mono ?_; rintro e w5 ⟨⟨ya, yc, yb, yd, rfl, hy5⟩, hb5⟩; have HT5 : Hid _ := HTw.out.nx hb5; clear hb5; refine hold_it ?_)
      unfold Held
      have HX : Hid _ := two_boxes w w5 HT5.out.bel #[.int .i64 t.kind, .string t.cons, .slice ya t.text.length yc, .slice yb t.kids.length yd] #[.int .i64 0, .int .i64 0]
      have HY6 : Hid _ := hy5.nx HX.out.2.1
      have HT6 : Hid _ := HT5.out.nx HX.out.2.1
      clear hy5
      go_wp2_with (go_at_call 13; refine (HALV.out _).mono ?_; rintro e w7 ⟨rfl, hb7⟩; refine hold_it ?_)
      unfold Held
      have HT7 : Hid _ := HT6.out.nx hb7
      have HY7 : Hid _ := HY6.out.nx hb7
      have HC7 : Hid ((∀ (j : Nat) v, (#[.int .i64 t.kind, .string t.cons, .slice ya t.text.length yc, .slice yb t.kids.length yd] : Array Value)[j]? = some v → w7.cell? ⟨w5.heap.size, j, none⟩ = some v) ∧ (∀ (j : Nat) v, (#[.int .i64 0, .int .i64 0] : Array Value)[j]? = some v → w7.cell? ⟨w5.heap.size + 1, j, none⟩ = some v)) := by
        obtain ⟨h1, h2, h3, h4, h5⟩ := HX.out
        exact ⟨fun j v hv => (hb7.cell (p := ⟨w5.heap.size, j, none⟩) (by show w5.heap.size < _; rw [h5]; omega)).trans (h3 j v hv), fun j v hv => (hb7.cell (p := ⟨w5.heap.size + 1, j, none⟩) (by show w5.heap.size + 1 < _; rw [h5]; omega)).trans (h4 j v hv)⟩
      obtain ⟨e0, e1, e2, e3⟩ := HT7.out.facts
      have y0 := HC7.out.1 0 _ rfl
      have y1 := HC7.out.1 1 _ rfl
      have y2 := HC7.out.1 2 _ rfl
      have y3 := HC7.out.1 3 _ rfl
      have f1 := HC7.out.2 1 _ rfl
      clear hb7 HX HC7 HT6 HY6
      go_wp2_with (go_at_call 21; refine (HSM.out _ _ _ _ _ HY7.out HT7.out).mono ?_; rintro e w8 ⟨rfl, hb8⟩; have HT8 : Hid _ := HT7.out.nx hb8; clear hb8)
      go_ret
      exact ⟨rfl, HT8.out.bel⟩
end Go.Proofs.YtlkcadibjmfmcaaDoor
