/- Is the number of backslashes ahead of a place even? -/
import Derived.Test.YtlkcadibjmfmcaaDoorVa
import Derived.Test.YtlkcadibjmfmcaaDoorGc
namespace Go.Proofs.YtlkcadibjmfmcaaDoor
open Go.RowKit

theorem lspan_at {p : Nat → Bool} : ∀ {l : List UInt8} {n : Nat}, n ≤ lspan p l → (∀ c, l[n]? = some c → p c.toNat = true → n + 1 ≤ lspan p l) ∧ (∀ c, l[n]? = some c → p c.toNat = false → lspan p l = n) ∧ (l.length = n → lspan p l = n)
  | [], n, h => by
    refine ⟨fun c hc => by simp at hc, fun c hc => by simp at hc, fun hl => ?_⟩
    simp at hl; subst hl; rfl
  | x :: l, n, h => by
    rw [lspan] at h ⊢
    by_cases hx : p x.toNat = true
    · rw [if_pos hx] at h ⊢
      cases n with
      | zero =>
        refine ⟨fun c _ _ => by omega, fun c hc hp => ?_, fun hl => by simp at hl⟩
        simp at hc; subst hc; rw [hp] at hx; cases hx
      | succ n =>
        obtain ⟨a, b, d⟩ := lspan_at (p := p) (l := l) (n := n) (by omega)
        refine ⟨fun c hc hp => by have := a c (by simpa using hc) hp; omega, fun c hc hp => by have := b c (by simpa using hc) hp; omega, fun hl => by have := d (by simpa using hl); omega⟩
    · rw [if_neg hx] at h ⊢
      obtain rfl : n = 0 := by omega
      refine ⟨fun c hc hp => ?_, fun c _ _ => rfl, fun hl => by simp at hl⟩
      simp at hc; subst hc; exact absurd hp hx
theorem rev_at {l : List UInt8} {i n m : Nat} (hi : i ≤ l.length) (h : i = n + 1 + m) : (l.take i).reverse[n]? = l[m]? := by
  rw [List.getElem?_reverse (by rw [List.length_take]; omega), List.length_take, List.getElem?_take_of_lt (by omega)]
  congr 1
  omega
set_option maxRecDepth 100000 in
set_option maxHeartbeats 4000000 in
theorem even_any (s : ByteArray) (i : Nat) (w : World) (hi : i ≤ s.size) (hs : s.size ≤ 65536) :
    Calls Tryd.prog 31 #[.string s, .int .i64 (i : Int)] w fun e w' => e = .returned (.bool (decide (tbs (s.data.toList.take i) % 2 = 0))) ∧ w' = w := by
  have hil : i ≤ s.data.toList.length := by rw [list_len]; exact hi
  obtain ⟨T, hT⟩ : ∃ T, tbs (s.data.toList.take i) = T := ⟨_, rfl⟩
  have hTi : T ≤ i := by
    have := lspan_le (fun n => n == 92) (s.data.toList.take i).reverse
    rw [List.length_reverse, List.length_take] at this
    unfold tbs at hT
    omega
  rw [hT]
  have HT : Hid (∀ n, n ≤ T → (∀ c, (s.data.toList.take i).reverse[n]? = some c → (c.toNat == 92) = true → n + 1 ≤ T) ∧ (∀ c, (s.data.toList.take i).reverse[n]? = some c → (c.toNat == 92) = false → T = n) ∧ ((s.data.toList.take i).reverse.length = n → T = n)) := fun n hn => by
    rw [← hT] at hn ⊢
    exact lspan_at (p := fun n => n == 92) hn
  have HIL : Hid _ := hil
  have HI : Hid _ := hi
  have hi6 : (i : Int) ≤ 65536 := by omega
  clear hT hil hi
  go_enter Tryd.func31, Tryd.ntmps31
  go_wp2
  go_loopw [5] (fun v W => ∃ n : Nat, v = .int .i64 n ∧ n ≤ T ∧ W = w) (fun v _ => i - (intOf v).toNat)
  case atStart => exact ⟨0, rfl, by omega, rfl⟩
  case round =>
    obtain ⟨n, rfl, hn, hww⟩ := hrel
    have hww' := hww.symm
    subst hww'
    clear hww
    obtain ⟨h1, h2, h3⟩ := HT.out n hn
    by_cases hlt : n < i
    · obtain ⟨m, hm⟩ : ∃ m, i = n + 1 + m := ⟨i - n - 1, by omega⟩
      have hms : m < s.size := by have := HI.out; omega
      have hidx : (i : Int) - 1 - (n : Int) = (m : Int) := by omega
      have hge : (0 : Int) ≤ (m : Int) := by omega
      have hmI : (m : Int) < (s.size : Int) := by omega
      have hr := rev_at HIL.out hm
      have hbm := bt_eq s m hms
      have hel : s.data.toList[m]? = some s[m] := by rw [List.getElem?_eq_getElem (by rw [list_len]; exact hms)]; rfl
      rw [hel] at hr
      have g1 := h1 _ hr
      have g2 := h2 _ hr
      rw [hbm] at g1 g2
      have HM : Hid _ := hm
      by_cases hc : bt s m = 92
      · have hcI : ((bt s m : Int) == 92) = true := by rw [hc]; rfl
        have HG : Hid (n + 1 ≤ T) := g1 (by rw [hc]; rfl)
        clear h1 h2 h3 g1 g2 hr hel hm hlt
        go_wp2
        go_roundw
        case rel => exact ⟨n + 1, by go_num, HG.out, trivial⟩
        case measure => simp [intOf]; have := HM.out; omega
      · have hcI : ((bt s m : Int) == 92) = false := by simp; omega
        have HG : Hid (T = n) := g2 (by simpa using hc)
        clear h1 h2 h3 g1 g2 hr hel hm hlt
        go_wp2
        go_ret
        refine ⟨ret_bool ?_, rfl⟩
        rw [HG.out, Bool.eq_iff_iff]
        simp
        omega
    · have hni : n = i := by omega
      have HG : Hid (T = n) := h3 (by rw [List.length_reverse, List.length_take]; have := HIL.out; omega)
      have hidx : ¬ (0 : Int) ≤ (i : Int) - 1 - (n : Int) := by omega
      clear h1 h2 h3
      go_wp2
      go_ret
      refine ⟨ret_bool ?_, rfl⟩
      rw [HG.out, Bool.eq_iff_iff]
      simp
      omega
end Go.Proofs.YtlkcadibjmfmcaaDoor
