/- The document's own digit and sign: Digit and one, at every byte, text and place. -/
import Derived.Test.YtbbmjnhbmcbehaaX1
import Derived.Test.YtbbmjnhbmcbehaaS1
namespace Go.Proofs.Ytbbmjnhbmcbehaa
open Go.RowKit

def rdig (n : Nat) : Nat := if 48 ≤ n ∧ n ≤ 57 then n - 48 else if 97 ≤ n ∧ n ≤ 102 then n - 87 else if 65 ≤ n ∧ n ≤ 70 then n - 55 else 16
theorem rdig_dig (n : Nat) : (rdig n < 16 ↔ 0 ≤ dig n) ∧ (0 ≤ dig n → (dig n).toNat = rdig n) ∧ rdig n ≤ 16 := by
  unfold rdig dig
  repeat' split
  all_goals omega
def hx (k : Nat) : Nat := if k < 10 then 48 + k else 87 + k
theorem hx_at : ∀ k : Fin 16, (⟨#[48, 49, 50, 51, 52, 53, 54, 55, 56, 57, 97, 98, 99, 100, 101, 102]⟩ : ByteArray)[k.val].toNat = hx k.val := by decide +kernel
theorem rdig_is (n k : Nat) (hk : k < 16) : (hx k = n ∨ 9 < k ∧ hx k - 32 = n) ↔ rdig n = k := by
  unfold hx rdig
  repeat' split
  all_goals omega
set_option maxRecDepth 100000 in
set_option maxHeartbeats 1000000 in
theorem rdigit_any (n : Nat) (w : World) (hn : n < 256) :
    Calls Try.prog 66 #[.int .u8 n] w fun e w' => e = .returned (.int .i64 (rdig n : Nat)) ∧ w' = w := by
  have hle := (rdig_dig n).2.2
  have hall : ∀ k, k < 16 → ((hx k = n ∨ 9 < k ∧ hx k - 32 = n) ↔ rdig n = k) := fun k hk => rdig_is n k hk
  obtain ⟨R, hR⟩ : ∃ R, rdig n = R := ⟨_, rfl⟩
  rw [hR] at hle hall ⊢
  go_enter Try.func66, Try.ntmps66
  go_wp2
  go_loop [3] (fun i => ∃ k : Nat, k ≤ 16 ∧ i = .int .i64 (k : Nat) ∧ k ≤ R) (fun i => 16 - (intOf i).toNat)
  case atStart => exact ⟨0, by omega, rfl, by omega⟩
  case round =>
    obtain ⟨k, hk, rfl, hkR⟩ := hrel
    by_cases h : k < 16
    · have hv := hx_at ⟨k, h⟩
      have hI := hall k h
      have hx1 : 48 ≤ hx k ∧ hx k ≤ 102 ∧ (9 < k → 97 ≤ hx k) := by unfold hx; split <;> omega
      simp only at hv
      clear hall
      generalize hx k = v at *
      by_cases h1 : v = n
      · obtain rfl : R = k := hI.1 (Or.inl h1)
        subst h1
        go_wp2
        go_ret
        exact ⟨rfl, rfl⟩
      · have h1' : ((v : Int) == (n : Int)) = false := by simp; omega
        by_cases h2 : 9 < k
        · by_cases h3 : v - 32 = n
          · obtain rfl : R = k := hI.1 (Or.inr ⟨h2, h3⟩)
            have h3' : (((v : Int) - 32) == (n : Int)) = true := by simp; omega
            go_wp2
            go_ret
            exact ⟨rfl, rfl⟩
          · have h3' : (((v : Int) - 32) == (n : Int)) = false := by simp; omega
            go_wp2
            exact ⟨⟨k + 1, by omega, by go_num, by omega⟩, by simp [intOf]; omega⟩
        · have h2' : decide ((9 : Int) < (k : Int)) = false := by simp; omega
          go_wp2
          exact ⟨⟨k + 1, by omega, by go_num, by omega⟩, by simp [intOf]; omega⟩
    · have : R = 16 := by omega
      subst this
      go_wp2
      go_ret
      exact ⟨rfl, rfl⟩
end Go.Proofs.Ytbbmjnhbmcbehaa
