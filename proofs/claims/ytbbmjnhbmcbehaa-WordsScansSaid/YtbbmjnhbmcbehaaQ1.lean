/- What is written in quotes is read as it was: plain. -/
import Derived.Test.YtbbmjnhbmcbehaaN5
import Derived.Test.YtbbmjnhbmcbehaaN9
namespace Go.Proofs.Ytbbmjnhbmcbehaa
open Go.RowKit

def idq (n : Nat) : Int := Lib.indexByte [10, 9, 13, 34, 92] n.toUInt8
theorem escq_eq (n : Nat) : escq n = if idq n < 0 then [92, 120, hexd (n / 16), hexd (n % 16)] else [92, shortqL (idq n).toNat] := rfl
theorem sh_back : ∀ n : Fin 256, 0 ≤ idq n.val → 0 ≤ shortq (shortqL (idq n.val).toNat).toNat ∧ saidq (shortq (shortqL (idq n.val).toNat).toNat).toNat = n.val := by decide +kernel
theorem hx_back : ∀ n : Fin 256, 0 ≤ dig (hexd (n.val / 16)).toNat ∧ 0 ≤ dig (hexd (n.val % 16)).toNat ∧ (dig (hexd (n.val / 16)).toNat).toNat * 16 + (dig (hexd (n.val % 16)).toNat).toNat = n.val := by decide +kernel
theorem sh_x : shortq 120 < 0 := by decide +kernel
theorem bt_mk (l : List UInt8) (i : Nat) : bt ⟨l.toArray⟩ i = (l.getD i 0).toNat := by rw [bt_list]
theorem size_mk (l : List UInt8) : (⟨l.toArray⟩ : ByteArray).size = l.length := rfl
theorem rdql_esc (n : Nat) (h : n < 256) (r : List UInt8) : rdql (escq n ++ r) = (n, (escq n).length) := by
  rw [escq_eq]
  by_cases hi : idq n < 0
  · rw [if_pos hi]
    obtain ⟨h1, h2, h3⟩ := hx_back ⟨n, h⟩
    simp only at h1 h2 h3
    have hx := sh_x
    unfold rdql rdq
    simp only [bt_mk, size_mk, List.cons_append, List.nil_append, List.length_cons, List.getD_cons_zero, List.getD_cons_succ, List.length_nil]
    rw [if_neg (by simp)]
    rw [if_neg (by show ¬ (0 ≤ shortq 120); omega)]
    rw [if_neg (by simp)]
    rw [if_neg (by omega), h3]
  · rw [if_neg hi]
    obtain ⟨h1, h2⟩ := sh_back ⟨n, h⟩ (by show 0 ≤ idq n; omega)
    simp only at h1 h2
    unfold rdql rdq
    simp only [bt_mk, size_mk, List.cons_append, List.nil_append, List.length_cons, List.getD_cons_zero, List.getD_cons_succ, List.length_nil]
    rw [if_neg (by simp), if_pos h1, h2]
theorem esc_head (n : Nat) : ∃ t, escq n = 92 :: t := by rw [escq_eq]; split <;> exact ⟨_, rfl⟩
theorem esc_pos (n : Nat) : 2 ≤ (escq n).length := by rw [escq_eq]; split <;> simp
theorem quo_back : ∀ (L : List Nat) (f k : Nat) (acc : List Nat) (t : List UInt8), (∀ n ∈ L, n < 256) → (L.flatMap signq ++ 34 :: t).length ≤ f → quo f (L.flatMap signq ++ 34 :: t) k acc = ⟨acc ++ L, k + (L.flatMap signq).length + 1, 0, 0⟩
  | [], f, k, acc, t, _, hf => by
    obtain ⟨f, rfl⟩ : ∃ g, f = g + 1 := ⟨f - 1, by simp at hf; omega⟩
    simp [quo]
  | n :: L, f, k, acc, t, hL, hf => by
    have hn : n < 256 := hL n (by simp)
    have ih := fun f k acc => quo_back L f k acc t (fun m hm => hL m (by simp [hm]))
    obtain ⟨f, rfl⟩ : ∃ g, f = g + 1 := ⟨f - 1, by simp at hf; omega⟩
    rw [List.flatMap_cons, List.append_assoc] at hf ⊢
    by_cases hp : plainq n = true
    · have hs : signq n = [UInt8.ofNat n] := by unfold signq; rw [if_pos hp]
      have hv : (UInt8.ofNat n).toNat = n := by simp; omega
      have hp' := hp
      unfold plainq at hp'
      simp at hp'
      rw [hs] at hf ⊢
      simp only [List.cons_append, List.nil_append, quo, hv]
      rw [if_neg (by omega), if_neg (by omega), if_pos hp]
      rw [ih f (k + 1) (acc ++ [n]) (by simp at hf ⊢; omega)]
      simp; omega
    · have hs : signq n = escq n := by unfold signq; rw [if_neg hp]
      rw [hs] at hf ⊢
      have hr := rdql_esc n hn (L.flatMap signq ++ 34 :: t)
      have hl := esc_pos n
      obtain ⟨t', ht'⟩ := esc_head n
      generalize escq n = E at *
      subst ht'
      simp only [List.cons_append] at hr hf ⊢
      simp only [quo, hr]
      rw [if_neg (by decide), if_pos (by decide), if_neg (by omega)]
      have hd : List.drop (92 :: t').length (92 :: (t' ++ (L.flatMap signq ++ 34 :: t))) = L.flatMap signq ++ 34 :: t := by
        simp
      rw [hd, ih f _ _ (by simp at hf ⊢; omega)]
      simp; omega
theorem quoteL_len (L : List Nat) (hL : ∀ n ∈ L, n < 256) : (quoteL L).length ≤ 4 * L.length + 2 := by
  have := flat_le L hL
  unfold quoteL; rw [List.length_append, List.length_append]; simp only [List.length_cons, List.length_nil]; omega
theorem quoted_back (L : List Nat) (hL : ∀ n ∈ L, n < 256) (t : List UInt8) : quoted (quoteL L ++ t) = ⟨L, (quoteL L).length, 0, 0⟩ := by
  have e : quoteL L ++ t = 34 :: (L.flatMap signq ++ 34 :: t) := by unfold quoteL; simp
  unfold quoted
  rw [e, List.drop_succ_cons, List.drop_zero, quo_back L _ 1 [] t hL (by simp)]
  unfold quoteL
  rw [List.length_append, List.length_append, List.nil_append]
  rfl
theorem unq_back (L : List Nat) (hL : ∀ n ∈ L, n < 256) (hl : 4 * L.length + 2 ≤ 65536) : unq (quoteL L) = (L, 0, 0) := by
  have h1 := quoteL_len L hL
  have h2 := quoted_back L hL []
  rw [List.append_nil] at h2
  unfold unq
  rw [if_neg (by omega), if_neg (by unfold quoteL; simp), h2]
  simp
theorem quote_inj {a b : List Nat} (ha : ∀ n ∈ a, n < 256) (hb : ∀ n ∈ b, n < 256) (h : quoteL a = quoteL b) : a = b := by
  have h1 := quoted_back a ha []
  have h2 := quoted_back b hb []
  rw [h, h2] at h1
  exact (congrArg Quo.bytes h1).symm
def strN (L : List Nat) : ByteArray := strOfNums (L.map (fun n : Nat => (n : Int)))
theorem strN_inj {a b : List Nat} (ha : ∀ n ∈ a, n < 256) (hb : ∀ n ∈ b, n < 256) (h : strN a = strN b) : a = b := by
  have h1 : (strN a).data.toList = (strN b).data.toList := by rw [h]
  unfold strN at h1
  rw [strOfNums_data, strOfNums_data, List.map_map, List.map_map] at h1
  have key : ∀ l : List Nat, (∀ n ∈ l, n < 256) → (l.map ((fun n => UInt8.ofNat n.toNat) ∘ fun n : Nat => (n : Int))).map UInt8.toNat = l := by
    intro l hl
    rw [List.map_map]
    conv => rhs; rw [← List.map_id l]
    apply List.map_congr_left
    intro n hn
    have := hl n hn
    simp; omega
  have h2 := congrArg (List.map UInt8.toNat) h1
  rw [key a ha, key b hb] at h2
  exact h2
end Go.Proofs.Ytbbmjnhbmcbehaa
