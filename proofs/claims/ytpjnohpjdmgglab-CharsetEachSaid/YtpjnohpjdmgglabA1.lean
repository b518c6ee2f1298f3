/- Plain facts on the texts of sets: unlike sets have unlike texts. -/
import Derived.Test.YtpjnohpjdmgglabW9
namespace Go.Proofs.Ytpjnohpjdmgglab

def encT (k : Nat) : List UInt8 := if k = 256 then [45] else signL k
def tok (r : Nat × Nat) : List Nat := if r.1 + 1 < r.2 then [r.1, 256, r.2] else if r.1 < r.2 then [r.1, r.2] else [r.1]
theorem item_tok (r : Nat × Nat) (h1 : r.1 < 256) (h2 : r.2 < 256) : itemL r = (tok r).flatMap encT := by
  have e1 : encT r.1 = signL r.1 := by unfold encT; rw [if_neg (by omega)]
  have e2 : encT r.2 = signL r.2 := by unfold encT; rw [if_neg (by omega)]
  have e3 : encT 256 = [45] := by unfold encT; rw [if_pos rfl]
  unfold itemL tok
  by_cases a : r.1 + 1 < r.2
  · have b : r.1 < r.2 := by omega
    rw [if_pos a, if_pos a, if_pos b]; simp [e1, e2, e3]
  · rw [if_neg a, if_neg a]
    by_cases b : r.1 < r.2
    · rw [if_pos b, if_pos b]; simp [e1, e2]
    · rw [if_neg b, if_neg b]; simp [e1]

theorem enc_free : ∀ m n : Fin 257, (encT m.val).isPrefixOf (encT n.val) = true → m = n := by decide +kernel
theorem enc_head : ∀ m : Fin 257, (encT m.val).head? ≠ some 93 ∧ encT m.val ≠ [] := by decide +kernel
theorem prefix_or {α : Type} [BEq α] [LawfulBEq α] : ∀ (a b x y : List α), a ++ x = b ++ y → a.isPrefixOf b = true ∨ b.isPrefixOf a = true
  | [], _, _, _, _ => .inl (by simp)
  | _ :: _, [], _, _, _ => .inr (by simp)
  | c :: a, d :: b, x, y, h => by
    simp only [List.cons_append, List.cons.injEq] at h
    obtain ⟨rfl, h⟩ := h
    rcases prefix_or a b x y h with h' | h'
    · exact .inl (by simpa using h')
    · exact .inr (by simpa using h')
theorem dec_unique : ∀ (ts us : List Nat), (∀ k ∈ ts, k ≤ 256) → (∀ k ∈ us, k ≤ 256) → ts.flatMap encT ++ [93] = us.flatMap encT ++ [93] → ts = us
  | [], [], _, _, _ => rfl
  | [], u :: us, _, hu, h => by
    have hb := enc_head ⟨u, by have := hu u (by simp); omega⟩
    simp only at hb
    rw [List.flatMap_cons] at h
    cases he : encT u with
    | nil => exact absurd he hb.2
    | cons c l => rw [he] at h; simp at h
  | t :: ts, [], ht, _, h => by
    have hb := enc_head ⟨t, by have := ht t (by simp); omega⟩
    simp only at hb
    rw [List.flatMap_cons] at h
    cases he : encT t with
    | nil => exact absurd he hb.2
    | cons c l => rw [he] at h; simp at h
  | t :: ts, u :: us, ht, hu, h => by
    have ht' : t < 257 := by have := ht t (by simp); omega
    have hu' : u < 257 := by have := hu u (by simp); omega
    rw [List.flatMap_cons, List.flatMap_cons, List.append_assoc, List.append_assoc] at h
    have e : t = u := by
      rcases prefix_or _ _ _ _ h with h' | h'
      · have := enc_free ⟨t, ht'⟩ ⟨u, hu'⟩ h'; simpa using this
      · have := enc_free ⟨u, hu'⟩ ⟨t, ht'⟩ h'; simp at this; exact this.symm
    subst e
    rw [dec_unique ts us (fun k hk => ht k (by simp [hk])) (fun k hk => hu k (by simp [hk])) (List.append_cancel_left h)]

def dec : List Nat → Nat → Bool
  | a :: 256 :: b :: rest, n => (decide (a ≤ n) && decide (n ≤ b)) || dec rest n
  | a :: rest, n => decide (n = a) || dec rest n
  | [], _ => false
def small (l : List Nat) : Prop := l.head? ≠ some 256
theorem dec_one (a : Nat) (l : List Nat) (n : Nat) (h : small l) : dec (a :: l) n = (decide (n = a) || dec l n) := by
  match l, h with
  | [], _ => rfl
  | b :: l, h =>
    have : b ≠ 256 := by intro e; subst e; exact h rfl
    conv => lhs; unfold dec
    split
    · next heq => simp at heq; exact absurd heq.2.1 this
    · next heq => simp at heq; obtain ⟨rfl, rfl⟩ := heq; rfl
    · next heq => simp at heq
theorem dec_tok (r : Nat × Nat) (l : List Nat) (n : Nat) (h1 : r.1 ≤ r.2) (h2 : r.2 < 256) (h : small l) : dec (tok r ++ l) n = ((decide (r.1 ≤ n) && decide (n ≤ r.2)) || dec l n) := by
  unfold tok
  by_cases a : r.1 + 1 < r.2
  · rw [if_pos a]; rfl
  · rw [if_neg a]
    by_cases b : r.1 < r.2
    · rw [if_pos b]
      have hs : small (r.2 :: l) := by unfold small; simp; omega
      show dec (r.1 :: (r.2 :: l)) n = _
      rw [dec_one _ _ _ hs, dec_one _ _ _ h, ← Bool.or_assoc]
      congr 1
      rw [Bool.eq_iff_iff]; simp; omega
    · rw [if_neg b]
      show dec (r.1 :: l) n = _
      rw [dec_one _ _ _ h]
      congr 1
      rw [Bool.eq_iff_iff]; simp; omega
theorem tok_small (r : Nat × Nat) (l : List Nat) (h : r.1 < 256) : small (tok r ++ l) := by
  unfold small tok; split
  · simp; omega
  · split <;> (simp; omega)
theorem toks_small : ∀ (rs : List (Nat × Nat)), (∀ r ∈ rs, r.1 < 256) → small (rs.flatMap tok)
  | [], _ => by simp [small]
  | r :: rs, h => by rw [List.flatMap_cons]; exact tok_small r _ (h r (by simp))
theorem dec_toks : ∀ (rs : List (Nat × Nat)) (n : Nat), (∀ r ∈ rs, r.1 < 256 ∧ r.2 < 256 ∧ r.1 ≤ r.2) → dec (rs.flatMap tok) n = rs.any fun r => decide (r.1 ≤ n) && decide (n ≤ r.2)
  | [], _, _ => rfl
  | r :: rs, n, h => by
    rw [List.flatMap_cons, dec_tok r _ n (h r (by simp)).2.2 (h r (by simp)).2.1 (toks_small rs (fun q hq => (h q (by simp [hq])).1)), dec_toks rs n (fun q hq => h q (by simp [hq])), List.any_cons]

theorem step_any (rs : List (Nat × Nat)) (b n : Nat) (h : ∀ r ∈ rs, r.1 ≤ r.2) (h' : ∀ r ∈ rs, r.2 < b) : ((runStep rs b).any fun r => decide (r.1 ≤ n) && decide (n ≤ r.2)) = ((rs.any fun r => decide (r.1 ≤ n) && decide (n ≤ r.2)) || decide (n = b)) := by
  rcases List.eq_nil_or_concat rs with rfl | ⟨rs', ⟨lo, hi⟩, rfl⟩
  · rw [runStep_nil, Bool.eq_iff_iff]; simp; omega
  · rw [List.concat_eq_append] at *
    by_cases hh : hi + 1 = b
    · rw [runStep_on _ _ _ _ hh, List.any_append, List.any_append, Bool.or_assoc]
      congr 1
      have := h (lo, hi) (by simp)
      simp only at this
      rw [Bool.eq_iff_iff]; simp; omega
    · rw [runStep_off _ _ _ _ hh, List.any_append (xs := rs' ++ [(lo, hi)])]
      congr 1
      rw [Bool.eq_iff_iff]; simp; omega
theorem runs_any_has (s : St) (n : Nat) (hn : n < 256) : ∀ k, k ≤ 256 → ((runsOf (upTo s k)).any fun r => decide (r.1 ≤ n) && decide (n ≤ r.2)) = (decide (n < k) && s.has n)
  | 0, _ => by simp [upTo, runsOf]
  | k + 1, hk => by
    have ih := runs_any_has s n hn k (by omega)
    obtain ⟨h1, h2⟩ := runs_small s k (by omega)
    have hv : (Fin.ofNat 256 k).val = k := by simp [Fin.ofNat]; omega
    cases hh : s.has k with
    | true =>
      rw [upTo_yes hh, runsOf_snoc, hv, step_any _ _ _ (fun r hr => (h1 r hr).2.2) h2, ih]
      by_cases e : n = k
      · subst e; simp [hh]
      · rw [Bool.eq_iff_iff]; simp [e]; omega
    | false =>
      rw [upTo_no hh, ih]
      by_cases e : n = k
      · subst e; simp [hh]
      · rw [Bool.eq_iff_iff]; simp; omega
theorem text_tok : ∀ (rs : List (Nat × Nat)), (∀ r ∈ rs, r.1 < 256 ∧ r.2 < 256 ∧ r.1 ≤ r.2) → rs.flatMap itemL = (rs.flatMap tok).flatMap encT
  | [], _ => rfl
  | r :: rs, h => by
    rw [List.flatMap_cons, List.flatMap_cons, List.flatMap_append, text_tok rs (fun q hq => h q (by simp [hq])), item_tok r (h r (by simp)).1 (h r (by simp)).2.1]
theorem tok_le (r : Nat × Nat) (h1 : r.1 < 256) (h2 : r.2 < 256) : ∀ k ∈ tok r, k ≤ 256 := by
  unfold tok; intro k hk
  split at hk
  · simp at hk; omega
  · split at hk <;> (simp at hk; omega)
theorem print_inj (s t : St) (hs : s.ok) (ht : t.ok) (h : printL s = printL t) : s = t := by
  have a := (runs_small s 256 (Nat.le_refl _)).1
  have b := (runs_small t 256 (Nat.le_refl _)).1
  unfold printL textL at h
  rw [text_tok _ a, text_tok _ b] at h
  simp only [List.cons_append, List.cons.injEq, true_and] at h
  have e := dec_unique _ _
    (fun k hk => by obtain ⟨r, hr, hk⟩ := List.mem_flatMap.1 hk; exact tok_le r (a r hr).1 (a r hr).2.1 k hk)
    (fun k hk => by obtain ⟨r, hr, hk⟩ := List.mem_flatMap.1 hk; exact tok_le r (b r hr).1 (b r hr).2.1 k hk) h
  apply St.ext' hs ht
  intro n hn
  have d1 := dec_toks _ n a
  have d2 := dec_toks _ n b
  rw [e, d2, runs_any_has s n hn 256 (Nat.le_refl _), runs_any_has t n hn 256 (Nat.le_refl _)] at d1
  simpa [hn] using d1.symm

end Go.Proofs.Ytpjnohpjdmgglab
