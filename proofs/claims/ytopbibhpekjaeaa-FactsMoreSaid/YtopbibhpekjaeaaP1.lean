/- A rule more, rules in another order, the productive rules alone: no program in it. -/
import Derived.Test.YtopbibhpekjaeaaH0
namespace Go.Proofs.Ytopbibhpekjaeaa

section
variable {rs qs : List Rl} (h : ∀ r ∈ rs, r ∈ qs)
include h
theorem LfS.more {p : St → Bool} {l : List Ks} (hl : LfS rs p l) : LfS qs p l := by
  induction hl with
  | nil => exact .nil
  | byte h1 h2 _ ih => exact .byte h1 h2 ih
  | nt h1 hr he _ _ ih1 ih2 => exact .nt h1 (h _ hr) he ih1 ih2
theorem Lf.more {p : St → Bool} {n : Nat} (hl : Lf rs p n) : Lf qs p n := by
  obtain ⟨r, hr, he, hs⟩ := hl; exact ⟨r, h r hr, he, hs.more h⟩
theorem LnS.more {l : List Ks} {k : Nat} (hl : LnS rs l k) : LnS qs l k := by
  induction hl with
  | nil => exact .nil
  | byte h1 h2 _ ih => exact .byte h1 h2 ih
  | nt h1 hr he _ _ ih1 ih2 => exact .nt h1 (h _ hr) he ih1 ih2
theorem Ln.more {n k : Nat} (hl : Ln rs n k) : Ln qs n k := by
  obtain ⟨r, hr, he, hs⟩ := hl; exact ⟨r, h r hr, he, hs.more h⟩
theorem Nl.more {s : Ks} (hl : Nl rs s) : Nl qs s := ⟨hl.1, hl.2.more h⟩
theorem Fst.more {n b : Nat} (hl : Fst rs n b) : Fst qs n b := by
  induction hl with
  | byte hr he hp hs hb => exact .byte (h _ hr) he (fun x hx => (hp x hx).more h) hs hb
  | nt hr he hp hs _ ih => exact .nt (h _ hr) he (fun x hx => (hp x hx).more h) hs ih
theorem Lead.more {a b : Nat} (hl : Lead rs a b) : Lead qs a b := by
  obtain ⟨r, hr, he, pre, s, post, e, hs, hp⟩ := hl
  exact ⟨r, h r hr, he, pre, s, post, e, hs, fun x hx => (hp x hx).more h⟩
theorem Cyc.more {N : Nat} (hc : Cyc N rs) : Cyc N qs := fun ⟨rank, hk⟩ => hc ⟨rank, fun a b ha hl => hk a b ha (hl.more h)⟩
end
theorem short_one {N : Nat} {rs qs : List Rl} {a b : List Int} (hA : ShortOk N rs a) (hB : ShortOk N qs b) (h : ∀ x k, Ln rs x k ↔ Ln qs x k) : a = b := by
  refine List.ext_getElem? fun x => ?_
  by_cases hx : x < N
  · have e1 : a[x]? = some (a.getD x 0) := by rw [List.getD_eq_getElem?_getD, List.getElem?_eq_getElem (by rw [hA.1]; exact hx)]; rfl
    have e2 : b[x]? = some (b.getD x 0) := by rw [List.getD_eq_getElem?_getD, List.getElem?_eq_getElem (by rw [hB.1]; exact hx)]; rfl
    rw [e1, e2]
    congr 1
    rcases hA.2 x hx with ⟨a1, a2⟩ | ⟨k, hk, hm, hv⟩
    · rcases hB.2 x hx with ⟨b1, b2⟩ | ⟨k', hk', hm', hv'⟩
      · rw [a1, b1]
      · exact absurd ⟨k', (h x k').2 hk'⟩ a2
    · rcases hB.2 x hx with ⟨b1, b2⟩ | ⟨k', hk', hm', hv'⟩
      · exact absurd ⟨k, (h x k).1 hk⟩ b2
      · have l1 := hm k' ((h x k').2 hk')
        have l2 := hm' k ((h x k).1 hk)
        have : k = k' := by omega
        rw [hv, hv', this]
  · rw [List.getElem?_eq_none (by rw [hA.1]; omega), List.getElem?_eq_none (by rw [hB.1]; omega)]
theorem okB_mem {G X : Gm} (h1 : X.nts = G.nts) (h2 : X.start = G.start) (h3 : X.rules.length ≤ G.rules.length) (h4 : ∀ r ∈ X.rules, r ∈ G.rules) (h : G.okB = true) : X.okB = true := by
  unfold Gm.okB at *
  simp only [Bool.and_eq_true, decide_eq_true_eq, List.all_eq_true] at *
  rw [h1, h2]
  exact ⟨⟨h.1.1, by omega⟩, fun r hr => h.2 r (h4 r hr)⟩
section
variable {rs qs : List Rl} (h : ∀ r ∈ rs, LfS rs pP r.rhs → r ∈ qs)
include h
theorem LnS.less {l : List Ks} {k : Nat} (hl : LnS rs l k) : LnS qs l k := by
  induction hl with
  | nil => exact .nil
  | byte h1 h2 _ ih => exact .byte h1 h2 ih
  | nt h1 hr he hk _ ih1 ih2 => exact .nt h1 (h _ hr (lns_lf.2 ⟨_, hk⟩)) he ih1 ih2
theorem Ln.less {n k : Nat} (hl : Ln rs n k) : Ln qs n k := by
  obtain ⟨r, hr, he, hs⟩ := hl; exact ⟨r, h r hr (lns_lf.2 ⟨_, hs⟩), he, hs.less h⟩
end
/-- Marks of what is productive tell whether a row of symbols is. -/
theorem all_lfs {rs : List Rl} {so : List Bool} (h : ∀ m, so.getD m false = true ↔ Lf rs pP m) (h0 : ∀ r ∈ rs, 0 ≤ r.lhs) (l : List Ks) : l.all (symSo pP so) = true ↔ LfS rs pP l := by
  constructor
  · intro ha
    refine lfs_of_all l fun s hs => ?_
    have h1 := List.all_eq_true.1 ha s hs
    unfold symSo at h1
    split at h1
    · rename_i hn; exact .inl ⟨hn, h1⟩
    · rename_i hn; exact .inr ⟨by omega, (h _).1 h1⟩
  · intro hf
    refine List.all_eq_true.2 (lfs_closed (so := so) (fun r hr ha => ?_) hf)
    have hr0 := h0 r hr
    refine (h _).2 ⟨r, hr, by omega, lfs_of_all _ fun s hs => ?_⟩
    have h1 := ha s hs
    unfold symSo at h1
    split at h1
    · rename_i hn; exact .inl ⟨hn, h1⟩
    · rename_i hn; exact .inr ⟨by omega, (h _).1 h1⟩
end Go.Proofs.Ytopbibhpekjaeaa
