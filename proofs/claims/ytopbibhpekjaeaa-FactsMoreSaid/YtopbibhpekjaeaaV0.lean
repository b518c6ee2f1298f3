/- Two fixed grammars: sums, and a loop. No program in it. -/
import Derived.Test.YtopbibhpekjaeaaN4
namespace Go.Proofs.Ytopbibhpekjaeaa

def dg : St := ⟨287948901175001088, 0, 0, 0⟩
def pl : St := ⟨8796093022208, 0, 0, 0⟩
def sumR : List Rl := [⟨0, [⟨0, St.zero⟩, ⟨-1, pl⟩, ⟨0, St.zero⟩]⟩, ⟨0, [⟨1, St.zero⟩]⟩, ⟨1, [⟨-1, dg⟩]⟩]
def loopR : List Rl := [⟨0, [⟨0, St.zero⟩]⟩]
theorem sum_ok : (Gm.mk 2 0 sumR).okB = true := by decide
theorem loop_ok : (Gm.mk 1 0 loopR).okB = true := by decide
theorem none_ok : (Gm.mk 0 0 []).okB = false := by decide
theorem sum_size : szs sumR = 8 := by decide
theorem sum_one : Ln sumR 0 1 := by
  refine ⟨⟨0, [⟨1, St.zero⟩]⟩, by simp [sumR], rfl, ?_⟩
  exact LnS.nt (k1 := 1) (k2 := 0) (r := ⟨1, [⟨-1, dg⟩]⟩) (by decide) (by simp [sumR]) rfl (.byte (k := 0) (by decide) (by decide) .nil) .nil
theorem sum_lf : Lf sumR pP 0 := ln_lf.2 ⟨1, sum_one⟩
theorem sum_rhs : ∀ r ∈ sumR, r.rhs ≠ [] := by
  intro r hr
  simp only [sumR, List.mem_cons, List.not_mem_nil, or_false] at hr
  rcases hr with rfl | rfl | rfl <;> simp
theorem sum_pos {l : List Ks} {k : Nat} (h : LnS sumR l k) : l ≠ [] → 1 ≤ k := by
  induction h with
  | nil => intro h; exact absurd rfl h
  | byte _ _ _ _ => intro _; omega
  | nt _ hr _ _ _ ih1 _ => intro _; have := ih1 (sum_rhs _ hr); omega
theorem sum_short {sh : List Int} (h : ShortOk 2 sumR sh) : sh.getD 0 0 = 1 := by
  rcases h.2 0 (by omega) with ⟨_, hn⟩ | ⟨k, hk, hmin, he⟩
  · exact absurd ⟨1, sum_one⟩ hn
  · have h1 := hmin 1 sum_one
    obtain ⟨r, hr, _, hl⟩ := hk
    have h2 := sum_pos hl (sum_rhs r hr)
    have : k = 1 := by omega
    subst this
    rw [he]; rfl
theorem sum_nul {l : List Ks} (h : LfS sumR pN l) : l = [] := by
  induction h with
  | nil => rfl
  | byte _ h2 _ _ => exact absurd h2 (by simp [pN])
  | nt _ hr _ _ _ ih1 _ => exact absurd ih1 (sum_rhs _ hr)
theorem sum_nl (s : Ks) : ¬ Nl sumR s := fun ⟨_, r, hr, _, h⟩ => sum_rhs r hr (sum_nul h)
theorem sum_fst {n b : Nat} (h : Fst sumR n b) : dg.has b = true := by
  induction h with
  | @byte r pre s post b hr he hp hn hb =>
    cases pre with
    | cons x l => exact absurd (hp x List.mem_cons_self) (sum_nl x)
    | nil =>
      simp only [sumR, List.mem_cons, List.not_mem_nil, or_false] at hr
      rcases hr with rfl | rfl | rfl
      · simp at he; rw [← he.1] at hn; simp at hn
      · simp at he; rw [← he.1] at hn; simp at hn
      · simp at he; rw [← he.1] at hb; exact hb
  | nt _ _ _ _ _ ih => exact ih
theorem sum_fst' {b : Nat} (h : dg.has b = true) : Fst sumR 0 b :=
  Fst.nt (r := ⟨0, [⟨1, St.zero⟩]⟩) (pre := []) (s := ⟨1, St.zero⟩) (post := []) (by simp [sumR]) rfl (by simp) (by decide) (Fst.byte (r := ⟨1, [⟨-1, dg⟩]⟩) (pre := []) (s := ⟨-1, dg⟩) (post := []) (by simp [sumR]) rfl (by simp) (by decide) h)
theorem loop_cyc : Cyc 1 loopR := fun ⟨rank, h⟩ => by
  have := h 0 0 (by omega) ⟨⟨0, [⟨0, St.zero⟩]⟩, by simp [loopR], rfl, [], ⟨0, St.zero⟩, [], rfl, rfl, by simp⟩
  omega
theorem sum_first {s : St} (hs : s.ok) (h : ∀ b, b < 256 → (s.has b = true ↔ Fst sumR 0 b)) : s = dg := by
  refine St.ext' hs (by unfold St.ok dg; decide) fun b hb => ?_
  by_cases hh : dg.has b = true
  · rw [hh]; exact (h b hb).2 (sum_fst' hh)
  · have : ¬ s.has b = true := fun e => hh (sum_fst ((h b hb).1 e))
    simp at hh this
    rw [hh, this]
end Go.Proofs.Ytopbibhpekjaeaa
