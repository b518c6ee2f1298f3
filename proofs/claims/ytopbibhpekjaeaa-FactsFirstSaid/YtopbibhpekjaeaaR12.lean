/- The first bytes, found by looking at all rules again and again: no program in it. -/
import Derived.Test.YtopbibhpekjaeaaR1
import Derived.Test.YtopbibhpekjaeaaF3
namespace Go.Proofs.Ytopbibhpekjaeaa

def valF (out : List St) (s : Ks) : St := if 0 ≤ s.nt then out.getD s.nt.toNat St.zero else s.set
def ahd (so : List Bool) (l : List Ks) (k : Nat) : Bool := (l.take k).all (symSo pN so)
def frO (so : List Bool) (out : List St) (m : Nat) (l : List Ks) : Nat → List St
  | 0 => out
  | k + 1 => if ahd so l k then (match l[k]? with
      | some s => (frO so out m l k).set m (((frO so out m l k).getD m St.zero).or (valF (frO so out m l k) s))
      | none => frO so out m l k) else frO so out m l k
def frL (rs : List Rl) (so : List Bool) (out : List St) : Nat → List St
  | 0 => out
  | i + 1 => frO so (frL rs so out i) (lhsAt rs i).toNat (rhsAt rs i) (rhsAt rs i).length
def frR (N : Nat) (rs : List Rl) (so : List Bool) : Nat → List St
  | 0 => List.replicate N St.zero
  | n + 1 => frL rs so (frR N rs so n) rs.length
theorem frO_len (so : List Bool) (out : List St) (m : Nat) (l : List Ks) : ∀ k, (frO so out m l k).length = out.length
  | 0 => rfl
  | k + 1 => by
    have := frO_len so out m l k
    rw [frO]
    split
    · split <;> simp [this]
    · exact this
theorem frL_len (rs : List Rl) (so : List Bool) (out : List St) : ∀ i, (frL rs so out i).length = out.length
  | 0 => rfl
  | i + 1 => by rw [frL, frO_len, frL_len rs so out i]
theorem frR_len (N : Nat) (rs : List Rl) (so : List Bool) : ∀ n, (frR N rs so n).length = N
  | 0 => by simp [frR]
  | n + 1 => by rw [frR, frL_len, frR_len N rs so n]
theorem ahd_succ (so : List Bool) {l : List Ks} {k : Nat} {s : Ks} (h : l[k]? = some s) : ahd so l (k + 1) = (ahd so l k && symSo pN so s) := by
  unfold ahd; rw [List.take_add_one, h]; simp
theorem ahd_down {so : List Bool} {l : List Ks} {k j : Nat} (h : ahd so l k = true) (hj : j ≤ k) : ahd so l j = true := by
  unfold ahd at *
  rw [List.all_eq_true] at *
  intro x hx
  refine h x ?_
  have : l.take j = (l.take k).take j := by rw [List.take_take, Nat.min_eq_left hj]
  rw [this] at hx
  exact List.mem_of_mem_take hx
theorem frO_stop {so : List Bool} {out : List St} {m : Nat} {l : List Ks} {k : Nat} (h : ahd so l k = false) : ∀ d, frO so out m l (k + d) = frO so out m l k
  | 0 => rfl
  | d + 1 => by
    rw [← Nat.add_assoc, frO]
    have hf : ahd so l (k + d) = false := by
      cases hx : ahd so l (k + d)
      · rfl
      · rw [ahd_down hx (by omega)] at h; cases h
    rw [hf]
    simpa using frO_stop h d
theorem frO_step {so : List Bool} {out : List St} {m : Nat} {l : List Ks} {k : Nat} {s : Ks} (hs : l[k]? = some s) (ha : ahd so l k = true) : frO so out m l (k + 1) = (frO so out m l k).set m (((frO so out m l k).getD m St.zero).or (valF (frO so out m l k) s)) := by
  rw [frO, ha, hs]; rfl
theorem getD_setS (out : List St) (m n : Nat) (x : St) (hm : m < out.length) : (out.set m x).getD n St.zero = if n = m then x else out.getD n St.zero := by
  rw [List.getD_eq_getElem?_getD, List.getD_eq_getElem?_getD, List.getElem?_set]
  by_cases h : n = m
  · subst h; simp [hm]
  · rw [if_neg (fun e => h e.symm), if_neg h]
structure FS (N : Nat) (rs : List Rl) (out : List St) : Prop where
  len : out.length = N
  ok : ∀ x, (out.getD x St.zero).ok
  snd : ∀ x b, b < 256 → (out.getD x St.zero).has b = true → Fst rs x b
section
variable {N : Nat} {rs : List Rl} {so : List Bool} (hso : ∀ m, so.getD m false = true ↔ Lf rs pN m)
include hso
theorem frO_snd {out : List St} (h : FS N rs out) {r : Rl} (hr : r ∈ rs) {m : Nat} (he : r.lhs = (m : Int)) (hm : m < N) (hok : ∀ s ∈ r.rhs, s.set.ok) : ∀ k, FS N rs (frO so out m r.rhs k)
  | 0 => h
  | k + 1 => by
    have ih := frO_snd h hr he hm hok k
    cases hs : r.rhs[k]? with
    | none =>
      have : frO so out m r.rhs (k + 1) = frO so out m r.rhs k := by rw [frO, hs]; simp
      rw [this]; exact ih
    | some s =>
      cases ha : ahd so r.rhs k with
      | false =>
        have : frO so out m r.rhs (k + 1) = frO so out m r.rhs k := frO_stop ha 1
        rw [this]; exact ih
      | true =>
        rw [frO_step hs ha]
        have hvo : (valF (frO so out m r.rhs k) s).ok := by
          unfold valF; split
          · exact ih.ok _
          · exact hok s (List.mem_of_getElem? hs)
        refine ⟨by rw [List.length_set]; exact ih.len, fun x => ?_, fun x b hb hx => ?_⟩
        · rw [getD_setS _ _ _ _ (by rw [ih.len]; exact hm)]; split
          · exact St.or_ok (ih.ok _) hvo
          · exact ih.ok x
        · rw [getD_setS _ _ _ _ (by rw [ih.len]; exact hm)] at hx
          split at hx
          · rename_i e
            subst e
            rw [St.has_or] at hx
            rcases Bool.or_eq_true _ _ ▸ hx with hx | hx
            · exact ih.snd x b hb hx
            · have hk := (List.getElem?_eq_some_iff.1 hs).1
              have hd : r.rhs = r.rhs.take k ++ s :: r.rhs.drop (k + 1) := by
                have : r.rhs.drop k = s :: r.rhs.drop (k + 1) := by
                  rw [List.drop_eq_getElem_cons hk]
                  congr 1
                  exact (List.getElem?_eq_some_iff.1 hs).2
                rw [← this, List.take_append_drop]
              have hp : ∀ y ∈ r.rhs.take k, Nl rs y := fun y hy => (sym_nl hso y).1 (List.all_eq_true.1 ha y hy)
              have key : Fst rs r.lhs.toNat b := by
                unfold valF at hx
                split at hx
                · rename_i hn; exact .nt hr hd hp hn (ih.snd _ b hb hx)
                · rename_i hn; exact .byte hr hd hp (by omega) hx
              rw [he] at key; simpa using key
          · exact ih.snd x b hb hx
omit hso in
theorem frO_up {out : List St} {m : Nat} {l : List Ks} (hm : m < out.length) (x b : Nat) (hx : (out.getD x St.zero).has b = true) : ∀ k, ((frO so out m l k).getD x St.zero).has b = true
  | 0 => hx
  | k + 1 => by
    have ih := frO_up (l := l) hm x b hx k
    rw [frO]
    split
    · split
      · rw [getD_setS _ _ _ _ (by rw [frO_len]; exact hm)]; split
        · rename_i e
          subst e
          rw [St.has_or, ih]; rfl
        · exact ih
      · exact ih
    · exact ih
omit hso in
theorem frO_full {out : List St} {m : Nat} {l : List Ks} (hm : m < out.length) {j : Nat} {s : Ks} (hs : l[j]? = some s) (ha : ahd so l j = true) {b : Nat} (hv : (valF out s).has b = true) : ∀ k, j < k → ((frO so out m l k).getD m St.zero).has b = true
  | 0, h => by omega
  | k + 1, h => by
    by_cases e : j = k
    · subst e
      rw [frO_step hs ha, getD_setS _ _ _ _ (by rw [frO_len]; exact hm), if_pos rfl, St.has_or]
      have : (valF (frO so out m l j) s).has b = true := by
        unfold valF at *
        split
        · rename_i hn; rw [if_pos hn] at hv; exact frO_up hm _ b hv j
        · rename_i hn; rw [if_neg hn] at hv; exact hv
      rw [this]; simp
    · have ih := frO_full hm hs ha hv k (by omega)
      rw [frO]
      split
      · split
        · rw [getD_setS _ _ _ _ (by rw [frO_len]; exact hm), if_pos rfl, St.has_or, ih]; rfl
        · exact ih
      · exact ih
end
section
variable {N : Nat} {rs : List Rl} {so : List Bool} (hso : ∀ m, so.getD m false = true ↔ Lf rs pN m) (hok : Ok N rs) (hset : ∀ r ∈ rs, ∀ s ∈ r.rhs, s.set.ok)
include hso hok hset
theorem frL_ok {out : List St} (h : FS N rs out) : ∀ i, i ≤ rs.length → FS N rs (frL rs so out i) ∧ ∀ x b, (out.getD x St.zero).has b = true → ((frL rs so out i).getD x St.zero).has b = true
  | 0, _ => ⟨h, fun _ _ h => h⟩
  | i + 1, hi => by
    obtain ⟨i1, i2⟩ := frL_ok h i (by omega)
    obtain ⟨r, hr⟩ : ∃ r, rs[i]? = some r := ⟨rs[i]'(by omega), by simp⟩
    have e1 : rhsAt rs i = r.rhs := by unfold rhsAt; rw [hr]
    have e2 : lhsAt rs i = r.lhs := by unfold lhsAt; rw [hr]
    have hm := List.mem_of_getElem? hr
    have hlh := hok.lhs r hm
    rw [frL, e1, e2]
    exact ⟨frO_snd hso i1 hm (by omega) (by omega) (hset r hm) _, fun x b hx => frO_up (by rw [i1.len]; omega) x b (i2 x b hx) _⟩
theorem frL_new {out : List St} (h : FS N rs out) {r : Rl} (hr : r ∈ rs) {pre post : List Ks} {s : Ks} (e : r.rhs = pre ++ s :: post) (hp : ∀ x ∈ pre, Nl rs x) {b : Nat} (hv : (valF out s).has b = true) : ((frL rs so out rs.length).getD r.lhs.toNat St.zero).has b = true := by
  obtain ⟨i, hi⟩ := List.mem_iff_getElem?.1 hr
  have hil := (List.getElem?_eq_some_iff.1 hi).1
  have hlh := hok.lhs r hr
  have at1 : ((frL rs so out (i + 1)).getD r.lhs.toNat St.zero).has b = true := by
    obtain ⟨i1, i2⟩ := frL_ok hso hok hset h i (by omega)
    have e1 : rhsAt rs i = r.rhs := by unfold rhsAt; rw [hi]
    have e2 : lhsAt rs i = r.lhs := by unfold lhsAt; rw [hi]
    rw [frL, e1, e2]
    refine frO_full (j := pre.length) (s := s) (by rw [i1.len]; omega) (by rw [e]; simp) ?_ ?_ _ (by rw [e]; simp)
    · unfold ahd; rw [e]; simp only [List.take_left']
      exact List.all_eq_true.2 fun x hx => (sym_nl hso x).2 (hp x hx)
    · unfold valF at *
      split
      · rename_i hn; rw [if_pos hn] at hv; exact i2 _ b hv
      · rename_i hn; rw [if_neg hn] at hv; exact hv
  have up : ∀ d, i + 1 + d ≤ rs.length → ((frL rs so out (i + 1 + d)).getD r.lhs.toNat St.zero).has b = true := by
    intro d
    induction d with
    | zero => intro _; exact at1
    | succ d ih =>
      intro hd
      have := ih (by omega)
      obtain ⟨i1, _⟩ := frL_ok hso hok hset h (i + 1 + d) (by omega)
      obtain ⟨q, hq⟩ : ∃ q, rs[i + 1 + d]? = some q := ⟨rs[i + 1 + d]'(by omega), by simp⟩
      have hqm := List.mem_of_getElem? hq
      have hql := hok.lhs q hqm
      have e2 : lhsAt rs (i + 1 + d) = q.lhs := by unfold lhsAt; rw [hq]
      rw [← Nat.add_assoc, frL, e2]
      exact frO_up (by rw [i1.len]; omega) _ b this _
  have := up (rs.length - (i + 1)) (by omega)
  rwa [show i + 1 + (rs.length - (i + 1)) = rs.length by omega] at this
theorem frR_ok : ∀ n, FS N rs (frR N rs so n)
  | 0 => by
    have hz : ∀ x, (frR N rs so 0).getD x St.zero = St.zero := fun x => by
      simp only [frR]
      rw [List.getD_eq_getElem?_getD, List.getElem?_replicate]; split <;> rfl
    exact ⟨by simp [frR], fun x => by rw [hz]; exact St.zero_ok, fun x b _ hx => by rw [hz, St.has_zero] at hx; cases hx⟩
  | n + 1 => (frL_ok hso hok hset (frR_ok n) _ (Nat.le_refl _)).1
theorem frR_new {n b : Nat} {x : Nat} (hx : Fst rs x b) : ((frR N rs so n).getD x St.zero).has b = false → ∃ y, y < N ∧ ((frR N rs so n).getD y St.zero).has b = false ∧ ((frR N rs so (n + 1)).getD y St.zero).has b = true := by
  induction hx with
  | @byte r pre s post b hr e hp hn hb =>
    intro hf
    have hlh := hok.lhs r hr
    exact ⟨r.lhs.toNat, by omega, hf, frL_new hso hok hset (frR_ok hso hok hset n) hr e hp (by unfold valF; rw [if_neg (by omega)]; exact hb)⟩
  | @nt r pre s post b hr e hp hn _ ih =>
    intro hf
    cases hq : ((frR N rs so n).getD s.nt.toNat St.zero).has b with
    | false => exact ih hq
    | true =>
      have hlh := hok.lhs r hr
      exact ⟨r.lhs.toNat, by omega, hf, frL_new hso hok hset (frR_ok hso hok hset n) hr e hp (by unfold valF; rw [if_pos hn]; exact hq)⟩
theorem frR_grow (b : Nat) : ∀ n, (∀ x, Fst rs x b → ((frR N rs so n).getD x St.zero).has b = true) ∨ n ≤ ((List.range N).map fun x => ((frR N rs so n).getD x St.zero).has b).count true
  | 0 => .inr (Nat.zero_le _)
  | n + 1 => by
    have hup := fun x => (frL_ok hso hok hset (frR_ok hso hok hset n) _ (Nat.le_refl _)).2 x b
    by_cases hall : ∀ x, Fst rs x b → ((frR N rs so n).getD x St.zero).has b = true
    · exact .inl fun x hx => hup x (hall x hx)
    · rcases frR_grow b n with h1 | h1
      · exact absurd h1 hall
      · right
        obtain ⟨x, hx⟩ := Classical.not_forall.1 hall
        obtain ⟨hxF, hxn⟩ := Classical.not_imp.1 hx
        obtain ⟨y, hy, hyn, hyt⟩ := frR_new hso hok hset (n := n) hxF (by simpa using hxn)
        have hg : ∀ (out : List St) m, ((List.range N).map fun x => (out.getD x St.zero).has b).getD m false = true ↔ m < N ∧ (out.getD m St.zero).has b = true := fun out m => by
          rw [List.getD_eq_getElem?_getD]
          by_cases hm : m < N <;> simp [hm]
        have := count_up (a := (List.range N).map fun x => ((frR N rs so n).getD x St.zero).has b) (b := (List.range N).map fun x => ((frR N rs so (n + 1)).getD x St.zero).has b) (by simp) (fun m hm => by
          rw [hg] at hm ⊢
          exact ⟨hm.1, hup m hm.2⟩) (fun e => by
            have h2 := (hg (frR N rs so (n + 1)) y).2 ⟨hy, hyt⟩
            rw [← e] at h2
            rw [((hg _ _).1 h2).2] at hyn; cases hyn)
        omega
theorem frR_done (n b : Nat) (hb : b < 256) : ((frR N rs so N).getD n St.zero).has b = true ↔ Fst rs n b := by
  refine ⟨(frR_ok hso hok hset N).snd n b hb, fun hF => ?_⟩
  rcases frR_grow hso hok hset b N with h1 | h1
  · exact h1 n hF
  · have hn : n < N := by
      cases hF with
      | byte hr _ _ _ _ => have := hok.lhs _ hr; omega
      | nt hr _ _ _ _ => have := hok.lhs _ hr; omega
    have := all_true (l := (List.range N).map fun x => ((frR N rs so N).getD x St.zero).has b) (by simpa using h1) n (by simpa using hn)
    simpa [List.getD_eq_getElem?_getD, hn] using this
end
end Go.Proofs.Ytopbibhpekjaeaa
