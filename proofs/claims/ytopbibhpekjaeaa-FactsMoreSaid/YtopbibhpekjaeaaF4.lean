/- The first bytes of nonterminals: where the going begins, and where it ends. -/
import Derived.Test.YtopbibhpekjaeaaF3
namespace Go.Proofs.Ytopbibhpekjaeaa

section
variable {N : Nat} {rs : List Rl} {so : List Bool}
theorem tk_fst (hok : Ok N rs) (hso : ∀ m, so.getD m false = true ↔ Lf rs pN m) {x y b : Nat} (h : y ∈ tkL rs so x rs.length) (hb : Fst rs x b) : Fst rs y b := by
  obtain ⟨i, _, r, hr, hl, hs⟩ := (tkL_mem rs so x y (fun r hr => (hok.lhs r hr).1) rs.length).1 h
  obtain ⟨pre, s, post, he, hp, hn⟩ := (tak_spec so x r.rhs).1 hs
  have := Fst.nt (b := b) (List.mem_of_getElem? hr) he (fun z hz => (sym_nl hso z).1 (hp z hz).2) (by omega) (by rw [hn]; simpa using hb)
  rw [hl] at this; simpa using this
theorem FI.start (hso : ∀ m, so.getD m false = true ↔ Lf rs pN m) {sets : List St} (hl : sets.length = N) (hset : ∀ n, n < N → sets.getD n St.zero = ownL rs so n rs.length) (hsets : ∀ r ∈ rs, ∀ s ∈ r.rhs, s.set.ok) : FI N rs (fun n => ownL rs so n rs.length) (fun n => tkL rs so n rs.length) sets (List.range N) 0 0 := by
  refine ⟨hl, fun n => ?_, fun n b hn hb => by rw [hset n hn]; exact hb, fun n b hn hb => ?_, fun x hx => by simpa using hx, Nat.zero_le _, fun x hx q y hq => ?_, by simp⟩
  · by_cases hn : n < N
    · rw [hset n hn]; exact ownL_ok rs so n hsets _
    · rw [List.getD_eq_getElem?_getD, List.getElem?_eq_none (by omega)]; exact St.zero_ok
  · rw [hset n hn] at hb
    obtain ⟨i, _, r, hr, hlr, hb⟩ := (ownL_mem rs so n b rs.length).1 hb
    obtain ⟨pre, s, post, he, hp, hs, hb⟩ := (own_spec so b r.rhs).1 hb
    have := Fst.byte (b := b) (List.mem_of_getElem? hr) he (fun z hz => (sym_nl hso z).1 (hp z hz).2) hs hb
    rw [hlr] at this; simpa using this
  · by_cases h0 : x = 0
    · subst h0
      exact .inr (.inr ⟨by simp [hx], Nat.zero_le _⟩)
    · exact .inr (.inl ⟨x, by omega, by simp [hx]⟩)
theorem FI.done (hok : Ok N rs) (hso : ∀ m, so.getD m false = true ↔ Lf rs pN m) {sets : List St} {again : List Nat} (h : FI N rs (fun n => ownL rs so n rs.length) (fun n => tkL rs so n rs.length) sets again again.length 0) (n b : Nat) (hn : n < N) (hb : b < 256) : (sets.getD n St.zero).has b = true ↔ Fst rs n b := by
  refine ⟨h.sound n b hn, fun hf => ?_⟩
  induction hf with
  | byte hr he hp hs hbs =>
    rename_i r pre s post b
    have hl := hok.lhs r hr
    obtain ⟨i, hi⟩ := List.mem_iff_getElem?.1 hr
    refine h.base _ b hn ((ownL_mem rs so _ b rs.length).2 ⟨i, (List.getElem?_eq_some_iff.1 hi).1, r, hi, by omega, (own_spec so b r.rhs).2 ⟨pre, s, post, he, fun z hz => ⟨(hp z hz).1, (sym_nl hso z).2 (hp z hz)⟩, hs, hbs⟩⟩)
  | nt hr he hp hs hfx ih =>
    rename_i r pre s post b
    have hl := hok.lhs r hr
    have hsy := hok.sym r hr s (by rw [he]; simp)
    have hsN : s.nt.toNat < N := by omega
    have h1 := ih hsN hb
    obtain ⟨i, hi⟩ := List.mem_iff_getElem?.1 hr
    have hm : r.lhs.toNat ∈ tkL rs so s.nt.toNat rs.length := (tkL_mem rs so _ _ (fun r hr => (hok.lhs r hr).1) rs.length).2 ⟨i, (List.getElem?_eq_some_iff.1 hi).1, r, hi, by omega, (tak_spec so _ r.rhs).2 ⟨pre, s, post, he, fun z hz => ⟨(hp z hz).1, (sym_nl hso z).2 (hp z hz)⟩, by omega⟩⟩
    obtain ⟨q, hq⟩ := List.mem_iff_getElem?.1 hm
    rcases h.cov s.nt.toNat hsN q _ hq with h2 | ⟨p, hp, hp2⟩ | ⟨h3, _⟩
    · exact (sub_iff (h.ok _)).1 h2 b hb h1
    · have := (List.getElem?_eq_some_iff.1 hp2).1; omega
    · have := (List.getElem?_eq_some_iff.1 h3).1; omega
end
/-- Sets, four cells each. -/
def stL (s : St) : List Value := [.int .u64 (s.a : Int), .int .u64 (s.b : Int), .int .u64 (s.c : Int), .int .u64 (s.d : Int)]
def setsV (l : List St) : List Value := l.flatMap stL
theorem setsV_len : ∀ l, (setsV l).length = l.length * 4
  | [] => rfl
  | a :: l => by
    have := setsV_len l
    simp only [setsV, List.flatMap_cons, List.length_append, List.length_cons] at this ⊢
    rw [this]; simp [stL]; omega
theorem setsV_get : ∀ (l : List St) (m j : Nat) (s : St), l[m]? = some s → j < 4 → (setsV l)[m * 4 + j]? = (stL s)[j]?
  | [], m, j, s, h, _ => by simp at h
  | a :: l, 0, j, s, h, hj => by
    simp at h; subst h
    have e : setsV (a :: l) = stL a ++ setsV l := rfl
    rw [e, Nat.zero_mul, Nat.zero_add, List.getElem?_append_left (by simpa [stL] using hj)]
  | a :: l, m + 1, j, s, h, hj => by
    have h' : l[m]? = some s := by simpa using h
    have e : setsV (a :: l) = stL a ++ setsV l := rfl
    have hl : (stL a).length = 4 := rfl
    rw [e, List.getElem?_append_right (by rw [hl]; omega), hl, show (m + 1) * 4 + j - 4 = m * 4 + j by omega]
    exact setsV_get l m j s h' hj
theorem setsV_set : ∀ (l : List St) (m : Nat) (s : St), m < l.length → setsV (l.set m s) = ((((setsV l).set (m * 4) (.int .u64 (s.a : Int))).set (m * 4 + 1) (.int .u64 (s.b : Int))).set (m * 4 + 2) (.int .u64 (s.c : Int))).set (m * 4 + 3) (.int .u64 (s.d : Int))
  | [], m, s, h => by simp at h
  | a :: l, 0, s, _ => by
    have e : setsV (a :: l) = stL a ++ setsV l := rfl
    have e2 : setsV ((a :: l).set 0 s) = stL s ++ setsV l := rfl
    rw [e, e2]; simp [stL]
  | a :: l, m + 1, s, h => by
    have ih := setsV_set l m s (by simpa using h)
    have e : setsV (a :: l) = stL a ++ setsV l := rfl
    have e2 : setsV ((a :: l).set (m + 1) s) = stL a ++ setsV (l.set m s) := rfl
    have k : ∀ (j : Nat) (v : Value) (x : List Value), (stL a ++ x).set ((m + 1) * 4 + j) v = stL a ++ x.set (m * 4 + j) v := fun j v x => by
      rw [List.set_append_right _ _ (by simp [stL]; omega)]
      congr 2
      simp [stL]; omega
    have k0 := fun v x => k 0 v x
    simp only [Nat.add_zero] at k0
    rw [e, e2, ih, k0, k, k, k]
end Go.Proofs.Ytopbibhpekjaeaa
