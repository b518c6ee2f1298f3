/- How long the shortest texts are, with no program in it. -/
import Derived.Test.YtopbibhpekjaeaaF2
namespace Go.Proofs.Ytopbibhpekjaeaa

/-- These symbols have a text of k bytes. -/
inductive LnS (rs : List Rl) : List Ks → Nat → Prop
  | nil : LnS rs [] 0
  | byte {s : Ks} {l : List Ks} {k : Nat} : s.nt < 0 → s.set.any = true → LnS rs l k → LnS rs (s :: l) (k + 1)
  | nt {s : Ks} {l : List Ks} {r : Rl} {k1 k2 : Nat} : 0 ≤ s.nt → r ∈ rs → r.lhs = s.nt → LnS rs r.rhs k1 → LnS rs l k2 → LnS rs (s :: l) (k1 + k2)
def Ln (rs : List Rl) (n k : Nat) : Prop := ∃ r ∈ rs, r.lhs = (n : Int) ∧ LnS rs r.rhs k

theorem lns_lf {rs : List Rl} {l : List Ks} : LfS rs pP l ↔ ∃ k, LnS rs l k := by
  constructor
  · intro h
    induction h with
    | nil => exact ⟨0, .nil⟩
    | byte h1 h2 _ ih => obtain ⟨k, hk⟩ := ih; exact ⟨k + 1, .byte h1 h2 hk⟩
    | nt h1 hr he _ _ ih1 ih2 => obtain ⟨k1, hk1⟩ := ih1; obtain ⟨k2, hk2⟩ := ih2; exact ⟨k1 + k2, .nt h1 hr he hk1 hk2⟩
  · rintro ⟨k, h⟩
    induction h with
    | nil => exact .nil
    | byte h1 h2 _ ih => exact .byte h1 h2 ih
    | nt h1 hr he _ _ ih1 ih2 => exact .nt h1 hr he ih1 ih2
theorem ln_lf {rs : List Rl} {n : Nat} : Lf rs pP n ↔ ∃ k, Ln rs n k := by
  constructor
  · rintro ⟨r, hr, hl, h⟩
    obtain ⟨k, hk⟩ := lns_lf.1 h
    exact ⟨k, r, hr, hl, hk⟩
  · rintro ⟨k, r, hr, hl, h⟩
    exact ⟨r, hr, hl, lns_lf.2 ⟨k, h⟩⟩
/-- The bytes that are known of symbols, and how many symbols are not known, by what is done. -/
def kn (d : Nat → Option Nat) : List Ks → Nat
  | [] => 0
  | s :: l => (if s.nt < 0 then (if s.set.any then 1 else 0) else (d s.nt.toNat).getD 0) + kn d l
def ms (d : Nat → Option Nat) : List Ks → Nat
  | [] => 0
  | s :: l => (if s.nt < 0 then (if s.set.any then 0 else 1) else (if (d s.nt.toNat).isSome then 0 else 1)) + ms d l
theorem kn_nt {d : Nat → Option Nat} {s : Ks} {l : List Ks} (h : 0 ≤ s.nt) : kn d (s :: l) = (d s.nt.toNat).getD 0 + kn d l := by
  have : ¬ s.nt < 0 := by omega
  simp [kn, this]
theorem ms_nt {d : Nat → Option Nat} {s : Ks} {l : List Ks} (h : 0 ≤ s.nt) : ms d (s :: l) = (if (d s.nt.toNat).isSome then 0 else 1) + ms d l := by
  have : ¬ s.nt < 0 := by omega
  simp [ms, this]
theorem kn_by {d : Nat → Option Nat} {s : Ks} {l : List Ks} (h : s.nt < 0) : kn d (s :: l) = (if s.set.any then 1 else 0) + kn d l := by simp [kn, h]
theorem ms_by {d : Nat → Option Nat} {s : Ks} {l : List Ks} (h : s.nt < 0) : ms d (s :: l) = (if s.set.any then 0 else 1) + ms d l := by simp [ms, h]
theorem lns_of {rs : List Rl} {d : Nat → Option Nat} (hd : ∀ n v, d n = some v → Ln rs n v) : ∀ l : List Ks, ms d l = 0 → LnS rs l (kn d l)
  | [], _ => .nil
  | s :: l, h => by
    unfold ms at h
    unfold kn
    have ih := lns_of hd l (by omega)
    by_cases hn : s.nt < 0
    · rw [if_pos hn] at h ⊢
      cases ha : s.set.any
      · rw [ha] at h; simp at h
      · rw [if_pos rfl, Nat.add_comm]; exact .byte hn ha ih
    · rw [if_neg hn] at h ⊢
      cases hv : d s.nt.toNat with
      | none => rw [hv] at h; simp at h
      | some v =>
        obtain ⟨r, hr, hl, hk⟩ := hd _ v hv
        exact .nt (by omega) hr (by omega) hk ih
/-- Where all that is ready up to M bytes is done, all texts up to M bytes are known. -/
theorem lns_known {rs : List Rl} {d : Nat → Option Nat} {M : Nat} (h : ∀ r ∈ rs, ms d r.rhs = 0 → kn d r.rhs ≤ M → ∃ v, d r.lhs.toNat = some v ∧ v ≤ kn d r.rhs) {l : List Ks} {k : Nat} (hl : LnS rs l k) : k ≤ M → ms d l = 0 ∧ kn d l ≤ k := by
  induction hl with
  | nil => intro _; exact ⟨rfl, Nat.le_refl _⟩
  | byte h1 h2 _ ih =>
    intro hk
    obtain ⟨i1, i2⟩ := ih (by omega)
    rw [ms_by h1, kn_by h1, if_pos h2, if_pos h2]; omega
  | nt h1 hr he _ _ ih1 ih2 =>
    intro hk
    obtain ⟨i1, i2⟩ := ih1 (by omega)
    obtain ⟨i3, i4⟩ := ih2 (by omega)
    obtain ⟨v, hv, hv2⟩ := h _ hr i1 (by omega)
    rw [he] at hv
    rw [ms_nt h1, kn_nt h1, hv]
    simp; omega
def dset (d : Nat → Option Nat) (x n : Nat) : Nat → Option Nat := fun m => if m = x then some n else d m
theorem kn_set {d : Nat → Option Nat} {x n : Nat} (hx : d x = none) : ∀ l : List Ks, (∀ s ∈ l, s.nt = -1 ∨ 0 ≤ s.nt) → kn (dset d x n) l = kn d l + n * cnt x l ∧ ms (dset d x n) l + cnt x l = ms d l
  | [], _ => by simp [kn, ms, cnt]
  | s :: l, hs => by
    obtain ⟨i1, i2⟩ := kn_set (n := n) hx l fun y hy => hs y (List.mem_cons_of_mem _ hy)
    have h0 := hs s (by simp)
    have hc : cnt x (s :: l) = (if s.nt = (x : Int) then 1 else 0) + cnt x l := by
      unfold cnt
      by_cases e : s.nt = (x : Int) <;> simp [e]; omega
    rw [hc]
    by_cases hn : s.nt < 0
    · have e : ¬ s.nt = (x : Int) := by omega
      rw [kn_by hn, kn_by hn, ms_by hn, ms_by hn, if_neg e, Nat.zero_add]
      constructor <;> omega
    · have hp : 0 ≤ s.nt := by omega
      rw [kn_nt hp, kn_nt hp, ms_nt hp, ms_nt hp]
      by_cases e : s.nt = (x : Int)
      · have e2 : s.nt.toNat = x := by omega
        have e3 : dset d x n x = some n := by simp [dset]
        rw [if_pos e, e2, hx, e3]
        simp
        constructor
        · rw [i1, Nat.mul_add]; omega
        · omega
      · have e2 : ¬ s.nt.toNat = x := by omega
        have e3 : dset d x n s.nt.toNat = d s.nt.toNat := by simp [dset, e2]
        rw [if_neg e, Nat.zero_add, e3]
        constructor <;> omega
/-- Lengths on the way: rules' known bytes and missing symbols, what is ready at each length, what is done. -/
structure SI (N : Nat) (rs : List Rl) (d : Nat → Option Nat) (kw mi : List Nat) (ready : Nat → List Nat) (n i : Nat) : Prop where
  lk : kw.length = rs.length
  lm : mi.length = rs.length
  hk : ∀ (k : Nat) (r : Rl), rs[k]? = some r → kw.getD k 0 = kn d r.rhs
  hm : ∀ (k : Nat) (r : Rl), rs[k]? = some r → mi.getD k 0 = ms d r.rhs
  sound : ∀ x v, d x = some v → Ln rs x v
  rdy : ∀ m x, x ∈ ready m → x < N ∧ Ln rs x m
  cov : ∀ (k : Nat) (r : Rl), rs[k]? = some r → mi.getD k 0 = 0 → kw.getD k 0 ≤ 512 → r.lhs.toNat ∈ ready (kw.getD k 0)
  proc : ∀ m x, m < n → x ∈ ready m → ∃ v, d x = some v ∧ v ≤ m
  cur : ∀ (j x : Nat), j < i → (ready n)[j]? = some x → ∃ v, d x = some v ∧ v ≤ n
  min : ∀ x v, d x = some v → v ≤ n ∧ ∀ k, Ln rs x k → v ≤ k
  big : ∀ x k, d x = none → Ln rs x k → n ≤ k
section
variable {N : Nat} {rs : List Rl} {d : Nat → Option Nat} {kw mi : List Nat} {ready : Nat → List Nat} {n i : Nat}
/-- All of one length is done: the next one. -/
theorem SI.next (hok : Ok N rs) (h : SI N rs d kw mi ready n i) (hi : (ready n).length ≤ i) (hn : n ≤ 512) : SI N rs d kw mi ready (n + 1) 0 := by
  have key : ∀ r ∈ rs, ms d r.rhs = 0 → kn d r.rhs ≤ n → ∃ v, d r.lhs.toNat = some v ∧ v ≤ kn d r.rhs := fun r hr h1 h2 => by
    obtain ⟨k, hk⟩ := List.mem_iff_getElem?.1 hr
    have h3 := h.cov k r hk (by rw [h.hm k r hk]; exact h1) (by rw [h.hk k r hk]; omega)
    rw [h.hk k r hk] at h3
    rcases Nat.lt_or_ge (kn d r.rhs) n with hlt | hge
    · exact h.proc _ _ hlt h3
    · have e : kn d r.rhs = n := by omega
      rw [e] at h3 ⊢
      obtain ⟨j, hj⟩ := List.mem_iff_getElem?.1 h3
      exact h.cur j _ (by have := (List.getElem?_eq_some_iff.1 hj).1; omega) hj
  refine ⟨h.lk, h.lm, h.hk, h.hm, h.sound, h.rdy, h.cov, fun m x hm hx => ?_, fun j x hj _ => by omega, fun x v hv => ?_, fun x k hx hk => ?_⟩
  · rcases Nat.lt_or_ge m n with hlt | hge
    · exact h.proc m x hlt hx
    · have e : m = n := by omega
      subst e
      obtain ⟨j, hj⟩ := List.mem_iff_getElem?.1 hx
      exact h.cur j x (by have := (List.getElem?_eq_some_iff.1 hj).1; omega) hj
  · have := h.min x v hv
    exact ⟨by omega, this.2⟩
  · have h1 := h.big x k hx hk
    rcases Nat.lt_or_ge n k with hlt | hge
    · omega
    · exfalso
      obtain ⟨r, hr, hl, hs⟩ := hk
      obtain ⟨h2, h3⟩ := lns_known key hs (by omega)
      obtain ⟨v, hv, _⟩ := key r hr h2 (by omega)
      have hlh := hok.lhs r hr
      rw [hl] at hv
      simp at hv
      rw [hx] at hv; cases hv
theorem SI.skip (h : SI N rs d kw mi ready n i) {x v : Nat} (hx : (ready n)[i]? = some x) (hv : d x = some v) : SI N rs d kw mi ready n (i + 1) := by
  refine ⟨h.lk, h.lm, h.hk, h.hm, h.sound, h.rdy, h.cov, h.proc, fun j y hj hy => ?_, h.min, h.big⟩
  by_cases e : j = i
  · subst e
    rw [hx] at hy
    obtain rfl := Option.some.inj hy
    exact ⟨v, hv, (h.min x v hv).1⟩
  · exact h.cur j y (by omega) hy
end
theorem count_usr (rs : List Rl) (x k : Nat) : ∀ K, (usr rs x K).count k = if k < K then cnt x (rhsAt rs k) else 0
  | 0 => by simp [usr]
  | K + 1 => by
    rw [usr, List.count_append, count_usr rs x k K]
    by_cases e : k = K
    · subst e; simp
    · have h1 : (List.replicate (cnt x (rhsAt rs K)) K).count k = 0 := by
        rw [List.count_eq_zero]; intro h; exact e (List.mem_replicate.1 h).2
      rw [h1]
      by_cases h2 : k < K
      · rw [if_pos h2, if_pos (by omega), Nat.add_zero]
      · rw [if_neg h2, if_neg (by omega)]
theorem cnt_ms {d : Nat → Option Nat} {x : Nat} (hx : d x = none) {l : List Ks} (hs : ∀ s ∈ l, s.nt = -1 ∨ 0 ≤ s.nt) : cnt x l ≤ ms d l := by
  have := (kn_set (n := 0) hx l hs).2; omega
/-- The same while the rules in which x stands are told that it has n bytes, u of them so far. -/
structure SJ (N : Nat) (rs : List Rl) (d : Nat → Option Nat) (kw mi : List Nat) (ready : Nat → List Nat) (n i x u : Nat) : Prop where
  lk : kw.length = rs.length
  lm : mi.length = rs.length
  hk : ∀ (k : Nat) (r : Rl), rs[k]? = some r → kw.getD k 0 = kn d r.rhs + n * ((usr rs x rs.length).take u).count k
  hm : ∀ (k : Nat) (r : Rl), rs[k]? = some r → mi.getD k 0 + ((usr rs x rs.length).take u).count k = ms d r.rhs
  sound : ∀ x v, d x = some v → Ln rs x v
  rdy : ∀ m x, x ∈ ready m → x < N ∧ Ln rs x m
  cov : ∀ (k : Nat) (r : Rl), rs[k]? = some r → mi.getD k 0 = 0 → kw.getD k 0 ≤ 512 → r.lhs.toNat ∈ ready (kw.getD k 0)
  proc : ∀ m x, m < n → x ∈ ready m → ∃ v, d x = some v ∧ v ≤ m
  cur : ∀ (j x : Nat), j < i → (ready n)[j]? = some x → ∃ v, d x = some v ∧ v ≤ n
  min : ∀ x v, d x = some v → v ≤ n ∧ ∀ k, Ln rs x k → v ≤ k
  big : ∀ x k, d x = none → Ln rs x k → n ≤ k
  at_ : (ready n)[i]? = some x
  non : d x = none
def rset (ready : Nat → List Nat) (m y : Nat) : Nat → List Nat := fun q => if q = m then ready q ++ [y] else ready q
section
variable {N : Nat} {rs : List Rl} {d : Nat → Option Nat} {kw mi : List Nat} {ready : Nat → List Nat} {n i x u : Nat}
theorem SI.open_ (h : SI N rs d kw mi ready n i) (hx : (ready n)[i]? = some x) (hd : d x = none) : SJ N rs d kw mi ready n i x 0 :=
  ⟨h.lk, h.lm, fun k r hr => by rw [h.hk k r hr]; simp, fun k r hr => by rw [h.hm k r hr]; simp, h.sound, h.rdy, h.cov, h.proc, h.cur, h.min, h.big, hx, hd⟩
theorem SJ.pos (hok : Ok N rs) (h : SJ N rs d kw mi ready n i x u) {k : Nat} {r : Rl} (hu : (usr rs x rs.length)[u]? = some k) (hr : rs[k]? = some r) : 1 ≤ mi.getD k 0 := by
  have h1 := h.hm k r hr
  have hlt := (List.getElem?_eq_some_iff.1 hr).1
  have h2 := cnt_ms h.non (l := r.rhs) (fun s hs => by have := hok.sym r (List.mem_of_getElem? hr) s hs; omega)
  have h3 := count_usr rs x k rs.length
  rw [if_pos hlt] at h3
  have h4 : rhsAt rs k = r.rhs := by unfold rhsAt; rw [hr]
  rw [h4] at h3
  have h5 : ((usr rs x rs.length).take u).count k + 1 ≤ (usr rs x rs.length).count k := by
    conv => rhs; rw [← List.take_append_drop u (usr rs x rs.length)]
    rw [List.count_append]
    have : k ∈ (usr rs x rs.length).drop u := List.mem_iff_getElem?.2 ⟨0, by rw [List.getElem?_drop]; simpa using hu⟩
    have := List.count_pos_iff.2 this
    omega
  omega
theorem SJ.counts (h : SJ N rs d kw mi ready n i x u) {k : Nat} (hu : (usr rs x rs.length)[u]? = some k) (hp : 1 ≤ mi.getD k 0) (hkl : k < rs.length) :
    (∀ (k' : Nat) (r' : Rl), rs[k']? = some r' → (kw.set k (kw.getD k 0 + n)).getD k' 0 = kn d r'.rhs + n * ((usr rs x rs.length).take (u + 1)).count k') ∧ (∀ (k' : Nat) (r' : Rl), rs[k']? = some r' → (mi.set k (mi.getD k 0 - 1)).getD k' 0 + ((usr rs x rs.length).take (u + 1)).count k' = ms d r'.rhs) := by
  have hlk : k < kw.length := by rw [h.lk]; exact hkl
  have hlm : k < mi.length := by rw [h.lm]; exact hkl
  refine ⟨fun k' r' hr' => ?_, fun k' r' hr' => ?_⟩
  · rw [getD_set_nat _ _ _ _ hlk, List.take_add_one, hu, List.count_append, count_one]
    have h1 := h.hk k' r' hr'
    by_cases e : k' = k
    · subst e; rw [if_pos rfl, if_pos rfl, h1, Nat.mul_add]; omega
    · rw [if_neg e, if_neg e, h1]; rfl
  · rw [getD_set_nat _ _ _ _ hlm, List.take_add_one, hu, List.count_append, count_one]
    have h1 := h.hm k' r' hr'
    by_cases e : k' = k
    · subst e; rw [if_pos rfl, if_pos rfl]; omega
    · rw [if_neg e, if_neg e]; omega
/-- One rule more is told; something of it is missing still, or it is too long. -/
theorem SJ.tell (hok : Ok N rs) (h : SJ N rs d kw mi ready n i x u) {k : Nat} {r : Rl} (hu : (usr rs x rs.length)[u]? = some k) (hr : rs[k]? = some r) (hno : ¬ (mi.getD k 0 = 1 ∧ kw.getD k 0 + n ≤ 512)) : SJ N rs d (kw.set k (kw.getD k 0 + n)) (mi.set k (mi.getD k 0 - 1)) ready n i x (u + 1) := by
  have hp := h.pos hok hu hr
  have hkl := (List.getElem?_eq_some_iff.1 hr).1
  obtain ⟨c1, c2⟩ := h.counts hu hp hkl
  refine ⟨by rw [List.length_set]; exact h.lk, by rw [List.length_set]; exact h.lm, c1, c2, h.sound, h.rdy, fun k' r' hr' h1 h2 => ?_, h.proc, h.cur, h.min, h.big, h.at_, h.non⟩
  rw [getD_set_nat _ _ _ _ (by rw [h.lm]; exact hkl)] at h1
  rw [getD_set_nat _ _ _ _ (by rw [h.lk]; exact hkl)] at h2 ⊢
  by_cases e : k' = k
  · rw [if_pos e] at h1 h2
    exfalso; exact hno ⟨by omega, h2⟩
  · rw [if_neg e] at h1 h2 ⊢
    exact h.cov k' r' hr' h1 h2
/-- One rule more is told, and nothing of it is missing: it is ready. -/
theorem SJ.ripe (hok : Ok N rs) (h : SJ N rs d kw mi ready n i x u) {k : Nat} {r : Rl} (hu : (usr rs x rs.length)[u]? = some k) (hr : rs[k]? = some r) (h1 : mi.getD k 0 = 1) : SJ N rs d (kw.set k (kw.getD k 0 + n)) (mi.set k 0) (rset ready (kw.getD k 0 + n) r.lhs.toNat) n i x (u + 1) := by
  have hp := h.pos hok hu hr
  have hkl := (List.getElem?_eq_some_iff.1 hr).1
  obtain ⟨c1, c2⟩ := h.counts hu hp hkl
  rw [h1, Nat.sub_self] at c2
  have hrm := List.mem_of_getElem? hr
  have hlh := hok.lhs r hrm
  have hsy : ∀ s ∈ r.rhs, s.nt = -1 ∨ 0 ≤ s.nt := fun s hs => by have := hok.sym r hrm s hs; omega
  have hge : n ≤ kw.getD k 0 + n := by omega
  have hln : Ln rs r.lhs.toNat (kw.getD k 0 + n) := by
    have e1 := c1 k r hr
    have e2 := c2 k r hr
    rw [getD_set_nat _ _ _ _ (by rw [h.lk]; exact hkl), if_pos rfl] at e1
    rw [getD_set_nat _ _ _ _ (by rw [h.lm]; exact hkl), if_pos rfl, Nat.zero_add] at e2
    have e3 := cnt_ms h.non hsy
    have e4 := count_usr rs x k rs.length
    have e5 : rhsAt rs k = r.rhs := by unfold rhsAt; rw [hr]
    rw [if_pos hkl, e5] at e4
    have e6 : ((usr rs x rs.length).take (u + 1)).count k ≤ (usr rs x rs.length).count k := by
      conv => rhs; rw [← List.take_append_drop (u + 1) (usr rs x rs.length)]
      rw [List.count_append]; omega
    have e7 := kn_set (n := n) h.non r.rhs hsy
    have e8 : cnt x r.rhs = ((usr rs x rs.length).take (u + 1)).count k := by omega
    have hd' : ∀ m v, dset d x n m = some v → Ln rs m v := fun m v hv => by
      unfold dset at hv
      split at hv
      · rename_i e
        have := (h.rdy n x (List.mem_of_getElem? h.at_)).2
        rw [e]; cases hv; exact this
      · exact h.sound m v hv
    have := lns_of hd' r.rhs (by omega)
    rw [e7.1, e8, ← e1] at this
    exact ⟨r, hrm, by omega, this⟩
  have hsub : ∀ m y, y ∈ ready m → y ∈ rset ready (kw.getD k 0 + n) r.lhs.toNat m := fun m y hy => by
    unfold rset; split
    · exact List.mem_append_left _ hy
    · exact hy
  refine ⟨by rw [List.length_set]; exact h.lk, by rw [List.length_set]; exact h.lm, c1, c2, h.sound, fun m y hy => ?_, fun k' r' hr' g1 g2 => ?_, fun m y hm hy => ?_, fun j y hj hy => ?_, h.min, h.big, ?_, h.non⟩
  · unfold rset at hy
    split at hy
    · rename_i e
      rcases List.mem_append.1 hy with hy | hy
      · exact h.rdy m y hy
      · simp at hy; subst hy; rw [e]; exact ⟨by omega, hln⟩
    · exact h.rdy m y hy
  · rw [getD_set_nat _ _ _ _ (by rw [h.lm]; exact hkl)] at g1
    rw [getD_set_nat _ _ _ _ (by rw [h.lk]; exact hkl)] at g2 ⊢
    by_cases e : k' = k
    · subst e
      rw [hr] at hr'
      obtain rfl := Option.some.inj hr'
      rw [if_pos rfl]
      unfold rset; rw [if_pos rfl]; simp
    · rw [if_neg e] at g1 g2 ⊢
      exact hsub _ _ (h.cov k' r' hr' g1 g2)
  · unfold rset at hy
    rw [if_neg (by omega)] at hy
    exact h.proc m y hm hy
  · have hil := (List.getElem?_eq_some_iff.1 h.at_).1
    unfold rset at hy
    split at hy
    · rw [List.getElem?_append_left (by omega)] at hy; exact h.cur j y hj hy
    · exact h.cur j y hj hy
  · have hil := (List.getElem?_eq_some_iff.1 h.at_).1
    unfold rset
    split
    · rw [List.getElem?_append_left hil]; exact h.at_
    · exact h.at_
/-- All its rules are told: x is done. -/
theorem SJ.shut (hok : Ok N rs) (h : SJ N rs d kw mi ready n i x u) (hu : (usr rs x rs.length).length ≤ u) : SI N rs (dset d x n) kw mi ready n (i + 1) := by
  have hc : ∀ (k : Nat) (r : Rl), rs[k]? = some r → ((usr rs x rs.length).take u).count k = cnt x r.rhs := fun k r hr => by
    rw [List.take_of_length_le hu, count_usr, if_pos (List.getElem?_eq_some_iff.1 hr).1]
    unfold rhsAt; rw [hr]
  have hsy : ∀ r ∈ rs, ∀ s ∈ r.rhs, s.nt = -1 ∨ 0 ≤ s.nt := fun r hr s hs => by have := hok.sym r hr s hs; omega
  have hxl := (h.rdy n x (List.mem_of_getElem? h.at_)).2
  have hds : ∀ y v, dset d x n y = some v → (y = x ∧ v = n) ∨ d y = some v := fun y v hv => by
    unfold dset at hv
    split at hv
    · rename_i e; cases hv; exact .inl ⟨e, rfl⟩
    · exact .inr hv
  have hdk : ∀ y v, d y = some v → dset d x n y = some v := fun y v hv => by
    unfold dset; split
    · rename_i e; rw [e, h.non] at hv; cases hv
    · exact hv
  refine ⟨h.lk, h.lm, fun k r hr => ?_, fun k r hr => ?_, fun y v hv => ?_, h.rdy, h.cov, fun m y hm hy => ?_, fun j y hj hy => ?_, fun y v hv => ?_, fun y k hy hk => ?_⟩
  · rw [h.hk k r hr, hc k r hr, (kn_set h.non r.rhs (hsy r (List.mem_of_getElem? hr))).1]
  · have h1 := h.hm k r hr
    have h2 := (kn_set (n := n) h.non r.rhs (hsy r (List.mem_of_getElem? hr))).2
    rw [hc k r hr] at h1; omega
  · rcases hds y v hv with ⟨rfl, rfl⟩ | hv
    · exact hxl
    · exact h.sound y v hv
  · obtain ⟨v, hv, hv2⟩ := h.proc m y hm hy
    exact ⟨v, hdk y v hv, hv2⟩
  · by_cases e : j = i
    · subst e
      rw [h.at_] at hy
      obtain rfl := Option.some.inj hy
      exact ⟨n, by simp [dset], Nat.le_refl _⟩
    · obtain ⟨v, hv, hv2⟩ := h.cur j y (by omega) hy
      exact ⟨v, hdk y v hv, hv2⟩
  · rcases hds y v hv with ⟨rfl, rfl⟩ | hv
    · exact ⟨Nat.le_refl _, fun k hk => h.big y k h.non hk⟩
    · exact h.min y v hv
  · unfold dset at hy
    split at hy
    · cases hy
    · exact h.big y k hy hk
end
end Go.Proofs.Ytopbibhpekjaeaa
