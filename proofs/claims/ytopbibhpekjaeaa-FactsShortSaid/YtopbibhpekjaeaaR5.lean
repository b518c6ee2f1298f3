/- The lengths of shortest texts, found by looking at all rules again and again: no program in it. -/
import Derived.Test.YtopbibhpekjaeaaR1
import Derived.Test.YtopbibhpekjaeaaF6
namespace Go.Proofs.Ytopbibhpekjaeaa

def symL (out : List Int) (s : Ks) : Int := if 0 ≤ s.nt then out.getD s.nt.toNat 0 else if s.set.any then 1 else -1
def smL (out : List Int) : List Ks → Int
  | [] => 0
  | s :: l => symL out s + smL out l
def lenL (out : List Int) (l : List Ks) : Int := if l.all (fun s => decide (0 ≤ symL out s)) then (if 512 < smL out l then 513 else smL out l) else -1
def updL (out : List Int) (m : Nat) (l : List Ks) : List Int := if 0 ≤ lenL out l ∧ (out.getD m 0 < 0 ∨ lenL out l < out.getD m 0) then out.set m (lenL out l) else out
def rlx (rs : List Rl) (out : List Int) : Nat → List Int
  | 0 => out
  | k + 1 => updL (rlx rs out k) (lhsAt rs k).toNat (rhsAt rs k)
def srt (N : Nat) (rs : List Rl) : Nat → List Int
  | 0 => List.replicate N (-1)
  | i + 1 => rlx rs (srt N rs i) rs.length
theorem updL_len (out : List Int) (m : Nat) (l : List Ks) : (updL out m l).length = out.length := by unfold updL; split <;> simp
theorem rlx_len (rs : List Rl) (out : List Int) : ∀ k, (rlx rs out k).length = out.length
  | 0 => rfl
  | k + 1 => by rw [rlx, updL_len, rlx_len rs out k]
theorem srt_len (N : Nat) (rs : List Rl) : ∀ i, (srt N rs i).length = N
  | 0 => by simp [srt]
  | i + 1 => by rw [srt, rlx_len, srt_len N rs i]
theorem smL_snoc (out : List Int) (s : Ks) : ∀ l, smL out (l ++ [s]) = smL out l + symL out s
  | [] => by simp [smL]
  | a :: l => by
    have := smL_snoc out s l
    simp only [List.cons_append, smL, this]; omega
def Cap (z : Int) (k : Nat) : Prop := z = k ∨ (513 ≤ z ∧ 513 ≤ k)
structure Snd (N : Nat) (rs : List Rl) (out : List Int) : Prop where
  len : out.length = N
  val : ∀ x, x < N → out.getD x 0 = -1 ∨ ∃ k, Ln rs x k ∧ out.getD x 0 = ((min k 513 : Nat) : Int)
def Ext (rs : List Rl) (out : List Int) (x : Nat) : Prop := (out.getD x 0 = -1 ∧ ¬ ∃ k, Ln rs x k) ∨ ∃ k, Ln rs x k ∧ (∀ k', Ln rs x k' → k ≤ k') ∧ out.getD x 0 = ((min k 513 : Nat) : Int)
section
variable {N : Nat} {rs : List Rl} {out : List Int}
theorem len_snd (h : Snd N rs out) : ∀ l : List Ks, (∀ s ∈ l, s.nt = -1 ∨ (0 ≤ s.nt ∧ s.nt < (N : Int))) → l.all (fun s => decide (0 ≤ symL out s)) = true → 0 ≤ smL out l ∧ ∃ k, LnS rs l k ∧ Cap (smL out l) k
  | [], _, _ => ⟨Int.le_refl _, 0, .nil, .inl rfl⟩
  | s :: l, hs, ha => by
    simp only [List.all_cons, Bool.and_eq_true, decide_eq_true_eq] at ha
    obtain ⟨i0, k, hk, hc⟩ := len_snd h l (fun x hx => hs x (List.mem_cons_of_mem _ hx)) ha.2
    have h1 := ha.1
    have h0 := hs s List.mem_cons_self
    simp only [smL]
    unfold symL at h1 ⊢
    by_cases hn : 0 ≤ s.nt
    · rw [if_pos hn] at h1 ⊢
      rcases h.val s.nt.toNat (by omega) with hv | ⟨k1, ⟨r, hr, he, hl⟩, hv⟩
      · omega
      · refine ⟨by omega, k1 + k, .nt hn hr (by omega) hl hk, ?_⟩
        unfold Cap at *; omega
    · rw [if_neg hn] at h1 ⊢
      cases ha2 : s.set.any
      · rw [ha2] at h1; simp at h1
      · simp only [if_true]
        refine ⟨by omega, k + 1, .byte (by omega) ha2 hk, ?_⟩
        unfold Cap at *; omega
theorem lenL_cap {l : List Ks} {k : Nat} (ha : l.all (fun s => decide (0 ≤ symL out s)) = true) (h : Cap (smL out l) k) : lenL out l = ((min k 513 : Nat) : Int) := by
  unfold lenL Cap at *
  rw [if_pos ha]
  split <;> omega
theorem len_pos (h : Snd N rs out) {l : List Ks} (hs : ∀ s ∈ l, s.nt = -1 ∨ (0 ≤ s.nt ∧ s.nt < (N : Int))) (hp : 0 ≤ lenL out l) : ∃ k, LnS rs l k ∧ lenL out l = ((min k 513 : Nat) : Int) := by
  by_cases ha : l.all (fun s => decide (0 ≤ symL out s)) = true
  · obtain ⟨_, k, hk, hc⟩ := len_snd h l hs ha
    exact ⟨k, hk, lenL_cap ha hc⟩
  · unfold lenL at hp; rw [if_neg ha] at hp; omega
theorem len_ext {l : List Ks} {k : Nat} (hl : LnS rs l k) : (∀ s ∈ l, 0 ≤ s.nt → Ext rs out s.nt.toNat) → l.all (fun s => decide (0 ≤ symL out s)) = true ∧ 0 ≤ smL out l ∧ ∃ k', k' ≤ k ∧ LnS rs l k' ∧ Cap (smL out l) k' := by
  induction hl with
  | nil => intro _; exact ⟨rfl, Int.le_refl _, 0, Nat.le_refl _, .nil, .inl rfl⟩
  | @byte s l k h1 h2 _ ih =>
    intro hx
    obtain ⟨i1, i2, k', i3, i4, i5⟩ := ih fun x hx' => hx x (List.mem_cons_of_mem _ hx')
    have e : symL out s = 1 := by unfold symL; rw [if_neg (by omega), if_pos h2]
    refine ⟨by simp only [List.all_cons, Bool.and_eq_true, decide_eq_true_eq]; exact ⟨by omega, i1⟩, by simp only [smL]; omega, k' + 1, by omega, .byte h1 h2 i4, ?_⟩
    simp only [smL]
    unfold Cap at *; omega
  | @nt s l r k1 k2 h1 hr he hk1 _ _ ih =>
    intro hx
    obtain ⟨i1, i2, k', i3, i4, i5⟩ := ih fun x hx' => hx x (List.mem_cons_of_mem _ hx')
    have hln : Ln rs s.nt.toNat k1 := ⟨r, hr, by omega, hk1⟩
    rcases hx s List.mem_cons_self h1 with ⟨_, hno⟩ | ⟨d, ⟨q, hq, hqe, hql⟩, hmin, hv⟩
    · exact absurd ⟨_, hln⟩ hno
    · have hd := hmin k1 hln
      have e : symL out s = ((min d 513 : Nat) : Int) := by unfold symL; rw [if_pos h1]; exact hv
      refine ⟨by simp only [List.all_cons, Bool.and_eq_true, decide_eq_true_eq]; exact ⟨by omega, i1⟩, by simp only [smL]; omega, d + k', by omega, .nt h1 hq (by omega) hql i4, ?_⟩
      simp only [smL]
      unfold Cap at *; omega
theorem getD_setZ (out : List Int) (m n : Nat) (x : Int) (hm : m < out.length) : (out.set m x).getD n 0 = if n = m then x else out.getD n 0 := by
  rw [List.getD_eq_getElem?_getD, List.getD_eq_getElem?_getD, List.getElem?_set]
  by_cases h : n = m
  · subst h; simp [hm]
  · rw [if_neg (fun e => h e.symm), if_neg h]
theorem upd_snd (h : Snd N rs out) {m : Nat} {r : Rl} (hr : r ∈ rs) (he : r.lhs = (m : Int)) (hm : m < N) (hs : ∀ s ∈ r.rhs, s.nt = -1 ∨ (0 ≤ s.nt ∧ s.nt < (N : Int))) : Snd N rs (updL out m r.rhs) := by
  refine ⟨by rw [updL_len]; exact h.len, fun x hx => ?_⟩
  unfold updL
  split
  · rename_i hc
    rw [getD_setZ _ _ _ _ (by rw [h.len]; exact hm)]
    by_cases e : x = m
    · subst e
      rw [if_pos rfl]
      obtain ⟨k, hk, hv⟩ := len_pos h hs hc.1
      exact .inr ⟨k, ⟨r, hr, he, hk⟩, hv⟩
    · rw [if_neg e]; exact h.val x hx
  · exact h.val x hx
theorem upd_ext (h : Snd N rs out) {m : Nat} {r : Rl} (hr : r ∈ rs) (he : r.lhs = (m : Int)) (hm : m < N) (hs : ∀ s ∈ r.rhs, s.nt = -1 ∨ (0 ≤ s.nt ∧ s.nt < (N : Int))) {x : Nat} (hx : Ext rs out x) : Ext rs (updL out m r.rhs) x := by
  unfold updL
  split
  · rename_i hc
    by_cases e : x = m
    · subst e
      exfalso
      obtain ⟨k, hk, hv⟩ := len_pos h hs hc.1
      rcases hx with ⟨h1, h2⟩ | ⟨d, hd, hmin, hv2⟩
      · exact h2 ⟨k, r, hr, he, hk⟩
      · have := hmin k ⟨r, hr, he, hk⟩
        omega
    · unfold Ext
      rw [getD_setZ _ _ _ _ (by rw [h.len]; exact hm), if_neg e]; exact hx
  · exact hx
/-- All of the rule's nonterminals are told exactly, and it has a shortest text of its own: so is its own. -/
theorem upd_new (h : Snd N rs out) {m : Nat} {r : Rl} (hr : r ∈ rs) (he : r.lhs = (m : Int)) (hm : m < N) {k : Nat} (hk : LnS rs r.rhs k) (hmin : ∀ k', Ln rs m k' → k ≤ k') (hx : ∀ s ∈ r.rhs, 0 ≤ s.nt → Ext rs out s.nt.toNat) : Ext rs (updL out m r.rhs) m := by
  obtain ⟨ha, _, k', hle, hk', hc⟩ := len_ext hk hx
  have hkk : k' = k := by have := hmin k' ⟨r, hr, he, hk'⟩; omega
  subst hkk
  have hv := lenL_cap ha hc
  right
  refine ⟨k', ⟨r, hr, he, hk⟩, hmin, ?_⟩
  unfold updL
  split
  · rw [getD_setZ _ _ _ _ (by rw [h.len]; exact hm), if_pos rfl]; exact hv
  · rename_i hc2
    rcases h.val m hm with h1 | ⟨q, hq, h1⟩
    · omega
    · have := hmin q hq
      omega
/-- Where not all is told exactly there is a nonterminal that is not, and a rule of its shortest text whose nonterminals are. -/
theorem some_new {l : List Ks} {k : Nat} (hl : LnS rs l k) : (∀ k', LnS rs l k' → k ≤ k') → (∀ s ∈ l, 0 ≤ s.nt → Ext rs out s.nt.toNat) ∨ ∃ r ∈ rs, ∃ d, ¬ Ext rs out r.lhs.toNat ∧ 0 ≤ r.lhs ∧ LnS rs r.rhs d ∧ (∀ k', Ln rs r.lhs.toNat k' → d ≤ k') ∧ ∀ s ∈ r.rhs, 0 ≤ s.nt → Ext rs out s.nt.toNat := by
  induction hl with
  | nil => intro _; left; intro s hs; cases hs
  | @byte s l k h1 h2 _ ih =>
    intro hmin
    rcases ih fun k' hk' => by have := hmin _ (.byte h1 h2 hk'); omega with i | i
    · left
      intro x hx hn
      rcases List.mem_cons.1 hx with rfl | hx
      · omega
      · exact i x hx hn
    · exact .inr i
  | @nt s l r k1 k2 h1 hr he hk1 hk2 ih1 ih2 =>
    intro hmin
    have m1 : ∀ k', Ln rs s.nt.toNat k' → k1 ≤ k' := fun k' ⟨q, hq, hqe, hql⟩ => by
      have := hmin _ (.nt h1 hq (by omega) hql hk2); omega
    have m2 : ∀ k', LnS rs l k' → k2 ≤ k' := fun k' hk' => by
      have := hmin _ (.nt h1 hr he hk1 hk'); omega
    rcases ih1 fun k' hk' => m1 k' ⟨r, hr, by omega, hk'⟩ with i1 | i1
    · by_cases hx : Ext rs out s.nt.toNat
      · rcases ih2 m2 with i2 | i2
        · left
          intro x hx' hn
          rcases List.mem_cons.1 hx' with rfl | hx'
          · exact hx
          · exact i2 x hx' hn
        · exact .inr i2
      · right
        refine ⟨r, hr, k1, by rw [he]; exact hx, by omega, hk1, by rw [he]; exact m1, i1⟩
    · exact .inr i1
end
section
variable {N : Nat} {rs : List Rl} (hok : Ok N rs)
include hok
theorem hsy (r : Rl) (hr : r ∈ rs) : ∀ s ∈ r.rhs, s.nt = -1 ∨ (0 ≤ s.nt ∧ s.nt < (N : Int)) := fun s hs => by have := hok.sym r hr s hs; omega
theorem rlx_ok {out : List Int} (h : Snd N rs out) : ∀ k, k ≤ rs.length → Snd N rs (rlx rs out k) ∧ ∀ x, Ext rs out x → Ext rs (rlx rs out k) x
  | 0, _ => ⟨h, fun _ hx => hx⟩
  | k + 1, hk => by
    obtain ⟨i1, i2⟩ := rlx_ok h k (by omega)
    obtain ⟨r, hr⟩ : ∃ r, rs[k]? = some r := ⟨rs[k]'(by omega), by simp⟩
    have e1 : rhsAt rs k = r.rhs := by unfold rhsAt; rw [hr]
    have e2 : lhsAt rs k = r.lhs := by unfold lhsAt; rw [hr]
    have hm := List.mem_of_getElem? hr
    have hlh := hok.lhs r hm
    rw [rlx, e1, e2]
    exact ⟨upd_snd i1 hm (by omega) (by omega) (hsy hok r hm), fun x hx => upd_ext i1 hm (by omega) (by omega) (hsy hok r hm) (i2 x hx)⟩
theorem rlx_new {out : List Int} (h : Snd N rs out) {k : Nat} {r : Rl} (hr : rs[k]? = some r) {d : Nat} (hd : LnS rs r.rhs d) (hmin : ∀ k', Ln rs r.lhs.toNat k' → d ≤ k') (hx : ∀ s ∈ r.rhs, 0 ≤ s.nt → Ext rs out s.nt.toNat) : ∀ n, k < n → n ≤ rs.length → Ext rs (rlx rs out n) r.lhs.toNat
  | 0, h, _ => by omega
  | n + 1, hk, hn => by
    obtain ⟨i1, i2⟩ := rlx_ok hok h n (by omega)
    obtain ⟨q, hq⟩ : ∃ q, rs[n]? = some q := ⟨rs[n]'(by omega), by simp⟩
    have e1 : rhsAt rs n = q.rhs := by unfold rhsAt; rw [hq]
    have e2 : lhsAt rs n = q.lhs := by unfold lhsAt; rw [hq]
    have hm := List.mem_of_getElem? hq
    have hlh := hok.lhs q hm
    rw [rlx, e1, e2]
    by_cases e : k = n
    · subst e
      rw [hr] at hq
      obtain rfl := Option.some.inj hq
      exact upd_new i1 hm (by omega) (by omega) hd hmin fun s hs hs0 => i2 _ (hx s hs hs0)
    · exact upd_ext i1 hm (by omega) (by omega) (hsy hok q hm) (rlx_new h hr hd hmin hx n (by omega) (by omega))
theorem srt_snd : ∀ i, Snd N rs (srt N rs i)
  | 0 => ⟨by simp [srt], fun x hx => .inl (by simp [srt, List.getD_eq_getElem?_getD, hx])⟩
  | i + 1 => (rlx_ok hok (srt_snd i) _ (Nat.le_refl _)).1
open Classical in
theorem srt_grow : ∀ i, (∀ x, x < N → Ext rs (srt N rs i) x) ∨ i ≤ ((List.range N).map fun x => decide (Ext rs (srt N rs i) x)).count true
  | 0 => .inr (Nat.zero_le _)
  | i + 1 => by
    have hup := (rlx_ok hok (srt_snd hok i) _ (Nat.le_refl _)).2
    by_cases hall : ∀ x, x < N → Ext rs (srt N rs i) x
    · exact .inl fun x hx => hup x (hall x hx)
    · rcases srt_grow i with h | h
      · exact absurd h hall
      · right
        obtain ⟨y, hy, hn, hy2⟩ : ∃ y, y < N ∧ ¬ Ext rs (srt N rs i) y ∧ Ext rs (srt N rs (i + 1)) y := by
          obtain ⟨x, hx⟩ := Classical.not_forall.1 hall
          obtain ⟨hxN, hxn⟩ := Classical.not_imp.1 hx
          have hp : ∃ k, Ln rs x k := by
            apply Classical.byContradiction
            intro hno
            rcases (srt_snd hok i).val x hxN with h1 | ⟨k, hk, _⟩
            · exact hxn (.inl ⟨h1, hno⟩)
            · exact hno ⟨k, hk⟩
          obtain ⟨k0, hk0⟩ := hp
          obtain ⟨d, ⟨r, hr, he, hl⟩, hmin⟩ := least_ex k0 hk0
          have key : ∃ r ∈ rs, ∃ d, ¬ Ext rs (srt N rs i) r.lhs.toNat ∧ 0 ≤ r.lhs ∧ LnS rs r.rhs d ∧ (∀ k', Ln rs r.lhs.toNat k' → d ≤ k') ∧ ∀ s ∈ r.rhs, 0 ≤ s.nt → Ext rs (srt N rs i) s.nt.toNat := by
            rcases some_new (out := srt N rs i) hl fun k' hk' => hmin k' ⟨r, hr, he, hk'⟩ with h1 | h1
            · exact ⟨r, hr, d, by rw [he]; simpa using hxn, by omega, hl, by rw [he]; simpa using hmin, h1⟩
            · exact h1
          obtain ⟨q, hq, d', hn, h0, hl', hm', hx'⟩ := key
          obtain ⟨j, hj⟩ := List.mem_iff_getElem?.1 hq
          have hlh := hok.lhs q hq
          exact ⟨q.lhs.toNat, by omega, hn, rlx_new hok (srt_snd hok i) hj hl' hm' hx' _ (List.getElem?_eq_some_iff.1 hj).1 (Nat.le_refl _)⟩
        have hg : ∀ (out : List Int) n, ((List.range N).map fun x => decide (Ext rs out x)).getD n false = true ↔ n < N ∧ Ext rs out n := fun out n => by
          rw [List.getD_eq_getElem?_getD]
          by_cases hn : n < N
          · simp [hn]
          · simp [hn]
        have := count_up (a := (List.range N).map fun x => decide (Ext rs (srt N rs i) x)) (b := (List.range N).map fun x => decide (Ext rs (srt N rs (i + 1)) x)) (by simp) (fun n hn' => by
          rw [hg] at hn' ⊢
          exact ⟨hn'.1, hup n hn'.2⟩) (fun e => by
            have h1 := (hg (srt N rs (i + 1)) y).2 ⟨hy, hy2⟩
            rw [← e] at h1
            exact hn ((hg _ _).1 h1).2)
        omega
open Classical in
theorem srt_done : ShortOk N rs (srt N rs (N + 1)) := by
  have hall : ∀ x, x < N → Ext rs (srt N rs N) x := by
    rcases srt_grow hok N with h | h
    · exact h
    · intro x hx
      have := all_true (l := (List.range N).map fun x => decide (Ext rs (srt N rs N) x)) (by simpa using h) x (by simpa using hx)
      simpa [List.getD_eq_getElem?_getD, hx] using this
  exact ⟨srt_len _ _ _, fun x hx => (rlx_ok hok (srt_snd hok N) _ (Nat.le_refl _)).2 x (hall x hx)⟩
end
end Go.Proofs.Ytopbibhpekjaeaa
