/- How many breaks are written: plain. -/
import Derived.Test.YtbmejfcbladofaaN1
import Derived.Test.YtbmejfcbladofaaL1
namespace Go.Proofs.Ytbmejfcbladofaa
open Go.RowKit

def Th.isHard : Th → Bool | .hard _ => true | _ => false
def Th.isLine : Th → Bool | .line _ _ => true | _ => false
def kindIs (k : Int) (d : Dc) : Bool := decide (d.kind = k)
def nK (k : Int) (l : List Dc) : Nat := l.countP (kindIs k)
def nH (l : List Th) : Nat := l.countP Th.isHard
def nL (l : List Th) : Nat := l.countP Th.isLine
theorem nH_app (a b : List Th) : nH (a ++ b) = nH a + nH b := List.countP_append
theorem nL_app (a b : List Th) : nL (a ++ b) = nL a + nL b := List.countP_append
theorem nH_cons (t : Th) (l : List Th) : nH (t :: l) = nH l + (if t.isHard then 1 else 0) := by unfold nH; rw [List.countP_cons]
theorem nL_cons (t : Th) (l : List Th) : nL (t :: l) = nL l + (if t.isLine then 1 else 0) := by unfold nL; rw [List.countP_cons]
theorem nK_cons (k : Int) (d : Dc) (l : List Dc) : nK k (d :: l) = nK k l + (if d.kind = k then 1 else 0) := by unfold nK; rw [List.countP_cons]; simp [kindIs]
theorem sr_h (l : List Th) : (sr l).h = nH l := by
  induction l with
  | nil => rfl
  | cons t l ih =>
    unfold nH at ih ⊢
    rw [sr, List.countP_cons]
    cases t <;> simp [Th.from, Th.isHard, ih]
mutual
theorem thg_nH : ∀ (d : Dc) (i : Int) (m : Nat), nH (thg d i) = nK 3 ((pre d m).map (·.1)) ∧ nL (thg d i) = nK 2 ((pre d m).map (·.1))
  | .mk k t n l, i, m => by
    have h := thgL_nH l (i + n) (m + 1)
    rw [thg, pre, List.map_cons, nK_cons, nK_cons]
    show nH (if k = 1 then _ else _) = _ + (if k = 3 then 1 else 0) ∧ nL (if k = 1 then _ else _) = _ + (if k = 2 then 1 else 0)
    split
    · rename_i hk; subst hk; rw [nH_cons, nL_cons, h.1, h.2]; exact ⟨rfl, rfl⟩
    split
    · rename_i hk; subst hk; rw [nH_cons, nL_cons, h.1, h.2]; exact ⟨rfl, rfl⟩
    split
    · rename_i hk; subst hk; rw [nH_cons, nL_cons, h.1, h.2]; exact ⟨rfl, rfl⟩
    split
    · rename_i hk; subst hk; rw [nH_cons, nL_cons, h.1, h.2]; exact ⟨rfl, rfl⟩
    · rw [h.1, h.2]
      exact ⟨rfl, rfl⟩
theorem thgL_nH : ∀ (l : List Dc) (i : Int) (m : Nat), nH (thgL l i) = nK 3 ((preL l m).map (·.1)) ∧ nL (thgL l i) = nK 2 ((preL l m).map (·.1))
  | [], _, _ => by simp [thgL, preL, nH, nL, nK]
  | d :: l, i, m => by
    have h1 := thg_nH d i m
    have h2 := thgL_nH l i m
    rw [thgL, preL, nH_app, nL_app, List.map_append]
    unfold nK at *
    rw [List.countP_append, List.countP_append, h1.1, h1.2, h2.1, h2.2]
    exact ⟨rfl, rfl⟩
end
theorem leaves_nK (d : Dc) : nK 3 (leavesD d) = nH (thg d 0) ∧ nK 2 (leavesD d) = nL (thg d 0) := by
  have h := thg_nH d 0 1
  rw [h.1, h.2]
  unfold nK leavesD lfs
  rw [List.countP_filter, List.countP_filter]
  constructor
  · congr 1
    funext x
    unfold kindIs isLf
    by_cases hx : x.kind = 3
    · simp [hx]
    · simp [hx]
  · congr 1
    funext x
    unfold kindIs isLf
    by_cases hx : x.kind = 2
    · simp [hx]
    · simp [hx]
def c10 (l : List UInt8) : Nat := l.count 10
theorem c10_app (a b : List UInt8) : c10 (a ++ b) = c10 a + c10 b := List.count_append
theorem c10_no {l : List UInt8} (h : (10 : UInt8) ∉ l) : c10 l = 0 := List.count_eq_zero.2 h
theorem wrP_c10 {p : Pg} {s : ByteArray} (hs : (10 : UInt8) ∉ s.data.toList) (h : (wrP p s).long = false) : c10 (wrP p s).tx = c10 p.tx := by
  rw [(wrP_long h).2]
  show c10 (p.tx ++ _) = _
  rw [c10_app, c10_no hs]; rfl
theorem brkP_c10 {p : Pg} {i : Nat} (h : (brkP p i).long = false) : c10 (brkP p i).tx = c10 p.tx + 1 := by
  have e := (wrP_long (s := brkS i) h).2
  unfold brkP
  rw [e]
  show c10 (p.tx ++ _) = _
  rw [c10_app, brkS_list]
  unfold c10
  rw [List.count_cons]
  have : List.count (10 : UInt8) (List.replicate i 32) = 0 := List.count_eq_zero.2 (fun h => by have := List.eq_of_mem_replicate h; revert this; decide)
  rw [this]; rfl
theorem wrAll_c10 {l : List Th} {p : Pg} (hn : NT l) (h : (wrAll p l).long = false) : c10 (wrAll p l).tx = c10 p.tx := by
  induction l generalizing p with
  | nil => rfl
  | cons t l ih =>
    have h' : (wrAll (wrP p t.flatS) l).long = false := h
    have e : wrAll p (t :: l) = wrAll (wrP p t.flatS) l := rfl
    rw [e, ih (fun x hx => hn x (by simp [hx])) h', wrP_c10 (hn t (by simp)) (wrAll_long h')]
theorem fillN_c10 (n : Nat) : ∀ {p : Pg} {l : List Th}, NT l → l.length ≤ n → (fillN n p l).1.long = false → c10 p.tx + nH l ≤ c10 (fillN n p l).1.tx ∧ c10 (fillN n p l).1.tx ≤ c10 p.tx + nH l + nL l := by
  induction n with
  | zero =>
    intro p l _ hl _
    obtain rfl : l = [] := List.length_eq_zero_iff.1 (by omega)
    exact ⟨Nat.le_refl _, Nat.le_refl _⟩
  | succ n ih =>
    intro p l hn hl h
    cases l with
    | nil => exact ⟨Nat.le_refl _, Nat.le_refl _⟩
    | cons t l =>
      have l1 := fillN_long h
      rw [fillN] at h ⊢
      simp only [l1, Bool.false_eq_true, if_false] at h ⊢
      simp only [List.length_cons] at hl
      have hn' : NT l := fun x hx => hn x (by simp [hx])
      have hp := fillN_long h
      cases t with
      | text s =>
        have := ih hn' (by show l.length ≤ n; omega) h
        have e : c10 (putP p l (.text s)).1.tx = c10 p.tx := wrP_c10 (hn (.text s) (by simp)) hp
        rw [e] at this
        rw [nH_cons, nL_cons]
        exact this
      | line s i =>
        have := ih hn' (by show l.length ≤ n; omega) h
        have e : c10 (putP p l (.line s i)).1.tx = c10 p.tx + 1 := brkP_c10 hp
        rw [e] at this
        rw [nH_cons, nL_cons]
        obtain ⟨q, hq⟩ : ∃ q, c10 (fillN n (putP p l (.line s i)).1 l).1.tx = q := ⟨_, rfl⟩
        have this' : c10 p.tx + 1 + nH l ≤ q ∧ q ≤ c10 p.tx + 1 + nH l + nL l := by rw [← hq]; exact this
        have goal' : c10 p.tx + (nH l + 0) ≤ q ∧ q ≤ c10 p.tx + (nH l + 0) + (nL l + 1) := by omega
        rw [← hq] at goal'
        exact goal'
      | hard i =>
        have := ih hn' (by show l.length ≤ n; omega) h
        have e : c10 (putP p l (.hard i)).1.tx = c10 p.tx + 1 := brkP_c10 hp
        rw [e] at this
        rw [nH_cons, nL_cons]
        obtain ⟨q, hq⟩ : ∃ q, c10 (fillN n (putP p l (.hard i)).1 l).1.tx = q := ⟨_, rfl⟩
        have this' : c10 p.tx + 1 + nH l ≤ q ∧ q ≤ c10 p.tx + 1 + nH l + nL l := by rw [← hq]; exact this
        have goal' : c10 p.tx + (nH l + 1) ≤ q ∧ q ≤ c10 p.tx + (nH l + 1) + (nL l + 0) := by omega
        rw [← hq] at goal'
        exact goal'
      | group m =>
        have e1 : nH (.group m :: l) = nH l := by rw [nH_cons]; rfl
        have e2 : nL (.group m :: l) = nL l := by rw [nL_cons]; rfl
        rw [e1, e2]
        simp only [putP] at h hp ⊢
        cases hf : fitsP p l m with
        | false =>
          have eo : openP p l m = ({ p with br := p.br + 1 }, l) := by unfold openP; rw [hf]; rfl
          rw [eo] at h ⊢
          exact ih (p := { p with br := p.br + 1 }) hn' (by omega) h
        | true =>
          have eo : openP p l m = (wrAll p (l.take m), l.drop m) := by unfold openP; rw [hf]; rfl
          rw [eo] at h hp ⊢
          have := ih (p := wrAll p (l.take m)) (fun x hx => hn' x (List.mem_of_mem_drop hx)) (by rw [List.length_drop]; omega) h
          rw [wrAll_c10 (fun x hx => hn' x (List.mem_of_mem_take hx)) hp] at this
          have h1 : nH l = nH (l.take m) + nH (l.drop m) := by rw [← nH_app, List.take_append_drop]
          have h2 : nL l = nL (l.take m) + nL (l.drop m) := by rw [← nL_app, List.take_append_drop]
          have h3 : nH l ≤ nH (l.drop m) := by
            unfold fitsP at hf
            rw [sr_h, sr_h] at hf
            simp at hf
            omega
          obtain ⟨q, hq⟩ : ∃ q, c10 (fillN n (wrAll p (l.take m)) (l.drop m)).1.tx = q := ⟨_, rfl⟩
          have this' : c10 p.tx + nH (l.drop m) ≤ q ∧ q ≤ c10 p.tx + nH (l.drop m) + nL (l.drop m) := by rw [← hq]; exact this
          have goal' : c10 p.tx + nH l ≤ q ∧ q ≤ c10 p.tx + nH l + nL l := by omega
          rw [← hq] at goal'
          exact goal'
theorem lay_c10 {d : Dc} {wd : Int} (h : layC d wd = 0) : nK 3 (leavesD d) ≤ c10 (layT d wd).data.toList ∧ c10 (layT d wd).data.toList ≤ nK 3 (leavesD d) + nK 2 (leavesD d) := by
  obtain ⟨hr, hl⟩ := layC_zero h
  obtain ⟨_, ho⟩ := right_ok hr
  rw [layT_of h, (leaves_nK d).1, (leaves_nK d).2]
  have := fillN_c10 (thg d 0).length (p := ⟨max wd 0, [], 0, 0, false⟩) (thg_nt d 0 1 ho) (Nat.le_refl _) hl
  have e0 : c10 ([] : List UInt8) = 0 := rfl
  simp only [e0, Nat.zero_add] at this
  exact this
theorem lfV_get {ls : List Dc} {k : Nat} {x : Dc} (h : ls[k]? = some x) : (lfV ls)[k * 4]? = some (.int .i64 x.kind) ∧ (lfV ls)[k * 4 + 1]? = some (.string x.text) := by
  induction ls generalizing k with
  | nil => cases h
  | cons y l ih =>
    have e : lfV (y :: l) = lfC y ++ lfV l := by simp [lfV]
    cases k with
    | zero => simp at h; subst h; rw [e]; exact ⟨rfl, rfl⟩
    | succ k =>
      simp at h
      have := ih h
      have hl : (lfC y).length = 4 := rfl
      rw [e]
      refine ⟨?_, ?_⟩
      · rw [List.getElem?_append_right (by rw [hl]; omega), hl, show (k + 1) * 4 - 4 = k * 4 by omega]; exact this.1
      · rw [List.getElem?_append_right (by rw [hl]; omega), hl, show (k + 1) * 4 + 1 - 4 = k * 4 + 1 by omega]; exact this.2
theorem nK_take {q : Int} {ls : List Dc} {k : Nat} {x : Dc} (h : ls[k]? = some x) : nK q (ls.take (k + 1)) = nK q (ls.take k) + (if x.kind = q then 1 else 0) := by
  have hk := (List.getElem?_eq_some_iff.1 h)
  rw [List.take_succ_eq_append_getElem hk.1, hk.2]
  unfold nK
  rw [List.countP_append]
  congr 1
  simp [kindIs, List.countP_cons]
theorem nK_le (q : Int) (l : List Dc) : nK q l ≤ l.length := List.countP_le_length
theorem leaves_len (d : Dc) : (leavesD d).length ≤ (pre d 1).length := by
  unfold leavesD lfs
  exact Nat.le_trans (List.length_filter_le _ _) (by simp)
end Go.Proofs.Ytbmejfcbladofaa
