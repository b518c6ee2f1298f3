/- In each width the same is written, but for breaks and blanks: plain. -/
import Derived.Test.YtbmejfcbladofaaB1
namespace Go.Proofs.Ytbmejfcbladofaa
open Go.RowKit

def woB (b : UInt8) : Bool := !(b == 10) && !(b == 32)
/-- Bytes without 10 and 32. -/
def wo (l : List UInt8) : List UInt8 := l.filter woB
theorem wo_app (a b : List UInt8) : wo (a ++ b) = wo a ++ wo b := List.filter_append _ _
theorem wo_len (l : List UInt8) : (wo l).length ≤ l.length := List.length_filter_le _ _
theorem wo_brk (i : Nat) : wo (brkS i).data.toList = [] := by
  rw [brkS_list]
  unfold wo
  rw [List.filter_eq_nil_iff]
  intro b hb
  rcases List.mem_cons.1 hb with rfl | hb
  · decide
  · rw [List.eq_of_mem_replicate hb]; decide
def woL (l : List Th) : List UInt8 := l.flatMap fun t => wo t.flatS.data.toList
theorem woL_app (a b : List Th) : woL (a ++ b) = woL a ++ woL b := by simp [woL]
theorem woL_cons (t : Th) (l : List Th) : woL (t :: l) = wo t.flatS.data.toList ++ woL l := by simp [woL]
/-- The lines' texts are blanks. -/
def LB (l : List Th) : Prop := ∀ s i, Th.line s i ∈ l → wo s.data.toList = []
theorem wrP_wo {p : Pg} {s : ByteArray} (h : (wrP p s).long = false) : wo (wrP p s).tx = wo p.tx ++ wo s.data.toList := by
  rw [(wrP_long h).2]
  exact wo_app _ _
theorem brkP_wo {p : Pg} {i : Nat} (h : (brkP p i).long = false) : wo (brkP p i).tx = wo p.tx := by
  have e := wrP_wo (s := brkS i) h
  rw [wo_brk, List.append_nil] at e
  exact e
theorem wrAll_wo {l : List Th} {p : Pg} (h : (wrAll p l).long = false) : wo (wrAll p l).tx = wo p.tx ++ woL l := by
  induction l generalizing p with
  | nil => simp [woL]; rfl
  | cons t l ih =>
    have h' : (wrAll (wrP p t.flatS) l).long = false := h
    have e : wrAll p (t :: l) = wrAll (wrP p t.flatS) l := rfl
    rw [e, ih h', wrP_wo (wrAll_long h'), woL_cons, List.append_assoc]
theorem fillN_wo (n : Nat) : ∀ {p : Pg} {l : List Th}, LB l → l.length ≤ n → (fillN n p l).1.long = false → wo (fillN n p l).1.tx = wo p.tx ++ woL l := by
  induction n with
  | zero =>
    intro p l _ hl _
    obtain rfl : l = [] := List.length_eq_zero_iff.1 (by omega)
    simp [woL]; rfl
  | succ n ih =>
    intro p l hn hl h
    cases l with
    | nil => simp [woL]; rfl
    | cons t l =>
      have l1 := fillN_long h
      rw [fillN] at h ⊢
      simp only [l1, Bool.false_eq_true, if_false] at h ⊢
      simp only [List.length_cons] at hl
      have hn' : LB l := fun s i hx => hn s i (by simp [hx])
      have hp := fillN_long h
      rw [woL_cons]
      cases t with
      | text s =>
        have := ih hn' (by show l.length ≤ n; omega) h
        have e : wo (putP p l (.text s)).1.tx = wo p.tx ++ wo s.data.toList := wrP_wo hp
        rw [e, List.append_assoc] at this
        exact this
      | line s i =>
        have := ih hn' (by show l.length ≤ n; omega) h
        have e : wo (putP p l (.line s i)).1.tx = wo p.tx := brkP_wo hp
        rw [e] at this
        have e2 : wo (Th.line s i).flatS.data.toList = [] := hn s i (by simp)
        rw [e2]
        exact this
      | hard i =>
        have := ih hn' (by show l.length ≤ n; omega) h
        have e : wo (putP p l (.hard i)).1.tx = wo p.tx := brkP_wo hp
        rw [e] at this
        exact this
      | group m =>
        simp only [putP] at h hp ⊢
        cases hf : fitsP p l m with
        | false =>
          have eo : openP p l m = ({ p with br := p.br + 1 }, l) := by unfold openP; rw [hf]; rfl
          rw [eo] at h ⊢
          exact ih (p := { p with br := p.br + 1 }) (l := l) hn' (by omega) h
        | true =>
          have eo : openP p l m = (wrAll p (l.take m), l.drop m) := by unfold openP; rw [hf]; rfl
          rw [eo] at h hp ⊢
          have := ih (p := wrAll p (l.take m)) (fun s i hx => hn' s i (List.mem_of_mem_drop hx)) (by rw [List.length_drop]; omega) h
          rw [wrAll_wo hp, List.append_assoc, ← woL_app, List.take_append_drop] at this
          exact this
def woD (l : List Dc) : List UInt8 := l.flatMap fun d => wo d.text.data.toList
theorem woD_app (a b : List Dc) : woD (a ++ b) = woD a ++ woD b := by simp [woD]
theorem woD_cons (d : Dc) (l : List Dc) : woD (d :: l) = wo d.text.data.toList ++ woD l := by simp [woD]
theorem lfs_cons (d : Dc) (l : List Dc) : lfs (d :: l) = if isLf d then d :: lfs l else lfs l := by unfold lfs; rw [List.filter_cons]
theorem lfs_app (a b : List Dc) : lfs (a ++ b) = lfs a ++ lfs b := List.filter_append _ _
theorem okP_hard {p : Dc × Nat} (h : okP p = true) (hk : p.1.kind = 3) : p.1.text.data.toList = [] := by
  unfold okP okK okC at h
  rw [if_neg (by omega), if_pos hk] at h
  simp only [Bool.and_eq_true] at h
  have := h.2.2
  have e : p.1.text.toList = [] := by simpa using this
  have : p.1.text.data.toList = p.1.text.toList := by rw [ByteArray.toList_eq]
  rw [this, e]
mutual
theorem thg_wo : ∀ (d : Dc) (i : Int) (m : Nat), (∀ p ∈ pre d m, okP p = true) → woL (thg d i) = woD (lfs ((pre d m).map (·.1))) ∧ (∀ s j, Th.line s j ∈ thg d i → ∃ x ∈ (pre d m).map (·.1), x.kind = 2 ∧ x.text = s)
  | .mk k t n l, i, m, hp => by
    rw [pre] at hp
    have h0 := hp _ List.mem_cons_self
    have h := thgL_wo l (i + n) (m + 1) (fun p hp' => hp p (List.mem_cons_of_mem _ hp'))
    have up : ∀ s j, Th.line s j ∈ thgL l (i + n) → ∃ x ∈ (pre (.mk k t n l) m).map (·.1), x.kind = 2 ∧ x.text = s := fun s j hs => by
      obtain ⟨x, hx, e⟩ := h.2 s j hs
      exact ⟨x, by rw [pre, List.map_cons]; exact List.mem_cons_of_mem _ hx, e⟩
    have eL : lfs ((pre (.mk k t n l) m).map (·.1)) = if isLf (.mk k t n l) then .mk k t n l :: lfs ((preL l (m + 1)).map (·.1)) else lfs ((preL l (m + 1)).map (·.1)) := by
      rw [pre, List.map_cons, lfs_cons]
    rw [eL, thg]
    show woL (if k = 1 then _ else _) = _ ∧ ∀ s j, _ ∈ (if k = 1 then _ else _ : List Th) → _
    split
    · rename_i hk; subst hk
      have e : isLf (.mk 1 t n l) = true := rfl
      rw [e, if_pos rfl, woL_cons, woD_cons, h.1]
      refine ⟨rfl, fun s j hs => ?_⟩
      rcases List.mem_cons.1 hs with hs | hs
      · cases hs
      · exact up s j hs
    split
    · rename_i hk; subst hk
      have e : isLf (.mk 2 t n l) = true := rfl
      rw [e, if_pos rfl, woL_cons, woD_cons, h.1]
      refine ⟨rfl, fun s j hs => ?_⟩
      rcases List.mem_cons.1 hs with hs | hs
      · cases hs
        exact ⟨.mk 2 t n l, by rw [pre, List.map_cons]; exact List.mem_cons_self, rfl, rfl⟩
      · exact up s j hs
    split
    · rename_i hk; subst hk
      have e : isLf (.mk 3 t n l) = true := rfl
      have e3 : (Dc.mk 3 t n l).text.data.toList = [] := okP_hard h0 rfl
      rw [e, if_pos rfl, woL_cons, woD_cons, h.1, e3]
      refine ⟨rfl, fun s j hs => ?_⟩
      rcases List.mem_cons.1 hs with hs | hs
      · cases hs
      · exact up s j hs
    split
    · rename_i hk; subst hk
      have e : isLf (.mk 5 t n l) = false := rfl
      rw [e, if_neg (by decide), woL_cons, h.1]
      refine ⟨rfl, fun s j hs => ?_⟩
      rcases List.mem_cons.1 hs with hs | hs
      · cases hs
      · exact up s j hs
    · rename_i h1 h2 h3 _
      have e : isLf (.mk k t n l) = false := by simp [isLf, Dc.kind, h1, h2, h3]
      rw [e, if_neg (by decide), h.1]
      exact ⟨rfl, up⟩
theorem thgL_wo : ∀ (l : List Dc) (i : Int) (m : Nat), (∀ p ∈ preL l m, okP p = true) → woL (thgL l i) = woD (lfs ((preL l m).map (·.1))) ∧ (∀ s j, Th.line s j ∈ thgL l i → ∃ x ∈ (preL l m).map (·.1), x.kind = 2 ∧ x.text = s)
  | [], i, m, _ => by simp [thgL, preL, woL, woD, lfs]
  | d :: l, i, m, hp => by
    rw [preL] at hp
    have a := thg_wo d i m (fun p h => hp p (List.mem_append_left _ h))
    have b := thgL_wo l i m (fun p h => hp p (List.mem_append_right _ h))
    rw [thgL, preL, List.map_append, lfs_app, woL_app, woD_app, a.1, b.1]
    refine ⟨rfl, fun s j hs => ?_⟩
    rcases List.mem_append.1 hs with hs | hs
    · obtain ⟨x, hx, e⟩ := a.2 s j hs
      exact ⟨x, List.mem_append_left _ hx, e⟩
    · obtain ⟨x, hx, e⟩ := b.2 s j hs
      exact ⟨x, List.mem_append_right _ hx, e⟩
end
theorem lay_wo {d : Dc} {wd : Int} (h : layC d wd = 0) (hb : ∀ x ∈ leavesD d, x.kind = 2 → wo x.text.data.toList = []) : wo (layT d wd).data.toList = woD (leavesD d) := by
  obtain ⟨hr, hl⟩ := layC_zero h
  obtain ⟨_, ho⟩ := right_ok hr
  have ht := thg_wo d 0 1 ho
  rw [layT_of h]
  have := fillN_wo (thg d 0).length (p := ⟨max wd 0, [], 0, 0, false⟩) (fun s i hs => by
    obtain ⟨x, hx, hk, rfl⟩ := ht.2 s i hs
    refine hb x ?_ hk
    unfold leavesD lfs
    rw [List.mem_filter]
    exact ⟨hx, by simp [isLf, hk]⟩) (Nat.le_refl _) hl
  rw [ht.1] at this
  exact this
mutual
theorem pre_text : ∀ (d : Dc) (m : Nat), ∀ p ∈ pre d m, p.1.text.size ≤ 16 * wt d
  | .mk k t n l, m => by
    have h := preL_text l (m + 1)
    rw [pre, wt]
    intro p hp
    rcases List.mem_cons.1 hp with rfl | hp
    · show t.size ≤ _; omega
    · have := h p hp; omega
theorem preL_text : ∀ (l : List Dc) (m : Nat), ∀ p ∈ preL l m, p.1.text.size ≤ 16 * wtL l
  | [], m => by rw [preL]; intro p hp; cases hp
  | d :: l, m => by
    have h1 := pre_text d m
    have h2 := preL_text l m
    rw [preL, wtL]
    intro p hp
    rcases List.mem_append.1 hp with hp | hp
    · have := h1 p hp; omega
    · have := h2 p hp; omega
end
theorem leaves_text (d : Dc) : ∀ x ∈ leavesD d, x.text.size ≤ 16 * wt d := by
  intro x hx
  unfold leavesD lfs at hx
  rw [List.mem_filter, List.mem_map] at hx
  obtain ⟨⟨p, hp, rfl⟩, _⟩ := hx
  exact pre_text d 1 p hp
theorem woD_len {ls : List Dc} {m : Nat} (h : ∀ x ∈ ls, x.text.size ≤ m) (k : Nat) : (woD (ls.take k)).length ≤ k * m := by
  induction k generalizing ls with
  | zero => simp [woD]
  | succ k ih =>
    cases ls with
    | nil => simp [woD]
    | cons x l =>
      rw [List.take_succ_cons, woD_cons, List.length_append]
      have h1 := ih (ls := l) (fun y hy => h y (by simp [hy]))
      have h2 := h x (by simp)
      have h3 := wo_len x.text.data.toList
      have h4 : x.text.data.toList.length = x.text.size := by simp
      rw [Nat.succ_mul]
      omega
theorem woD_take {ls : List Dc} {k : Nat} {x : Dc} (h : ls[k]? = some x) : woD (ls.take (k + 1)) = woD (ls.take k) ++ wo x.text.data.toList := by
  have hk := (List.getElem?_eq_some_iff.1 h)
  rw [List.take_succ_eq_append_getElem hk.1, hk.2, woD_app, woD_cons]
  simp [woD]
end Go.Proofs.Ytbmejfcbladofaa
