/- A document nested deeper: plain. -/
import Derived.Test.YtbmejfcbladofaaS0
import Derived.Lib.IndexLaws
namespace Go.Proofs.Ytbmejfcbladofaa
open Go.RowKit

def insB (m : Nat) (b : UInt8) : List UInt8 := if b = 10 then b :: List.replicate m 32 else [b]
/-- m blanks behind each break. -/
def ins (m : Nat) (l : List UInt8) : List UInt8 := l.flatMap (insB m)
theorem ins_app (m : Nat) (a b : List UInt8) : ins m (a ++ b) = ins m a ++ ins m b := by simp [ins]
theorem ins_no {m : Nat} {l : List UInt8} (h : (10 : UInt8) ∉ l) : ins m l = l := by
  induction l with
  | nil => rfl
  | cons b l ih =>
    have hb : b ≠ 10 := fun e => h (by simp [e])
    have := ih (fun e => h (List.mem_cons_of_mem _ e))
    unfold ins at this ⊢
    rw [List.flatMap_cons, this]
    simp [insB, hb]
theorem ins_rep (m i : Nat) : ins m (List.replicate i 32) = List.replicate i 32 := ins_no (fun h => by have := List.eq_of_mem_replicate h; revert this; decide)
def shT (m : Int) : Th → Th | .text s => .text s | .line s i => .line s (i + m) | .hard i => .hard (i + m) | .group n => .group n
mutual
theorem thg_shift (m : Int) : ∀ (d : Dc) (i : Int), thg d (i + m) = (thg d i).map (shT m)
  | .mk k t n l, i => by
    have h := thgL_shift m l (i + n)
    have e : i + m + n = i + n + m := by omega
    rw [thg, thg]
    simp only [e]
    rw [h]
    repeat' split
    all_goals simp [shT]
theorem thgL_shift (m : Int) : ∀ (l : List Dc) (i : Int), thgL l (i + m) = (thgL l i).map (shT m)
  | [], _ => by simp [thgL]
  | d :: l, i => by rw [thgL, thgL, List.map_append, thg_shift m d i, thgL_shift m l i]
end
/-- No flat text has a byte 10. -/
def NT (l : List Th) : Prop := ∀ t ∈ l, (10 : UInt8) ∉ t.flatS.data.toList
theorem noTen_no {s : ByteArray} (h : noTen s = true) : (10 : UInt8) ∉ s.data.toList := by
  unfold noTen at h
  have h1 : Lib.indexByte s.data.toList 10 < 0 := of_decide_eq_true h
  have h2 := Lib.indexByte_ge s.data.toList 10
  have h3 := Lib.indexByte_none (l := s.data.toList) (c := 10) (by omega)
  intro hm
  obtain ⟨j, hj, e⟩ := List.getElem_of_mem hm
  exact h3 j (by rw [List.getElem?_eq_getElem hj, e])
theorem okP_ten {p : Dc × Nat} (h : okP p = true) (hk : p.1.kind = 1 ∨ p.1.kind = 2) : (10 : UInt8) ∉ p.1.text.data.toList := by
  unfold okP okK okC at h
  rw [if_pos hk] at h
  simp only [Bool.and_eq_true] at h
  exact noTen_no h.2.2
mutual
theorem thg_nt : ∀ (d : Dc) (i : Int) (m : Nat), (∀ p ∈ pre d m, okP p = true) → NT (thg d i)
  | .mk k t n l, i, m, hp => by
    rw [pre] at hp
    have h0 := hp _ List.mem_cons_self
    have h := thgL_nt l (i + n) (m + 1) (fun p hp' => hp p (List.mem_cons_of_mem _ hp'))
    have e : ∀ (x : Th), (10 : UInt8) ∉ x.flatS.data.toList → NT (x :: thgL l (i + n)) := fun x hx y hy => by
      rcases List.mem_cons.1 hy with rfl | hy
      · exact hx
      · exact h y hy
    rw [thg]
    show NT (if k = 1 then _ else _)
    split
    · rename_i hk; exact e _ (okP_ten h0 (.inl hk))
    split
    · rename_i hk; exact e _ (okP_ten h0 (.inr hk))
    split
    · exact e _ (by simp [Th.flatS])
    split
    · exact e _ (by simp [Th.flatS])
    · exact h
theorem thgL_nt : ∀ (l : List Dc) (i : Int) (m : Nat), (∀ p ∈ preL l m, okP p = true) → NT (thgL l i)
  | [], i, m, _ => by rw [thgL]; exact fun t ht => by cases ht
  | d :: l, i, m, hp => by
    rw [preL] at hp
    have a := thg_nt d i m (fun p h => hp p (List.mem_append_left _ h))
    have b := thgL_nt l i m (fun p h => hp p (List.mem_append_right _ h))
    rw [thgL]
    intro t ht
    rcases List.mem_append.1 ht with h | h
    · exact a t h
    · exact b t h
end
theorem rep32 (i : Nat) : Lib.repeatL [32] i = List.replicate i (32 : UInt8) := by
  induction i with
  | zero => rfl
  | succ n ih => rw [Lib.repeatL, ih]; rfl
theorem brkS_list (i : Nat) : (brkS i).data.toList = 10 :: List.replicate i 32 := by
  unfold brkS
  rw [ByteArray.data_append]
  simp [rep32]
theorem wrP_long {p : Pg} {s : ByteArray} (h : (wrP p s).long = false) : p.long = false ∧ wrP p s = { p with tx := p.tx ++ s.data.toList, col := p.col + s.size } := by
  unfold wrP at h ⊢
  split at h
  · cases h
  · rename_i hn; exact ⟨h, by rw [if_neg hn]⟩
/-- Two pages, the second m deeper. -/
structure NR (m : Nat) (p q : Pg) : Prop where
  wd : q.wd = p.wd + m
  col : q.col = p.col + m
  tx : q.tx = ins m p.tx
theorem wrP_nr {m : Nat} {p q : Pg} {s : ByteArray} (h : NR m p q) (hs : (10 : UInt8) ∉ s.data.toList) (h1 : (wrP p s).long = false) (h2 : (wrP q s).long = false) : NR m (wrP p s) (wrP q s) := by
  rw [(wrP_long h1).2, (wrP_long h2).2]
  exact ⟨h.wd, by show q.col + _ = p.col + _ + _; rw [h.col]; omega, by show q.tx ++ _ = ins m (p.tx ++ _); rw [ins_app, ins_no hs, h.tx]⟩
theorem brkP_nr {m i : Nat} {p q : Pg} (h : NR m p q) (h1 : (brkP p i).long = false) (h2 : (brkP q (i + m)).long = false) : NR m (brkP p i) (brkP q (i + m)) := by
  have e1 := (wrP_long (p := p) (s := brkS i) h1).2
  have e2 := (wrP_long (p := q) (s := brkS (i + m)) h2).2
  unfold brkP
  rw [e1, e2]
  refine ⟨h.wd, by show ((i + m : Nat) : Int) = (i : Int) + m; omega, ?_⟩
  show q.tx ++ _ = ins m (p.tx ++ _)
  rw [ins_app, h.tx, brkS_list, brkS_list]
  congr 1
  show _ = insB m 10 ++ ins m (List.replicate i 32)
  rw [ins_rep]
  have e : insB m 10 = 10 :: List.replicate m 32 := by simp [insB]
  rw [e, List.cons_append, List.replicate_append_replicate, Nat.add_comm m i]
theorem wrAll_long {l : List Th} {p : Pg} (h : (wrAll p l).long = false) : p.long = false := by
  induction l generalizing p with
  | nil => exact h
  | cons t l ih => exact (wrP_long (ih (p := wrP p t.flatS) h)).1
theorem shT_flat (m : Int) (t : Th) : (shT m t).flatS = t.flatS := by cases t <;> rfl
theorem wrAll_nr {m : Nat} {l : List Th} {p q : Pg} (h : NR m p q) (hn : NT l) (h1 : (wrAll p l).long = false) (h2 : (wrAll q (l.map (shT m))).long = false) : NR m (wrAll p l) (wrAll q (l.map (shT m))) := by
  induction l generalizing p q with
  | nil => exact h
  | cons t l ih =>
    have e : wrAll q ((t :: l).map (shT m)) = wrAll (wrP q t.flatS) (l.map (shT m)) := by
      show wrAll (wrP q (shT m t).flatS) _ = _
      rw [shT_flat]
    rw [e] at h2 ⊢
    have h1' : (wrAll (wrP p t.flatS) l).long = false := h1
    exact ih (wrP_nr h (hn t (by simp)) (wrAll_long h1') (wrAll_long h2)) (fun x hx => hn x (by simp [hx])) h1' h2
theorem sr_sh (m : Int) (l : List Th) : sr (l.map (shT m)) = sr l := by
  induction l with
  | nil => rfl
  | cons t l ih => rw [List.map_cons, sr, sr, ih]; cases t <;> rfl
theorem fits_nr {m : Nat} {p q : Pg} (h : NR m p q) (l : List Th) (n : Nat) : fitsP q (l.map (shT m)) n = fitsP p l n := by
  unfold fitsP
  rw [← List.map_drop, sr_sh, sr_sh, h.wd, h.col, show p.wd + (m : Int) - (p.col + (m : Int)) = p.wd - p.col by omega]
theorem putP_nr {m : Nat} {p q : Pg} {l : List Th} {t : Th} (h : NR m p q) (hn : NT (t :: l)) (hi : 0 ≤ t.ind) (h1 : (putP p l t).1.long = false) (h2 : (putP q (l.map (shT m)) (shT m t)).1.long = false) : NR m (putP p l t).1 (putP q (l.map (shT m)) (shT m t)).1 ∧ (putP q (l.map (shT m)) (shT m t)).2 = (putP p l t).2.map (shT m) := by
  cases t with
  | text s => exact ⟨wrP_nr h (hn (.text s) (by simp)) h1 h2, rfl⟩
  | line s i =>
    have e : (i + m).toNat = i.toNat + m := by simp only [Th.ind] at hi; omega
    simp only [putP, shT, e] at h1 h2 ⊢
    exact ⟨brkP_nr h h1 h2, trivial⟩
  | hard i =>
    have e : (i + m).toNat = i.toNat + m := by simp only [Th.ind] at hi; omega
    simp only [putP, shT, e] at h1 h2 ⊢
    exact ⟨brkP_nr h h1 h2, trivial⟩
  | group n =>
    simp only [putP, shT] at h1 h2 ⊢
    unfold openP at h1 h2 ⊢
    rw [fits_nr h] at h2 ⊢
    cases hf : fitsP p l n with
    | true =>
      rw [hf] at h1 h2
      simp only [if_true] at h1 h2 ⊢
      rw [← List.map_take] at h2 ⊢
      exact ⟨wrAll_nr h (fun x hx => hn x (List.mem_cons_of_mem _ (List.mem_of_mem_take hx))) h1 h2, by rw [List.map_drop]⟩
    | false =>
      simp only [Bool.false_eq_true, if_false]
      exact ⟨⟨h.wd, h.col, h.tx⟩, trivial⟩
theorem putP_long {p : Pg} {l : List Th} {t : Th} (h : (putP p l t).1.long = false) : p.long = false := by
  cases t with
  | text s => exact (wrP_long h).1
  | line s i => exact (wrP_long (s := brkS i.toNat) h).1
  | hard i => exact (wrP_long (s := brkS i.toNat) h).1
  | group n =>
    simp only [putP] at h
    unfold openP at h
    split at h
    · exact wrAll_long h
    · exact h
theorem fillN_long {n : Nat} {p : Pg} {l : List Th} (h : (fillN n p l).1.long = false) : p.long = false := by
  induction n generalizing p l with
  | zero => exact h
  | succ n ih =>
    cases l with
    | nil => exact h
    | cons t l =>
      rw [fillN] at h
      split at h
      · exact h
      · exact putP_long (ih h)
theorem fillN_nr {m n : Nat} {p q : Pg} {l : List Th} (h : NR m p q) (hn : NT l) (hi : ∀ t ∈ l, 0 ≤ t.ind) (h1 : (fillN n p l).1.long = false) (h2 : (fillN n q (l.map (shT m))).1.long = false) : (fillN n q (l.map (shT m))).1.tx = ins m (fillN n p l).1.tx := by
  induction n generalizing p q l with
  | zero => exact h.tx
  | succ n ih =>
    cases l with
    | nil => exact h.tx
    | cons t l =>
      have l1 := fillN_long h1
      have l2 := fillN_long h2
      rw [List.map_cons] at h2 ⊢
      rw [fillN] at h1 h2 ⊢
      rw [fillN]
      simp only [l1, l2, Bool.false_eq_true, if_false] at h1 h2 ⊢
      obtain ⟨hr, hl⟩ := putP_nr h hn (hi t (by simp)) (fillN_long h1) (fillN_long h2)
      obtain ⟨k, hk⟩ := putP_drop p l t
      rw [hl] at h2 ⊢
      refine ih hr (fun x hx => hn x ?_) (fun x hx => hi x ?_) h1 h2
      all_goals
        rw [hk] at hx
        exact List.mem_cons_of_mem _ (List.mem_of_mem_drop hx)
def hardD : Dc := .mk 3 ⟨#[]⟩ 0 []
def plainD (d : Dc) : Dc := .mk 6 ⟨#[]⟩ 0 [hardD, d]
def deepD (m : Int) (d : Dc) : Dc := .mk 4 ⟨#[]⟩ m [hardD, d]
theorem plain_thg (d : Dc) : thg (plainD d) 0 = .hard 0 :: thg d 0 := by simp [plainD, hardD, thg, thgL]
theorem deep_thg (m : Int) (d : Dc) : thg (deepD m d) 0 = .hard m :: (thg d 0).map (shT m) := by
  rw [← thg_shift m d 0]
  simp [deepD, hardD, thg, thgL]
theorem plain_pre (d : Dc) : pre (plainD d) 1 = [(plainD d, 1), (hardD, 2)] ++ pre d 2 := by simp [plainD, hardD, pre, preL]
theorem deep_pre (m : Int) (d : Dc) : pre (deepD m d) 1 = [(deepD m d, 1), (hardD, 2)] ++ pre d 2 := by simp [deepD, hardD, pre, preL]
theorem deep_right {m : Int} {d : Dc} (h : rightD (deepD m d) = true) : rightD d = true := right_in (k := 1) h ⟨[(deepD m d, 1), (hardD, 2)], [], by rw [deep_pre, List.append_nil]⟩
theorem plain_right {m : Int} {d : Dc} (h : rightD (deepD m d) = true) : rightD (plainD d) = true := by
  obtain ⟨hl, ho⟩ := right_ok h
  rw [deep_pre] at hl ho
  unfold rightD
  rw [Bool.and_eq_true, decide_eq_true_eq, List.all_eq_true, plain_pre]
  refine ⟨by simpa using hl, fun p hp => ?_⟩
  simp only [List.cons_append, List.nil_append] at hp ho
  rcases List.mem_cons.1 hp with rfl | hp
  · show okP (Dc.mk 6 ⟨#[]⟩ 0 [hardD, d], 1) = true
    simp [okP, okK, okC, Dc.kind, Dc.text, Dc.n]
  · exact ho p (List.mem_cons_of_mem _ hp)
theorem plain_wt (d : Dc) (m : Int) : wt (plainD d) = 2 + wt d ∧ wt (deepD m d) = 2 + wt d := by
  have e0 : (⟨#[]⟩ : ByteArray).size = 0 := rfl
  constructor
  · simp [plainD, hardD, wt, wtL, e0]; omega
  · simp [deepD, hardD, wt, wtL, e0]; omega
theorem layC_zero {d : Dc} {wd : Int} (h : layC d wd = 0) : rightD d = true ∧ (layP d wd).long = false := by
  unfold layC at h
  cases hr : rightD d with
  | false => rw [hr] at h; simp at h
  | true =>
    cases hl : (layP d wd).long with
    | false => exact ⟨rfl, rfl⟩
    | true => rw [hr, hl] at h; simp at h
theorem layT_of {d : Dc} {wd : Int} (h : layC d wd = 0) : layT d wd = ⟨(layP d wd).tx.toArray⟩ := by
  obtain ⟨h1, h2⟩ := layC_zero h
  unfold layT
  rw [h1, h2]; rfl
theorem nest_lay {m : Nat} {d : Dc} {wd : Int} (hr : rightD (deepD m d) = true) (hw : 0 ≤ wd) (hm : m ≤ 8) (h1 : layC (plainD d) wd = 0) (h2 : layC (deepD m d) (wd + m) = 0) : layT (deepD m d) (wd + m) = ⟨(ins m (layT (plainD d) wd).data.toList).toArray⟩ := by
  rw [layT_of h1, layT_of h2]
  have l1 := (layC_zero h1).2
  have l2 := (layC_zero h2).2
  obtain ⟨_, ho⟩ := right_ok (deep_right hr)
  have e1 : layP (plainD d) wd = (fillN (thg d 0).length (brkP ⟨wd, [], 0, 0, false⟩ 0) (thg d 0)).1 := by
    unfold layP
    rw [plain_thg, List.length_cons, fillN, show max wd 0 = wd by omega]
    rfl
  have e2 : layP (deepD m d) (wd + m) = (fillN (thg d 0).length (brkP ⟨wd + m, [], 0, 0, false⟩ m) ((thg d 0).map (shT m))).1 := by
    unfold layP
    rw [deep_thg, List.length_cons, fillN, show max (wd + (m : Int)) 0 = wd + m by omega, List.length_map]
    rfl
  rw [e1] at l1
  rw [e2] at l2
  have b1 := fillN_long l1
  have b2 := fillN_long l2
  have hR : NR m (brkP ⟨wd, [], 0, 0, false⟩ 0) (brkP ⟨wd + m, [], 0, 0, false⟩ m) := by
    have c1 := (wrP_long (s := brkS 0) b1).2
    have c2 := (wrP_long (s := brkS m) b2).2
    unfold brkP
    rw [c1, c2]
    refine ⟨rfl, by show ((m : Nat) : Int) = ((0 : Nat) : Int) + m; omega, ?_⟩
    show [] ++ (brkS m).data.toList = ins m ([] ++ (brkS 0).data.toList)
    rw [brkS_list, brkS_list]
    simp [ins, insB]
  have := fillN_nr hR (thg_nt d 0 1 ho) (fun t ht => (thg_ind d 0 1 ho (by omega) (by omega) (by omega) t ht).1) l1 l2
  rw [← e1, ← e2] at this
  rw [this]
end Go.Proofs.Ytbmejfcbladofaa
