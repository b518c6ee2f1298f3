/- K0, K1 and M0 in one text. -/
import Derived.Test.YtbmejfcbladofaaF0
namespace Go.Proofs.Ytbmejfcbladofaa
open Go.RowKit

structure Wr where
  pos : Nat
  out : List UInt8
  col : Int
  br : Nat
  long : Bool
def rput (w : Wr) (s : ByteArray) : Wr := if 65536 < w.out.length + s.size then { w with long := true } else { w with out := w.out ++ s.data.toList, col := w.col + s.size }
def rspc : Nat → Wr → Wr
  | 0, w => w
  | n + 1, w => if w.long then w else rspc n (rput w ⟨#[32]⟩)
def rbrk (w : Wr) (i : Nat) : Wr := { rspc i (rput w ⟨#[10]⟩) with col := (i : Int) }
def rleaf (L : List Dc) (w : Wr) (i : Nat) (flat : Bool) : Wr :=
  match L[w.pos]? with
  | none => w
  | some x => if x.kind = 1 ∨ (x.kind = 2 ∧ flat = true) then rput { w with pos := w.pos + 1 } x.text else rbrk { w with pos := w.pos + 1 } i
def szS (l : List Dc) : Nat := l.foldr (fun x n => x.text.size + n) 0
def nearS : List Dc → Nat
  | [] => 0
  | x :: l => if x.kind = 1 then x.text.size + nearS l else 0
def rfits (L : List Dc) (wd : Int) (w : Wr) (n : Nat) : Bool := !hasHard ((L.drop w.pos).take n) && decide (w.col + (szS ((L.drop w.pos).take n) : Int) + (nearS (L.drop (w.pos + n)) : Int) ≤ wd)
mutual
/-- The leaves, as the document's own way finds them. -/
def rlv : Dc → List Dc
  | .mk k t n l => if k = 1 ∨ k = 2 ∨ k = 3 then [.mk k t n []] else rlvL l
def rlvL : List Dc → List Dc
  | [] => []
  | d :: l => rlv d ++ rlvL l
end
mutual
def rlay (L : List Dc) (wd : Int) : Dc → Wr → Int → Bool → Wr
  | .mk k _ n l, w, i, flat =>
    if k = 1 ∨ k = 2 ∨ k = 3 then rleaf L w i.toNat flat
    else if k = 4 then rlayL L wd l w (i + n) flat
    else if k = 5 ∧ flat = false then (if rfits L wd w (rlvL l).length then rlayL L wd l w i true else rlayL L wd l { w with br := w.br + 1 } i false)
    else rlayL L wd l w i flat
def rlayL (L : List Dc) (wd : Int) : List Dc → Wr → Int → Bool → Wr
  | [], w, _, _ => w
  | d :: l, w, i, flat => if w.long then w else rlayL L wd l (rlay L wd d w i flat) i flat
end
/-- A page and a writer that are at one. -/
structure RW (p : Pg) (w : Wr) : Prop where
  tx : p.tx = w.out
  col : p.col = w.col
  br : p.br = w.br
  lp : p.long = false
  lw : w.long = false
  len : p.tx.length ≤ 65536
theorem rput_rw {p : Pg} {w : Wr} (h : RW p w) (s : ByteArray) : (rput w s).long = (wrP p s).long ∧ ((rput w s).long = false → RW (wrP p s) (rput w s)) ∧ (rput w s).pos = w.pos := by
  have hl := wrP_len p s h.len
  unfold rput
  unfold wrP at hl ⊢
  rw [h.tx] at hl ⊢
  by_cases hs : 65536 < w.out.length + s.size
  · rw [if_pos hs, if_pos (by omega)]
    exact ⟨rfl, fun h => (by cases h), rfl⟩
  · rw [if_neg (by omega)] at hl
    rw [if_neg hs, if_neg (by omega)]
    exact ⟨by show w.long = p.long; rw [h.lp, h.lw], fun _ => ⟨rfl, by show _ + _ = _ + _; rw [h.col], h.br, h.lp, h.lw, hl⟩, rfl⟩
theorem rspc_long (i : Nat) {w : Wr} (h : w.long = true) : rspc i w = w := by
  cases i with
  | zero => rfl
  | succ i => rw [rspc, if_pos h]
theorem rspc_eq (i : Nat) : ∀ {w : Wr}, w.long = false → w.out.length ≤ 65536 → (rspc i w).long = decide (65536 < w.out.length + i) ∧ ((rspc i w).long = false → (rspc i w).out = w.out ++ List.replicate i 32) ∧ (rspc i w).pos = w.pos ∧ (rspc i w).br = w.br := by
  induction i with
  | zero =>
    intro w hw hl
    refine ⟨?_, fun _ => by simp [rspc], rfl, rfl⟩
    rw [rspc, hw]; simp; omega
  | succ i ih =>
    intro w hw hl
    rw [rspc, if_neg (by rw [hw]; decide)]
    by_cases hs : 65536 < w.out.length + 1
    · have e : rput w ⟨#[32]⟩ = { w with long := true } := by
        unfold rput; exact if_pos hs
      rw [e, rspc_long i rfl]
      refine ⟨?_, fun h => (by cases h), rfl, rfl⟩
      show true = _
      simp; omega
    · have e : rput w ⟨#[32]⟩ = { w with out := w.out ++ [32], col := w.col + 1 } := by
        unfold rput; exact if_neg hs
      rw [e]
      obtain ⟨h1, h2, h3, h4⟩ := ih (w := { w with out := w.out ++ [32], col := w.col + 1 }) hw (by simp; omega)
      refine ⟨?_, fun h => ?_, h3, h4⟩
      · rw [h1]; simp; omega
      · rw [h2 h]; simp [List.replicate_succ]
theorem rbrk_rw {p : Pg} {w : Wr} (h : RW p w) (i : Nat) : (rbrk w i).long = (brkP p i).long ∧ ((rbrk w i).long = false → RW (brkP p i) (rbrk w i)) ∧ (rbrk w i).pos = w.pos := by
  have hl := h.len
  have htx := h.tx
  have hlb : (brkP p i).long = decide (65536 < w.out.length + 1 + i) := by
    unfold brkP wrP
    rw [brkS_size, h.tx]
    by_cases hs : 65536 < w.out.length + 1 + i
    · rw [if_pos (by omega)]; simp; omega
    · rw [if_neg (by omega)]
      show p.long = _
      rw [h.lp]; simp; omega
  unfold rbrk
  by_cases hs : 65536 < w.out.length + 1
  · have e : rput w ⟨#[10]⟩ = { w with long := true } := by
      unfold rput; exact if_pos hs
    rw [e, rspc_long i rfl, hlb]
    refine ⟨?_, fun h => (by cases h), rfl⟩
    show true = _
    simp; omega
  · have e : rput w ⟨#[10]⟩ = { w with out := w.out ++ [10], col := w.col + 1 } := by
      unfold rput; exact if_neg hs
    rw [e]
    obtain ⟨h1, h2, h3, h4⟩ := rspc_eq i (w := { w with out := w.out ++ [10], col := w.col + 1 }) h.lw (by simp; omega)
    refine ⟨?_, fun hf => ?_, h3⟩
    · show (rspc i _).long = _
      rw [h1, hlb]; simp
    · have hf' : (rspc i { w with out := w.out ++ [10], col := w.col + 1 }).long = false := hf
      have e2 := h2 hf'
      have hlf : (brkP p i).long = false := by rw [hlb, ← hf', h1]; simp
      have e3 := (wrP_long (p := p) (s := brkS i) hlf).2
      have hlen := wrP_len p (brkS i) h.len
      refine ⟨?_, rfl, ?_, hlf, hf', hlen⟩
      · show (wrP p (brkS i)).tx = (rspc i _).out
        rw [e3, e2, h.tx]
        show w.out ++ _ = _
        rw [brkS_list]; simp
      · show (wrP p (brkS i)).br = (rspc i _).br
        rw [(wrP_wd p (brkS i)).2, h4]; exact h.br
/-- The leaves among things. -/
def tk : List Th → List Dc
  | [] => []
  | .text s :: l => .mk 1 s 0 [] :: tk l
  | .line s _ :: l => .mk 2 s 0 [] :: tk l
  | .hard _ :: l => .mk 3 ⟨#[]⟩ 0 [] :: tk l
  | .group _ :: l => tk l
theorem tk_app (a b : List Th) : tk (a ++ b) = tk a ++ tk b := by
  induction a with
  | nil => rfl
  | cons t a ih => cases t <;> simp [tk, ih]
theorem okC_n0 {k : Int} {t : ByteArray} {n : Int} {kl : Nat} (h : okC k t n kl = true) (h4 : k ≠ 4) : n = 0 := by
  unfold okC at h
  by_cases h1 : k = 1 ∨ k = 2
  · rw [if_pos h1] at h
    simp only [Bool.and_eq_true, decide_eq_true_eq] at h; exact h.1.1
  by_cases h3 : k = 3
  · rw [if_neg h1, if_pos h3] at h
    simp only [Bool.and_eq_true, decide_eq_true_eq] at h; exact h.1.1
  rw [if_neg h1, if_neg h3, if_neg h4] at h
  split at h
  · simp only [Bool.and_eq_true, decide_eq_true_eq] at h; exact h.1
  · cases h
theorem okC_leaf {k : Int} {t : ByteArray} {n : Int} {kl : Nat} (h : okC k t n kl = true) (hk : k = 1 ∨ k = 2 ∨ k = 3) : kl = 0 ∧ (k = 3 → t.toList.isEmpty = true) := by
  unfold okC at h
  split at h
  · simp only [Bool.and_eq_true, decide_eq_true_eq] at h
    exact ⟨h.1.2, fun e => by omega⟩
  split at h
  · simp only [Bool.and_eq_true, decide_eq_true_eq] at h
    exact ⟨h.1.2, fun _ => h.2⟩
  · rename_i h1 h2; omega
theorem okK_leaf {k : Int} {t : ByteArray} {n : Int} {l : List Dc} (h : okK (.mk k t n l) = true) (hk : k = 1 ∨ k = 2 ∨ k = 3) : n = 0 ∧ l = [] ∧ (k = 3 → t = ⟨#[]⟩) := by
  have h' : okC k t n l.length = true := h
  obtain ⟨h1, h2⟩ := okC_leaf h' hk
  refine ⟨okC_n0 h' (by omega), List.length_eq_zero_iff.1 h1, fun e3 => ?_⟩
  have e : t.data.toList = [] := by rw [← ByteArray.toList_eq]; simpa using h2 e3
  apply ByteArray.ext
  have : t.data = #[] := by
    apply Array.toList_inj.1
    exact e
  exact this
theorem okP_okK {p : Dc × Nat} (h : okP p = true) : okK p.1 = true := by
  unfold okP at h
  rw [Bool.and_eq_true] at h
  exact h.2
mutual
theorem tk_thg : ∀ (d : Dc) (i : Int) (m : Nat), (∀ p ∈ pre d m, okP p = true) → tk (thg d i) = rlv d
  | .mk k t n l, i, m, hp => by
    rw [pre] at hp
    have h0 := okP_okK (hp _ List.mem_cons_self)
    have h := tk_thgL l (i + n) (m + 1) (fun p hp' => hp p (List.mem_cons_of_mem _ hp'))
    rw [rlv, thg]
    show tk (if k = 1 then _ else _) = _
    split
    · rename_i hk; subst hk
      obtain ⟨rfl, rfl, _⟩ := okK_leaf h0 (.inl rfl)
      simp [tk, thgL]
    split
    · rename_i hk; subst hk
      obtain ⟨rfl, rfl, _⟩ := okK_leaf h0 (.inr (.inl rfl))
      simp [tk, thgL]
    split
    · rename_i hk; subst hk
      obtain ⟨rfl, rfl, e⟩ := okK_leaf h0 (.inr (.inr rfl))
      rw [e rfl]
      simp [tk, thgL]
    split
    · rename_i hk; subst hk
      rw [tk, h, if_neg (by decide)]
    · rename_i h1 h2 h3 _
      rw [h, if_neg (by simp [h1, h2, h3])]
theorem tk_thgL : ∀ (l : List Dc) (i : Int) (m : Nat), (∀ p ∈ preL l m, okP p = true) → tk (thgL l i) = rlvL l
  | [], i, m, _ => by simp [thgL, tk, rlvL]
  | d :: l, i, m, hp => by
    rw [preL] at hp
    have a := tk_thg d i m (fun p h => hp p (List.mem_append_left _ h))
    have b := tk_thgL l i m (fun p h => hp p (List.mem_append_right _ h))
    rw [thgL, tk_app, rlvL, a, b]
end
theorem tk_sz (l : List Th) : szS (tk l) = flS l := by
  induction l with
  | nil => rfl
  | cons t l ih =>
    have e0 : (⟨#[]⟩ : ByteArray).size = 0 := rfl
    cases t <;> simp [tk, szS, flS, Th.flatS, Dc.text, e0] at ih ⊢ <;> omega
theorem tk_near (l : List Th) : nearS (tk l) = (sr l).n := by
  induction l with
  | nil => rfl
  | cons t l ih => cases t <;> simp [tk, nearS, sr, Th.from, Dc.kind, Dc.text, ih] <;> omega
theorem tk_hard (l : List Th) : hasHard (tk l) = decide (0 < nH l) := by
  induction l with
  | nil => rfl
  | cons t l ih =>
    rw [nH_cons]
    cases t with
    | text s => simp only [tk]; unfold hasHard at ih ⊢; rw [List.any_cons, ih]; simp [kindIs, Dc.kind, Th.isHard]
    | line s i => simp only [tk]; unfold hasHard at ih ⊢; rw [List.any_cons, ih]; simp [kindIs, Dc.kind, Th.isHard]
    | hard i => simp only [tk]; unfold hasHard at ih ⊢; rw [List.any_cons, ih]; simp [kindIs, Dc.kind, Th.isHard]
    | group n => simp only [tk]; rw [ih]; simp [Th.isHard]
theorem fits_rw {p : Pg} {w : Wr} {L : List Dc} {body r : List Th} (h : RW p w) (hL : L.drop w.pos = tk (body ++ r)) : fitsP p (body ++ r) body.length = rfits L p.wd w (tk body).length := by
  unfold fitsP rfits
  have e1 : (L.drop w.pos).take (tk body).length = tk body := by rw [hL, tk_app, List.take_left]
  have e2 : L.drop (w.pos + (tk body).length) = tk r := by rw [← List.drop_drop, hL, tk_app, List.drop_left]
  rw [e1, e2, List.drop_left, tk_hard, tk_sz, tk_near, sr_h, sr_h, nH_app, (sr_le (body ++ r)).1, (sr_le r).1, flS_app, h.col]
  rw [Bool.not_or]
  congr 1
  · rw [Bool.eq_iff_iff]; simp <;> omega
  · rw [Bool.eq_iff_iff]; simp <;> omega
def fillA (p : Pg) (l : List Th) : Pg := (fillN l.length p l).1
theorem fillN_more (n : Nat) : ∀ (m : Nat) (p : Pg) (l : List Th), l.length ≤ n → l.length ≤ m → (fillN n p l).1 = (fillN m p l).1 := by
  induction n with
  | zero =>
    intro m p l h _
    obtain rfl : l = [] := List.length_eq_zero_iff.1 (by omega)
    cases m <;> rfl
  | succ n ih =>
    intro m p l h1 h2
    cases l with
    | nil => cases m <;> rfl
    | cons t l =>
      obtain ⟨m, rfl⟩ : ∃ q, m = q + 1 := ⟨m - 1, by simp at h2; omega⟩
      rw [fillN, fillN]
      split
      · rfl
      · obtain ⟨k, hk⟩ := putP_drop p l t
        have hl : (putP p l t).2.length ≤ l.length := by rw [hk, List.length_drop]; omega
        simp only [List.length_cons] at h1 h2
        exact ih m _ _ (by omega) (by omega)
theorem fillA_cons {p : Pg} (t : Th) (l : List Th) (h : p.long = false) : fillA p (t :: l) = fillA (putP p l t).1 (putP p l t).2 := by
  unfold fillA
  rw [List.length_cons, fillN, if_neg (by rw [h]; decide)]
  obtain ⟨k, hk⟩ := putP_drop p l t
  exact fillN_more _ _ _ _ (by rw [hk, List.length_drop]; omega) (Nat.le_refl _)
theorem fillA_long {p : Pg} (l : List Th) (h : p.long = true) : fillA p l = p := by
  unfold fillA
  cases l with
  | nil => rfl
  | cons t l => rw [List.length_cons, fillN, if_pos h]
theorem wrP_true {p : Pg} (h : p.long = true) (s : ByteArray) : (wrP p s).long = true := by
  unfold wrP
  split
  · rfl
  · exact h
theorem wrAll_true {p : Pg} (h : p.long = true) (l : List Th) : (wrAll p l).long = true := by
  induction l generalizing p with
  | nil => exact h
  | cons t l ih => exact ih (wrP_true h _)
theorem wrAll_app (p : Pg) (a b : List Th) : wrAll p (a ++ b) = wrAll (wrAll p a) b := by unfold wrAll; rw [List.foldl_append]
theorem rlayL_long {L : List Dc} {wd : Int} (l : List Dc) {w : Wr} (h : w.long = true) (i : Int) (fl : Bool) : rlayL L wd l w i fl = w := by
  cases l with
  | nil => rw [rlayL]
  | cons d l => rw [rlayL, if_pos h]
theorem drop_head {L : List Dc} {n : Nat} {x : Dc} {r : List Dc} (h : L.drop n = x :: r) : L[n]? = some x ∧ L.drop (n + 1) = r := by
  have h1 : (L.drop n)[0]? = some x := by rw [h]; rfl
  rw [List.getElem?_drop] at h1
  refine ⟨by simpa using h1, ?_⟩
  rw [← List.drop_drop, h]; rfl
mutual
theorem flat_doc (L : List Dc) (wd : Int) : ∀ (d : Dc) (i : Int) (m : Nat) (r : List Th) (p : Pg) (w : Wr), (∀ q ∈ pre d m, okP q = true) → RW p w → L.drop w.pos = tk (thg d i ++ r) → nH (thg d i) = 0 →
    (rlay L wd d w i true).long = (wrAll p (thg d i)).long ∧ ((rlay L wd d w i true).long = false → RW (wrAll p (thg d i)) (rlay L wd d w i true) ∧ L.drop (rlay L wd d w i true).pos = tk r)
  | .mk k t n l, i, m, r, p, w, hp, hR, hL, hN => by
    rw [pre] at hp
    have h0 := okP_okK (hp _ List.mem_cons_self)
    have hpl : ∀ q ∈ preL l (m + 1), okP q = true := fun q hq => hp q (List.mem_cons_of_mem _ hq)
    by_cases h1 : k = 1
    · subst h1
      obtain ⟨rfl, rfl, _⟩ := okK_leaf h0 (.inl rfl)
      have e : thg (.mk 1 t 0 []) i = [.text t] := by simp [thg, thgL]
      rw [e] at hL ⊢
      obtain ⟨g1, g2⟩ := drop_head (r := tk r) hL
      have e2 : rlay L wd (.mk 1 t 0 []) w i true = rput { w with pos := w.pos + 1 } t := by
        rw [rlay, if_pos (by simp)]
        unfold rleaf
        rw [g1]
        rfl
      rw [e2]
      have := rput_rw (p := p) (w := { w with pos := w.pos + 1 }) ⟨hR.tx, hR.col, hR.br, hR.lp, hR.lw, hR.len⟩ t
      exact ⟨this.1, fun hf => ⟨this.2.1 hf, by rw [this.2.2]; exact g2⟩⟩
    by_cases h2 : k = 2
    · subst h2
      obtain ⟨rfl, rfl, _⟩ := okK_leaf h0 (.inr (.inl rfl))
      have e : thg (.mk 2 t 0 []) i = [.line t i] := by simp [thg, thgL]
      rw [e] at hL ⊢
      obtain ⟨g1, g2⟩ := drop_head (r := tk r) hL
      have e2 : rlay L wd (.mk 2 t 0 []) w i true = rput { w with pos := w.pos + 1 } t := by
        rw [rlay, if_pos (by simp)]
        unfold rleaf
        rw [g1]
        rfl
      rw [e2]
      have := rput_rw (p := p) (w := { w with pos := w.pos + 1 }) ⟨hR.tx, hR.col, hR.br, hR.lp, hR.lw, hR.len⟩ t
      exact ⟨this.1, fun hf => ⟨this.2.1 hf, by rw [this.2.2]; exact g2⟩⟩
    by_cases h3 : k = 3
    · subst h3
      have e : thg (.mk 3 t n l) i = .hard i :: thgL l (i + n) := by simp [thg]
      rw [e, nH_cons] at hN
      simp [Th.isHard] at hN
    have hk3 : ¬ (k = 1 ∨ k = 2 ∨ k = 3) := by simp [h1, h2, h3]
    by_cases h5 : k = 5
    · subst h5
      have hn0 : n = 0 := by
        have h' : okC 5 t n l.length = true := h0
        exact okC_n0 h' (by decide)
      subst hn0
      have e : thg (.mk 5 t 0 l) i = .group (thgL l i).length :: thgL l i := by simp [thg]
      rw [e] at hL hN ⊢
      rw [nH_cons] at hN
      have e2 : rlay L wd (.mk 5 t 0 l) w i true = rlayL L wd l w i true := by rw [rlay, if_neg hk3, if_neg (by decide), if_neg (by simp)]
      rw [e2]
      have e3 : wrAll p (.group (thgL l i).length :: thgL l i) = wrAll p (thgL l i) := by
        show wrAll (wrP p _) _ = _
        have : wrP p (Th.group (thgL l i).length).flatS = p := by
          unfold wrP
          rw [if_neg (by have := hR.len; show ¬ (65536 : Int) - _ < ((0 : Nat) : Int); omega)]
          show ({ p with tx := p.tx ++ [], col := p.col + ((0 : Nat) : Int) } : Pg) = p
          simp
        rw [this]
      rw [e3]
      exact flat_list L wd l i (m + 1) r p w hpl hR hL (by omega)
    · have e : thg (.mk k t n l) i = thgL l (i + n) := by simp [thg, h1, h2, h3, h5]
      rw [e] at hL hN ⊢
      by_cases h4 : k = 4
      · have e2 : rlay L wd (.mk k t n l) w i true = rlayL L wd l w (i + n) true := by rw [rlay, if_neg hk3, if_pos h4]
        rw [e2]
        exact flat_list L wd l (i + n) (m + 1) r p w hpl hR hL hN
      · have hn0 : n = 0 := by
          have h' : okC k t n l.length = true := h0
          exact okC_n0 h' h4
        subst hn0
        rw [Int.add_zero] at hL hN ⊢
        have e2 : rlay L wd (.mk k t 0 l) w i true = rlayL L wd l w i true := by rw [rlay, if_neg hk3, if_neg h4, if_neg (by simp)]
        rw [e2]
        exact flat_list L wd l i (m + 1) r p w hpl hR hL hN
theorem flat_list (L : List Dc) (wd : Int) : ∀ (l : List Dc) (i : Int) (m : Nat) (r : List Th) (p : Pg) (w : Wr), (∀ q ∈ preL l m, okP q = true) → RW p w → L.drop w.pos = tk (thgL l i ++ r) → nH (thgL l i) = 0 →
    (rlayL L wd l w i true).long = (wrAll p (thgL l i)).long ∧ ((rlayL L wd l w i true).long = false → RW (wrAll p (thgL l i)) (rlayL L wd l w i true) ∧ L.drop (rlayL L wd l w i true).pos = tk r)
  | [], i, m, r, p, w, _, hR, hL, _ => by
    rw [rlayL]
    have e : thgL [] i = [] := by simp [thgL]
    rw [e] at hL ⊢
    exact ⟨by show w.long = p.long; rw [hR.lw, hR.lp], fun _ => ⟨hR, hL⟩⟩
  | d :: l, i, m, r, p, w, hp, hR, hL, hN => by
    rw [preL] at hp
    rw [thgL] at hL hN ⊢
    rw [nH_app] at hN
    rw [List.append_assoc] at hL
    have a := flat_doc L wd d i m (thgL l i ++ r) p w (fun q h => hp q (List.mem_append_left _ h)) hR hL (by omega)
    rw [rlayL, if_neg (by rw [hR.lw]; decide), wrAll_app]
    cases hl : (rlay L wd d w i true).long with
    | true =>
      rw [rlayL_long l hl, hl]
      have hw : (wrAll p (thg d i)).long = true := by rw [← a.1]; exact hl
      exact ⟨(wrAll_true hw _).symm, fun hf => by cases hf⟩
    | false =>
      obtain ⟨hR2, hL2⟩ := a.2 hl
      exact flat_list L wd l i m r _ _ (fun q h => hp q (List.mem_append_right _ h)) hR2 hL2 (by omega)
end
/-- What laying out one thing more comes to. -/
def NF (L : List Dc) (p : Pg) (w' : Wr) (l r : List Th) : Prop := (w'.long = true → (fillA p (l ++ r)).long = true) ∧ (w'.long = false → ∃ q, RW q w' ∧ q.wd = p.wd ∧ L.drop w'.pos = tk r ∧ fillA p (l ++ r) = fillA q r)
theorem putP_wd (p : Pg) (l : List Th) (t : Th) : (putP p l t).1.wd = p.wd := by
  have ha : ∀ (l : List Th) (p : Pg), (wrAll p l).wd = p.wd := by
    intro l
    induction l with
    | nil => intro p; rfl
    | cons t l ih => intro p; exact (ih (wrP p t.flatS)).trans (wrP_wd p _).1
  cases t with
  | text s => exact (wrP_wd p s).1
  | line s i => exact (wrP_wd p (brkS i.toNat)).1
  | hard i => exact (wrP_wd p (brkS i.toNat)).1
  | group m =>
    show (openP p l m).1.wd = p.wd
    unfold openP
    split
    · exact ha _ _
    · rfl
theorem wrAll_wd (l : List Th) (p : Pg) : (wrAll p l).wd = p.wd := by
  induction l generalizing p with
  | nil => rfl
  | cons t l ih => exact (ih (wrP p t.flatS)).trans (wrP_wd p _).1
mutual
theorem nf_doc (L : List Dc) : ∀ (d : Dc) (i : Int) (m : Nat) (r : List Th) (p : Pg) (w : Wr), (∀ q ∈ pre d m, okP q = true) → 0 ≤ i → RW p w → L.drop w.pos = tk (thg d i ++ r) → NF L p (rlay L p.wd d w i false) (thg d i) r
  | .mk k t n l, i, m, r, p, w, hp, hi, hR, hL => by
    rw [pre] at hp
    have h0 := okP_okK (hp _ List.mem_cons_self)
    have hn := okP_n (hp _ List.mem_cons_self)
    have hn0' : 0 ≤ n := hn.2.1
    have hpl : ∀ q ∈ preL l (m + 1), okP q = true := fun q hq => hp q (List.mem_cons_of_mem _ hq)
    have hR1 : RW p { w with pos := w.pos + 1 } := ⟨hR.tx, hR.col, hR.br, hR.lp, hR.lw, hR.len⟩
    by_cases h1 : k = 1
    · subst h1
      obtain ⟨rfl, rfl, _⟩ := okK_leaf h0 (.inl rfl)
      have e : thg (.mk 1 t 0 []) i = [.text t] := by simp [thg, thgL]
      rw [e] at hL ⊢
      obtain ⟨g1, g2⟩ := drop_head (r := tk r) hL
      have e2 : rlay L p.wd (.mk 1 t 0 []) w i false = rput { w with pos := w.pos + 1 } t := by
        rw [rlay, if_pos (by simp)]
        unfold rleaf
        rw [g1]
        rfl
      rw [e2]
      have := rput_rw hR1 t
      have ef : fillA p ([.text t] ++ r) = fillA (wrP p t) r := fillA_cons _ _ hR.lp
      unfold NF
      rw [ef]
      refine ⟨fun hl => ?_, fun hl => ⟨_, this.2.1 hl, (wrP_wd p t).1, by rw [this.2.2]; exact g2, rfl⟩⟩
      have hw : (wrP p t).long = true := by rw [← this.1]; exact hl
      rw [fillA_long _ hw]; exact hw
    by_cases h2 : k = 2
    · subst h2
      obtain ⟨rfl, rfl, _⟩ := okK_leaf h0 (.inr (.inl rfl))
      have e : thg (.mk 2 t 0 []) i = [.line t i] := by simp [thg, thgL]
      rw [e] at hL ⊢
      obtain ⟨g1, g2⟩ := drop_head (r := tk r) hL
      have e2 : rlay L p.wd (.mk 2 t 0 []) w i false = rbrk { w with pos := w.pos + 1 } i.toNat := by
        rw [rlay, if_pos (by simp)]
        unfold rleaf
        rw [g1]
        rfl
      rw [e2]
      have := rbrk_rw hR1 i.toNat
      have ef : fillA p ([.line t i] ++ r) = fillA (brkP p i.toNat) r := fillA_cons _ _ hR.lp
      unfold NF
      rw [ef]
      refine ⟨fun hl => ?_, fun hl => ⟨_, this.2.1 hl, (wrP_wd p _).1, by rw [this.2.2]; exact g2, rfl⟩⟩
      have hw : (brkP p i.toNat).long = true := by rw [← this.1]; exact hl
      rw [fillA_long _ hw]; exact hw
    by_cases h3 : k = 3
    · subst h3
      obtain ⟨rfl, rfl, _⟩ := okK_leaf h0 (.inr (.inr rfl))
      have e : thg (.mk 3 t 0 []) i = [.hard i] := by simp [thg, thgL]
      rw [e] at hL ⊢
      obtain ⟨g1, g2⟩ := drop_head (r := tk r) hL
      have e2 : rlay L p.wd (.mk 3 t 0 []) w i false = rbrk { w with pos := w.pos + 1 } i.toNat := by
        rw [rlay, if_pos (by simp)]
        unfold rleaf
        rw [g1]
        rfl
      rw [e2]
      have := rbrk_rw hR1 i.toNat
      have ef : fillA p ([.hard i] ++ r) = fillA (brkP p i.toNat) r := fillA_cons _ _ hR.lp
      unfold NF
      rw [ef]
      refine ⟨fun hl => ?_, fun hl => ⟨_, this.2.1 hl, (wrP_wd p _).1, by rw [this.2.2]; exact g2, rfl⟩⟩
      have hw : (brkP p i.toNat).long = true := by rw [← this.1]; exact hl
      rw [fillA_long _ hw]; exact hw
    have hk3 : ¬ (k = 1 ∨ k = 2 ∨ k = 3) := by simp [h1, h2, h3]
    by_cases h5 : k = 5
    · subst h5
      have hn0 : n = 0 := by
        have h' : okC 5 t n l.length = true := h0
        exact okC_n0 h' (by decide)
      subst hn0
      have e : thg (.mk 5 t 0 l) i = .group (thgL l i).length :: thgL l i := by simp [thg]
      rw [e] at hL ⊢
      have hL' : L.drop w.pos = tk (thgL l i ++ r) := hL
      have hlen : (rlvL l).length = (tk (thgL l i)).length := by rw [tk_thgL l i (m + 1) hpl]
      have hf := fits_rw hR hL'
      have e2 : rlay L p.wd (.mk 5 t 0 l) w i false = (if rfits L p.wd w (rlvL l).length then rlayL L p.wd l w i true else rlayL L p.wd l { w with br := w.br + 1 } i false) := by rw [rlay, if_neg hk3, if_neg (by decide), if_pos (by simp)]
      rw [e2, hlen, ← hf]
      have ef : fillA p ((.group (thgL l i).length :: thgL l i) ++ r) = fillA (openP p (thgL l i ++ r) (thgL l i).length).1 (openP p (thgL l i ++ r) (thgL l i).length).2 := fillA_cons _ _ hR.lp
      unfold NF
      rw [ef]
      cases hfits : fitsP p (thgL l i ++ r) (thgL l i).length with
      | true =>
        have eo : openP p (thgL l i ++ r) (thgL l i).length = (wrAll p (thgL l i), r) := by
          unfold openP; rw [hfits]; simp
        rw [eo]
        simp only [if_true]
        have hnh : nH (thgL l i) = 0 := by
          unfold fitsP at hfits
          rw [List.drop_left, sr_h, sr_h, nH_app] at hfits
          simp at hfits; omega
        have := flat_list L p.wd l i (m + 1) r p w hpl hR hL' hnh
        refine ⟨fun hl => ?_, fun hl => ?_⟩
        · have hw : (wrAll p (thgL l i)).long = true := by rw [← this.1]; exact hl
          rw [fillA_long _ hw]; exact hw
        · obtain ⟨a, b⟩ := this.2 hl
          exact ⟨_, a, wrAll_wd _ _, b, rfl⟩
      | false =>
        have eo : openP p (thgL l i ++ r) (thgL l i).length = ({ p with br := p.br + 1 }, thgL l i ++ r) := by
          unfold openP; rw [hfits]; rfl
        rw [eo]
        simp only [Bool.false_eq_true, if_false]
        exact nf_list L l i (m + 1) r { p with br := p.br + 1 } { w with br := w.br + 1 } hpl hi ⟨hR.tx, hR.col, by show p.br + 1 = w.br + 1; rw [hR.br], hR.lp, hR.lw, hR.len⟩ hL'
    · have e : thg (.mk k t n l) i = thgL l (i + n) := by simp [thg, h1, h2, h3, h5]
      rw [e] at hL ⊢
      by_cases h4 : k = 4
      · have e2 : rlay L p.wd (.mk k t n l) w i false = rlayL L p.wd l w (i + n) false := by rw [rlay, if_neg hk3, if_pos h4]
        rw [e2]
        exact nf_list L l (i + n) (m + 1) r p w hpl (by omega) hR hL
      · have hn0 : n = 0 := by
          have h' : okC k t n l.length = true := h0
          exact okC_n0 h' h4
        subst hn0
        rw [Int.add_zero] at hL ⊢
        have e2 : rlay L p.wd (.mk k t 0 l) w i false = rlayL L p.wd l w i false := by rw [rlay, if_neg hk3, if_neg h4, if_neg (by simp [h5])]
        rw [e2]
        exact nf_list L l i (m + 1) r p w hpl hi hR hL
theorem nf_list (L : List Dc) : ∀ (l : List Dc) (i : Int) (m : Nat) (r : List Th) (p : Pg) (w : Wr), (∀ q ∈ preL l m, okP q = true) → 0 ≤ i → RW p w → L.drop w.pos = tk (thgL l i ++ r) → NF L p (rlayL L p.wd l w i false) (thgL l i) r
  | [], i, m, r, p, w, _, _, hR, hL => by
    rw [rlayL]
    have e : thgL [] i = [] := by simp [thgL]
    rw [e] at hL ⊢
    exact ⟨fun h => (by rw [hR.lw] at h; cases h), fun _ => ⟨p, hR, rfl, hL, rfl⟩⟩
  | d :: l, i, m, r, p, w, hp, hi, hR, hL => by
    rw [preL] at hp
    rw [thgL] at hL ⊢
    rw [List.append_assoc] at hL
    have a := nf_doc L d i m (thgL l i ++ r) p w (fun q h => hp q (List.mem_append_left _ h)) hi hR hL
    rw [rlayL, if_neg (by rw [hR.lw]; decide)]
    unfold NF at a ⊢
    rw [List.append_assoc]
    cases hl : (rlay L p.wd d w i false).long with
    | true =>
      rw [rlayL_long l hl]
      exact ⟨fun _ => a.1 hl, fun h => by rw [hl] at h; cases h⟩
    | false =>
      obtain ⟨q, hR2, hw2, hL2, hf⟩ := a.2 hl
      have b := nf_list L l i m r q _ (fun q h => hp q (List.mem_append_right _ h)) hi hR2 hL2
      rw [hw2] at b
      rw [hf]
      unfold NF at b
      refine ⟨b.1, fun h => ?_⟩
      obtain ⟨q', c1, c2, c3, c4⟩ := b.2 h
      exact ⟨q', c1, c2.trans hw2, c3, c4⟩
end
/-- The writer at the beginning. -/
def wr0 : Wr := ⟨0, [], 0, 0, false⟩
theorem ref_lay {d : Dc} (wd : Int) (h : rightD d = true) : (rlay (rlv d) (max wd 0) d wr0 0 false).long = (layP d wd).long ∧ ((layP d wd).long = false → (layP d wd).tx = (rlay (rlv d) (max wd 0) d wr0 0 false).out ∧ (layP d wd).br = (rlay (rlv d) (max wd 0) d wr0 0 false).br) := by
  obtain ⟨_, ho⟩ := right_ok h
  have hL : (rlv d).drop wr0.pos = tk (thg d 0 ++ []) := by
    rw [List.append_nil, tk_thg d 0 1 ho]; rfl
  have := nf_doc (rlv d) d 0 1 [] ⟨max wd 0, [], 0, 0, false⟩ wr0 ho (by omega) ⟨rfl, rfl, rfl, rfl, rfl, by simp⟩ hL
  unfold NF at this
  rw [List.append_nil] at this
  have e : fillA ⟨max wd 0, [], 0, 0, false⟩ (thg d 0) = layP d wd := rfl
  rw [e] at this
  cases hl : (rlay (rlv d) (max wd 0) d wr0 0 false).long with
  | true => rw [this.1 hl]; exact ⟨rfl, fun h => by cases h⟩
  | false =>
    obtain ⟨q, hR, _, _, hf⟩ := this.2 hl
    have eq : fillA q [] = q := rfl
    rw [hf, eq, hR.lp]
    exact ⟨rfl, fun _ => ⟨hR.tx, hR.br⟩⟩
mutual
def cnt : Dc → Nat | .mk _ _ _ l => 1 + cntL l
def cntL : List Dc → Nat | [] => 0 | d :: l => cnt d + cntL l
end
mutual
def dep : Dc → Nat | .mk _ _ _ l => 1 + depL l
def depL : List Dc → Nat | [] => 0 | d :: l => max (dep d) (depL l)
end
mutual
def wellD : Dc → Bool | .mk k t n l => okC k t n l.length && wellL l
def wellL : List Dc → Bool | [] => true | d :: l => wellD d && wellL l
end
theorem cnt_eq (d : Dc) : cnt d = 1 + cntL d.kids := by cases d; rw [cnt]; rfl
theorem dep_eq (d : Dc) : dep d = 1 + depL d.kids := by cases d; rw [dep]; rfl
theorem wellD_eq (d : Dc) : wellD d = (okC d.kind d.text d.n d.kids.length && wellL d.kids) := by cases d; rw [wellD]; rfl
theorem cntL_take {l : List Dc} {k : Nat} {d : Dc} (h : l[k]? = some d) : cntL (l.take (k + 1)) = cntL (l.take k) + cnt d := by
  induction l generalizing k with
  | nil => cases h
  | cons x l ih =>
    cases k with
    | zero => simp at h; subst h; simp [cntL]
    | succ k => simp at h; rw [List.take_succ_cons, List.take_succ_cons, cntL, cntL, ih h, Nat.add_assoc]
theorem depL_take {l : List Dc} {k : Nat} {d : Dc} (h : l[k]? = some d) : depL (l.take (k + 1)) = max (depL (l.take k)) (dep d) := by
  induction l generalizing k with
  | nil => cases h
  | cons x l ih =>
    cases k with
    | zero => simp at h; subst h; simp [depL]
    | succ k => simp at h; rw [List.take_succ_cons, List.take_succ_cons, depL, depL, ih h]; omega
theorem wellL_take {l : List Dc} {k : Nat} {d : Dc} (h : l[k]? = some d) : wellL (l.take (k + 1)) = (wellL (l.take k) && wellD d) := by
  induction l generalizing k with
  | nil => cases h
  | cons x l ih =>
    cases k with
    | zero => simp at h; subst h; simp [wellL]
    | succ k => simp at h; rw [List.take_succ_cons, List.take_succ_cons, wellL, wellL, ih h, Bool.and_assoc]
theorem wellL_mem {l : List Dc} {d : Dc} (h : d ∈ l) (hd : wellD d = false) : wellL l = false := by
  induction l with
  | nil => cases h
  | cons x l ih =>
    rw [wellL]
    rcases List.mem_cons.1 h with rfl | h
    · rw [hd]; rfl
    · rw [ih h, Bool.and_false]
mutual
theorem cnt_wt : ∀ (d : Dc), cnt d ≤ wt d ∧ dep d ≤ wt d
  | .mk k t n l => by
    have := cntL_wt l
    rw [cnt, dep, wt]; omega
theorem cntL_wt : ∀ (l : List Dc), cntL l ≤ wtL l ∧ depL l ≤ wtL l
  | [] => by simp [cntL, depL]
  | d :: l => by
    have h1 := cnt_wt d
    have h2 := cntL_wt l
    rw [cntL, depL, wtL]; omega
end
theorem cntL_take_le (l : List Dc) (k : Nat) : cntL (l.take k) ≤ wtL l ∧ depL (l.take k) ≤ wtL l := by
  have h1 := cntL_wt (l.take k)
  have h2 := wtL_take_le l k
  omega
mutual
theorem pre_cnt : ∀ (d : Dc) (m : Nat), (pre d m).length = cnt d
  | .mk k t n l, m => by rw [pre, cnt, List.length_cons, preL_cnt l (m + 1)]; omega
theorem preL_cnt : ∀ (l : List Dc) (m : Nat), (preL l m).length = cntL l
  | [], _ => by simp [preL, cntL]
  | d :: l, m => by rw [preL, cntL, List.length_append, pre_cnt d m, preL_cnt l m]
end
mutual
theorem pre_well : ∀ (d : Dc) (m : Nat), (∀ p ∈ pre d m, okP p = true) ↔ (wellD d = true ∧ dep d + m ≤ 201)
  | .mk k t n l, m => by
    have h := preL_well l (m + 1)
    rw [pre, wellD, dep]
    have e : okP (Dc.mk k t n l, m) = (decide (m ≤ 200) && okC k t n l.length) := rfl
    constructor
    · intro hp
      have h0 := hp _ List.mem_cons_self
      rw [e, Bool.and_eq_true, decide_eq_true_eq] at h0
      have h1 := h.1 (fun p hp' => hp p (List.mem_cons_of_mem _ hp'))
      rw [Bool.and_eq_true]
      exact ⟨⟨h0.2, h1.1⟩, by rcases h1.2 with h2 | h2 <;> omega⟩
    · rintro ⟨h1, h2⟩ p hp
      rw [Bool.and_eq_true] at h1
      rcases List.mem_cons.1 hp with rfl | hp
      · rw [e, Bool.and_eq_true, decide_eq_true_eq]
        exact ⟨by omega, h1.1⟩
      · exact h.2 ⟨h1.2, by omega⟩ p hp
theorem preL_well : ∀ (l : List Dc) (m : Nat), (∀ p ∈ preL l m, okP p = true) ↔ (wellL l = true ∧ (depL l = 0 ∨ depL l + m ≤ 201))
  | [], m => by simp [preL, wellL, depL]
  | d :: l, m => by
    have h1 := pre_well d m
    have h2 := preL_well l m
    have hd : 1 ≤ dep d := by rw [dep_eq]; omega
    rw [preL, wellL, depL, Bool.and_eq_true]
    constructor
    · intro hp
      have a := h1.1 (fun p h => hp p (List.mem_append_left _ h))
      have b := h2.1 (fun p h => hp p (List.mem_append_right _ h))
      refine ⟨⟨a.1, b.1⟩, .inr ?_⟩
      rcases b.2 with b | b <;> omega
    · rintro ⟨⟨a, b⟩, c⟩ p hp
      have c' : max (dep d) (depL l) + m ≤ 201 := by rcases c with c | c <;> omega
      rcases List.mem_append.1 hp with hp | hp
      · exact h1.2 ⟨a, by omega⟩ p hp
      · exact h2.2 ⟨b, by omega⟩ p hp
end
theorem right_eq (d : Dc) : rightD d = (decide (cnt d ≤ 20000) && decide (dep d ≤ 200) && wellD d) := by
  unfold rightD
  rw [pre_cnt]
  have h := pre_well d 1
  rw [Bool.and_assoc]
  congr 1
  rw [Bool.eq_iff_iff, List.all_eq_true, h, Bool.and_eq_true, decide_eq_true_eq]
  constructor
  · rintro ⟨a, b⟩; exact ⟨by omega, a⟩
  · rintro ⟨a, b⟩; exact ⟨b, by omega⟩
theorem noTen_yes {s : ByteArray} (h : (10 : UInt8) ∉ s.data.toList) : noTen s = true := by
  unfold noTen
  rw [decide_eq_true_eq]
  rcases Int.lt_or_le (Lib.indexByte s.data.toList 10) 0 with h' | h'
  · exact h'
  · obtain ⟨o, ho⟩ := Int.eq_ofNat_of_zero_le h'
    have := (Lib.indexByte_some ho).1
    exact absurd (List.mem_of_getElem? this) h
theorem okC_ten {k : Int} {t : ByteArray} {n : Int} {kl : Nat} (h : okC k t n kl = true) : (10 : UInt8) ∉ t.data.toList := by
  have he : t.toList.isEmpty = true → (10 : UInt8) ∉ t.data.toList := fun h => by
    rw [← ByteArray.toList_eq]
    rw [List.isEmpty_iff] at h
    rw [h]; simp
  unfold okC at h
  split at h
  · rw [Bool.and_eq_true] at h; exact noTen_no h.2
  split at h
  · rw [Bool.and_eq_true] at h; exact he h.2
  split at h
  · rw [Bool.and_eq_true] at h; exact he h.2
  split at h
  · rw [Bool.and_eq_true] at h; exact he h.2
  · cases h
set_option maxRecDepth 100000 in
set_option maxHeartbeats 4000000 in
theorem count_any (f : Nat) : ∀ (N : Nat) (d : Dc) (sa : Option Addr) (sc : Nat) (w : World), wt d ≤ N → DAt w w.heap.size f sa d.kids → wt d ≤ 700 →
    Calls Try.prog 36 #[.agg #[.int .i64 d.kind, .string d.text, .int .i64 d.n, .slice sa d.kids.length sc]] w fun e w' => e = .returned (.tuple #[.int .i64 (cnt d : Int), .int .i64 (dep d : Int)]) ∧ Below w.heap.size w w' := by
  intro N
  induction N with
  | zero => intro d sa sc w hN; rw [wt_eq] at hN; omega
  | succ N ih =>
  intro d sa sc w hN hk h700
  have hlen := hk.len
  have hwt := wt_eq d
  have HC : Hid (cnt d = 1 + cntL d.kids ∧ dep d = 1 + depL d.kids) := ⟨cnt_eq d, dep_eq d⟩
  obtain ⟨w1, hw1⟩ : ∃ w1, w.alloc (.cells #[.int .i64 d.kind, .string d.text, .int .i64 d.n, .slice sa d.kids.length sc] 24) = w1 := ⟨_, rfl⟩
  have hB1 : Below w.heap.size w w1 := by rw [← hw1]; exact (Below.refl _ _).alloc (Nat.le_refl _) _
  have s1 : w1.heap.size = w.heap.size + 1 := by rw [← hw1]; simp
  have a3 : w1.cell? ⟨w.heap.size, 3, none⟩ = some (.slice sa d.kids.length sc) := by rw [← hw1]; exact cell_new 3 rfl
  have HL7 : Hid (wtL d.kids + 1 ≤ 700) := by show _ ≤ _; omega
  have HIX : Hid (∀ x ∈ d.kids, wt x ≤ N ∧ wt x ≤ 700) := fun x hx => by
    obtain ⟨k, hk, rfl⟩ := List.getElem_of_mem hx
    have h1 := wtL_take (List.getElem?_eq_getElem hk)
    have h2 := wtL_take_le d.kids (k + 1)
    omega
  have HI : Hid _ := ih
  have HK : Hid _ := hk
  have HB1 : Hid _ := hB1
  have HS1 : Hid _ := s1
  clear hwt ih hk hN hB1 s1 h700
  go_enter Try.func36, Try.ntmps36
  go_wp2
  go_loopw [4, 5, 6, 7, 8] (fun n dv iv _ _ W => ∃ (k a b : Nat), k ≤ d.kids.length ∧ iv = .int .i64 k ∧ a = 1 + cntL (d.kids.take k) ∧ b = 1 + depL (d.kids.take k) ∧ a ≤ 700 ∧ b ≤ 700 ∧ n = .int .i64 a ∧ dv = .int .i64 b ∧ Below w1.heap.size w1 W) (fun _ _ iv _ _ _ => d.kids.length - (intOf iv).toNat)
  case atStart => exact ⟨0, 1, 1, by omega, rfl, rfl, rfl, by omega, by omega, rfl, rfl, Below.refl _ _⟩
  case round =>
    obtain ⟨k, a, b, hk, rfl, ha, hb, ha7, hb7, rfl, rfl, hB⟩ := hrel
    have hs1 := HS1.out
    have b3 := (hB.cell (p := ⟨w.heap.size, 3, none⟩) (by show w.heap.size < _; omega)).trans a3
    have hBw : Below w.heap.size w wr := HB1.out.trans (hB.mono (by omega))
    have HBw : Hid _ := hBw
    have HA : Hid _ := ha
    have HBB : Hid _ := hb
    have HB : Hid _ := hB
    clear hBw ha hb hB hs1
    by_cases hlt : k < d.kids.length
    · obtain ⟨x, hx⟩ : ∃ x, d.kids[k]? = some x := ⟨d.kids[k], by simp [hlt]⟩
      have hxm : x ∈ d.kids := List.mem_of_getElem? hx
      obtain ⟨bb, o, hsa, hb, xa, xc, c0, c1, c2, c3, hxc, hxk⟩ := ((HK.out.keep HBw.out).mono HBw.out.size).one hx
      have HCX : Hid _ := fun (_ : Unit) => HI.out x xa xc wr (HIX.out x hxm).1 hxk (HIX.out x hxm).2
      have hca : a + cnt x = 1 + cntL (d.kids.take (k + 1)) := by rw [cntL_take hx, HA.out]; omega
      have hcb : 1 + depL (d.kids.take (k + 1)) = max b (1 + dep x) := by rw [depL_take hx, HBB.out]; omega
      have hbd := cntL_take_le d.kids (k + 1)
      have hl7 := HL7.out
      have hbound : a + cnt x ≤ 700 ∧ 1 + dep x ≤ 700 := by omega
      have HCA : Hid _ := hca
      have HCB : Hid _ := hcb
      subst hsa
      clear hca hcb hbd hl7 hx hxm hxk
      obtain ⟨cx, hcx⟩ : ∃ q, cnt x = q := ⟨_, rfl⟩
      obtain ⟨dx, hdx⟩ : ∃ q, dep x = q := ⟨_, rfl⟩
      rw [hcx] at HCX HCA hbound
      rw [hdx] at HCX HCB hbound
      obtain ⟨hb1, hb2⟩ := hbound
      clear hcx hdx
      by_cases hge : b ≤ dx
      · have HE : Hid (dx + 1 = 1 + depL (d.kids.take (k + 1))) := by show _ = _; rw [HCB.out]; omega
        have hgeI : (b : Int) ≤ dx := by omega
        clear HCB
        go_wp2_with (go_at_call 36; refine (HCX.out ()).mono ?_)
        rintro e w2 ⟨rfl, hb2⟩
        have HB2 : Hid (Below w1.heap.size w1 w2) := HB.out.trans (hb2.mono HB.out.size)
        clear hb2
        go_wp2
        go_roundw
        case rel => exact ⟨k + 1, a + cx, dx + 1, by omega, by go_num, HCA.out, HE.out, by omega, by omega, by go_num, by go_num, HB2.out⟩
        case measure => simp [intOf]; omega
      · have HE : Hid (b = 1 + depL (d.kids.take (k + 1))) := by show _ = _; rw [HCB.out]; omega
        have hgeI : (dx : Int) < b := by omega
        clear HCB hge
        go_wp2_with (go_at_call 36; refine (HCX.out ()).mono ?_)
        rintro e w2 ⟨rfl, hb2⟩
        have HB2 : Hid (Below w1.heap.size w1 w2) := HB.out.trans (hb2.mono HB.out.size)
        clear hb2
        go_wp2
        go_roundw
        case rel => exact ⟨k + 1, a + cx, b, by omega, by go_num, HCA.out, HE.out, by omega, by omega, by go_num, rfl, HB2.out⟩
        case measure => simp [intOf]; omega
    · obtain rfl : k = d.kids.length := by omega
      rw [List.take_length] at HA HBB
      go_wp2
      go_ret2
      rw [HC.out.1, HC.out.2, ← HA.out, ← HBB.out]
      exact ⟨rfl, HBw.out⟩
end Go.Proofs.Ytbmejfcbladofaa
