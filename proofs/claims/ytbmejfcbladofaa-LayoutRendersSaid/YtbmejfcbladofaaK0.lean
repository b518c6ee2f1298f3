/- How the document's own way lays out: plain, and that it comes to the same. -/
import Derived.Test.YtbmejfcbladofaaF0
namespace Go.Proofs.Ytbmejfcbladofaa
open Go.RowKit

structure Wr where
  pos : Nat
  out : List UInt8
  col : Int
  br : Nat
  long : Bool
def rput (w : Wr) (s : ByteArray) : Wr := if 65536 < w.out.length + s.size then { w with long := true } else { w with out := w.out ++ s.data.toList, col := w.col + s.size }
def rspc : Nat → Wr → Wr
  | 0, w => w
  | n + 1, w => if w.long then w else rspc n (rput w ⟨#[32]⟩)
def rbrk (w : Wr) (i : Nat) : Wr := { rspc i (rput w ⟨#[10]⟩) with col := (i : Int) }
def rleaf (L : List Dc) (w : Wr) (i : Nat) (flat : Bool) : Wr :=
  match L[w.pos]? with
  | none => w
  | some x => if x.kind = 1 ∨ (x.kind = 2 ∧ flat = true) then rput { w with pos := w.pos + 1 } x.text else rbrk { w with pos := w.pos + 1 } i
def szS (l : List Dc) : Nat := l.foldr (fun x n => x.text.size + n) 0
def nearS : List Dc → Nat
  | [] => 0
  | x :: l => if x.kind = 1 then x.text.size + nearS l else 0
def rfits (L : List Dc) (wd : Int) (w : Wr) (n : Nat) : Bool := !hasHard ((L.drop w.pos).take n) && decide (w.col + (szS ((L.drop w.pos).take n) : Int) + (nearS (L.drop (w.pos + n)) : Int) ≤ wd)
mutual
/-- The leaves, as the document's own way finds them. -/
def rlv : Dc → List Dc
  | .mk k t n l => if k = 1 ∨ k = 2 ∨ k = 3 then [.mk k t n []] else rlvL l
def rlvL : List Dc → List Dc
  | [] => []
  | d :: l => rlv d ++ rlvL l
end
mutual
def rlay (L : List Dc) (wd : Int) : Dc → Wr → Int → Bool → Wr
  | .mk k _ n l, w, i, flat =>
    if k = 1 ∨ k = 2 ∨ k = 3 then rleaf L w i.toNat flat
    else if k = 4 then rlayL L wd l w (i + n) flat
    else if k = 5 ∧ flat = false then (if rfits L wd w (rlvL l).length then rlayL L wd l w i true else rlayL L wd l { w with br := w.br + 1 } i false)
    else rlayL L wd l w i flat
def rlayL (L : List Dc) (wd : Int) : List Dc → Wr → Int → Bool → Wr
  | [], w, _, _ => w
  | d :: l, w, i, flat => if w.long then w else rlayL L wd l (rlay L wd d w i flat) i flat
end
/-- A page and a writer that are at one. -/
structure RW (p : Pg) (w : Wr) : Prop where
  tx : p.tx = w.out
  col : p.col = w.col
  br : p.br = w.br
  lp : p.long = false
  lw : w.long = false
  len : p.tx.length ≤ 65536
theorem rput_rw {p : Pg} {w : Wr} (h : RW p w) (s : ByteArray) : (rput w s).long = (wrP p s).long ∧ ((rput w s).long = false → RW (wrP p s) (rput w s)) ∧ (rput w s).pos = w.pos := by
  have hl := wrP_len p s h.len
  unfold rput
  unfold wrP at hl ⊢
  rw [h.tx] at hl ⊢
  by_cases hs : 65536 < w.out.length + s.size
  · rw [if_pos hs, if_pos (by omega)]
    exact ⟨rfl, fun h => (by cases h), rfl⟩
  · rw [if_neg (by omega)] at hl
    rw [if_neg hs, if_neg (by omega)]
    exact ⟨by show w.long = p.long; rw [h.lp, h.lw], fun _ => ⟨rfl, by show _ + _ = _ + _; rw [h.col], h.br, h.lp, h.lw, hl⟩, rfl⟩
theorem rspc_long (i : Nat) {w : Wr} (h : w.long = true) : rspc i w = w := by
  cases i with
  | zero => rfl
  | succ i => rw [rspc, if_pos h]
theorem rspc_eq (i : Nat) : ∀ {w : Wr}, w.long = false → w.out.length ≤ 65536 → (rspc i w).long = decide (65536 < w.out.length + i) ∧ ((rspc i w).long = false → (rspc i w).out = w.out ++ List.replicate i 32) ∧ (rspc i w).pos = w.pos ∧ (rspc i w).br = w.br := by
  induction i with
  | zero =>
    intro w hw hl
    refine ⟨?_, fun _ => by simp [rspc], rfl, rfl⟩
    rw [rspc, hw]; simp; omega
  | succ i ih =>
    intro w hw hl
    rw [rspc, if_neg (by rw [hw]; decide)]
    by_cases hs : 65536 < w.out.length + 1
    · have e : rput w ⟨#[32]⟩ = { w with long := true } := by
        unfold rput; exact if_pos hs
      rw [e, rspc_long i rfl]
      refine ⟨?_, fun h => (by cases h), rfl, rfl⟩
      show true = _
      simp; omega
    · have e : rput w ⟨#[32]⟩ = { w with out := w.out ++ [32], col := w.col + 1 } := by
        unfold rput; exact if_neg hs
      rw [e]
      obtain ⟨h1, h2, h3, h4⟩ := ih (w := { w with out := w.out ++ [32], col := w.col + 1 }) hw (by simp; omega)
      refine ⟨?_, fun h => ?_, h3, h4⟩
      · rw [h1]; simp; omega
      · rw [h2 h]; simp [List.replicate_succ]
theorem rbrk_rw {p : Pg} {w : Wr} (h : RW p w) (i : Nat) : (rbrk w i).long = (brkP p i).long ∧ ((rbrk w i).long = false → RW (brkP p i) (rbrk w i)) ∧ (rbrk w i).pos = w.pos := by
  have hl := h.len
  have htx := h.tx
  have hlb : (brkP p i).long = decide (65536 < w.out.length + 1 + i) := by
    unfold brkP wrP
    rw [brkS_size, h.tx]
    by_cases hs : 65536 < w.out.length + 1 + i
    · rw [if_pos (by omega)]; simp; omega
    · rw [if_neg (by omega)]
      show p.long = _
      rw [h.lp]; simp; omega
  unfold rbrk
  by_cases hs : 65536 < w.out.length + 1
  · have e : rput w ⟨#[10]⟩ = { w with long := true } := by
      unfold rput; exact if_pos hs
    rw [e, rspc_long i rfl, hlb]
    refine ⟨?_, fun h => (by cases h), rfl⟩
    show true = _
    simp; omega
  · have e : rput w ⟨#[10]⟩ = { w with out := w.out ++ [10], col := w.col + 1 } := by
      unfold rput; exact if_neg hs
    rw [e]
    obtain ⟨h1, h2, h3, h4⟩ := rspc_eq i (w := { w with out := w.out ++ [10], col := w.col + 1 }) h.lw (by simp; omega)
    refine ⟨?_, fun hf => ?_, h3⟩
    · show (rspc i _).long = _
      rw [h1, hlb]; simp
    · have hf' : (rspc i { w with out := w.out ++ [10], col := w.col + 1 }).long = false := hf
      have e2 := h2 hf'
      have hlf : (brkP p i).long = false := by rw [hlb, ← hf', h1]; simp
      have e3 := (wrP_long (p := p) (s := brkS i) hlf).2
      have hlen := wrP_len p (brkS i) h.len
      refine ⟨?_, rfl, ?_, hlf, hf', hlen⟩
      · show (wrP p (brkS i)).tx = (rspc i _).out
        rw [e3, e2, h.tx]
        show w.out ++ _ = _
        rw [brkS_list]; simp
      · show (wrP p (brkS i)).br = (rspc i _).br
        rw [(wrP_wd p (brkS i)).2, h4]; exact h.br
/-- The leaves among things. -/
def tk : List Th → List Dc
  | [] => []
  | .text s :: l => .mk 1 s 0 [] :: tk l
  | .line s _ :: l => .mk 2 s 0 [] :: tk l
  | .hard _ :: l => .mk 3 ⟨#[]⟩ 0 [] :: tk l
  | .group _ :: l => tk l
theorem tk_app (a b : List Th) : tk (a ++ b) = tk a ++ tk b := by
  induction a with
  | nil => rfl
  | cons t a ih => cases t <;> simp [tk, ih]
theorem okC_n0 {k : Int} {t : ByteArray} {n : Int} {kl : Nat} (h : okC k t n kl = true) (h4 : k ≠ 4) : n = 0 := by
  unfold okC at h
  by_cases h1 : k = 1 ∨ k = 2
  · rw [if_pos h1] at h
    simp only [Bool.and_eq_true, decide_eq_true_eq] at h; exact h.1.1
  by_cases h3 : k = 3
  · rw [if_neg h1, if_pos h3] at h
    simp only [Bool.and_eq_true, decide_eq_true_eq] at h; exact h.1.1
  rw [if_neg h1, if_neg h3, if_neg h4] at h
  split at h
  · simp only [Bool.and_eq_true, decide_eq_true_eq] at h; exact h.1
  · cases h
theorem okC_leaf {k : Int} {t : ByteArray} {n : Int} {kl : Nat} (h : okC k t n kl = true) (hk : k = 1 ∨ k = 2 ∨ k = 3) : kl = 0 ∧ (k = 3 → t.toList.isEmpty = true) := by
  unfold okC at h
  split at h
  · simp only [Bool.and_eq_true, decide_eq_true_eq] at h
    exact ⟨h.1.2, fun e => by omega⟩
  split at h
  · simp only [Bool.and_eq_true, decide_eq_true_eq] at h
    exact ⟨h.1.2, fun _ => h.2⟩
  · rename_i h1 h2; omega
theorem okK_leaf {k : Int} {t : ByteArray} {n : Int} {l : List Dc} (h : okK (.mk k t n l) = true) (hk : k = 1 ∨ k = 2 ∨ k = 3) : n = 0 ∧ l = [] ∧ (k = 3 → t = ⟨#[]⟩) := by
  have h' : okC k t n l.length = true := h
  obtain ⟨h1, h2⟩ := okC_leaf h' hk
  refine ⟨okC_n0 h' (by omega), List.length_eq_zero_iff.1 h1, fun e3 => ?_⟩
  have e : t.data.toList = [] := by rw [← ByteArray.toList_eq]; simpa using h2 e3
  apply ByteArray.ext
  have : t.data = #[] := by
    apply Array.toList_inj.1
    exact e
  exact this
theorem okP_okK {p : Dc × Nat} (h : okP p = true) : okK p.1 = true := by
  unfold okP at h
  rw [Bool.and_eq_true] at h
  exact h.2
mutual
theorem tk_thg : ∀ (d : Dc) (i : Int) (m : Nat), (∀ p ∈ pre d m, okP p = true) → tk (thg d i) = rlv d
  | .mk k t n l, i, m, hp => by
    rw [pre] at hp
    have h0 := okP_okK (hp _ List.mem_cons_self)
    have h := tk_thgL l (i + n) (m + 1) (fun p hp' => hp p (List.mem_cons_of_mem _ hp'))
    rw [rlv, thg]
    show tk (if k = 1 then _ else _) = _
    split
    · rename_i hk; subst hk
      obtain ⟨rfl, rfl, _⟩ := okK_leaf h0 (.inl rfl)
      simp [tk, thgL]
    split
    · rename_i hk; subst hk
      obtain ⟨rfl, rfl, _⟩ := okK_leaf h0 (.inr (.inl rfl))
      simp [tk, thgL]
    split
    · rename_i hk; subst hk
      obtain ⟨rfl, rfl, e⟩ := okK_leaf h0 (.inr (.inr rfl))
      rw [e rfl]
      simp [tk, thgL]
    split
    · rename_i hk; subst hk
      rw [tk, h, if_neg (by decide)]
    · rename_i h1 h2 h3 _
      rw [h, if_neg (by simp [h1, h2, h3])]
theorem tk_thgL : ∀ (l : List Dc) (i : Int) (m : Nat), (∀ p ∈ preL l m, okP p = true) → tk (thgL l i) = rlvL l
  | [], i, m, _ => by simp [thgL, tk, rlvL]
  | d :: l, i, m, hp => by
    rw [preL] at hp
    have a := tk_thg d i m (fun p h => hp p (List.mem_append_left _ h))
    have b := tk_thgL l i m (fun p h => hp p (List.mem_append_right _ h))
    rw [thgL, tk_app, rlvL, a, b]
end
theorem tk_sz (l : List Th) : szS (tk l) = flS l := by
  induction l with
  | nil => rfl
  | cons t l ih =>
    have e0 : (⟨#[]⟩ : ByteArray).size = 0 := rfl
    cases t <;> simp [tk, szS, flS, Th.flatS, Dc.text, e0] at ih ⊢ <;> omega
theorem tk_near (l : List Th) : nearS (tk l) = (sr l).n := by
  induction l with
  | nil => rfl
  | cons t l ih => cases t <;> simp [tk, nearS, sr, Th.from, Dc.kind, Dc.text, ih] <;> omega
theorem tk_hard (l : List Th) : hasHard (tk l) = decide (0 < nH l) := by
  induction l with
  | nil => rfl
  | cons t l ih =>
    rw [nH_cons]
    cases t with
    | text s => simp only [tk]; unfold hasHard at ih ⊢; rw [List.any_cons, ih]; simp [kindIs, Dc.kind, Th.isHard]
    | line s i => simp only [tk]; unfold hasHard at ih ⊢; rw [List.any_cons, ih]; simp [kindIs, Dc.kind, Th.isHard]
    | hard i => simp only [tk]; unfold hasHard at ih ⊢; rw [List.any_cons, ih]; simp [kindIs, Dc.kind, Th.isHard]
    | group n => simp only [tk]; rw [ih]; simp [Th.isHard]
theorem fits_rw {p : Pg} {w : Wr} {L : List Dc} {body r : List Th} (h : RW p w) (hL : L.drop w.pos = tk (body ++ r)) : fitsP p (body ++ r) body.length = rfits L p.wd w (tk body).length := by
  unfold fitsP rfits
  have e1 : (L.drop w.pos).take (tk body).length = tk body := by rw [hL, tk_app, List.take_left]
  have e2 : L.drop (w.pos + (tk body).length) = tk r := by rw [← List.drop_drop, hL, tk_app, List.drop_left]
  rw [e1, e2, List.drop_left, tk_hard, tk_sz, tk_near, sr_h, sr_h, nH_app, (sr_le (body ++ r)).1, (sr_le r).1, flS_app, h.col]
  rw [Bool.not_or]
  congr 1
  · rw [Bool.eq_iff_iff]; simp <;> omega
  · rw [Bool.eq_iff_iff]; simp <;> omega
def fillA (p : Pg) (l : List Th) : Pg := (fillN l.length p l).1
theorem fillN_more (n : Nat) : ∀ (m : Nat) (p : Pg) (l : List Th), l.length ≤ n → l.length ≤ m → (fillN n p l).1 = (fillN m p l).1 := by
  induction n with
  | zero =>
    intro m p l h _
    obtain rfl : l = [] := List.length_eq_zero_iff.1 (by omega)
    cases m <;> rfl
  | succ n ih =>
    intro m p l h1 h2
    cases l with
    | nil => cases m <;> rfl
    | cons t l =>
      obtain ⟨m, rfl⟩ : ∃ q, m = q + 1 := ⟨m - 1, by simp at h2; omega⟩
      rw [fillN, fillN]
      split
      · rfl
      · obtain ⟨k, hk⟩ := putP_drop p l t
        have hl : (putP p l t).2.length ≤ l.length := by rw [hk, List.length_drop]; omega
        simp only [List.length_cons] at h1 h2
        exact ih m _ _ (by omega) (by omega)
theorem fillA_cons {p : Pg} (t : Th) (l : List Th) (h : p.long = false) : fillA p (t :: l) = fillA (putP p l t).1 (putP p l t).2 := by
  unfold fillA
  rw [List.length_cons, fillN, if_neg (by rw [h]; decide)]
  obtain ⟨k, hk⟩ := putP_drop p l t
  exact fillN_more _ _ _ _ (by rw [hk, List.length_drop]; omega) (Nat.le_refl _)
theorem fillA_long {p : Pg} (l : List Th) (h : p.long = true) : fillA p l = p := by
  unfold fillA
  cases l with
  | nil => rfl
  | cons t l => rw [List.length_cons, fillN, if_pos h]
theorem wrP_true {p : Pg} (h : p.long = true) (s : ByteArray) : (wrP p s).long = true := by
  unfold wrP
  split
  · rfl
  · exact h
theorem wrAll_true {p : Pg} (h : p.long = true) (l : List Th) : (wrAll p l).long = true := by
  induction l generalizing p with
  | nil => exact h
  | cons t l ih => exact ih (wrP_true h _)
theorem wrAll_app (p : Pg) (a b : List Th) : wrAll p (a ++ b) = wrAll (wrAll p a) b := by unfold wrAll; rw [List.foldl_append]
theorem rlayL_long {L : List Dc} {wd : Int} (l : List Dc) {w : Wr} (h : w.long = true) (i : Int) (fl : Bool) : rlayL L wd l w i fl = w := by
  cases l with
  | nil => rw [rlayL]
  | cons d l => rw [rlayL, if_pos h]
theorem drop_head {L : List Dc} {n : Nat} {x : Dc} {r : List Dc} (h : L.drop n = x :: r) : L[n]? = some x ∧ L.drop (n + 1) = r := by
  have h1 : (L.drop n)[0]? = some x := by rw [h]; rfl
  rw [List.getElem?_drop] at h1
  refine ⟨by simpa using h1, ?_⟩
  rw [← List.drop_drop, h]; rfl
mutual
theorem flat_doc (L : List Dc) (wd : Int) : ∀ (d : Dc) (i : Int) (m : Nat) (r : List Th) (p : Pg) (w : Wr), (∀ q ∈ pre d m, okP q = true) → RW p w → L.drop w.pos = tk (thg d i ++ r) → nH (thg d i) = 0 →
    (rlay L wd d w i true).long = (wrAll p (thg d i)).long ∧ ((rlay L wd d w i true).long = false → RW (wrAll p (thg d i)) (rlay L wd d w i true) ∧ L.drop (rlay L wd d w i true).pos = tk r)
  | .mk k t n l, i, m, r, p, w, hp, hR, hL, hN => by
    rw [pre] at hp
    have h0 := okP_okK (hp _ List.mem_cons_self)
    have hpl : ∀ q ∈ preL l (m + 1), okP q = true := fun q hq => hp q (List.mem_cons_of_mem _ hq)
    by_cases h1 : k = 1
    · subst h1
      obtain ⟨rfl, rfl, _⟩ := okK_leaf h0 (.inl rfl)
      have e : thg (.mk 1 t 0 []) i = [.text t] := by simp [thg, thgL]
      rw [e] at hL ⊢
      obtain ⟨g1, g2⟩ := drop_head (r := tk r) hL
      have e2 : rlay L wd (.mk 1 t 0 []) w i true = rput { w with pos := w.pos + 1 } t := by
        rw [rlay, if_pos (by simp)]
        unfold rleaf
        rw [g1]
        rfl
      rw [e2]
      have := rput_rw (p := p) (w := { w with pos := w.pos + 1 }) ⟨hR.tx, hR.col, hR.br, hR.lp, hR.lw, hR.len⟩ t
      exact ⟨this.1, fun hf => ⟨this.2.1 hf, by rw [this.2.2]; exact g2⟩⟩
    by_cases h2 : k = 2
    · subst h2
      obtain ⟨rfl, rfl, _⟩ := okK_leaf h0 (.inr (.inl rfl))
      have e : thg (.mk 2 t 0 []) i = [.line t i] := by simp [thg, thgL]
      rw [e] at hL ⊢
      obtain ⟨g1, g2⟩ := drop_head (r := tk r) hL
      have e2 : rlay L wd (.mk 2 t 0 []) w i true = rput { w with pos := w.pos + 1 } t := by
        rw [rlay, if_pos (by simp)]
        unfold rleaf
        rw [g1]
        rfl
      rw [e2]
      have := rput_rw (p := p) (w := { w with pos := w.pos + 1 }) ⟨hR.tx, hR.col, hR.br, hR.lp, hR.lw, hR.len⟩ t
      exact ⟨this.1, fun hf => ⟨this.2.1 hf, by rw [this.2.2]; exact g2⟩⟩
    by_cases h3 : k = 3
    · subst h3
      have e : thg (.mk 3 t n l) i = .hard i :: thgL l (i + n) := by simp [thg]
      rw [e, nH_cons] at hN
      simp [Th.isHard] at hN
    have hk3 : ¬ (k = 1 ∨ k = 2 ∨ k = 3) := by simp [h1, h2, h3]
    by_cases h5 : k = 5
    · subst h5
      have hn0 : n = 0 := by
        have h' : okC 5 t n l.length = true := h0
        exact okC_n0 h' (by decide)
      subst hn0
      have e : thg (.mk 5 t 0 l) i = .group (thgL l i).length :: thgL l i := by simp [thg]
      rw [e] at hL hN ⊢
      rw [nH_cons] at hN
      have e2 : rlay L wd (.mk 5 t 0 l) w i true = rlayL L wd l w i true := by rw [rlay, if_neg hk3, if_neg (by decide), if_neg (by simp)]
      rw [e2]
      have e3 : wrAll p (.group (thgL l i).length :: thgL l i) = wrAll p (thgL l i) := by
        show wrAll (wrP p _) _ = _
        have : wrP p (Th.group (thgL l i).length).flatS = p := by
          unfold wrP
          rw [if_neg (by have := hR.len; show ¬ (65536 : Int) - _ < ((0 : Nat) : Int); omega)]
          show ({ p with tx := p.tx ++ [], col := p.col + ((0 : Nat) : Int) } : Pg) = p
          simp
        rw [this]
      rw [e3]
      exact flat_list L wd l i (m + 1) r p w hpl hR hL (by omega)
    · have e : thg (.mk k t n l) i = thgL l (i + n) := by simp [thg, h1, h2, h3, h5]
      rw [e] at hL hN ⊢
      by_cases h4 : k = 4
      · have e2 : rlay L wd (.mk k t n l) w i true = rlayL L wd l w (i + n) true := by rw [rlay, if_neg hk3, if_pos h4]
        rw [e2]
        exact flat_list L wd l (i + n) (m + 1) r p w hpl hR hL hN
      · have hn0 : n = 0 := by
          have h' : okC k t n l.length = true := h0
          exact okC_n0 h' h4
        subst hn0
        rw [Int.add_zero] at hL hN ⊢
        have e2 : rlay L wd (.mk k t 0 l) w i true = rlayL L wd l w i true := by rw [rlay, if_neg hk3, if_neg h4, if_neg (by simp)]
        rw [e2]
        exact flat_list L wd l i (m + 1) r p w hpl hR hL hN
theorem flat_list (L : List Dc) (wd : Int) : ∀ (l : List Dc) (i : Int) (m : Nat) (r : List Th) (p : Pg) (w : Wr), (∀ q ∈ preL l m, okP q = true) → RW p w → L.drop w.pos = tk (thgL l i ++ r) → nH (thgL l i) = 0 →
    (rlayL L wd l w i true).long = (wrAll p (thgL l i)).long ∧ ((rlayL L wd l w i true).long = false → RW (wrAll p (thgL l i)) (rlayL L wd l w i true) ∧ L.drop (rlayL L wd l w i true).pos = tk r)
  | [], i, m, r, p, w, _, hR, hL, _ => by
    rw [rlayL]
    have e : thgL [] i = [] := by simp [thgL]
    rw [e] at hL ⊢
    exact ⟨by show w.long = p.long; rw [hR.lw, hR.lp], fun _ => ⟨hR, hL⟩⟩
  | d :: l, i, m, r, p, w, hp, hR, hL, hN => by
    rw [preL] at hp
    rw [thgL] at hL hN ⊢
    rw [nH_app] at hN
    rw [List.append_assoc] at hL
    have a := flat_doc L wd d i m (thgL l i ++ r) p w (fun q h => hp q (List.mem_append_left _ h)) hR hL (by omega)
    rw [rlayL, if_neg (by rw [hR.lw]; decide), wrAll_app]
    cases hl : (rlay L wd d w i true).long with
    | true =>
      rw [rlayL_long l hl, hl]
      have hw : (wrAll p (thg d i)).long = true := by rw [← a.1]; exact hl
      exact ⟨(wrAll_true hw _).symm, fun hf => by cases hf⟩
    | false =>
      obtain ⟨hR2, hL2⟩ := a.2 hl
      exact flat_list L wd l i m r _ _ (fun q h => hp q (List.mem_append_right _ h)) hR2 hL2 (by omega)
end
end Go.Proofs.Ytbmejfcbladofaa
