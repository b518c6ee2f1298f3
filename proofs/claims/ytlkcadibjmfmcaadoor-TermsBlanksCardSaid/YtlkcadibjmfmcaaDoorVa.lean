/- Blanks put around the signs of a term's text: plain. -/
import Derived.Test.YtlkcadibjmfmcaaDoorRa
namespace Go.Proofs.YtlkcadibjmfmcaaDoor

/-- The signs around which blanks are put. -/
def sgn (c : Nat) : Bool := c == 40 || c == 41 || c == 44 || c == 91 || c == 93 || c == 63 || c == 45
/-- Where one stands: within quotes, whether the backslashes just passed are even, the blanks that are left, what was put together. -/
structure Bs where
  q : Bool
  ev : Bool
  bl : List (UInt8 × UInt8)
  out : List UInt8
def putB (st : Bs) (c : UInt8) : List (UInt8 × UInt8) × List UInt8 :=
  if (!st.q && sgn c.toNat) = true then
    match st.bl with
    | [] => ([], st.out ++ [c])
    | (x, y) :: bl => (bl, st.out ++ [x, c, y])
  else (st.bl, st.out ++ [c])
def stp (st : Bs) (c : UInt8) : Bs :=
  ⟨if c.toNat = 34 ∧ (st.q = false ∨ st.ev = true) then !st.q else st.q, if c.toNat = 92 then !st.ev else true, (putB st c).1, (putB st c).2⟩
def run (l : List UInt8) (st : Bs) : Bs := l.foldl stp st
theorem run_app (a b : List UInt8) (st : Bs) : run (a ++ b) st = run b (run a st) := List.foldl_append
theorem run_cons (c : UInt8) (l : List UInt8) (st : Bs) : run (c :: l) st = run l (stp st c) := rfl
theorem run_nil (st : Bs) : run [] st = st := rfl
/-- All that is left are blanks. -/
def BlP (bl : List (UInt8 × UInt8)) : Prop := ∀ p ∈ bl, blq p.1.toNat = true ∧ blq p.2.toNat = true
theorem stp_q {st : Bs} {c : UInt8} : (stp st c).q = (if c.toNat = 34 ∧ (st.q = false ∨ st.ev = true) then !st.q else st.q) ∧ (stp st c).ev = (if c.toNat = 92 then !st.ev else true) := ⟨rfl, rfl⟩
/-- A byte that is no sign, outside of quotes. -/
theorem stp_plain {st : Bs} {c : UInt8} (hs : sgn c.toNat = false) (h34 : c.toNat ≠ 34) : (stp st c).q = st.q ∧ (stp st c).bl = st.bl ∧ (stp st c).out = st.out ++ [c] := by
  unfold stp putB
  simp only
  rw [if_neg (fun h => h34 h.1), hs, Bool.and_false, if_neg (by simp)]
  exact ⟨rfl, rfl, rfl⟩
theorem Bl.app {a b : List UInt8} (ha : Bl a) (hb : Bl b) : Bl (a ++ b) := fun c hc => by
  rcases List.mem_append.1 hc with h | h
  · exact ha c h
  · exact hb c h
theorem Bl.one {x : UInt8} (h : blq x.toNat = true) : Bl [x] := fun c hc => by simp at hc; subst hc; exact h
/-- A sign, outside of quotes. -/
theorem stp_sign {st : Bs} {c : UInt8} (hq : st.q = false) (hs : sgn c.toNat = true) (hb : BlP st.bl) : ∃ b b', Bl b ∧ Bl b' ∧ (stp st c).q = false ∧ BlP (stp st c).bl ∧ (stp st c).out = st.out ++ (b ++ (c :: b')) := by
  have h34 : c.toNat ≠ 34 := by intro h; rw [h] at hs; exact absurd hs (by decide)
  have hqq : (stp st c).q = false := by rw [(stp_q (st := st) (c := c)).1, if_neg (fun h => h34 h.1)]; exact hq
  have e1 : (stp st c).bl = (putB st c).1 := rfl
  have e2 : (stp st c).out = (putB st c).2 := rfl
  rw [e1, e2]
  unfold putB
  rw [hq, hs]
  cases hbl : st.bl with
  | nil => exact ⟨[], [], Bl.nil, Bl.nil, hqq, (fun p hp => by cases hp), rfl⟩
  | cons p bl =>
    obtain ⟨x, y⟩ := p
    rw [hbl] at hb
    have := hb (x, y) (by simp)
    exact ⟨[x], [y], Bl.one this.1, Bl.one this.2, hqq, (fun p hp => hb p (List.mem_cons_of_mem _ hp)), rfl⟩
/-- Bytes that are no signs. -/
theorem run_plain : ∀ (l : List UInt8) (st : Bs), (∀ c ∈ l, sgn c.toNat = false ∧ c.toNat ≠ 34) → (run l st).q = st.q ∧ (run l st).bl = st.bl ∧ (run l st).out = st.out ++ l
  | [], st, _ => ⟨rfl, rfl, by rw [run_nil]; simp⟩
  | c :: l, st, h => by
    obtain ⟨h1, h2⟩ := h c (by simp)
    obtain ⟨a, b, d⟩ := stp_plain (st := st) h1 h2
    obtain ⟨a', b', d'⟩ := run_plain l (stp st c) (fun x hx => h x (by simp [hx]))
    rw [run_cons]
    exact ⟨a'.trans a, b'.trans b, by rw [d', d]; simp⟩
theorem alnum_sgn : ∀ c : Fin 256, alnum c.val = true → sgn c.val = false ∧ c.val ≠ 34 := by decide +kernel
theorem lspan_mem {p : Nat → Bool} : ∀ {l : List UInt8}, lspan p l = l.length → ∀ c ∈ l, p c.toNat = true
  | [], _, c, hc => by cases hc
  | x :: l, h, c, hc => by
    rw [lspan] at h
    by_cases hx : p x.toNat = true
    · rw [if_pos hx] at h
      rcases List.mem_cons.1 hc with rfl | hc
      · exact hx
      · exact lspan_mem (by simpa using h) c hc
    · rw [if_neg hx] at h; simp at h
theorem name_run {l : List UInt8} (h : nameB great l = true) (st : Bs) : (run l st).q = st.q ∧ (run l st).bl = st.bl ∧ (run l st).out = st.out ++ l :=
  run_plain l st (fun c hc => alnum_sgn ⟨c.toNat, UInt8.toNat_lt c⟩ (lspan_mem (name_facts h).2.2 c hc))
/-- Within quotes nothing is put. -/
theorem stp_in {st : Bs} {c : UInt8} (hq : st.q = true) : (stp st c).bl = st.bl ∧ (stp st c).out = st.out ++ [c] := by
  unfold stp putB
  simp only
  rw [hq]
  simp
/-- Within quotes, behind an even number of backslashes. -/
def InQ (st st' : Bs) (l : List UInt8) : Prop := st'.q = true ∧ st'.ev = true ∧ st'.bl = st.bl ∧ st'.out = st.out ++ l
theorem sign_shape : ∀ n : Fin 256, (∃ c : UInt8, signq n.val = [c] ∧ c.toNat ≠ 34 ∧ c.toNat ≠ 92) ∨ (∃ c : UInt8, signq n.val = [92, c]) ∨ ∃ c d : UInt8, signq n.val = [92, 120, c, d] ∧ c.toNat ≠ 34 ∧ c.toNat ≠ 92 ∧ d.toNat ≠ 34 ∧ d.toNat ≠ 92 := by
  have h : ∀ n : Fin 256, (match signq n.val with
      | [c] => decide (c.toNat ≠ 34 ∧ c.toNat ≠ 92)
      | [a, _] => decide (a = 92)
      | [a, b, c, d] => decide (a = 92 ∧ b = 120 ∧ c.toNat ≠ 34 ∧ c.toNat ≠ 92 ∧ d.toNat ≠ 34 ∧ d.toNat ≠ 92)
      | _ => false) = true := by decide +kernel
  intro n
  have := h n
  split at this
  · rename_i c e
    simp only [decide_eq_true_eq] at this
    exact .inl ⟨c, e, this⟩
  · rename_i a b e
    simp only [decide_eq_true_eq] at this
    subst this
    exact .inr (.inl ⟨b, e⟩)
  · rename_i a b c d e
    simp only [decide_eq_true_eq] at this
    obtain ⟨rfl, rfl, h1, h2, h3, h4⟩ := this
    exact .inr (.inr ⟨c, d, e, h1, h2, h3, h4⟩)
  · cases this
theorem in_plain {st : Bs} {c : UInt8} (hq : st.q = true) (h1 : c.toNat ≠ 34) (h2 : c.toNat ≠ 92) : InQ st (stp st c) [c] := by
  obtain ⟨a, b⟩ := stp_in (c := c) hq
  obtain ⟨d, e⟩ := stp_q (st := st) (c := c)
  exact ⟨by rw [d, if_neg (fun h => h1 h.1)]; exact hq, by rw [e, if_neg h2], a, b⟩
theorem sign_run (n : Nat) (h : n < 256) (st : Bs) (hq : st.q = true) (he : st.ev = true) : InQ st (run (signq n) st) (signq n) := by
  have bs : ∀ c : UInt8, (stp st 92).q = true ∧ (stp st 92).ev = false ∧ (stp st 92).bl = st.bl ∧ (stp st 92).out = st.out ++ [92] := fun _ => by
    obtain ⟨a, b⟩ := stp_in (c := 92) hq
    obtain ⟨d, e⟩ := stp_q (st := st) (c := 92)
    exact ⟨by rw [d, if_neg (fun h => absurd h.1 (by decide))]; exact hq, by rw [e, if_pos (by decide), he]; rfl, a, b⟩
  rcases sign_shape ⟨n, h⟩ with ⟨c, e, h1, h2⟩ | ⟨c, e⟩ | ⟨c, d, e, h1, h2, h3, h4⟩
  · rw [e, run_cons, run_nil]; exact in_plain hq h1 h2
  · rw [e, run_cons, run_cons, run_nil]
    obtain ⟨b1, b2, b3, b4⟩ := bs c
    obtain ⟨a, b⟩ := stp_in (c := c) b1
    obtain ⟨d, e'⟩ := stp_q (st := stp st 92) (c := c)
    refine ⟨?_, ?_, a.trans b3, by rw [b, b4]; simp⟩
    · rw [d, if_neg (by rw [b1, b2]; simp)]; exact b1
    · rw [e', b2]; simp
  · rw [e, run_cons, run_cons, run_cons, run_cons, run_nil]
    obtain ⟨b1, b2, b3, b4⟩ := bs c
    have p1 := in_plain (st := stp st 92) (c := 120) b1 (by decide) (by decide)
    have p2 := in_plain (st := stp (stp st 92) 120) (c := c) p1.1 h1 h2
    have p3 := in_plain (st := stp (stp (stp st 92) 120) c) (c := d) p2.1 h3 h4
    exact ⟨p3.1, p3.2.1, p3.2.2.1.trans (p2.2.2.1.trans (p1.2.2.1.trans b3)), by rw [p3.2.2.2, p2.2.2.2, p1.2.2.2, b4]; simp⟩
theorem signs_run : ∀ (L : List Nat) (st : Bs), (∀ n ∈ L, n < 256) → st.q = true → st.ev = true → InQ st (run (L.flatMap signq) st) (L.flatMap signq)
  | [], st, _, hq, he => ⟨hq, he, rfl, by rw [List.flatMap_nil, run_nil]; simp⟩
  | n :: L, st, h, hq, he => by
    have a := sign_run n (h n (by simp)) st hq he
    have b := signs_run L (run (signq n) st) (fun m hm => h m (by simp [hm])) a.1 a.2.1
    rw [List.flatMap_cons, run_app]
    exact ⟨b.1, b.2.1, b.2.2.1.trans a.2.2.1, by rw [b.2.2.2, a.2.2.2]; simp⟩
theorem quote_run (L : List Nat) (h : ∀ n ∈ L, n < 256) (st : Bs) (hq : st.q = false) : (run (quoteL L) st).q = false ∧ (run (quoteL L) st).bl = st.bl ∧ (run (quoteL L) st).out = st.out ++ quoteL L := by
  have e : quoteL L = 34 :: (L.flatMap signq ++ [34]) := by unfold quoteL; simp
  rw [e, run_cons, run_app, run_cons, run_nil]
  have o1 : (stp st 34).q = true ∧ (stp st 34).ev = true ∧ (stp st 34).bl = st.bl ∧ (stp st 34).out = st.out ++ [34] := by
    obtain ⟨d, e'⟩ := stp_q (st := st) (c := 34)
    refine ⟨by rw [d, if_pos ⟨rfl, .inl hq⟩, hq]; rfl, by rw [e', if_neg (by decide)], ?_, ?_⟩
    · unfold stp putB; simp only; rw [show sgn (34 : UInt8).toNat = false from rfl]; simp
    · unfold stp putB; simp only; rw [show sgn (34 : UInt8).toNat = false from rfl]; simp
  have m := signs_run L (stp st 34) h o1.1 o1.2.1
  obtain ⟨a, b⟩ := stp_in (c := 34) m.1
  obtain ⟨d, _⟩ := stp_q (st := run (L.flatMap signq) (stp st 34)) (c := 34)
  refine ⟨by rw [d, if_pos ⟨rfl, .inr m.2.1⟩, m.1]; rfl, a.trans (m.2.2.1.trans o1.2.2.1), by rw [b, m.2.2.2, o1.2.2.2]; simp⟩
theorem tail_snoc : ∀ (ds : List Tm) {m b : List UInt8}, Core false ds m → Bl b → Core false ds (m ++ b)
  | [], m, b, h, hb => by
    cases h with
    | tail0 h1 => exact Core.tail0 (h1.app hb)
  | d :: ds, m, b, h, hb => by
    cases h with
    | @tail b1 b2 l m' _ _ h1 h2 h3 h4 =>
      have := Core.tail h1 h2 h3 (tail_snoc ds h4 hb)
      simpa using this
/-- What comes of a term's text. -/
def Spl' (d : Tm) (st st' : Bs) : Prop := ∃ b o b', Bl b ∧ Core true [d] o ∧ Bl b' ∧ st'.q = false ∧ BlP st'.bl ∧ st'.out = st.out ++ (b ++ (o ++ b'))
theorem sg40 : sgn (40 : UInt8).toNat = true := rfl
theorem sg41 : sgn (41 : UInt8).toNat = true := rfl
theorem sg44 : sgn (44 : UInt8).toNat = true := rfl
theorem sg45 : sgn (45 : UInt8).toNat = true := rfl
theorem sg63 : sgn (63 : UInt8).toNat = true := rfl
theorem sg91 : sgn (91 : UInt8).toNat = true := rfl
theorem sg93 : sgn (93 : UInt8).toNat = true := rfl
mutual
theorem txt_run : ∀ (d : Tm), wl d = true → ∀ st : Bs, st.q = false → BlP st.bl → Spl' d st (run (txt d) st)
  | .mk k c t l, h, st, hq, hb => by
    rw [wl, Bool.and_eq_true] at h
    obtain ⟨h1, h2⟩ := h
    rw [txt]
    rcases okC_kind h1 with rfl | rfl | rfl | rfl | rfl
    · obtain ⟨hn, ht⟩ := okC_one h1
      obtain rfl : t = [] := List.length_eq_zero_iff.1 ht
      rw [if_neg (by decide), if_neg (by decide), if_neg (by decide), if_neg (by decide)]
      obtain ⟨n1, n2, n3⟩ := name_run hn st
      cases l with
      | nil =>
        simp only [List.isEmpty_nil, if_true, List.append_nil]
        exact ⟨[], c.data.toList, [], Bl.nil, Core.app0 hn, Bl.nil, n1.trans hq, by rw [n2]; exact hb, by rw [n3]; simp⟩
      | cons d ds =>
        rw [wlL, Bool.and_eq_true] at h2
        rw [if_neg (by simp), show c.data.toList ++ ([40] ++ txtL true (d :: ds) ++ [41]) = c.data.toList ++ (40 :: (txt d ++ (txtL false ds ++ [41]))) by simp [txtL]]
        rw [run_app, run_cons, run_app, run_app, run_cons, run_nil]
        obtain ⟨b1, b1', p1, p2, p3, p4, p5⟩ := stp_sign (st := run c.data.toList st) (c := 40) (n1.trans hq) sg40 (by rw [n2]; exact hb)
        obtain ⟨b2, o2, b2', q1, q2, q3, q4, q5, q6⟩ := txt_run d h2.1 _ p3 p4
        obtain ⟨o3, r1, r2, r3, r4⟩ := txtL_run ds h2.2 _ q4 q5 b2' q3
        obtain ⟨b4, b4', s1, s2, s3, s4, s5⟩ := stp_sign (st := run (txtL false ds) (run (txt d) (stp (run c.data.toList st) 40))) (c := 41) r2 sg41 r3
        have hc := Core.app hn p1 (p2.app q1) q2 (tail_snoc ds r1 s1)
        exact ⟨[], _, b4', Bl.nil, hc, s2, s3, s4, by rw [s5, r4, q6, p5, n3]; simp⟩
    · obtain ⟨hc, hl⟩ := okC_two h1
      obtain rfl := okC_size hc
      obtain rfl : l = [] := List.length_eq_zero_iff.1 hl
      rw [if_pos rfl]
      obtain ⟨a, b, e⟩ := quote_run (nums t) (numsB_lt t) st hq
      exact ⟨[], _, [], Bl.nil, Core.lex t, Bl.nil, a, by rw [b]; exact hb, by rw [e]; simp⟩
    · obtain ⟨hc, ht⟩ := okC_three h1
      obtain rfl := okC_size hc
      obtain rfl : t = [] := List.length_eq_zero_iff.1 ht
      rw [if_neg (by decide), if_pos rfl]
      obtain ⟨b1, b1', p1, p2, p3, p4, p5⟩ := stp_sign (st := st) (c := 91) hq sg91 hb
      cases l with
      | nil =>
        rw [show [91] ++ txtL true [] ++ [93] = [91, 93] by simp [txtL], run_cons, run_cons, run_nil]
        obtain ⟨b4, b4', s1, s2, s3, s4, s5⟩ := stp_sign (st := stp st 91) (c := 93) p3 sg93 p4
        exact ⟨b1, _, b4', p1, Core.list0 (p2.app s1), s2, s3, s4, by rw [s5, p5]; simp⟩
      | cons d ds =>
        rw [wlL, Bool.and_eq_true] at h2
        rw [show [91] ++ txtL true (d :: ds) ++ [93] = 91 :: (txt d ++ (txtL false ds ++ [93])) by simp [txtL], run_cons, run_app, run_app, run_cons, run_nil]
        obtain ⟨b2, o2, b2', q1, q2, q3, q4, q5, q6⟩ := txt_run d h2.1 _ p3 p4
        obtain ⟨o3, r1, r2, r3, r4⟩ := txtL_run ds h2.2 _ q4 q5 b2' q3
        obtain ⟨b4, b4', s1, s2, s3, s4, s5⟩ := stp_sign (st := run (txtL false ds) (run (txt d) (stp st 91))) (c := 93) r2 sg93 r3
        have hc := Core.list (p2.app q1) q2 (tail_snoc ds r1 s1)
        exact ⟨b1, _, b4', p1, hc, s2, s3, s4, by rw [s5, r4, q6, p5]; simp⟩
    · obtain ⟨hc, ht, hl⟩ := okC_four h1
      obtain rfl := okC_size hc
      obtain rfl : t = [] := List.length_eq_zero_iff.1 ht
      obtain rfl : l = [] := List.length_eq_zero_iff.1 hl
      rw [if_neg (by decide), if_neg (by decide), if_pos rfl, run_cons, run_nil]
      obtain ⟨b1, b1', p1, p2, p3, p4, p5⟩ := stp_sign (st := st) (c := 45) hq sg45 hb
      exact ⟨b1, [45], b1', p1, Core.none, p2, p3, p4, by rw [p5]; simp⟩
    · obtain ⟨hc, ht, hl⟩ := okC_five h1
      obtain rfl := okC_size hc
      obtain rfl : t = [] := List.length_eq_zero_iff.1 ht
      match l, hl, h2 with
      | [d], _, h2 =>
        rw [wlL, Bool.and_eq_true] at h2
        rw [if_neg (by decide), if_neg (by decide), if_neg (by decide), if_pos rfl, show [63] ++ txtL true [d] = 63 :: txt d by simp [txtL], run_cons]
        obtain ⟨b1, b1', p1, p2, p3, p4, p5⟩ := stp_sign (st := st) (c := 63) hq sg63 hb
        obtain ⟨b2, o2, b2', q1, q2, q3, q4, q5, q6⟩ := txt_run d h2.1 _ p3 p4
        exact ⟨b1, _, b2', p1, Core.some (p2.app q1) q2, q3, q4, q5, by rw [q6, p5]; simp⟩
theorem txtL_run : ∀ (l : List Tm), wlL l = true → ∀ st : Bs, st.q = false → BlP st.bl → ∀ b0, Bl b0 → ∃ o, Core false l (b0 ++ o) ∧ (run (txtL false l) st).q = false ∧ BlP (run (txtL false l) st).bl ∧ (run (txtL false l) st).out = st.out ++ o
  | [], _, st, hq, hb, b0, h0 => ⟨[], by rw [List.append_nil]; exact Core.tail0 h0, by rw [txtL, run_nil]; exact hq, by rw [txtL, run_nil]; exact hb, by rw [txtL, run_nil]; simp⟩
  | d :: l, h, st, hq, hb, b0, h0 => by
    rw [wlL, Bool.and_eq_true] at h
    rw [show txtL false (d :: l) = 44 :: (txt d ++ txtL false l) by simp [txtL], run_cons, run_app]
    obtain ⟨b1, b1', p1, p2, p3, p4, p5⟩ := stp_sign (st := st) (c := 44) hq sg44 hb
    obtain ⟨b2, o2, b2', q1, q2, q3, q4, q5, q6⟩ := txt_run d h.1 _ p3 p4
    obtain ⟨o3, r1, r2, r3, r4⟩ := txtL_run l h.2 _ q4 q5 b2' q3
    have hc := Core.tail (h0.app p1) (p2.app q1) q2 r1
    refine ⟨b1 ++ (44 :: (b1' ++ (b2 ++ (o2 ++ (b2' ++ o3))))), ?_, r2, r3, by rw [r4, q6, p5]; simp⟩
    simpa using hc
end
/-- With blanks around its signs a term's text is read as the term. -/
theorem run_par {d : Tm} (h : wl d = true) (hd : dp d ≤ 200) (bl : List (UInt8 × UInt8)) (hb : BlP bl) (hl : (run (txt d) ⟨false, true, bl, []⟩).out.length ≤ 65536) : rpar (bstr (run (txt d) ⟨false, true, bl, []⟩).out) = .ok d (run (txt d) ⟨false, true, bl, []⟩).out.length := by
  obtain ⟨b, o, b', h1, h2, h3, _, _, h4⟩ := txt_run d h ⟨false, true, bl, []⟩ rfl hb
  have hz : (bstr (run (txt d) ⟨false, true, bl, []⟩).out).size = (run (txt d) ⟨false, true, bl, []⟩).out.length := by show List.length _ = _; simp
  have := core_par h1 h2 h3 (bstr (run (txt d) ⟨false, true, bl, []⟩).out) (by simp only [bstr]; rw [h4]; simp) (by rw [hz]; exact hl) hd
  rw [this, hz]
theorem stp_len (st : Bs) (c : UInt8) : (stp st c).out.length ≤ st.out.length + 3 := by
  unfold stp putB
  simp only
  split
  · split <;> simp
  · simp
theorem run_len : ∀ (l : List UInt8) (st : Bs), (run l st).out.length ≤ st.out.length + 3 * l.length
  | [], st => by rw [run_nil]; simp
  | c :: l, st => by
    have := run_len l (stp st c)
    have := stp_len st c
    rw [run_cons, List.length_cons]; omega
/-- How many backslashes stand at the end of a list. -/
def tbs (l : List UInt8) : Nat := lspan (fun n => n == 92) l.reverse
theorem tbs_snoc (l : List UInt8) (c : UInt8) : tbs (l ++ [c]) = if c.toNat = 92 then tbs l + 1 else 0 := by
  unfold tbs
  rw [List.reverse_append, List.reverse_singleton, List.singleton_append, lspan]
  by_cases h : c.toNat = 92
  · rw [if_pos h, if_pos (by simp [h])]
  · rw [if_neg h, if_neg (by simp [h])]
theorem run_ev : ∀ (l : List UInt8) (st : Bs) (p : List UInt8), st.ev = decide (tbs p % 2 = 0) → (run l st).ev = decide (tbs (p ++ l) % 2 = 0)
  | [], st, p, h => by rw [run_nil, List.append_nil]; exact h
  | c :: l, st, p, h => by
    rw [run_cons, show p ++ c :: l = (p ++ [c]) ++ l by simp]
    refine run_ev l (stp st c) (p ++ [c]) ?_
    rw [(stp_q (st := st) (c := c)).2, tbs_snoc]
    by_cases hc : c.toNat = 92
    · rw [if_pos hc, if_pos hc, h]
      rw [Bool.eq_iff_iff]; simp; omega
    · rw [if_neg hc, if_neg hc]; rfl
end Go.Proofs.YtlkcadibjmfmcaaDoor
