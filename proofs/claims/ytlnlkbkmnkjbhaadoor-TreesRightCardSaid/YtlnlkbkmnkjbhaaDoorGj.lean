/- A right tree in which a part is taken for another: plain; which trees are right by a grammar: trees.Right. -/
import Derived.Test.YtlnlkbkmnkjbhaaDoorGi
import Derived.Test.YtlnlkbkmnkjbhaaDoorP1
import Derived.Test.YtlnlkbkmnkjbhaaDoorGf
namespace Go.Proofs.YtlnlkbkmnkjbhaaDoor
open Go.RowKit

/-- What is told of a tree by a grammar. -/
def rightC (G : Gm) (nt : Int) (d : Tr) : Int := if G.okB then (if isN G.nts nt then (if isS G ⟨nt, St.zero⟩ d then 0 else 90) else 1) else 3
theorem rightC_ok {G : Gm} {nt : Int} {d : Tr} (h : rightC G nt d = 0) : G.okB = true ∧ isN G.nts nt = true ∧ isS G ⟨nt, St.zero⟩ d = true := by
  unfold rightC at h
  split at h
  · split at h
    · split at h
      · exact ⟨by assumption, by assumption, by assumption⟩
      · cases h
    · cases h
  · cases h
theorem rightC_eq {G : Gm} {nt : Int} (d : Tr) (h1 : G.okB = true) (h2 : isN G.nts nt = true) : rightC G nt d = if isS G ⟨nt, St.zero⟩ d then 0 else 90 := by
  unfold rightC; rw [if_pos h1, if_pos h2]
theorem isS_nt (G : Gm) (s t : Ks) (d : Tr) (h : s.nt = t.nt) (h0 : 0 ≤ s.nt) : isS G s d = isS G t d := by
  rw [isS_eq, isS_eq, if_neg (by omega), if_neg (by omega), h]
theorem allS_set (G : Gm) : ∀ (l : List Tr) (ss : List Ks) (i : Nat) (s : Ks) (x : Tr), allS G ss l = true → ss[i]? = some s → i < l.length → allS G ss (l.set i x) = isS G s x
  | [], ss, i, s, x, _, _, h => by simp at h
  | d :: l, ss, 0, s, x, h, hs, _ => by
    cases ss with
    | nil => cases hs
    | cons s' ss =>
      cases hs
      rw [List.set_cons_zero, allS]
      rw [allS] at h
      simp only [Bool.and_eq_true, List.tail_cons] at h ⊢
      rw [h.2, Bool.and_true]
  | d :: l, ss, i + 1, s, x, h, hs, hl => by
    cases ss with
    | nil => cases hs
    | cons s' ss =>
      rw [List.set_cons_succ, allS]
      rw [allS] at h
      simp only [Bool.and_eq_true, List.tail_cons] at h ⊢
      rw [h.1, Bool.true_and]
      exact allS_set G l ss i s x h.2 hs (by simpa using hl)
theorem allS_get (G : Gm) : ∀ (l : List Tr) (ss : List Ks) (i : Nat) (s : Ks) (x : Tr), allS G ss l = true → ss[i]? = some s → l[i]? = some x → isS G s x = true
  | [], ss, i, s, x, _, _, h => by cases h
  | d :: l, ss, 0, s, x, h, hs, hx => by
    cases ss with
    | nil => cases hs
    | cons s' ss =>
      cases hs
      cases hx
      rw [allS] at h
      simp only [Bool.and_eq_true] at h
      exact h.1
  | d :: l, ss, i + 1, s, x, h, hs, hx => by
    cases ss with
    | nil => cases hs
    | cons s' ss =>
      rw [allS] at h
      simp only [Bool.and_eq_true, List.tail_cons] at h
      exact allS_get G l ss i s x h.2 hs hx
/-- A part of a tree that is of a symbol is of a symbol, and what is put there decides. -/
theorem part_of (G : Gm) : ∀ (ps : List Int) (s : Ks) (t old : Tr), isS G s t = true → atP t ps = some old → ∃ s', isS G s' old = true ∧ ∀ y t', putP t ps y = some t' → isS G s t' = isS G s' y
  | [], s, t, old, h, ha => by
    rw [atP] at ha
    cases ha
    exact ⟨s, h, fun y t' hp => by rw [putP] at hp; cases hp; rfl⟩
  | v :: ps, s, t, old, h, ha => by
    rw [atP] at ha
    cases hk : kidAt t v with
    | none => rw [hk] at ha; cases ha
    | some x =>
      rw [hk] at ha
      simp only [Option.bind_some] at ha
      obtain ⟨hv0, hvx⟩ := kidAt_some hk
      have hlt := (List.getElem?_eq_some_iff.1 hvx).1
      have h2 := h
      rw [isS_eq] at h2
      by_cases hn : s.nt < 0
      · rw [if_pos hn] at h2
        unfold isBy at h2
        simp only [Bool.and_eq_true] at h2
        have : t.kids = [] := by simpa using h2.1.2
        rw [this] at hlt; simp at hlt
      · rw [if_neg hn, Bool.and_eq_true] at h2
        obtain ⟨hnd, hall⟩ := h2
        have hnd2 := hnd
        unfold isNd at hnd2
        simp only [Bool.and_eq_true, decide_eq_true_eq, beq_iff_eq] at hnd2
        have hlen := hnd2.2
        obtain ⟨s1, hs1⟩ : ∃ s1, (ruleOf G t.rule).rhs[v.toNat]? = some s1 := ⟨(ruleOf G t.rule).rhs[v.toNat]'(by omega), by simp⟩
        have hx := allS_get G _ _ _ s1 x hall hs1 hvx
        obtain ⟨s', g1, g2⟩ := part_of G ps s1 x old hx ha
        refine ⟨s', g1, fun y t' hp => ?_⟩
        obtain ⟨x2, y2, e1, e2, rfl⟩ := put_cons hp
        rw [hk] at e1
        cases e1
        rw [isS_eq, if_neg hn]
        show (isNd G s.nt t.rule t.byte (t.kids.set v.toNat y2).length && allS G (ruleOf G t.rule).rhs (t.kids.set v.toNat y2)) = _
        rw [List.length_set, hnd, Bool.true_and, allS_set G _ _ _ s1 y2 hall hs1 hlt]
        exact g2 y y2 e2
theorem ruleOf_mem {G : Gm} {r : Int} (h0 : 0 ≤ r) (h1 : r < (G.rules.length : Int)) : ruleOf G r ∈ G.rules := by
  unfold ruleOf
  rw [List.getD_eq_getElem?_getD, List.getElem?_eq_getElem (by omega)]
  exact List.getElem_mem _
/-- The law: a part with a rule's number is a node of it; it may be taken for another of its nonterminal, and for no other. -/
theorem stay_plain {G : Gm} {t old : Tr} {ps : List Int} (h : rightC G G.start t = 0) (ha : atP t ps = some old) :
    ((old.rule < 0 ∨ (G.rules.length : Int) ≤ old.rule) → old.rule = -1) ∧ (0 ≤ old.rule → old.rule < (G.rules.length : Int) → rightC G (ruleOf G old.rule).lhs old = 0 ∧ ∀ y t', putP t ps y = some t' → (rightC G G.start t' == 0) = (rightC G (ruleOf G old.rule).lhs y == 0)) := by
  obtain ⟨h1, h2, h3⟩ := rightC_ok h
  obtain ⟨s', g1, g2⟩ := part_of G ps _ t old h3 ha
  rw [isS_eq] at g1
  by_cases hn : s'.nt < 0
  · rw [if_pos hn] at g1
    unfold isBy at g1
    simp only [Bool.and_eq_true, beq_iff_eq] at g1
    exact ⟨fun _ => g1.1.1, fun h0 _ => by omega⟩
  · rw [if_neg hn, Bool.and_eq_true] at g1
    have hnd := g1.1
    unfold isNd at hnd
    simp only [Bool.and_eq_true, decide_eq_true_eq, beq_iff_eq] at hnd
    obtain ⟨⟨⟨⟨r0, r1⟩, r2⟩, r3⟩, r4⟩ := hnd
    refine ⟨fun e => by omega, fun _ _ => ?_⟩
    have hm := ruleOf_mem r0 r1
    have hok : isN G.nts (ruleOf G old.rule).lhs = true := by
      unfold Gm.okB at h1
      simp only [Bool.and_eq_true] at h1
      have := List.all_eq_true.1 h1.2 _ hm
      unfold Rl.okB at this
      simp only [Bool.and_eq_true] at this
      exact this.1.1
    have hs : ∀ y, isS G s' y = isS G ⟨(ruleOf G old.rule).lhs, St.zero⟩ y := fun y => isS_nt G _ _ y r3.symm (by omega)
    refine ⟨?_, fun y t' hp => ?_⟩
    · rw [rightC_eq old h1 hok, ← hs old, isS_eq, if_neg hn, g1.1, g1.2]; rfl
    · rw [rightC_eq t' h1 h2, rightC_eq y h1 hok, g2 y t' hp, hs y]
set_option maxRecDepth 100000 in
set_option maxHeartbeats 4000000 in
theorem tright_any (G : Gm) (ga : Option Addr) (gc : Nat) (nt : Int) (d : Tr) (sa : Option Addr) (sc f : Nat) (w : World) (hR : RAt w w.heap.size ga G.rules) (hk : TAt w w.heap.size f sa d.kids) (hlen : sz d ≤ 1000000000) :
    Calls Tryd.prog 17 #[.agg #[.int .i64 G.nts, .int .i64 G.start, .slice ga G.rules.length gc], .int .i64 nt, .agg #[.int .i64 d.rule, .int .u8 (d.byte.toNat : Int), .slice sa d.kids.length sc]] w fun e w' => e = .returned (.int .i64 (rightC G nt d)) ∧ Below w.heap.size w w' := by
  obtain ⟨w1, hw1⟩ : ∃ w1, w.alloc (.cells #[.int .i64 G.nts, .int .i64 G.start, .slice ga G.rules.length gc] 24) = w1 := ⟨_, rfl⟩
  obtain ⟨w2, hw2⟩ : ∃ w2, w1.alloc (.cells #[.int .i64 d.rule, .int .u8 (d.byte.toNat : Int), .slice sa d.kids.length sc] 27) = w2 := ⟨_, rfl⟩
  have s1 : w1.heap.size = w.heap.size + 1 := by rw [← hw1]; simp
  have s2 : w2.heap.size = w.heap.size + 2 := by rw [← hw2]; simp [s1]
  have hB1 : Below w.heap.size w w1 := by rw [← hw1]; exact (Below.refl _ _).alloc (Nat.le_refl _) _
  have hB2 : Below w1.heap.size w1 w2 := by rw [← hw2]; exact (Below.refl _ _).alloc (Nat.le_refl _) _
  have hBw : Below w.heap.size w w2 := hB1.trans (hB2.mono hB1.size)
  have gg : ∀ j v, (#[.int .i64 G.nts, .int .i64 G.start, .slice ga G.rules.length gc] : Array Value)[j]? = some v → w2.cell? ⟨w.heap.size, j, none⟩ = some v := fun j v hv => (hB2.cell (p := ⟨w.heap.size, j, none⟩) (by show w.heap.size < _; omega)).trans (by rw [← hw1]; exact cell_new j hv)
  have dk : ∀ j v, (#[.int .i64 d.rule, .int .u8 (d.byte.toNat : Int), .slice sa d.kids.length sc] : Array Value)[j]? = some v → w2.cell? ⟨w.heap.size + 1, j, none⟩ = some v := fun j v hv => by rw [← hw2, ← s1]; exact cell_new j hv
  have HF : Hid (∀ W, Below w2.heap.size w2 W → (W.cell? ⟨w.heap.size, 0, none⟩ = some (.int .i64 G.nts) ∧ W.cell? ⟨w.heap.size, 1, none⟩ = some (.int .i64 G.start) ∧ W.cell? ⟨w.heap.size, 2, none⟩ = some (.slice ga G.rules.length gc)) ∧ W.cell? ⟨w.heap.size + 1, 0, none⟩ = some (.int .i64 d.rule) ∧ W.cell? ⟨w.heap.size + 1, 1, none⟩ = some (.int .u8 (d.byte.toNat : Int)) ∧ W.cell? ⟨w.heap.size + 1, 2, none⟩ = some (.slice sa d.kids.length sc)) := fun W h => by
    have k : ∀ b q, b < w2.heap.size → W.cell? ⟨b, q, none⟩ = w2.cell? ⟨b, q, none⟩ := fun b q hb => h.cell (p := ⟨b, q, none⟩) hb
    exact ⟨⟨(k _ _ (by omega)).trans (gg 0 _ rfl), (k _ _ (by omega)).trans (gg 1 _ rfl), (k _ _ (by omega)).trans (gg 2 _ rfl)⟩, (k _ _ (by omega)).trans (dk 0 _ rfl), (k _ _ (by omega)).trans (dk 1 _ rfl), (k _ _ (by omega)).trans (dk 2 _ rfl)⟩
  obtain ⟨⟨g0, g1, g2⟩, d0, d1, d2⟩ := HF.out w2 (Below.refl _ _)
  have HR : Hid _ := fun (_ : Unit) => gright_any G ga gc w2 ((hR.keep hBw).mono hBw.size)
  have HO : Hid (∀ W, Below w2.heap.size w2 W → Calls Tryd.prog 40 #[.agg #[.int .i64 G.nts, .int .i64 G.start, .slice ga G.rules.length gc], .agg #[.int .i64 nt, .int .u64 0, .int .u64 0, .int .u64 0, .int .u64 0], .agg #[.int .i64 d.rule, .int .u8 (d.byte.toNat : Int), .slice sa d.kids.length sc]] W fun e w' => e = .returned (.bool (isS G ⟨nt, St.zero⟩ d)) ∧ Below W.heap.size W w') := fun W h => isOf_any G ga gc ⟨nt, St.zero⟩ d sa sc f W ((hR.keep (below_of hBw h)).mono (below_of hBw h).size) St.zero_ok ((hk.keep (below_of hBw h)).mono (below_of hBw h).size) hlen
  have HB : Hid _ := hBw
  have HC : Hid (rightC G nt d = if G.okB then (if isN G.nts nt then (if isS G ⟨nt, St.zero⟩ d then 0 else 90) else 1) else 3) := rfl
  clear hB1 hB2 hBw gg dk hR hk hlen
  cases hok : G.okB with
  | false =>
    rw [hok] at HR HC
    clear hok
    go_enter Tryd.func17, Tryd.ntmps17
    go_wp2_with (go_at_call 39; refine (HR.out ()).mono ?_; rintro e w3 ⟨rfl, hb3⟩)
    go_ret
    exact ⟨by rw [HC.out]; rfl, below_of HB.out hb3⟩
  | true =>
    rw [hok] at HR HC
    clear hok
    by_cases h1 : nt < 0
    · have HN : Hid (isN G.nts nt = false) := by show _ = _; unfold isN; simp; omega
      rw [HN.out] at HC
      go_enter Tryd.func17, Tryd.ntmps17
      go_wp2_with (go_at_call 39; refine (HR.out ()).mono ?_; rintro e w3 ⟨rfl, hb3⟩; have HB3 : Hid _ := hb3; obtain ⟨⟨g0, g1, g2⟩, d0, d1, d2⟩ := HF.out w3 hb3; clear hb3)
      go_ret
      exact ⟨by rw [HC.out]; rfl, below_of HB.out HB3.out⟩
    · have h1' : decide (nt < 0) = false := by simp; omega
      by_cases h2 : G.nts ≤ nt
      · have HN : Hid (isN G.nts nt = false) := by show _ = _; unfold isN; simp; omega
        rw [HN.out] at HC
        go_enter Tryd.func17, Tryd.ntmps17
        go_wp2_with (go_at_call 39; refine (HR.out ()).mono ?_; rintro e w3 ⟨rfl, hb3⟩; have HB3 : Hid _ := hb3; obtain ⟨⟨g0, g1, g2⟩, d0, d1, d2⟩ := HF.out w3 hb3; clear hb3)
        go_ret
        exact ⟨by rw [HC.out]; rfl, below_of HB.out HB3.out⟩
      · have h2' : decide (G.nts ≤ nt) = false := by simp; omega
        have HN : Hid (isN G.nts nt = true) := by show _ = _; unfold isN; simp; omega
        rw [HN.out] at HC
        cases hs : isS G ⟨nt, St.zero⟩ d with
        | false =>
          rw [hs] at HO HC
          clear hs
          go_enter Tryd.func17, Tryd.ntmps17
          go_wp2_with (go_at_call 39; refine (HR.out ()).mono ?_; rintro e w3 ⟨rfl, hb3⟩; have HB3 : Hid _ := hb3; obtain ⟨⟨g0, g1, g2⟩, d0, d1, d2⟩ := HF.out w3 hb3; clear hb3)
          refine (HO.out _ HB3.out).mono ?_
          rintro e w4 ⟨rfl, hb4⟩
          go_wp2
          go_ret
          exact ⟨by rw [HC.out]; rfl, below_of HB.out (HB3.out.trans (hb4.mono HB3.out.size))⟩
        | true =>
          rw [hs] at HO HC
          clear hs
          go_enter Tryd.func17, Tryd.ntmps17
          go_wp2_with (go_at_call 39; refine (HR.out ()).mono ?_; rintro e w3 ⟨rfl, hb3⟩; have HB3 : Hid _ := hb3; obtain ⟨⟨g0, g1, g2⟩, d0, d1, d2⟩ := HF.out w3 hb3; clear hb3)
          refine (HO.out _ HB3.out).mono ?_
          rintro e w4 ⟨rfl, hb4⟩
          go_wp2
          go_ret
          exact ⟨by rw [HC.out]; rfl, below_of HB.out (HB3.out.trans (hb4.mono HB3.out.size))⟩
end Go.Proofs.YtlnlkbkmnkjbhaaDoor
