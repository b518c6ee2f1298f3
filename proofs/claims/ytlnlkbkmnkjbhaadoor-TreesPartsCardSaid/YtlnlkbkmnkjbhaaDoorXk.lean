/- Clone and At: how what is told lies. -/
import Derived.Test.YtlnlkbkmnkjbhaaDoorXa
namespace Go.Proofs.YtlnlkbkmnkjbhaaDoor
open Go.RowKit

namespace X
theorem done_tix {W : World} {U : Nat → Prop} {w : World} {g : Nat} {L : List Tr} {xs : List Value} (h : CL w g L L.length xs) (hL : L.length ≤ 1000000000000) (hU : U g) (hfz : ∀ q, W.frozen? ⟨g, q, none⟩ = false) (hc : ∀ j, j < L.length * 3 → W.cell? ⟨g, j, none⟩ = xs[j]?) : ∀ (F : Nat) (d : Tr) (s : Value), dpL d.kids ≤ F → Done g L d s → ∃ a c, s = .slice a d.kids.length c ∧ d.kids.length ≤ c ∧ TIx W U F a d.kids := by
  intro F
  induction F with
  | zero =>
    intro d s hd hs
    have hk : d.kids = [] := by
      cases hq : d.kids with
      | nil => rfl
      | cons x l => rw [hq, dpL, dp_eq] at hd; omega
    rcases hs with ⟨_, e⟩ | ⟨m, e, _⟩
    · exact ⟨none, 0, by rw [hk]; exact e, by rw [hk]; exact Nat.le_refl _, hk⟩
    · exact ⟨_, _, e, Nat.le_refl _, hk⟩
  | succ F ih =>
    intro d s hd hs
    rcases hs with ⟨hk, e⟩ | ⟨m, e, hm⟩
    · exact ⟨none, 0, by rw [hk]; exact e, by rw [hk]; exact Nat.le_refl _, by rw [hk]; exact ⟨by decide, fun j x hj => by cases hj⟩⟩
    · refine ⟨_, _, e, Nat.le_refl _, ?_, fun t x hx => ?_⟩
      · by_cases h0 : d.kids.length = 0
        · omega
        · have := hm (d.kids.length - 1) d.kids[d.kids.length - 1] (by simp)
          have := (List.getElem?_eq_some_iff.1 this).1
          omega
      · have hx' := hm t x hx
        have hlt := (List.getElem?_eq_some_iff.1 hx').1
        obtain ⟨s', e', h1, _⟩ := h.c2 _ x hx'
        have hdx := dpL_mem hx
        rw [dp_eq] at hdx
        obtain ⟨a, c, rfl, hcl, htin⟩ := ih x s' (by omega) (h1 hlt)
        have q : ∀ r, m * 3 + t * 3 + r = (m + t) * 3 + r := fun r => by omega
        exact ⟨g, m * 3, rfl, hU, ⟨by omega, hfz⟩, a, c, by rw [show m * 3 + t * 3 = (m + t) * 3 by omega, hc _ (by omega)]; exact h.c0 _ x hx', by rw [q, hc _ (by omega)]; exact h.c1 _ x hx', by rw [q, hc _ (by omega)]; exact e', hcl, htin⟩
set_option maxRecDepth 100000 in
set_option maxHeartbeats 4000000 in
theorem clone_any (d : Tr) (sa : Option Addr) (sc f : Nat) (w : World) (hk : TAt w w.heap.size f sa d.kids) (hsc : d.kids.length ≤ sc) (hlen : sz d ≤ 1000000000000) :
    Calls Tryd.prog 71 #[.agg #[.int .i64 d.rule, .int .u8 (d.byte.toNat : Int), .slice sa d.kids.length sc], .func (.func 45) #[] #[]] w fun e w' => (∃ va vc, e = .returned (.agg #[.int .i64 d.rule, .int .u8 (d.byte.toNat : Int), .slice va d.kids.length vc]) ∧ d.kids.length ≤ vc ∧ TIx w' (fun b => w.heap.size ≤ b ∧ b < w'.heap.size) f va d.kids) ∧ Below w.heap.size w w' := by
  obtain ⟨i0, hinf, hz0, hz1, hz2⟩ := info_parts info24
  obtain ⟨w1, hw1⟩ : ∃ w1, w.alloc (.cells #[.int .i64 d.rule, .int .u8 (d.byte.toNat : Int), .slice sa d.kids.length sc] 27) = w1 := ⟨_, rfl⟩
  obtain ⟨w2, hw2⟩ : ∃ w2, w1.alloc (.cells #[.int .i64 0, .int .u8 0, .slice none 0 0] 27) = w2 := ⟨_, rfl⟩
  have s1 : w1.heap.size = w.heap.size + 1 := by rw [← hw1]; simp
  have hB1 : Below w.heap.size w w1 := by rw [← hw1]; exact (Below.refl _ _).alloc (Nat.le_refl _) _
  have hB2' : Below w1.heap.size w1 w2 := by rw [← hw2]; exact (Below.refl _ _).alloc (Nat.le_refl _) _
  have s2 : w2.heap.size = w.heap.size + 2 := by rw [← hw2]; simp [s1]
  have hB2 : Below w.heap.size w w2 := hB1.trans (hB2'.mono (by omega))
  have c1 : ∀ j v, (#[.int .i64 d.rule, .int .u8 (d.byte.toNat : Int), .slice sa d.kids.length sc] : Array Value)[j]? = some v → w2.cell? ⟨w.heap.size, j, none⟩ = some v := fun j v hv => (hB2'.cell (p := ⟨w.heap.size, j, none⟩) (by show w.heap.size < _; omega)).trans (by rw [← hw1]; exact cell_new j hv)
  have c2 : ∀ j v, (#[.int .i64 0, .int .u8 0, .slice none 0 0] : Array Value)[j]? = some v → w2.cell? ⟨w.heap.size + 1, j, none⟩ = some v := fun j v hv => by rw [← hw2, ← s1]; exact cell_new j hv
  have HS : Hid (Calls Tryd.prog 44 #[.agg #[.int .i64 d.rule, .int .u8 (d.byte.toNat : Int), .slice sa d.kids.length sc], .func (.func 45) #[] #[]] w2 fun e w' => (∃ q : Int, e = .returned (.tuple #[.int .i64 (sz d : Int), .int .i64 q])) ∧ Below w2.heap.size w2 w') := by
    refine (kinSize_any d sa sc f w2 ((hk.keep hB2).mono hB2.size) hsc (by rw [pre_len]; exact hlen)).mono ?_
    rintro e w' ⟨rfl, hb⟩
    rw [pre_len]
    exact ⟨⟨_, rfl⟩, hb⟩
  have HD : Hid (sz d = 1 + szL d.kids) := sz_eq d
  have HST : Hid (Still w d (.slice sa d.kids.length sc)) := ⟨f, sa, sc, rfl, hsc, hk⟩
  have HDP : Hid _ := hk.deep
  have HK : Hid (∀ W, Below w2.heap.size w2 W → (W.cell? ⟨w.heap.size, 0, none⟩ = some (.int .i64 d.rule) ∧ W.cell? ⟨w.heap.size, 1, none⟩ = some (.int .u8 (d.byte.toNat : Int)) ∧ W.cell? ⟨w.heap.size, 2, none⟩ = some (.slice sa d.kids.length sc)) ∧ Below w.heap.size w W) := fun W h => by
    have k : ∀ q, W.cell? ⟨w.heap.size, q, none⟩ = w2.cell? ⟨w.heap.size, q, none⟩ := fun q => h.cell (p := ⟨w.heap.size, q, none⟩) (by show w.heap.size < _; omega)
    exact ⟨⟨(k 0).trans (c1 0 _ rfl), (k 1).trans (c1 1 _ rfl), (k 2).trans (c1 2 _ rfl)⟩, hB2.trans (h.mono hB2.size)⟩
  have HR : Hid (∀ W, Below w2.heap.size w2 W → (W.cell? ⟨w.heap.size + 1, 0, none⟩ = some (.int .i64 0) ∧ W.cell? ⟨w.heap.size + 1, 1, none⟩ = some (.int .u8 0) ∧ W.cell? ⟨w.heap.size + 1, 2, none⟩ = some (.slice none 0 0)) ∧ ∀ q, W.frozen? ⟨w.heap.size + 1, q, none⟩ = false) := fun W h => by
    have hlt : w.heap.size + 1 < w2.heap.size := by omega
    have k : ∀ q, W.cell? ⟨w.heap.size + 1, q, none⟩ = w2.cell? ⟨w.heap.size + 1, q, none⟩ := fun q => h.cell (p := ⟨w.heap.size + 1, q, none⟩) hlt
    refine ⟨⟨(k 0).trans (c2 0 _ rfl), (k 1).trans (c2 1 _ rfl), (k 2).trans (c2 2 _ rfl)⟩, fun q => ?_⟩
    refine (h.frozen (p := ⟨w.heap.size + 1, q, none⟩) hlt).trans ?_
    rw [← hw2, ← s1]
    exact World.frozen?_alloc_at _ _ _ _ rfl
  have e0 := c1 0 _ rfl
  have e1 := c1 1 _ rfl
  have e2 := c1 2 _ rfl
  have HS2 : Hid _ := s2
  generalize hcap : sz d = cap at HS hlen HD
  clear c1 c2 hB1 hB2 hB2' hk s1 s2 hcap
  subst hw2
  subst hw1
  go_enter Tryd.func71, Tryd.ntmps71
  go_wp2_with (first
    | (go_at_call 44; refine HS.out.mono ?_; rintro e w3 ⟨⟨q, rfl⟩, hb3⟩; obtain ⟨⟨e0, e1, e2⟩, hbw⟩ := HK.out _ hb3)
    | (at_make; refine wpList_make_own _ rfl _ _ 25 rfl w3.heap.size 27 i0 _ 3 Tryd.underlying25 hinf hz0 hz1 .i64 .i64 (cap : Int) cap rfl rfl rfl ?b2 ?b3 (Nat.le_refl _) ?_))
  case b2 => rw [hz2]; omega
  case b3 => unfold maxLen; omega
  intro w4 hrow4 hg4
  have hb4 : Below w3.heap.size w3 w4 := ⟨hg4.os, hg4.tape, hg4.output, hg4.size, fun b hb => hg4.block b hb (by simp)⟩
  have hb24 := below_of hb3 hb4
  obtain ⟨⟨e0, e1, e2⟩, hbw⟩ := HK.out _ hb24
  go_wp2_with (at_builtin; refine wpList_append_own_spare _ rfl _ _ 25 rfl w3.heap.size 27 i0 3 Tryd.underlying25 hinf hz1 w3.heap.size 0 cap [] rfl (hrow4.alloc _) ⟨w4.heap.size, 0, none⟩ 1 1 [.int .i64 d.rule, .int .u8 (d.byte.toNat : Int), .slice sa d.kids.length sc] rfl rfl (cell_three_new _ _ _ _ _) (by intro u hu; simp at hu; rcases hu with rfl | rfl | rfl <;> rfl) (by have := HD.out; omega) ?_)
  intro w5 hrow5 hg5
  have hX0 : CW w w3.heap.size w3 d cap [d] 0 [.int .i64 d.rule, .int .u8 (d.byte.toNat : Int), .slice sa d.kids.length sc] w5 := by
    refine ⟨by simp, ?_, rfl, CL.first HST.out, hrow5, ?_⟩
    · have := HD.out; simp [ksum]; omega
    · have hbA : Below w3.heap.size w3 (w4.alloc (.cells #[.int .i64 d.rule, .int .u8 (d.byte.toNat : Int), .slice sa d.kids.length sc] 27)) := hb4.alloc hb4.size _
      exact ⟨hg5.os.trans hbA.os, hg5.tape.trans hbA.tape, hg5.output.trans hbA.output, Nat.le_trans hbA.size hg5.size, fun b hb => (hg5.block b (Nat.lt_of_lt_of_le hb hbA.size) (by simp; omega)).trans (hbA.block b hb)⟩
  have H3 : Hid _ := hb3
  have HLN : Hid (cap ≤ 1000000000000) := hlen
  clear hrow5 hg5 hrow4 hg4 hb4 hb24 e0 e1 e2 hbw hlen
  go_wp2
  go_loopw [7, 8] (fun v i W => ∃ (k : Nat) (L : List Tr) (xs : List Value), v = .slice (some ⟨w3.heap.size, 0, none⟩) L.length cap ∧ i = .int .i64 (k : Int) ∧ CW w w3.heap.size w3 d cap L k xs W) (fun _ i _ => cap - (intOf i).toNat)
  case atStart => exact ⟨0, [d], _, rfl, rfl, hX0⟩
  case round =>
    clear hX0
    obtain ⟨k, L, xs, rfl, rfl, hX⟩ := hrel
    have HX : Hid _ := hX
    have hle := hX.le
    have hsum := hX.sum
    have hcap := HLN.out
    by_cases hlt : k < L.length
    · obtain ⟨x, hx⟩ : ∃ x, L[k]? = some x := ⟨L[k], by simp⟩
      obtain ⟨s, es, _, hst⟩ := hX.cl.c2 k x hx
      obtain ⟨f', a, c, rfl, hc, hat⟩ := hst (Nat.le_refl _)
      have t2 : wr.cell? ⟨w3.heap.size, k * 3 + 2, none⟩ = some (.slice a x.kids.length c) := (hX.cell _ (by omega)).trans es
      have tf : wr.frozen? ⟨w3.heap.size, k * 3 + 2, none⟩ = false := hX.fz (k * 3 + 2)
      have hkI : (k : Int) < (L.length : Int) := by omega
      have hkb : (k : Int) ≤ 1000000000000 := by omega
      have HO : Hid _ := fun (_ : Unit) => ofTree_any w3.heap.size (k * 3) wr
      have HKS := ksum_drop hx
      have HXX : Hid _ := hx
      have HLE : Hid _ := hlt
      have HSUM : Hid _ := hsum
      by_cases hn : x.kids = []
      · have hl0 : x.kids.length = 0 := by rw [hn]; rfl
        rw [hl0] at t2
        have HSK : Hid (L.length + ksum (L.drop (k + 1)) = cap) := by show _ = _; rw [hn] at HKS; simp [szL] at HKS; omega
        have HN : Hid _ := hn
        clear hat hc hst es hx hX hsum HKS hl0 hn hle hlt hcap
        go_wp2_with (go_at_call 45; refine (HO.out ()).mono ?_; rintro e w' ⟨rfl, rfl⟩)
        refine ⟨⟨k + 1, L, xs.set (k * 3 + 2) (.slice none 0 0), rfl, by go_num, ?_⟩, by have := HLE.out; have := HSUM.out; simp [intOf]; omega⟩
        have hs := HX.out.row.stored (k * 3 + 2) (.slice none 0 0)
        exact ⟨HLE.out, HSK.out, HX.out.hd, HX.out.cl.put HXX.out (.inl ⟨HN.out, rfl⟩), hs.1, ⟨hs.2.os.trans HX.out.bel.os, hs.2.tape.trans HX.out.bel.tape, hs.2.output.trans HX.out.bel.output, Nat.le_trans HX.out.bel.size hs.2.size, fun b hb => (hs.2.block b (Nat.lt_of_lt_of_le hb HX.out.bel.size) (by simp; omega)).trans (HX.out.bel.block b hb)⟩⟩
      · obtain ⟨b, o, rfl, hbl⟩ : ∃ b o, a = some ⟨b, o, none⟩ ∧ b < w.heap.size := by
          cases f' with
          | zero => exact absurd hat hn
          | succ f' =>
            obtain ⟨x0, h0⟩ : ∃ x0, x.kids[0]? = some x0 := by
              cases hq : x.kids with
              | nil => exact absurd hq hn
              | cons x0 l => exact ⟨x0, rfl⟩
            obtain ⟨b, o, e, hb, _⟩ := hat.2 0 x0 h0
            exact ⟨b, o, e, hb⟩
        obtain ⟨news, hnl, hnc, hno, hnk⟩ := kid_cells hat
        have hpos : 0 < x.kids.length := List.length_pos_iff.2 hn
        have hne : ((x.kids.length : Int) == 0) = false := by simp; omega
        have hbwr : Below w.heap.size w wr := (HK.out _ H3.out).2.trans (hX.bel.mono (HK.out _ H3.out).2.size)
        have hnc' : ∀ j u, news[j]? = some u → wr.cell? ((⟨b, o, none⟩ : Addr).add j) = some u := fun j u hu => by
          have hadd : (⟨b, o, none⟩ : Addr).add j = ⟨b, o + j, none⟩ := by unfold Addr.add; split <;> simp_all
          rw [hadd]
          exact (hbwr.cell (p := ⟨b, o + j, none⟩) hbl).trans (hnc j u hu)
        have hks := szL_ksum x.kids
        have HSK : Hid ((L ++ x.kids).length + ksum ((L ++ x.kids).drop (k + 1)) = cap) := by
          show _ = _
          rw [List.length_append, List.drop_append_of_le_length (by omega), ksum_app]
          omega
        have hroom : L.length + x.kids.length ≤ cap := by omega
        have HCL := hX.cl.more (M := x.kids) hle hnl (fun j y hy => by
          obtain ⟨h0, h1, f2, a2, c2, h2, h3, h4⟩ := hnk j y hy
          exact ⟨h0, h1, _, h2, f2, a2, c2, rfl, h3, h4⟩)
        have HD2 : Done w3.heap.size (L ++ x.kids) x (.slice (some ⟨w3.heap.size, L.length * 3, none⟩) x.kids.length x.kids.length) := .inr ⟨L.length, rfl, fun t y hy => by rw [List.getElem?_append_right (by omega)]; simpa using hy⟩
        have hx2 : (L ++ x.kids)[k]? = some x := by rw [List.getElem?_append_left hlt]; exact hx
        have HCP := HCL.put hx2 HD2
        have hd2 : (L ++ x.kids)[0]? = some d := by rw [List.getElem?_append_left (by omega)]; exact hX.hd
        have hll : (L ++ x.kids).length = L.length + x.kids.length := List.length_append
        have HF : Hid _ := And.intro HCP (And.intro hd2 hll)
        have HCE : Hid _ := And.intro HCL hX.row
        generalize hnn : x.kids.length = n at *
        clear hat hst es hx hX hsum HKS hn hle hlt hcap HCL HCP HD2 hx2 hd2 hll hnc hnk hks hbwr
        go_wp2_with (first
          | (go_at_call 45; refine (HO.out ()).mono ?_; rintro e w' ⟨rfl, rfl⟩)
          | (at_builtin; refine wpList_append_own_spare _ rfl _ _ 25 rfl w3.heap.size 27 i0 3 Tryd.underlying25 hinf hz1 w3.heap.size L.length cap xs rfl HX.out.row ⟨b, o, none⟩ n c news rfl hnl hnc' hno hroom ?_))
        intro W6 hrow6 hg6
        have hl6 : k * 3 + 2 < (xs ++ news).length := by rw [hrow6.1]; have := HLE.out; omega
        have t6 : W6.cell? ⟨w3.heap.size, k * 3 + 2, none⟩ = some ((xs ++ news)[k * 3 + 2]) := (hrow6.cellAt _ (by rw [hrow6.1] at hl6; exact hl6)).trans (by simp)
        have f6 : W6.frozen? ⟨w3.heap.size, k * 3 + 2, none⟩ = false := hrow6.frozenAt _
        have hst := hrow6.stored (k * 3 + 2) (.slice (some ⟨w3.heap.size, L.length * 3, none⟩) n n)
        have HST6 : Hid _ := hst
        have HG6 : Hid _ := hg6
        generalize (xs ++ news)[k * 3 + 2] = old6 at t6
        have hmn : L.length ≤ L.length + n := by omega
        clear hst hg6 hrow6 hl6 t2 tf
        go_wp2
        obtain ⟨hcp, hd2, hll⟩ := HF.out
        refine ⟨⟨k + 1, L ++ x.kids, (xs ++ news).set (k * 3 + 2) (.slice (some ⟨w3.heap.size, L.length * 3, none⟩) n n), by rw [hll], by go_num, ?_⟩, by have := HLE.out; have := HSUM.out; simp [intOf]; omega⟩
        refine ⟨by rw [hll]; have := HLE.out; omega, HSK.out, hd2, hcp, by rw [hll]; exact HST6.out.1, ?_⟩
        have h1 := HG6.out
        have h2 := HST6.out.2
        have h0 := HX.out.bel
        exact ⟨(h2.os.trans h1.os).trans h0.os, (h2.tape.trans h1.tape).trans h0.tape, (h2.output.trans h1.output).trans h0.output, Nat.le_trans h0.size (Nat.le_trans h1.size h2.size), fun b hb => ((h2.block b (Nat.lt_of_lt_of_le hb (Nat.le_trans h0.size h1.size)) (by simp; omega)).trans (h1.block b (Nat.lt_of_lt_of_le hb h0.size) (by simp; omega))).trans (h0.block b hb)⟩
    · obtain rfl : k = L.length := by omega
      have hL0 : 0 < L.length := (List.getElem?_eq_some_iff.1 hX.hd).1
      obtain ⟨s, es, hdn, _⟩ := hX.cl.c2 0 d hX.hd
      have hgw : w3.heap.size < wr.heap.size := by
        rcases hX.row.2 with ⟨e, _⟩ | ⟨g', cap', cur, e, hb, hg, _⟩
        · cases e
        · cases e
          exact (Array.getElem?_eq_some_iff.1 hg).1
      have hbw := (HK.out _ H3.out).2
      have h23 := H3.out.size
      have hs2 := HS2.out
      have hbwr : Below w.heap.size w wr := hbw.trans (hX.bel.mono hbw.size)
      obtain ⟨a, c, rfl, hac, htin⟩ := done_tix (W := wr) (U := fun b => w.heap.size ≤ b ∧ b < wr.heap.size ∧ b ≠ w.heap.size + 1) hX.cl (by omega) ⟨hbw.size, hgw, by omega⟩ (fun q => hX.fz q) (fun j hj => hX.cell j hj) f d s HDP.out (hdn hL0)
      have t0 : wr.cell? ⟨w3.heap.size, 0, none⟩ = some (.int .i64 d.rule) := (hX.cell 0 (by omega)).trans (hX.cl.c0 0 d hX.hd)
      have t1 : wr.cell? ⟨w3.heap.size, 1, none⟩ = some (.int .u8 (d.byte.toNat : Int)) := (hX.cell 1 (by omega)).trans (hX.cl.c1 0 d hX.hd)
      have t2 : wr.cell? ⟨w3.heap.size, 2, none⟩ = some (.slice a d.kids.length c) := (hX.cell 2 (by omega)).trans es
      have hLI : (0 : Int) < (L.length : Int) := by omega
      obtain ⟨⟨r0, r1, r2⟩, fr⟩ := HR.out wr (H3.out.trans (hX.bel.mono h23))
      have HT : Hid _ := And.intro htin (And.intro hbwr hac)
      clear htin hbwr hac hX hsum hle hcap hlt h23 hs2 hbw hgw hdn es
      go_wp2
      refine bodyPost_ret (v := .agg #[.int .i64 d.rule, .int .u8 (d.byte.toNat : Int), .slice a d.kids.length c]) (by simp [results, Tryd.results71, go_sem, r0, r1, r2]) rfl ?_
      obtain ⟨htin, hbwr, hac⟩ := HT.out
      have hsB : w.heap.size ≤ w.heap.size + 1 := by omega
      refine ⟨⟨a, c, rfl, hac, ?_⟩, ((hbwr.setCell hsB _).setCell hsB _).setCell hsB _⟩
      refine (htin.keep (fun b hb => ?_)).wide (fun b hb => ⟨hb.1, by simp [World.setCell]; exact hb.2.1⟩)
      have hne : w.heap.size + 1 ≠ b := fun e => hb.2.2 e.symm
      exact set3_block hne _ _ _ _ _ _
/-- What is told of a part that may be none. -/
def APost (w : World) : Option Tr → Ending → World → Prop
  | some x, e, w' => (∃ F va vc, e = .returned (.tuple #[.agg #[.int .i64 x.rule, .int .u8 (x.byte.toNat : Int), .slice va x.kids.length vc], .int .i64 0]) ∧ x.kids.length ≤ vc ∧ TIx w' (fun b => w.heap.size ≤ b ∧ b < w'.heap.size) F va x.kids) ∧ Below w.heap.size w w'
  | none, e, w' => e = .returned (.tuple #[.agg #[.int .i64 0, .int .u8 0, .slice none 0 0], .int .i64 4]) ∧ Below w.heap.size w w'
set_option maxRecDepth 100000 in
set_option maxHeartbeats 4000000 in
theorem kinAt_any (d : Tr) (sa : Option Addr) (sc f : Nat) (ps : List Int) (pa : Option Addr) (pc : Nat) (w : World) (hk : TAt w w.heap.size f sa d.kids) (hsc : d.kids.length ≤ sc) (hlen : sz d ≤ 1000000000000) (hp : IAt w w.heap.size pa ps) (hpl : ps.length ≤ 1000000000000) :
    Calls Tryd.prog 50 #[.agg #[.int .i64 d.rule, .int .u8 (d.byte.toNat : Int), .slice sa d.kids.length sc], .slice pa ps.length pc, .func (.func 45) #[] #[]] w fun e w' => APost w (atP d ps) e w' := by
  have hX0 := AI.start w d ps sa sc f hk hsc hlen
  have HP : Hid _ := hp
  obtain ⟨n, hn⟩ : ∃ n, ps.length = n := ⟨_, rfl⟩
  rw [hn] at hpl ⊢
  clear hk hsc hlen hp
  go_enter Tryd.func50, Tryd.ntmps50
  go_wp2
  go_loopw [14] (fun i W => ∃ (k : Nat) (x : Tr) (xa : Option Addr) (xc f : Nat), i = .int .i64 (k : Int) ∧ AI w d ps k x xa xc f W) (fun i _ => n - (intOf i).toNat)
  case atStart => exact ⟨0, d, sa, sc, f, rfl, hX0⟩
  case round =>
    clear hX0
    obtain ⟨k, x, xa, xc, f, rfl, hX⟩ := hrel
    have HX : Hid _ := hX
    have hle := hX.le
    have x0 := hX.x0
    have x1 := hX.x1
    have x2 := hX.x2
    have xf := hX.xf
    have r0 := hX.r0
    have r1 := hX.r1
    have r2 := hX.r2
    have rf := hX.rf
    have hlt2 := hX.lt
    by_cases hlt : k < n
    · obtain ⟨v, hv⟩ : ∃ v, ps[k]? = some v := ⟨ps[k], by simp⟩
      obtain ⟨b, o, rfl, hb, hc⟩ := HP.out k v hv
      have hc' := (hX.bel.cell (p := ⟨b, o + k, none⟩) hb).trans hc
      have hkI : (k : Int) < (n : Int) := by omega
      have hkb : (k : Int) ≤ 1000000000000 := by omega
      have HO : Hid _ := fun (_ : Unit) => ofTree_any w.heap.size 0 wr
      have HH : Hid _ := fun (_ : Unit) => has_any xa x.kids.length xc v wr
      have HV : Hid _ := hv
      by_cases hin : 0 ≤ v ∧ v < x.kids.length
      · obtain ⟨hv0, hv1⟩ := hin
        have hq : (decide (0 ≤ v) && decide (v < (x.kids.length : Int))) = true := by simp [hv0, hv1]
        rw [hq] at HH
        obtain ⟨y, hy⟩ : ∃ y, x.kids[v.toNat]? = some y := ⟨x.kids[v.toNat]'(by omega), by simp⟩
        have hky : kidAt x v = some y := by unfold kidAt; rw [if_pos hv0]; exact hy
        cases f with
        | zero => have h0 := (show x.kids = [] from hX.xk); rw [h0] at hy; cases hy
        | succ f =>
        obtain ⟨b2, o2, rfl, hb2, ya, yc, g0, g1, g2, hyc, hyk⟩ := hX.xk.2 _ y hy
        have hzz : sz y ≤ sz x := by rw [sz_eq x]; have := szL_mem hy; omega
        have hst := hX.step hv hky hyc hyk hzz
        have k2 : ∀ q, wr.cell? ⟨b2, q, none⟩ = w.cell? ⟨b2, q, none⟩ := fun q => hX.bel.cell (p := ⟨b2, q, none⟩) hb2
        obtain ⟨m, rfl⟩ : ∃ m : Nat, v = (m : Int) := ⟨v.toNat, by omega⟩
        simp only [Int.toNat_natCast] at g0 g1 g2
        have g0' := (k2 _).trans g0
        have g1' := (k2 _).trans g1
        have g2' := (k2 _).trans g2
        have HST : Hid _ := hst
        clear hX hv hc hq hst g0 g1 g2 k2 hyk hyc hzz hky hy hv0
        go_wp2_with (first
          | (go_at_call 45; refine (HO.out ()).mono ?_; rintro e w' ⟨rfl, rfl⟩)
          | (go_at_call 70; refine (HH.out ()).mono ?_; rintro e w' ⟨rfl, rfl⟩))
        exact ⟨⟨k + 1, y, ya, yc, f, by go_num, HST.out⟩, by simp [intOf]; omega⟩
      · have hq : (decide (0 ≤ v) && decide (v < (x.kids.length : Int))) = false := by simp; omega
        rw [hq] at HH
        have HN : Hid (atP d ps = none) := by
          show _ = _
          rw [← hX.goes, atP_drop hv]
          have : kidAt x v = none := by
            unfold kidAt
            split
            · exact List.getElem?_eq_none (by omega)
            · rfl
          rw [this]; rfl
        clear hX hv hc hq hin
        go_wp2_with (first
          | (go_at_call 45; refine (HO.out ()).mono ?_; rintro e w' ⟨rfl, rfl⟩)
          | (go_at_call 70; refine (HH.out ()).mono ?_; rintro e w' ⟨rfl, rfl⟩))
        refine bodyPost_ret (v := .tuple #[.agg #[.int .i64 0, .int .u8 0, .slice none 0 0], .int .i64 4]) (by simp [results, Tryd.results50, go_sem, r0, r1, r2, hlt2]) rfl ?_
        rw [HN.out]
        have hsB : w.heap.size ≤ w.heap.size + 1 := by omega
        exact ⟨rfl, (((HX.out.bel.setCell hsB _).setCell hsB _).setCell hsB _).alloc (by simp [World.setCell]; omega) _⟩
    · obtain rfl : k = n := by omega
      have HG : Hid (atP d ps = some x) := by show _ = _; rw [← hX.goes, List.drop_of_length_le (by omega)]; rfl
      have HC : Hid _ := fun (_ : Unit) => clone_any x xa xc f wr ((hX.xk.keep hX.bel).mono hX.bel.size) hX.xc hX.sz
      clear hX
      go_wp2_with (go_at_call 71; refine (HC.out ()).mono ?_; rintro e w7 ⟨⟨va, vc, rfl, hvc, htin⟩, hb7⟩; have k7 : ∀ q, w7.cell? ⟨w.heap.size + 1, q, none⟩ = wr.cell? ⟨w.heap.size + 1, q, none⟩ := fun q => hb7.cell (p := ⟨w.heap.size + 1, q, none⟩) hlt2; have f7 : ∀ q, w7.frozen? ⟨w.heap.size + 1, q, none⟩ = false := fun q => (hb7.frozen (p := ⟨w.heap.size + 1, q, none⟩) hlt2).trans (rf q); have r0' := (k7 0).trans r0; have r1' := (k7 1).trans r1; have r2' := (k7 2).trans r2; have HT7 : Hid _ := And.intro htin hb7; clear htin hb7 k7)
      refine bodyPost_ret (v := .tuple #[.agg #[.int .i64 x.rule, .int .u8 (x.byte.toNat : Int), .slice va x.kids.length vc], .int .i64 0]) (by simp [results, Tryd.results50, go_sem, r0', r1', r2']) rfl ?_
      rw [HG.out]
      have hsB : w.heap.size ≤ w.heap.size + 1 := by omega
      obtain ⟨htin, hb7⟩ := HT7.out
      have hbb : Below w.heap.size w w7 := HX.out.bel.trans (hb7.mono HX.out.bel.size)
      refine ⟨⟨f, va, vc, rfl, hvc, ?_⟩, ((hbb.setCell hsB _).setCell hsB _).setCell hsB _⟩
      refine (htin.keep (fun b hb => ?_)).wide (fun b hb => ⟨Nat.le_trans HX.out.bel.size hb.1, by simp [World.setCell]; exact hb.2⟩)
      have hne : w.heap.size + 1 ≠ b := by have := HX.out.lt; omega
      exact set3_block hne _ _ _ _ _ _
set_option maxRecDepth 100000 in
set_option maxHeartbeats 4000000 in
theorem at_any (d : Tr) (sa : Option Addr) (sc f : Nat) (ps : List Int) (pa : Option Addr) (pc : Nat) (w : World) (hk : TAt w w.heap.size f sa d.kids) (hsc : d.kids.length ≤ sc) (hlen : sz d ≤ 1000000000000) (hp : IAt w w.heap.size pa ps) (hpl : ps.length ≤ 1000000000000) :
    Calls Tryd.prog 28 #[.agg #[.int .i64 d.rule, .int .u8 (d.byte.toNat : Int), .slice sa d.kids.length sc], .slice pa ps.length pc] w fun e w' => APost w (atP d ps) e w' := by
  have hX0 := AI.start w d [] sa sc f hk hsc hlen
  obtain ⟨w2, hw2⟩ : ∃ w2, (w.alloc (.cells #[.int .i64 d.rule, .int .u8 (d.byte.toNat : Int), .slice sa d.kids.length sc] 27)).alloc (.cells #[.int .i64 0, .int .u8 0, .slice none 0 0] 27) = w2 := ⟨_, rfl⟩
  rw [hw2] at hX0
  have hB := hX0.bel
  have HC : Hid _ := fun (_ : Unit) => kinAt_any d sa sc f ps pa pc w2 ((hk.keep hB).mono hB.size) hsc hlen ((hp.keep hB).mono hB.size) hpl
  have x0 := hX0.x0
  have x1 := hX0.x1
  have x2 := hX0.x2
  have r0 := hX0.r0
  have r1 := hX0.r1
  have r2 := hX0.r2
  have rf := hX0.rf
  have hlt2 := hX0.lt
  have HB : Hid _ := hB
  have hsB : w.heap.size ≤ w.heap.size + 1 := by omega
  generalize ps.length = n at *
  clear hX0 hk hp hB
  subst hw2
  have K : ∀ e w7, APost ((w.alloc (.cells #[.int .i64 d.rule, .int .u8 (d.byte.toNat : Int), .slice sa d.kids.length sc] 27)).alloc (.cells #[.int .i64 0, .int .u8 0, .slice none 0 0] 27)) (atP d ps) e w7 → ∃ r u va vn vc er, e = .returned (.tuple #[.agg #[.int .i64 r, .int .u8 u, .slice va vn vc], .int .i64 er]) ∧ (w7.cell? ⟨w.heap.size + 1, 0, none⟩ = some (.int .i64 0) ∧ w7.cell? ⟨w.heap.size + 1, 1, none⟩ = some (.int .u8 0) ∧ w7.cell? ⟨w.heap.size + 1, 2, none⟩ = some (.slice none 0 0) ∧ ∀ q, w7.frozen? ⟨w.heap.size + 1, q, none⟩ = false) ∧ APost w (atP d ps) (.returned (.tuple #[.agg #[.int .i64 r, .int .u8 u, .slice va vn vc], .int .i64 er])) (((w7.setCell ⟨w.heap.size + 1, 0, none⟩ (.int .i64 r)).setCell ⟨w.heap.size + 1, 1, none⟩ (.int .u8 u)).setCell ⟨w.heap.size + 1, 2, none⟩ (.slice va vn vc)) := fun e w7 h => by
    cases hq : atP d ps with
    | none =>
      rw [hq] at h
      obtain ⟨rfl, hb7⟩ := h
      have k7 : ∀ q, w7.cell? ⟨w.heap.size + 1, q, none⟩ = _ := fun q => hb7.cell (p := ⟨w.heap.size + 1, q, none⟩) hlt2
      have hbb : Below w.heap.size w w7 := HB.out.trans (hb7.mono HB.out.size)
      exact ⟨_, _, _, _, _, _, rfl, ⟨(k7 0).trans r0, (k7 1).trans r1, (k7 2).trans r2, fun q => (hb7.frozen (p := ⟨w.heap.size + 1, q, none⟩) hlt2).trans (rf q)⟩, rfl, ((hbb.setCell hsB _).setCell hsB _).setCell hsB _⟩
    | some x =>
      rw [hq] at h
      obtain ⟨⟨F, va, vc, rfl, hvc, htin⟩, hb7⟩ := h
      have k7 : ∀ q, w7.cell? ⟨w.heap.size + 1, q, none⟩ = _ := fun q => hb7.cell (p := ⟨w.heap.size + 1, q, none⟩) hlt2
      have hbb : Below w.heap.size w w7 := HB.out.trans (hb7.mono HB.out.size)
      refine ⟨_, _, _, _, _, _, rfl, ⟨(k7 0).trans r0, (k7 1).trans r1, (k7 2).trans r2, fun q => (hb7.frozen (p := ⟨w.heap.size + 1, q, none⟩) hlt2).trans (rf q)⟩, ⟨F, va, vc, rfl, hvc, ?_⟩, ((hbb.setCell hsB _).setCell hsB _).setCell hsB _⟩
      refine (htin.keep (fun b hb => ?_)).wide (fun b hb => ⟨Nat.le_trans HB.out.size hb.1, by simp [World.setCell]; exact hb.2⟩)
      have hne : w.heap.size + 1 ≠ b := by omega
      exact set3_block hne _ _ _ _ _ _
  have HK : Hid _ := K
  clear K r0 r1 r2 rf hlt2
  go_enter Tryd.func28, Tryd.ntmps28
  go_wp2_with (go_at_call 50; refine (HC.out ()).mono ?_; intro e w7 h7; obtain ⟨r, u, va, vn, vc, er, rfl, ⟨r0, r1, r2, rf⟩, hp7⟩ := HK.out e w7 h7)
  refine bodyPost_ret (v := .tuple #[.agg #[.int .i64 r, .int .u8 u, .slice va vn vc], .int .i64 er]) (by simp [results, Tryd.results28, go_sem, r0, r1, r2]) rfl ?_
  exact hp7
end X
end Go.Proofs.YtlnlkbkmnkjbhaaDoor
