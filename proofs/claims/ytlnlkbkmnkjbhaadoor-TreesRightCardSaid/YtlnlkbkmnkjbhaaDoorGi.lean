/- Which trees are of a symbol: plain; a leaf's byte, a node's rule; claims that wait. -/
import Derived.Test.YtlnlkbkmnkjbhaaDoorGb
import Derived.Test.YtlnlkbkmnkjbhaaDoorEe
namespace Go.Proofs.YtlnlkbkmnkjbhaaDoor
open Go.RowKit

def ruleOf (G : Gm) (r : Int) : Rl := G.rules.getD r.toNat ⟨0, []⟩
/-- A node of one of a nonterminal's rules, with as many kids as that has symbols. -/
def isNd (G : Gm) (nt r : Int) (b : UInt8) (n : Nat) : Bool := decide (0 ≤ r) && decide (r < (G.rules.length : Int)) && b == 0 && (ruleOf G r).lhs == nt && (ruleOf G r).rhs.length == n
def isBy (s : St) (d : Tr) : Bool := d.rule == -1 && d.kids.isEmpty && s.has d.byte.toNat
mutual
/-- A tree is one of a symbol. -/
def isS (G : Gm) : Ks → Tr → Bool
  | s, .mk r b l => if s.nt < 0 then isBy s.set (.mk r b l) else isNd G s.nt r b l.length && allS G (ruleOf G r).rhs l
def allS (G : Gm) : List Ks → List Tr → Bool
  | _, [] => true
  | ss, d :: l => (match ss with | [] => true | s :: _ => isS G s d) && allS G ss.tail l
end
theorem isS_eq (G : Gm) (s : Ks) (d : Tr) : isS G s d = if s.nt < 0 then isBy s.set d else isNd G s.nt d.rule d.byte d.kids.length && allS G (ruleOf G d.rule).rhs d.kids := by cases d; rw [isS]; rfl
theorem allS_zip (G : Gm) : ∀ (l : List Tr) (ss : List Ks), allS G ss l = (ss.zip l).all (fun c => isS G c.1 c.2)
  | [], ss => by rw [allS]; simp
  | d :: l, [] => by rw [allS]; simp [allS_zip G l []]
  | d :: l, s :: ss => by rw [allS]; simp [allS_zip G l ss]
set_option maxRecDepth 100000 in
set_option maxHeartbeats 4000000 in
theorem isBy_any (s : St) (d : Tr) (sa : Option Addr) (sc : Nat) (w : World) (hs : s.ok) :
    Calls Tryd.prog 64 #[.agg #[.int .u64 s.a, .int .u64 s.b, .int .u64 s.c, .int .u64 s.d], .agg #[.int .i64 d.rule, .int .u8 (d.byte.toNat : Int), .slice sa d.kids.length sc]] w fun e w' => e = .returned (.bool (isBy s d)) ∧ Below w.heap.size w w' := by
  have HC : Hid (∀ W, Calls Tryd.prog 83 #[.agg #[.int .u64 s.a, .int .u64 s.b, .int .u64 s.c, .int .u64 s.d], .int .u8 (d.byte.toNat : Int)] W fun e w' => e = .returned (.bool (s.has d.byte.toNat)) ∧ Below W.heap.size W w') := fun W => shas_any s d.byte.toNat W hs (UInt8.toNat_lt _)
  have HE : Hid (isBy s d = ((d.rule == -1) && (d.kids.length == 0) && s.has d.byte.toNat)) := by
    show _ = _
    unfold isBy
    congr 2
    cases d.kids <;> rfl
  have HB : Hid (∀ W, Below ((((w.alloc (.cells #[.int .u64 s.a, .int .u64 s.b, .int .u64 s.c, .int .u64 s.d] 69)).alloc (.cells #[.int .i64 d.rule, .int .u8 (d.byte.toNat : Int), .slice sa d.kids.length sc] 27)).alloc (.cells #[.int .i64 d.rule, .int .u8 (d.byte.toNat : Int), .slice sa d.kids.length sc] 27)).heap.size) (((w.alloc (.cells #[.int .u64 s.a, .int .u64 s.b, .int .u64 s.c, .int .u64 s.d] 69)).alloc (.cells #[.int .i64 d.rule, .int .u8 (d.byte.toNat : Int), .slice sa d.kids.length sc] 27)).alloc (.cells #[.int .i64 d.rule, .int .u8 (d.byte.toNat : Int), .slice sa d.kids.length sc] 27)) W → Below w.heap.size w W) := fun W h => ((((Below.refl _ w).alloc (Nat.le_refl _) _).alloc (by simp) _).alloc (by simp; omega) _).trans (h.mono (by simp; omega))
  have HLF : Hid (∀ W, Calls Tryd.prog 69 #[.agg #[.int .i64 d.rule, .int .u8 (d.byte.toNat : Int), .slice sa d.kids.length sc]] W fun e w' => e = .returned (.bool (d.rule == -1)) ∧ w' = W.alloc (.cells #[.int .i64 d.rule, .int .u8 (d.byte.toNat : Int), .slice sa d.kids.length sc] 27)) := fun W => by
    go_enter Tryd.func69, Tryd.ntmps69
    go_wp2
    go_ret
    exact ⟨rfl, rfl⟩
  generalize s.has d.byte.toNat = hh at *
  generalize d.kids.length = n at *
  by_cases h1 : d.rule = -1
  · have e1 : (d.rule == -1) = true := by simp [h1]
    by_cases h2 : n = 0
    · have e2 : ((n : Int) == 0) = true := by simp [h2]
      have e2' : (n == 0) = true := by simp [h2]
      rw [e1, e2'] at HE
      rw [e1] at HLF
      clear h1 h2
      go_enter Tryd.func64, Tryd.ntmps64
      go_wp2_with (first | (go_at_call 69; refine (HLF.out _).mono ?_; rintro e w4 ⟨rfl, rfl⟩) | (go_at_call 83; refine (HC.out _).mono ?_; rintro e w5 ⟨rfl, hb5⟩))
      go_ret
      exact ⟨by rw [HE.out]; rfl, HB.out _ hb5⟩
    · have e2 : ((n : Int) == 0) = false := by simp; omega
      have e2' : (n == 0) = false := by simp [h2]
      rw [e1, e2'] at HE
      clear h1 h2
      go_enter Tryd.func64, Tryd.ntmps64
      go_wp2
      go_ret
      exact ⟨by rw [HE.out]; rfl, HB.out _ (Below.refl _ _)⟩
  · have e1 : (d.rule == -1) = false := by simp [h1]
    rw [e1] at HE
    clear h1
    go_enter Tryd.func64, Tryd.ntmps64
    go_wp2
    go_ret
    exact ⟨by rw [HE.out]; rfl, HB.out _ (Below.refl _ _)⟩
set_option maxRecDepth 100000 in
set_option maxHeartbeats 4000000 in
theorem isNd_any (G : Gm) (ga : Option Addr) (gc : Nat) (nt : Int) (d : Tr) (sa : Option Addr) (sc : Nat) (w : World) (hR : RAt w w.heap.size ga G.rules) :
    Calls Tryd.prog 65 #[.agg #[.int .i64 G.nts, .int .i64 G.start, .slice ga G.rules.length gc], .int .i64 nt, .agg #[.int .i64 d.rule, .int .u8 (d.byte.toNat : Int), .slice sa d.kids.length sc]] w fun e w' => e = .returned (.bool (isNd G nt d.rule d.byte d.kids.length)) ∧ Below w.heap.size w w' := by
  have HB : Hid (Below w.heap.size w ((w.alloc (.cells #[.int .i64 G.nts, .int .i64 G.start, .slice ga G.rules.length gc] 24)).alloc (.cells #[.int .i64 d.rule, .int .u8 (d.byte.toNat : Int), .slice sa d.kids.length sc] 27))) := ((Below.refl _ w).alloc (Nat.le_refl _) _).alloc (by simp) _
  have hb0 : (d.byte == 0) = ((d.byte.toNat : Int) == 0) := by
    rw [Bool.eq_iff_iff]; simp [← UInt8.toNat_inj]
  have HN : Hid (isNd G nt d.rule d.byte d.kids.length = (decide (0 ≤ d.rule) && decide (d.rule < (G.rules.length : Int)) && ((d.byte.toNat : Int) == 0) && (ruleOf G d.rule).lhs == nt && (ruleOf G d.rule).rhs.length == d.kids.length)) := by show _ = _; unfold isNd; rw [hb0]
  clear hb0
  generalize (d.byte.toNat : Int) = u at *
  by_cases h1 : d.rule < 0
  · have e1 : decide (0 ≤ d.rule) = false := by simp; omega
    rw [e1] at HN
    clear e1
    go_enter Tryd.func65, Tryd.ntmps65
    go_wp2
    go_ret
    exact ⟨by rw [HN.out]; rfl, HB.out⟩
  · have e1 : decide (0 ≤ d.rule) = true := by simp; omega
    have e1' : decide (d.rule < 0) = false := by simp; omega
    by_cases h2 : (G.rules.length : Int) ≤ d.rule
    · have e2 : decide (d.rule < (G.rules.length : Int)) = false := by simp; omega
      rw [e1, e2] at HN
      clear e1 e2
      go_enter Tryd.func65, Tryd.ntmps65
      go_wp2
      go_ret
      exact ⟨by rw [HN.out]; rfl, HB.out⟩
    · have e2 : decide (d.rule < (G.rules.length : Int)) = true := by simp; omega
      by_cases h3 : u = 0
      · have e3 : (u == 0) = true := by simp [h3]
        have e3' : (u != 0) = false := by simp [h3]
        obtain ⟨r, hr⟩ : ∃ r, G.rules[d.rule.toNat]? = some r := ⟨G.rules[d.rule.toNat]'(by omega), by simp⟩
        have hro : ruleOf G d.rule = r := by unfold ruleOf; rw [List.getD_eq_getElem?_getD, hr]; rfl
        obtain ⟨b, o, ka, kc, rfl, hb, hK, c0, c1⟩ := hR.cells _ r hr
        obtain ⟨m, hm⟩ : ∃ m : Nat, d.rule = (m : Int) := ⟨d.rule.toNat, by omega⟩
        rw [e1, e2, e3, hro] at HN
        have hmm : d.rule.toNat = m := by omega
        rw [hmm] at c0 c1
        have c0' := (HB.out.cell (p := ⟨b, o + m * 2, none⟩) hb).trans c0
        have c1' := (HB.out.cell (p := ⟨b, o + m * 2 + 1, none⟩) hb).trans c1
        have hml : (m : Int) < (G.rules.length : Int) := by omega
        have hbw : b < w.heap.size := hb
        have hbw1 : b < w.heap.size + 1 := by omega
        have HBB : Hid _ := HB.out.alloc (by simp; omega) (.cells #[.int .i64 r.lhs, .slice ka r.rhs.length kc] 61)
        generalize d.kids.length = n at *
        generalize d.rule = dr at *
        subst hm
        clear e1 e2 e3 hro hr hK hR c0 c1 hmm h2 h1 e1' h3
        by_cases h4 : r.lhs = nt
        · have e4 : (r.lhs == nt) = true := by simp [h4]
          rw [e4] at HN
          have HQ : Hid ((r.rhs.length == n) = ((r.rhs.length : Int) == (n : Int))) := by show _ = _; rw [Bool.eq_iff_iff]; simp only [beq_iff_eq]; omega
          rw [HQ.out] at HN
          clear h4
          go_enter Tryd.func65, Tryd.ntmps65
          go_wp2
          go_ret
          exact ⟨by rw [HN.out]; simp, HBB.out⟩
        · have e4 : (r.lhs == nt) = false := by simp [h4]
          rw [e4] at HN
          clear h4
          go_enter Tryd.func65, Tryd.ntmps65
          go_wp2
          go_ret
          exact ⟨by rw [HN.out]; simp, HBB.out⟩
      · have e3 : (u == 0) = false := by simp [h3]
        have e3' : (u != 0) = true := by simp [h3]
        rw [e1, e2, e3] at HN
        clear e1 e2 e3 h3
        go_enter Tryd.func65, Tryd.ntmps65
        go_wp2
        go_ret
        exact ⟨by rw [HN.out]; rfl, HB.out⟩
/-- A claim: a symbol's five cells, a tree's three. -/
def clm (s : Ks) (d : Tr) (sa : Option Addr) (sc : Nat) : List Value := [.int .i64 s.nt, .int .u64 s.set.a, .int .u64 s.set.b, .int .u64 s.set.c, .int .u64 s.set.d, .int .i64 d.rule, .int .u8 (d.byte.toNat : Int), .slice sa d.kids.length sc]
structure Cwt (W0 W : World) (hi n₀ f : Nat) (wv : Value) (ps : List (Ks × Tr)) (cs : List Value) : Prop where
  row : W.ownsRow hi 100 8 wv ps.length cs
  at' : ∀ j p, ps[j]? = some p → p.1.set.ok ∧ ∃ sa sc, TAt W0 n₀ f sa p.2.kids ∧ ∀ r u, (clm p.1 p.2 sa sc)[r]? = some u → cs[j * 8 + r]? = some u
section
variable {W0 W W' : World} {hi n₀ f : Nat} {wv : Value} {ps : List (Ks × Tr)} {cs : List Value}
theorem Cwt.move (h : Cwt W0 W hi n₀ f wv ps cs) (hk : ∀ g, wv.ownBlock = some g → W'.heap[g]? = W.heap[g]?) : Cwt W0 W' hi n₀ f wv ps cs := by
  refine ⟨⟨h.row.1, ?_⟩, h.at'⟩
  rcases h.row.2 with h0 | ⟨g, cap, cur, rfl, hbg, hg, rest⟩
  · exact .inl h0
  · exact .inr ⟨g, cap, cur, rfl, hbg, (hk g rfl).trans hg, rest⟩
theorem Cwt.push (h : Cwt W0 W hi n₀ f wv ps cs) {v' : Value} {s : Ks} {d : Tr} {sa : Option Addr} {sc : Nat} (hs : s.set.ok) (hk : TAt W0 n₀ f sa d.kids) (hr : W'.ownsRow hi 100 8 v' (ps.length + 1) (cs ++ clm s d sa sc)) : Cwt W0 W' hi n₀ f v' (ps ++ [(s, d)]) (cs ++ clm s d sa sc) := by
  have hcl := h.row.1
  refine ⟨by rw [List.length_append]; exact hr, fun j q hj => ?_⟩
  by_cases hlt : j < ps.length
  · rw [List.getElem?_append_left hlt] at hj
    obtain ⟨t1, ta, tc, t2, t3⟩ := h.at' j q hj
    exact ⟨t1, ta, tc, t2, fun r u hu => by
      have h3 := t3 r u hu
      rw [List.getElem?_append_left (List.getElem?_eq_some_iff.1 h3).1]; exact h3⟩
  · have := (List.getElem?_eq_some_iff.1 hj).1
    simp at this
    obtain rfl : j = ps.length := by omega
    simp at hj
    subst hj
    exact ⟨hs, sa, sc, hk, fun r u hu => by rw [List.getElem?_append_right (by omega), hcl, show ps.length * 8 + r - ps.length * 8 = r by omega]; exact hu⟩
/-- The last claim, and the row without it. -/
theorem Cwt.top {p : Ks × Tr} (h : Cwt W0 W hi n₀ f wv (ps ++ [p]) cs) : ∃ g cap sa sc, wv = .slice (some ⟨g, 0, none⟩) (ps.length + 1) cap ∧ hi ≤ g ∧ g < W.heap.size ∧ ps.length + 1 ≤ cap ∧ (∀ r u, (clm p.1 p.2 sa sc)[r]? = some u → W.cell? ⟨g, ps.length * 8 + r, none⟩ = some u) ∧ p.1.set.ok ∧ TAt W0 n₀ f sa p.2.kids ∧ Cwt W0 W hi n₀ f (.slice (some ⟨g, 0, none⟩) ps.length cap) ps (cs.take (ps.length * 8)) := by
  have hr := h.row
  rw [List.length_append] at hr
  have hr' : W.ownsRow hi 100 8 wv (ps.length + 1) cs := hr
  obtain ⟨g, cap, rfl, hbg, hg, hcap⟩ := row_at hr' (by omega)
  have hcl : cs.length = (ps.length + 1) * 8 := hr'.1
  obtain ⟨t1, sa, sc, t2, t3⟩ := h.at' ps.length p (by simp)
  refine ⟨g, cap, sa, sc, rfl, hbg, hg, hcap, fun r u hu => (hr'.cellAt (ps.length * 8 + r) (by have := (List.getElem?_eq_some_iff.1 hu).1; simp [clm] at this; omega)).trans (t3 r u hu), t1, t2, row_init hr', fun j q hj => ?_⟩
  have hlt := (List.getElem?_eq_some_iff.1 hj).1
  obtain ⟨u1, ua, uc, u2, u3⟩ := h.at' j q (by rw [List.getElem?_append_left hlt]; exact hj)
  exact ⟨u1, ua, uc, u2, fun r u hu => by
    have hr8 := (List.getElem?_eq_some_iff.1 hu).1
    simp [clm] at hr8
    rw [List.getElem?_take_of_lt (by omega)]; exact u3 r u hu⟩
end
def ctot (ps : List (Ks × Tr)) : Nat := szL (ps.map Prod.snd)
theorem ctot_app (ps qs : List (Ks × Tr)) : ctot (ps ++ qs) = ctot ps + ctot qs := by unfold ctot; rw [List.map_append, szL_app]
theorem len_ctot (ps : List (Ks × Tr)) : ps.length ≤ ctot ps := by have := len_szL (ps.map Prod.snd); simpa [ctot] using this
/-- What is so when the next claim is looked at. -/
structure OI (W0 : World) (n₀ f : Nat) (G : Gm) (s : Ks) (d : Tr) (wv : Value) (wr : World) (ps : List (Ks × Tr)) (cs : List Value) (k : Nat) : Prop where
  ws : Cwt W0 wr n₀ n₀ f wv ps cs
  bel : Below n₀ W0 wr
  eq : isS G s d = ps.all (fun c => isS G c.1 c.2)
  le : ctot ps ≤ sz d
  num : ctot ps = k
def OE (W0 : World) (n₀ f : Nat) (G : Gm) (s : Ks) (d : Tr) (wv : Value) (wr : World) (k : Nat) : Prop := ∃ ps cs, OI W0 n₀ f G s d wv wr ps cs k
theorem OI.bad {W0 wr : World} {n₀ f : Nat} {G : Gm} {s : Ks} {d : Tr} {wv : Value} {P : List (Ks × Tr)} {p : Ks × Tr} {cs : List Value} {k : Nat} (h : OI W0 n₀ f G s d wv wr (P ++ [p]) cs k) (hp : isS G p.1 p.2 = false) : isS G s d = false := by
  rw [h.eq, List.all_append]; simp [hp]
theorem OI.step {W0 W wr0 : World} {n₀ f : Nat} {G : Gm} {s : Ks} {d : Tr} {wv0 wv : Value} {P qs : List (Ks × Tr)} {p : Ks × Tr} {cs0 cs' : List Value} {k : Nat} (h : OI W0 n₀ f G s d wv0 wr0 (P ++ [p]) cs0 k) (hws : Cwt W0 W n₀ n₀ f wv (P ++ qs) cs') (hq : isS G p.1 p.2 = qs.all (fun c => isS G c.1 c.2)) (hql : ctot qs < sz p.2) (hB : Below n₀ W0 W) : ∃ k', k' < k ∧ OE W0 n₀ f G s d wv W k' := by
  have h1 : ctot (P ++ [p]) = ctot P + sz p.2 := by rw [ctot_app]; simp [ctot, szL]
  have h2 := ctot_app P qs
  have h3 := h.num
  have h4 := h.le
  refine ⟨ctot (P ++ qs), by omega, P ++ qs, cs', hws, hB, ?_, by omega, rfl⟩
  rw [h.eq, List.all_append, List.all_append]
  simp [hq]
end Go.Proofs.YtlnlkbkmnkjbhaaDoor
