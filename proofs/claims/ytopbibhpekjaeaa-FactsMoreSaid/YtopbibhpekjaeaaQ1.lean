/- A rule is looked at: its nonterminal is noted with its length, if nothing of it is missing. -/
import Derived.Test.YtopbibhpekjaeaaQ0
namespace Go.Proofs.Ytopbibhpekjaeaa
open Go.RowKit

theorem LB.kcell {W : World} {base L i n k x : Nat} {hd vs : List Value} {f : Nat → List Nat} (h : LB W base L hd vs f) (hi : i < 515) (hn : (f i).length = n) (hk : k < n) (hx : (f i).getD k 0 = x) : ∃ g c, vs[i]? = some (.slice (some ⟨g, 0, none⟩) n c) ∧ W.cell? ⟨L, 3 + i, none⟩ = some (.slice (some ⟨g, 0, none⟩) n c) ∧ W.cell? ⟨g, k, none⟩ = some (.int .i64 (x : Int)) ∧ W.frozen? ⟨g, k, none⟩ = false ∧ g < W.heap.size ∧ base ≤ g := by
  obtain ⟨v, hv⟩ := h.get hi
  have hr := h.rows.inner i v hv
  obtain ⟨g, c, rfl, h1, h2⟩ := row_at hr (by omega)
  have hc := h.cell hv
  subst hn
  refine ⟨g, c, hv, hc, ?_, hr.frozenAt k, h2, h1⟩
  rw [hr.cellAt k (by omega)]
  rw [← hx, List.getD_eq_getElem?_getD]
  simp [intsV, hk]
set_option maxRecDepth 100000 in
set_option maxHeartbeats 16000000 in
theorem look_any (N : Nat) (S : Int) (rs : List Rl) (a : Option Addr) (c : Nat) (base L k : Nat) (vs : List Value) (f : Nat → List Nat) (r : Rl) (w : World) (hok : Ok N rs) (hR : RAt w base a rs) (hbL : base ≤ L) (hb0 : base ≤ w.heap.size) (hr : rs[k]? = some r)
    (hB : LB w base L [.int .i64 (N : Int), .int .i64 S, .slice a rs.length c] vs f) (h0 : (f 0).length = rs.length) (h1 : (f 1).length = rs.length) (hlen : ∀ i, (f i).length ≤ 1000000000000) (hk0 : (f 0).getD k 0 ≤ 1000000000000) :
    Calls Try.prog 72 #[.pointer (some ⟨L, 0, none⟩), .int .i64 (k : Int)] w fun e w' => e = .returned (.tuple #[]) ∧ (∃ vs', LB w' base L [.int .i64 (N : Int), .int .i64 S, .slice a rs.length c] vs' (if (f 1).getD k 0 = 0 ∧ (f 0).getD k 0 ≤ 512 then (fun i => if i = 2 + (f 0).getD k 0 then f i ++ [r.lhs.toNat] else f i) else f)) ∧ Below base w w' := by
  obtain ⟨i0, hinf, hz0, hz1, hz2⟩ := info_parts info3
  have hkl := (List.getElem?_eq_some_iff.1 hr).1
  have hRl := hok.len
  obtain ⟨n, hn⟩ : ∃ n, (f 0).getD k 0 = n := ⟨_, rfl⟩
  obtain ⟨q, hq⟩ : ∃ q, (f 1).getD k 0 = q := ⟨_, rfl⟩
  rw [hn, hq]
  rw [hn] at hk0
  obtain ⟨kb, kc, kv1, kv2, kv3, _, kv5, kv6⟩ := hB.kcell (i := 0) (by omega) h0 hkl hn
  obtain ⟨mb, mc, mv1, mv2, mv3, _, mv5, mv6⟩ := hB.kcell (i := 1) (by omega) h1 hkl hq
  obtain ⟨b, o, sa, sc, rfl, hb, hK, e0, e1⟩ := hR.cells k r hr
  have hlh := hok.lhs r (List.mem_of_getElem? hr)
  obtain ⟨m, hm⟩ : ∃ m : Nat, r.lhs = m := ⟨r.lhs.toNat, by omega⟩
  rw [hm] at e0
  have hmt : r.lhs.toNat = m := by omega
  rw [hmt]
  have hkI : (k : Int) < rs.length := by omega
  have g2 := hB.head (i := 2) rfl
  by_cases hc : q = 0 ∧ n ≤ 512
  · rw [if_pos hc]
    obtain ⟨rfl, hn5⟩ := hc
    obtain ⟨v, hv⟩ := hB.get (i := 2 + n) (by omega)
    have hcv := hB.cell hv
    rw [show 3 + (2 + n) = 5 + n by omega] at hcv
    have hrow := hB.rows.inner (2 + n) v hv
    have hlv := hlen (2 + n)
    have hLl := hB.lt
    have hne2 := hB.ne hv
    have hneb : v.ownBlock ≠ some b := fun e => by have := (hrow.lt b e).1; omega
    have hfz : w.frozen? ⟨L, 5 + n, none⟩ = false := by simp [World.frozen?, hB.blk]
    have hnI : (n : Int) < 513 := by omega
    have hn512 : (n : Int) ≤ 512 := by omega
    obtain ⟨xs, HX⟩ : ∃ xs, Hid (f (2 + n) = xs) := ⟨_, rfl⟩
    rw [HX.out] at hrow hlv
    have mv3' : w.cell? ⟨mb, k, none⟩ = some (.int .i64 0) := mv3
    clear mv3
    have HB : Hid _ := hB
    have hwl : b < w.heap.size := by omega
    have HN : Hid (∀ j u, [Value.int .i64 ((m : Nat) : Int)][j]? = some u → (w.alloc (.cells #[.int .i64 ((m : Nat) : Int)] 3)).drew.cell? ((⟨w.heap.size, 0, none⟩ : Addr).add j) = some u) := cell_one_new w (.int .i64 ((m : Nat) : Int)) 3
    clear hB hlen hR hK kv1 mv1 hq hn h0 h1 hr
    go_enter Try.func72, Try.ntmps72
    go_wp2
    go_region_law (refine step_append_lies _ (by rfl) _ _ _ (by rfl) base 3 i0 _ 1 8 Try.underlying41 hinf hz0 hz1 hz2 rfl (by omega) v xs.length (intsV xs) (by rfl) (by first | exact (hrow.alloc _).drew | exact (hrow.drew.alloc _)) ⟨w.heap.size, 0, none⟩ 1 1 [.int .i64 ((m : Nat) : Int)] (by rfl) (by rfl) HN.out (by simp [Value.oneCell']) (by omega) (by unfold maxLen; omega) (by omega) (by simp; omega) (w.heap.size + 1) (by simp) ?_; intro g1 cap1 w1 hown1 hgrow hat hlt1; have x1 : w1.cell? ⟨L, 5 + n, none⟩ = some v := hgrow.cell (by show (w.alloc _).cell? _ = _; rw [World.cell?_alloc_past _ _ _ hLl]; exact hcv) (fun e => hne2 e.symm); have x2 : w1.frozen? ⟨L, 5 + n, none⟩ = false := (World.frozen?_of_block (hgrow.block L (by simp; omega) (fun e => hne2 e.symm))).trans (by show (w.alloc _).frozen? _ = _; rw [World.frozen?_alloc_past _ _ _ hLl]; exact hfz))
    all_goals try go_wp2
    all_goals go_end0
    all_goals refine ⟨rfl, ⟨vs.set (2 + n) (.slice (some ⟨g1, 0, none⟩) (xs.length + 1) cap1), ?_⟩, ?_⟩
    any_goals (with_reducible refine Below.setCell (p := ⟨L, 5 + n, none⟩) ?_ hbL _)
    any_goals (with_reducible exact ((((Below.refl base w).alloc hb0 (.cells #[.int .i64 ((m : Nat) : Int)] 3)).drew).grown hgrow (by simp; omega) (fun q hq => (hrow.lt q hq).1)))
    all_goals (have := HB.out.push hv HX (Below.refl _ _) rfl hown1 hgrow hat; rw [show 3 + (2 + n) = 5 + n by omega] at this; exact this)
  · rw [if_neg hc]
    by_cases hq0 : q = 0
    · have hn5 : 512 < n := by
        rcases Nat.lt_or_ge 512 n with h | h
        · exact h
        · exact absurd ⟨hq0, h⟩ hc
      have hn512 : decide ((n : Int) ≤ 512) = false := by simp; omega
      have mv3' : w.cell? ⟨mb, k, none⟩ = some (.int .i64 0) := by rw [mv3, hq0]; rfl
      have HB : Hid _ := hB
      clear hB hlen hR hK kv1 mv1 hq hn h0 h1 hr mv3 hc hq0
      go_enter Try.func72, Try.ntmps72
      go_wp2
      go_end0
      exact ⟨rfl, ⟨vs, HB.out⟩, Below.refl _ _⟩
    · have hq1 : ((q : Int) == 0) = false := by simp only [beq_eq_false_iff_ne]; omega
      have HB : Hid _ := hB
      clear hB hlen hR hK kv1 mv1 hq hn h0 h1 hr hc hq0
      go_enter Try.func72, Try.ntmps72
      go_wp2
      go_end0
      exact ⟨rfl, ⟨vs, HB.out⟩, Below.refl _ _⟩
end Go.Proofs.Ytopbibhpekjaeaa
