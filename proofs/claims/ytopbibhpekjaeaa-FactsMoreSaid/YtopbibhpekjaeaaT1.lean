/- The rules in which each nonterminal stands. -/
import Derived.Test.YtopbibhpekjaeaaT0
import Derived.Deep.RegionLaw
namespace Go.Proofs.Ytopbibhpekjaeaa
open Go.RowKit

/-- How often a nonterminal stands among symbols. -/
def cnt (n : Nat) (l : List Ks) : Nat := (l.filter fun s => decide (s.nt = (n : Int))).length
def rhsAt (rs : List Rl) (k : Nat) : List Ks := match rs[k]? with | some r => r.rhs | none => []
/-- The first k rules' places, once for each time that n stands in them. -/
def usr (rs : List Rl) (n : Nat) : Nat → List Nat
  | 0 => []
  | k + 1 => usr rs n k ++ List.replicate (cnt n (rhsAt rs k)) k
theorem cnt_take_succ {l : List Ks} {j : Nat} {s : Ks} (n : Nat) (h : l[j]? = some s) : cnt n (l.take (j + 1)) = cnt n (l.take j) + (if s.nt = (n : Int) then 1 else 0) := by
  unfold cnt; rw [List.take_add_one, h]; simp [List.filter_append]
  by_cases hs : s.nt = (n : Int) <;> simp [hs]
theorem cnt_le (n : Nat) (l : List Ks) : cnt n l ≤ l.length := List.length_filter_le _ _
theorem usr_len (rs : List Rl) (n : Nat) (h : ∀ r ∈ rs, r.rhs.length ≤ 80) : ∀ k, (usr rs n k).length ≤ 80 * k
  | 0 => by simp [usr]
  | k + 1 => by
    have := usr_len rs n h k
    have h2 : (rhsAt rs k).length ≤ 80 := by
      unfold rhsAt; split
      · rename_i r hr; exact h r (List.mem_of_getElem? hr)
      · simp
    have h3 := cnt_le n (rhsAt rs k)
    simp [usr]; omega
/-- What is so of the numbers in a right grammar. -/
structure Ok (N : Nat) (rs : List Rl) : Prop where
  n1 : 1 ≤ N
  n2 : N ≤ 4096
  len : rs.length ≤ 8192
  lhs : ∀ r ∈ rs, 0 ≤ r.lhs ∧ r.lhs < (N : Int)
  rhs : ∀ r ∈ rs, r.rhs.length ≤ 80
  sym : ∀ r ∈ rs, ∀ s ∈ r.rhs, s.nt = -1 ∨ (0 ≤ s.nt ∧ s.nt < (N : Int) ∧ s.set = St.zero)
theorem usr_step (rs : List Rl) (k j x : Nat) {r : Rl} {s : Ks} (hs : r.rhs[j]? = some s) (hx : s.nt = (x : Int)) :
    (fun n => usr rs n k ++ List.replicate (cnt n (r.rhs.take (j + 1))) k) = (fun n => if n = x then (usr rs n k ++ List.replicate (cnt n (r.rhs.take j)) k) ++ [k] else usr rs n k ++ List.replicate (cnt n (r.rhs.take j)) k) := by
  funext n
  rw [cnt_take_succ n hs]
  by_cases h : n = x
  · subst h
    rw [if_pos hx, if_pos rfl, List.append_assoc, ← List.replicate_succ']
  · rw [if_neg (by omega), if_neg h]; rfl
theorem usr_skip (rs : List Rl) (k j : Nat) {r : Rl} {s : Ks} (hs : r.rhs[j]? = some s) (hx : s.nt < 0) :
    (fun n => usr rs n k ++ List.replicate (cnt n (r.rhs.take (j + 1))) k) = (fun n => usr rs n k ++ List.replicate (cnt n (r.rhs.take j)) k) := by
  funext n
  rw [cnt_take_succ n hs, if_neg (by omega)]; rfl

/-- What stays while a table's row is appended to: a box that holds the row's number, and the table's cell. -/
structure US (p q x : Nat) (v : Value) (W : World) : Prop where
  bx : W.cell? ⟨p, 0, none⟩ = some (.int .i64 (x : Int))
  tb : W.cell? ⟨q, x, none⟩ = some v
  fz : W.frozen? ⟨q, x, none⟩ = false
  l1 : p < W.heap.size
  l2 : q < W.heap.size
section
variable {p q x : Nat} {v : Value} {W W' : World}
theorem US.drew (h : US p q x v W) : US p q x v W.drew := ⟨h.bx, h.tb, h.fz, h.l1, h.l2⟩
theorem US.below (h : US p q x v W) (hb : Below W.heap.size W W') : US p q x v W' :=
  ⟨(hb.cell (p := ⟨p, 0, none⟩) h.l1).trans h.bx, (hb.cell (p := ⟨q, x, none⟩) h.l2).trans h.tb, (hb.frozen (p := ⟨q, x, none⟩) h.l2).trans h.fz, Nat.lt_of_lt_of_le h.l1 hb.size, Nat.lt_of_lt_of_le h.l2 hb.size⟩
theorem US.alloc (h : US p q x v W) (o : Obj) : US p q x v (W.alloc o) := h.below ((Below.refl _ _).alloc (Nat.le_refl _) o)
theorem US.grown {row : Option Nat} (h : US p q x v W) (hg : W.grownBy W' row) (h1 : row ≠ some p) (h2 : row ≠ some q) : US p q x v W' :=
  ⟨hg.cell h.bx (fun e => h1 e.symm), hg.cell h.tb (fun e => h2 e.symm), (World.frozen?_of_block (hg.block q h.l2 (fun e => h2 e.symm))).trans h.fz, Nat.lt_of_lt_of_le h.l1 hg.size, Nat.lt_of_lt_of_le h.l2 hg.size⟩
theorem US.facts (h : US p q x v W) : W.cell? ⟨p, 0, none⟩ = some (.int .i64 (x : Int)) ∧ W.cell? ⟨q, x, none⟩ = some v ∧ W.frozen? ⟨q, x, none⟩ = false := ⟨h.bx, h.tb, h.fz⟩
end

theorem USfin {W W2 w1 : World} {base g N c x k g1 cap1 n1 : Nat} {v : Value} {vs : List Value} {f : Nat → List Nat} {xs : List Nat} (hT : Tab W base (.slice (some ⟨g, 0, none⟩) N c) N f vs) (hv : vs[x]? = some v) (HX : Hid (f x = xs)) (hB2 : Below W.heap.size W W2) (hs2 : W2.heap.size = n1)
    (hown1 : w1.ownsRow base 3 1 (.slice (some ⟨g1, 0, none⟩) (xs.length + 1) cap1) (xs.length + 1) (intsV xs ++ [.int .i64 ((k : Nat) : Int)])) (hgrow : (W2.alloc (.cells #[.int .i64 ((k : Nat) : Int)] 3)).drew.grownBy w1 v.ownBlock) (hat : v.ownBlock = some g1 ∨ g1 = n1 + 1) :
    Tab (w1.setCell ⟨g, x, none⟩ (.slice (some ⟨g1, 0, none⟩) (xs.length + 1) cap1)) base (.slice (some ⟨g, 0, none⟩) N c) N (fun n => if n = x then f n ++ [k] else f n) (vs.set x (.slice (some ⟨g1, 0, none⟩) (xs.length + 1) cap1)) := by
  obtain rfl := HX.out
  refine hT.push (W1 := (W2.alloc (.cells #[.int .i64 ((k : Nat) : Int)] 3)).drew) hv ?_ ?_ hown1 hgrow ?_
  · exact ((hB2.alloc hB2.size _).drew)
  · have := hB2.size; simp; omega
  · rcases hat with h | h
    · exact .inl h
    · right; simp; omega

set_option maxRecDepth 100000 in
set_option maxHeartbeats 4000000 in
theorem users_any (N : Nat) (S : Int) (rs : List Rl) (a : Option Addr) (c : Nat) (w : World) (hok : Ok N rs) (hR : RAt w w.heap.size a rs) :
    Calls Try.prog 70 #[.agg #[.int .i64 (N : Int), .int .i64 S, .slice a rs.length c]] w fun e w' => ∃ tv vs, e = .returned tv ∧ Tab w' w.heap.size tv N (fun n => usr rs n rs.length) vs ∧ Below w.heap.size w w' := by
  obtain ⟨i0, hinf, hz0, hz1, hz2⟩ := info_parts info3
  have hn1 := hok.n1
  have hn2 := hok.n2
  have hlen := hok.len
  have hmk := run_make_row' (P := Try.prog) 78 41 (.slice none 0 0) 24 Try.underlying78 info41 rfl .i64 .i64 N (by omega) (by omega)
  obtain ⟨W0, hW0⟩ : ∃ W0, w.alloc (.cells #[.int .i64 (N : Int), .int .i64 S, .slice a rs.length c] 24) = W0 := ⟨_, rfl⟩
  have hs0 : W0.heap.size = w.heap.size + 1 := by rw [← hW0]; simp
  have hB0 : Below w.heap.size w W0 := by rw [← hW0]; exact (Below.refl _ _).alloc (Nat.le_refl _) _
  have c0 : W0.cell? ⟨w.heap.size, 0, none⟩ = some (.int .i64 (N : Int)) := by rw [← hW0]; exact cell_new 0 rfl
  have c2 : W0.cell? ⟨w.heap.size, 2, none⟩ = some (.slice a rs.length c) := by rw [← hW0]; exact cell_new 2 rfl
  have hT0 := Tab.made W0 (w.heap.size + 1) N (by omega) (by unfold maxLen; omega)
  obtain ⟨W1, hW1⟩ : ∃ W1, W0.alloc (.cells (madeCells #[.slice none 0 0] N) 41) = W1 := ⟨_, rfl⟩
  have hB1 : Below W0.heap.size W0 W1 := by rw [← hW1]; exact (Below.refl _ _).alloc (Nat.le_refl _) _
  have d2 : W1.cell? ⟨w.heap.size, 2, none⟩ = some (.slice a rs.length c) := (hB1.cell (p := ⟨w.heap.size, 2, none⟩) (by simp; omega)).trans c2
  rw [hW1, hs0] at hT0
  have hBw1 : Below (w.heap.size) w W1 := hB0.trans (hB1.mono (by omega))
  go_enter Try.func70, Try.ntmps70
  go_wp2
  go_loopw [14] (fun i W => ∃ (k : Nat) (vs : List Value), k ≤ rs.length ∧ i = .int .i64 k ∧ Tab W (w.heap.size + 1) (.slice (some ⟨w.heap.size + 1, 0, none⟩) N N) N (fun n => usr rs n k) vs ∧ Below w.heap.size w W) (fun i _ => rs.length - (intOf i).toNat)
  case atStart => exact ⟨0, _, by omega, rfl, hT0, hBw1⟩
  case round =>
    clear hT0 hB0 hB1 c0 c2 d2 hBw1 hW0 hW1
    obtain ⟨k, vs, hk, rfl, hT, hB⟩ := hrel
    by_cases hlt : k < rs.length
    · obtain ⟨r, hr⟩ : ∃ r, rs[k]? = some r := ⟨rs[k], by simp [hlt]⟩
      obtain ⟨b, o, sa, sc, rfl, hb, hK, e0', e1'⟩ := hR.cells k r hr
      have e0 := (hB.cell (p := ⟨b, o + k * 2, none⟩) hb).trans e0'
      have e1 := (hB.cell (p := ⟨b, o + k * 2 + 1, none⟩) hb).trans e1'
      clear e0' e1'
      have hkl := hok.rhs r (List.mem_of_getElem? hr)
      have hB2 := hB.alloc hB.size (.cells #[.int .i64 r.lhs, .slice sa r.rhs.length sc] 52)
      have hT2 : Tab (wr.alloc (.cells #[.int .i64 r.lhs, .slice sa r.rhs.length sc] 52)) (w.heap.size + 1) (.slice (some ⟨w.heap.size + 1, 0, none⟩) N N) N (fun n => usr rs n k ++ List.replicate (cnt n (r.rhs.take 0)) k) vs := by
        have := hT.below ((Below.refl _ _).alloc (Nat.le_refl _) (.cells #[.int .i64 r.lhs, .slice sa r.rhs.length sc] 52))
        simpa [cnt] using this
      have HE : Hid ((fun n => usr rs n k ++ List.replicate (cnt n (r.rhs.take r.rhs.length)) k) = fun n => usr rs n (k + 1)) := by
        show _ = _
        funext n; simp [usr, rhsAt, hr]
      have hU := fun n => usr_len rs n hok.rhs k
      have hsym := hok.sym r (List.mem_of_getElem? hr)
      clear hT hB
      go_wp2
      clear hmk e0 e1 hR hb
      go_loopw [22] (fun i W => ∃ (j : Nat) (vs : List Value), j ≤ r.rhs.length ∧ i = .int .i64 j ∧ Tab W (w.heap.size + 1) (.slice (some ⟨w.heap.size + 1, 0, none⟩) N N) N (fun n => usr rs n k ++ List.replicate (cnt n (r.rhs.take j)) k) vs ∧ Below w.heap.size w W) (fun i _ => r.rhs.length - (intOf i).toNat)
      case atStart => exact ⟨0, _, by omega, rfl, hT2, hB2⟩
      case round =>
        obtain ⟨j, vs1, hj, rfl, hT, hB⟩ := hrel
        have hsz := hB.size
        clear hT2 hB2
        by_cases hlt2 : j < r.rhs.length
        · obtain ⟨s, hs⟩ : ∃ s, r.rhs[j]? = some s := ⟨r.rhs[j], by simp [hlt2]⟩
          obtain ⟨b2, o2, rfl, hb2, hso, c0, c1, c2, c3, c4⟩ := (hK.keep hB).cells j s hs
          have hss := hsym s (List.mem_of_getElem? hs)
          by_cases hneg : s.nt < 0
          · have HF : Hid _ := usr_skip rs k j hs hneg
            have hneg' : decide (0 ≤ s.nt) = false := by simp; omega
            go_wp2
            refine ⟨⟨j + 1, vs1, by omega, by go_num, ?_, hB.alloc hB.size _⟩, by simp [intOf]; omega⟩
            rw [HF.out]
            exact hT.below ((Below.refl _ _).alloc (Nat.le_refl _) _)
          · obtain ⟨x, hx⟩ : ∃ x : Nat, s.nt = x := ⟨s.nt.toNat, by omega⟩
            have HF : Hid _ := usr_step rs k j x hs hx
            have hxN : x < N := by omega
            obtain ⟨v, hv⟩ : ∃ v, vs1[x]? = some v := ⟨vs1[x]'(by rw [hT.len]; exact hxN), by simp⟩
            have hrow := hT.inner x v hv
            have hcv := hT.row.cellAt x (by omega)
            rw [hv] at hcv
            have hlv : (usr rs x k ++ List.replicate (cnt x (List.take j r.rhs)) k).length ≤ 1000000 := by
              have h1 := hU x
              have h2 := cnt_le x (List.take j r.rhs)
              rw [List.length_take] at h2
              rw [List.length_append, List.length_replicate]; omega
            rw [hx] at c0
            have hx' : (x : Int) < N := by omega
            have hgs := hT.row.lt (w.heap.size + 1) rfl
            have hfz := hT.row.frozenAt x
            obtain ⟨W2, hW2⟩ : ∃ W2, wr.alloc (.cells #[.int .i64 (x : Int), .int .u64 s.set.a, .int .u64 s.set.b, .int .u64 s.set.c, .int .u64 s.set.d] 56) = W2 := ⟨_, rfl⟩
            have hB2 : Below wr.heap.size wr W2 := by rw [← hW2]; exact (Below.refl _ _).alloc (Nat.le_refl _) _
            have hs2 : W2.heap.size = wr.heap.size + 1 := by rw [← hW2]; simp
            have T : US wr.heap.size (w.heap.size + 1) x v W2 :=
              ⟨by rw [← hW2]; exact cell_new 0 rfl, (hB2.cell (p := ⟨w.heap.size + 1, x, none⟩) hgs.2).trans hcv, (hB2.frozen (p := ⟨w.heap.size + 1, x, none⟩) hgs.2).trans hfz, by omega, by omega⟩
            have hT2 := hT.below hB2
            have hrow2 := hT2.inner x v hv
            have hne1 : v.ownBlock ≠ some wr.heap.size := fun e => by have := (hrow.lt _ e).2; omega
            have hne2 : v.ownBlock ≠ some (w.heap.size + 1) := fun e => by
              have := row_ne hrow hT.row (by decide)
              rw [e] at this
              simp [Value.ownBlock] at this
            clear hcv hfz hrow
            have t1 := T.bx
            go_wp2
            have t2 := T.tb
            have HN : Hid (∀ j u, [Value.int .i64 ((k : Nat) : Int)][j]? = some u → (W2.alloc (.cells #[.int .i64 ((k : Nat) : Int)] 3)).drew.cell? ((⟨wr.heap.size + 1, 0, none⟩ : Addr).add j) = some u) := by
              have := cell_one_new W2 (.int .i64 ((k : Nat) : Int)) 3
              rw [hs2] at this
              exact this
            obtain ⟨xs, HX⟩ : ∃ xs, Hid (usr rs x k ++ List.replicate (cnt x (List.take j r.rhs)) k = xs) := ⟨_, rfl⟩
            rw [HX.out] at hrow2 hlv
            have a1 := (T.alloc (.cells #[.int .i64 ((k : Nat) : Int)] 3)).bx
            have a2 := (T.alloc (.cells #[.int .i64 ((k : Nat) : Int)] 3)).tb
            go_region_law (refine step_append_lies _ (by rfl) _ _ _ (by rfl) (w.heap.size + 1) 3 i0 _ 1 8 Try.underlying41 hinf hz0 hz1 hz2 rfl (by omega) v xs.length (intsV xs) (by rfl) (by first | exact (hrow2.alloc _).drew | exact (hrow2.drew.alloc _)) ⟨wr.heap.size + 1, 0, none⟩ 1 1 [.int .i64 ((k : Nat) : Int)] (by rfl) (by rfl) HN.out (by simp [Value.oneCell']) (by omega) (by unfold maxLen; omega) (by omega) (by simp; omega) (W2.heap.size + 1) (by simp) ?_; intro g1 cap1 w1 hown1 hgrow hat hlt1; replace T : US wr.heap.size (w.heap.size + 1) x v w1 := (by first | exact US.grown (T.alloc _).drew hgrow hne1 hne2 | exact US.grown (T.drew.alloc _) hgrow hne1 hne2); have f1 := T.fz; have f2 := T.tb; have f3 := T.bx)
            all_goals go_wp2
            all_goals refine ⟨⟨j + 1, vs1.set x (.slice (some ⟨g1, 0, none⟩) (xs.length + 1) cap1), by omega, by go_num, ?_, ?_⟩, by simp [intOf]; omega⟩
            any_goals (with_reducible refine Below.setCell (p := ⟨w.heap.size + 1, x, none⟩) ?_ (show w.heap.size ≤ w.heap.size + 1 by omega) _)
            any_goals (with_reducible exact (((hB.trans (hB2.mono hsz)).alloc (by omega) (.cells #[.int .i64 ((k : Nat) : Int)] 3)).drew).grown hgrow (by simp; omega) (fun q hq => by have := (hrow2.lt q hq).1; omega))
            all_goals (rw [HF.out]; exact USfin hT hv HX hB2 rfl hown1 hgrow hat)
        · obtain rfl : j = r.rhs.length := by omega
          rw [HE.out] at hT
          go_wp2
          exact ⟨⟨k + 1, vs1, by omega, by go_num, hT, hB⟩, by simp [intOf]; omega⟩
    · obtain rfl : k = rs.length := by omega
      go_wp2
      go_ret
      exact ⟨_, _, rfl, hT.mono (by omega), hB⟩
end Go.Proofs.Ytopbibhpekjaeaa
