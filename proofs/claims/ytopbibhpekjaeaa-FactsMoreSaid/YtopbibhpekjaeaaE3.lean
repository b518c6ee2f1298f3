/- What is reached. -/
import Derived.Test.YtopbibhpekjaeaaC1
import Derived.Test.YtopbibhpekjaeaaE2
namespace Go.Proofs.Ytopbibhpekjaeaa
open Go.RowKit

/-- What stands while one goes through what is reached: marks, the queue, and the table below. -/
structure RM (Wt : World) (N : Nat) (so : List Bool) (qv : Value) (q : List Nat) (W : World) : Prop where
  bel : Below Wt.heap.size Wt W
  row : W.ownsRow Wt.heap.size 4 1 (.slice (some ⟨Wt.heap.size, 0, none⟩) N N) N (boolsV so)
  qu : W.ownsRow Wt.heap.size 3 1 qv q.length (intsV q)
theorem RM.put {Wt : World} {N : Nat} {so : List Bool} {qv : Value} {q : List Nat} {W : World} (h : RM Wt N so qv q W) (m : Nat) : RM Wt N (so.set m true) qv q (W.setCell ⟨Wt.heap.size, m, none⟩ (.bool true)) := by
  have hst := h.row.stored m (.bool true)
  exact ⟨h.bel.setCell (p := ⟨Wt.heap.size, m, none⟩) (Nat.le_refl _) _, by rw [boolsV_set]; exact hst.1, h.qu.kept hst.2 (row_ne h.qu h.row (by decide))⟩
def Reaches (base N : Nat) (rs : List Rl) (S : Nat) (v : Value) (W : World) : Prop := ∃ so : List Bool, W.ownsRow base 4 1 v N (boolsV so) ∧ so.length = N ∧ ∀ m, so.getD m false = true ↔ Rch rs S m
set_option maxRecDepth 100000 in
set_option maxHeartbeats 8000000 in
theorem reach_any (N S : Nat) (rs : List Rl) (a : Option Addr) (c : Nat) (w : World) (hok : Ok N rs) (hS : S < N) (hR : RAt w w.heap.size a rs) :
    Calls Try.prog 46 #[.agg #[.int .i64 (N : Int), .int .i64 (S : Int), .slice a rs.length c]] w fun e w' => (∃ v, e = .returned v ∧ Reaches w.heap.size N rs S v w') ∧ Below w.heap.size w w' := by
  obtain ⟨i0, hinf, hz0, hz1, hz2⟩ := info_parts info3
  have hn1 := hok.n1
  have hn2 := hok.n2
  have hlen := hok.len
  have hmk := run_make_row' (P := Try.prog) 78 41 (.slice none 0 0) 24 Try.underlying78 info41 rfl .i64 .i64 N (by omega) (by omega)
  have hmk2 := run_make_row' (P := Try.prog) 33 4 (.bool false) 1 Try.underlying33 info4 rfl .i64 .i64 N (by omega) (by omega)
  obtain ⟨W0, hW0⟩ : ∃ W0, w.alloc (.cells #[.int .i64 (N : Int), .int .i64 (S : Int), .slice a rs.length c] 24) = W0 := ⟨_, rfl⟩
  have hs0 : W0.heap.size = w.heap.size + 1 := by rw [← hW0]; simp
  have hB0 : Below w.heap.size w W0 := by rw [← hW0]; exact (Below.refl _ _).alloc (Nat.le_refl _) _
  have c0 : W0.cell? ⟨w.heap.size, 0, none⟩ = some (.int .i64 (N : Int)) := by rw [← hW0]; exact cell_new 0 rfl
  have c1 : W0.cell? ⟨w.heap.size, 1, none⟩ = some (.int .i64 (S : Int)) := by rw [← hW0]; exact cell_new 1 rfl
  have c2 : W0.cell? ⟨w.heap.size, 2, none⟩ = some (.slice a rs.length c) := by rw [← hW0]; exact cell_new 2 rfl
  have hT0 := Tab.made W0 W0.heap.size N (Nat.le_refl _) (by unfold maxLen; omega)
  have hB10 : Below W0.heap.size W0 (W0.alloc (.cells (madeCells #[.slice none 0 0] N) 41)) := (Below.refl _ _).alloc (Nat.le_refl _) _
  have e2 : (W0.alloc (.cells (madeCells #[.slice none 0 0] N) 41)).cell? ⟨w.heap.size, 2, none⟩ = some (.slice a rs.length c) := (hB10.cell (p := ⟨w.heap.size, 2, none⟩) (by simp; omega)).trans c2
  have hlt0 : w.heap.size < W0.heap.size := by omega
  clear hs0
  go_enter Try.func46, Try.ntmps46
  go_wp2
  clear e2 hmk
  go_loopw [19] (fun i W => ∃ (k : Nat) (vs : List Value), k ≤ rs.length ∧ i = .int .i64 k ∧ Tab W W0.heap.size (.slice (some ⟨W0.heap.size, 0, none⟩) N N) N (fun n => sucL rs n k) vs ∧ Below W0.heap.size W0 W) (fun i _ => rs.length - (intOf i).toNat)
  case atStart => exact ⟨0, _, by omega, rfl, hT0, hB10⟩
  case round =>
    clear hT0 hB10
    obtain ⟨k, vs, hk, rfl, hT, hB⟩ := hrel
    have hsz := hB.size
    have hBw : Below w.heap.size w wr := hB0.trans (hB.mono (by omega))
    by_cases hlt : k < rs.length
    · obtain ⟨r, hr⟩ : ∃ r, rs[k]? = some r := ⟨rs[k], by simp [hlt]⟩
      obtain ⟨b, o, sa, sc, rfl, hb, hK, e0', e1'⟩ := hR.cells k r hr
      have e0 := (hBw.cell (p := ⟨b, o + k * 2, none⟩) hb).trans e0'
      have e1 := (hBw.cell (p := ⟨b, o + k * 2 + 1, none⟩) hb).trans e1'
      clear e0' e1'
      have hrm := List.mem_of_getElem? hr
      have hsym := hok.sym r hrm
      have hkl := hok.rhs r hrm
      have hlh := hok.lhs r hrm
      obtain ⟨m, hm⟩ : ∃ m : Nat, r.lhs = m := ⟨r.lhs.toNat, by omega⟩
      have hmN : m < N := by omega
      have hkI : (k : Int) < rs.length := by omega
      rw [hm] at e0
      obtain ⟨RB, hRB⟩ : ∃ RB, wr.heap.size = RB := ⟨_, rfl⟩
      obtain ⟨W5, hW5⟩ : ∃ W5, wr.alloc (.cells #[.int .i64 (m : Int), .slice sa r.rhs.length sc] 52) = W5 := ⟨_, rfl⟩
      have hB5 : Below wr.heap.size wr W5 := by rw [← hW5]; exact (Below.refl _ _).alloc (Nat.le_refl _) _
      have hblk : W5.heap[RB]? = some (.cells #[.int .i64 (m : Int), .slice sa r.rhs.length sc] 52 (0, 0)) := by rw [← hW5, ← hRB]; exact blk_new _ _ _
      have f1 := blk_cell (j := 1) hblk rfl
      have hB95 : Below W0.heap.size W0 W5 := hB.trans (hB5.mono hsz)
      have HE : Hid ((fun n : Nat => sucL rs n k ++ (if r.lhs = (n : Int) then sucOf (r.rhs.take r.rhs.length) else [])) = fun n => sucL rs n (k + 1)) := by
        show _ = _
        funext n; simp [sucL, rhsAt, lhsAt, hr]
      have hU := fun n => sucL_len rs n hok.rhs k
      have hT' : Tab W5 W0.heap.size (.slice (some ⟨W0.heap.size, 0, none⟩) N N) N (fun n => sucL rs n k ++ (if r.lhs = (n : Int) then sucOf (r.rhs.take 0) else [])) vs := by
        have := hT.below hB5
        simpa [sucOf] using this
      go_wp2
      clear hW5 f1 hB5 e0 e1
      go_loopw [26] (fun i W => ∃ (j : Nat) (vs : List Value), j ≤ r.rhs.length ∧ i = .int .i64 j ∧ Tab W W0.heap.size (.slice (some ⟨W0.heap.size, 0, none⟩) N N) N (fun n => sucL rs n k ++ (if r.lhs = (n : Int) then sucOf (r.rhs.take j) else [])) vs ∧ Below W0.heap.size W0 W ∧ W.heap[RB]? = some (.cells #[.int .i64 (m : Int), .slice sa r.rhs.length sc] 52 (0, 0))) (fun i _ => r.rhs.length - (intOf i).toNat)
      case atStart => exact ⟨0, _, by omega, rfl, hT', hB95, hblk⟩
      case round =>
        clear hT' hblk hB95 hT hB hsz hBw
        obtain ⟨j, vs1, hj, rfl, hT, hB9, hblk⟩ := hrel
        have hsz9 := hB9.size
        have hBwi : Below w.heap.size w wr := hB0.trans (hB9.mono (by omega))
        by_cases hlt2 : j < r.rhs.length
        · obtain ⟨s, hs⟩ : ∃ s, r.rhs[j]? = some s := ⟨r.rhs[j], by simp [hlt2]⟩
          obtain ⟨b2, o2, rfl, hb2, hso', k0, k1, k2, k3, k4⟩ := (hK.keep hBwi).cells j s hs
          have hss := hsym s (List.mem_of_getElem? hs)
          have hRBlt := heap_lt' hblk
          have hjI : (j : Int) < r.rhs.length := by omega
          have hBn : Below wr.heap.size wr (wr.alloc (.cells #[.int .i64 s.nt, .int .u64 s.set.a, .int .u64 s.set.b, .int .u64 s.set.c, .int .u64 s.set.d] 56)) := (Below.refl _ _).alloc (Nat.le_refl _) _
          have hB6 := hB9.alloc hsz9 (.cells #[.int .i64 s.nt, .int .u64 s.set.a, .int .u64 s.set.b, .int .u64 s.set.c, .int .u64 s.set.d] 56)
          have hblk6 : (wr.alloc (.cells #[.int .i64 s.nt, .int .u64 s.set.a, .int .u64 s.set.b, .int .u64 s.set.c, .int .u64 s.set.d] 56)).heap[RB]? = _ := (hBn.block RB hRBlt).trans hblk
          by_cases hneg : s.nt < 0
          · have HF : Hid _ := sucL_skip rs k j hs hneg
            have hneg' : decide (0 ≤ s.nt) = false := by simp; omega
            go_wp2
            refine ⟨⟨j + 1, vs1, by omega, by go_num, ?_, hB6, hblk6⟩, by simp [intOf]; omega⟩
            rw [HF.out]; exact hT.below hBn
          · have hpos : 0 ≤ s.nt := by omega
            have HF : Hid _ := sucL_step rs k j m hs hm hpos
            obtain ⟨x, hx⟩ : ∃ x : Nat, s.nt = x := ⟨s.nt.toNat, by omega⟩
            have hxt : s.nt.toNat = x := by omega
            obtain ⟨v, hv⟩ : ∃ v, vs1[m]? = some v := ⟨vs1[m]'(by rw [hT.len]; exact hmN), by simp⟩
            have hrow := hT.inner m v hv
            have hcv := hT.row.cellAt m (by omega)
            rw [hv] at hcv
            have hfz := hT.row.frozenAt m
            have hgs := hT.row.lt W0.heap.size rfl
            have hlv : (sucL rs m k ++ (if r.lhs = (m : Int) then sucOf (List.take j r.rhs) else [])).length ≤ 1000000 := by
              have h1 := hU m
              have h2 := sucOf_len (List.take j r.rhs)
              rw [List.length_take] at h2
              rw [List.length_append]
              split
              · omega
              · simp; omega
            have hne1 : v.ownBlock ≠ some RB := row_ne_blk hrow hblk (by decide)
            have hneT : RB ≠ W0.heap.size := fun e => row_ne_blk hT.row hblk (by decide) (by rw [e]; rfl)
            have hne2 : v.ownBlock ≠ some W0.heap.size := fun e => by
              have := row_ne hrow hT.row (by decide)
              rw [e] at this
              simp [Value.ownBlock] at this
            have hne3 : v.ownBlock ≠ some wr.heap.size := fun e => by have := (hrow.lt _ e).2; omega
            have hmI : (m : Int) < N := by omega
            rw [hx] at k0 hpos
            rw [hxt] at HF
            rw [hx] at hB6 hBn hblk6
            obtain ⟨W6, hW6⟩ : ∃ W6, wr.alloc (.cells #[.int .i64 (x : Int), .int .u64 s.set.a, .int .u64 s.set.b, .int .u64 s.set.c, .int .u64 s.set.d] 56) = W6 := ⟨_, rfl⟩
            have hs6 : W6.heap.size = wr.heap.size + 1 := by rw [← hW6]; simp
            rw [hW6] at hB6 hBn hblk6
            have T : US2 RB wr.heap.size W0.heap.size m x v W6 := ⟨blk_cell (j := 0) hblk6 rfl, by rw [← hW6]; exact cell_new 0 rfl, (hBn.cell (p := ⟨W0.heap.size, m, none⟩) hgs.2).trans hcv, (hBn.frozen (p := ⟨W0.heap.size, m, none⟩) hgs.2).trans hfz, by omega, by omega, by omega⟩
            have hT2 := hT.below hBn
            have hrow2 := hT2.inner m v hv
            have hB9W := hB6
            have hblkW := hblk6
            have hBW := hBn
            have hszW := hBn.size
            clear hcv hfz hrow hs6
            have t0 := T.bz
            go_wp2
            clear t0
            have HN : Hid (∀ j u, [Value.int .i64 ((x : Nat) : Int)][j]? = some u → (W6.alloc (.cells #[.int .i64 ((x : Nat) : Int)] 3)).drew.cell? ((⟨W6.heap.size, 0, none⟩ : Addr).add j) = some u) := cell_one_new W6 (.int .i64 ((x : Nat) : Int)) 3
            have t1 := T.bx
            have t3 := T.bz
            have t2 := T.tb
            obtain ⟨xs, HX⟩ : ∃ xs, Hid (sucL rs m k ++ (if r.lhs = (m : Int) then sucOf (List.take j r.rhs) else []) = xs) := ⟨_, rfl⟩
            rw [HX.out] at hrow2 hlv
            have a1 := (T.alloc (.cells #[.int .i64 ((x : Nat) : Int)] 3)).bx
            have a2 := (T.alloc (.cells #[.int .i64 ((x : Nat) : Int)] 3)).tb
            have a3 := (T.alloc (.cells #[.int .i64 ((x : Nat) : Int)] 3)).bz
            go_region_law (refine step_append_lies _ (by rfl) _ _ _ (by rfl) W0.heap.size 3 i0 _ 1 8 Try.underlying41 hinf hz0 hz1 hz2 rfl (by omega) v xs.length (intsV xs) (by rfl) (by first | exact (hrow2.alloc _).drew | exact (hrow2.drew.alloc _)) ⟨W6.heap.size, 0, none⟩ 1 1 [.int .i64 ((x : Nat) : Int)] (by rfl) (by rfl) HN.out (by simp [Value.oneCell']) (by omega) (by unfold maxLen; omega) (by omega) (by simp; omega) (W6.heap.size + 1) (by simp) ?_; intro g1 cap1 w1 hown1 hgrow hat hlt1; replace T : US2 RB wr.heap.size W0.heap.size m x v w1 := (by first | exact US2.grown (T.alloc _).drew hgrow hne1 hne2 hne3 | exact US2.grown (T.drew.alloc _) hgrow hne1 hne2 hne3); have f1 := T.fz; have f2 := T.tb; have f3 := T.bx; have f4 := T.bz)
            all_goals go_wp2
            all_goals refine ⟨⟨j + 1, vs1.set m (.slice (some ⟨g1, 0, none⟩) (xs.length + 1) cap1), by omega, by go_num, ?_, ?_, ?_⟩, by simp [intOf]; omega⟩
            any_goals (with_reducible refine Below.setCell (p := ⟨W0.heap.size, m, none⟩) ?_ (Nat.le_refl _) _)
            any_goals (with_reducible exact ((hB9W.alloc (by omega) (.cells #[.int .i64 ((x : Nat) : Int)] 3)).drew).grown hgrow (by simp; omega) (fun q hq => by have := (hrow2.lt q hq).1; omega))
            any_goals (with_reducible exact blk_fin hblkW hgrow hne1 hneT)
            all_goals (rw [HF.out]; exact USfin hT hv HX hBW rfl hown1 hgrow hat)
        · obtain rfl : j = r.rhs.length := by omega
          rw [HE.out] at hT
          go_wp2
          exact ⟨⟨k + 1, vs1, by omega, by go_num, hT, hB9⟩, by simp [intOf]; omega⟩
    · obtain rfl : k = rs.length := by omega
      have f0 := (hB.cell (p := ⟨w.heap.size, 0, none⟩) (by simp; omega)).trans c0
      have f1 := (hB.cell (p := ⟨w.heap.size, 1, none⟩) (by simp; omega)).trans c1
      have hSI : (S : Int) < N := by omega
      have hlI : w.heap.size < wr.heap.size := by omega
      have hr0 : (wr.alloc (.cells (madeCells #[.bool false] N) 4)).ownsRow wr.heap.size 4 1 (.slice (some ⟨wr.heap.size, 0, none⟩) N N) N (boolsV (List.replicate N false)) := by
        have := World.ownsRow_lit (e := 4) (size := 1) (base := wr.heap.size) wr (madeCells #[.bool false] N) N (Nat.le_refl _) (by unfold maxLen; omega) (by rw [size_madeCells]; omega)
        rw [toList_madeCells_one] at this
        simpa [boolsV] using this
      have hc0 := getD_cell hr0 S hS
      have hz0' := hr0.frozenAt S
      have hfold : (wr.alloc (.cells (madeCells #[.bool false] N) 4)).setCell ⟨wr.heap.size, S, none⟩ (.bool true) = wr.alloc (.cells ((madeCells #[.bool false] N).setIfInBounds S (.bool true)) 4) := World.setCell_alloc_at _ _ _ _ _ rfl
      have hM0 : RM wr N ((List.replicate N false).set S true) (.slice (some ⟨wr.heap.size + 1, 0, none⟩) 1 1) [S] ((wr.alloc (.cells ((madeCells #[.bool false] N).setIfInBounds S (.bool true)) 4)).alloc (.cells #[.int .i64 (S : Int)] 3)) := by
        have h1 : RM wr N (List.replicate N false) (.slice none 0 0) [] (wr.alloc (.cells (madeCells #[.bool false] N) 4)) := ⟨(Below.refl _ _).alloc (Nat.le_refl _) _, hr0, World.ownsRow_nil _ _ _ _⟩
        have h2 := h1.put S
        rw [hfold] at h2
        refine ⟨h2.bel.alloc (by simp) _, h2.row.alloc _, ?_⟩
        have := World.ownsRow_lit (e := 3) (size := 1) (base := wr.heap.size) (wr.alloc (.cells ((madeCells #[.bool false] N).setIfInBounds S (.bool true)) 4)) #[.int .i64 (S : Int)] 1 (by simp) (by unfold maxLen; omega) rfl
        rw [World.size_alloc] at this
        simpa [intsV] using this
      have hI0 := BI.start (rs := rs) hS
      go_wp2
      clear f0 f1 hc0 hz0' hr0 hfold hmk2 hlI hSI
      have hUl := fun n => sucL_len rs n hok.rhs rs.length
      obtain ⟨Wt, hWt⟩ : ∃ Wt, wr = Wt := ⟨_, rfl⟩
      rw [hWt] at hM0 hT hB hBw ⊢
      clear hWt hsz
      go_loopw [9, 10] (fun qv iv W => ∃ (so : List Bool) (q : List Nat) (i : Nat), iv = .int .i64 i ∧ RM Wt N so qv q W ∧ BI N rs S so q i 0 ∧ i ≤ q.length) (fun _ iv _ => N + 1 - (intOf iv).toNat)
      case atStart => exact ⟨_, _, 0, rfl, hM0, hI0, by simp⟩
      case round =>
        clear hM0 hI0
        obtain ⟨so, q, i, rfl, hM, hI, hile⟩ := hrel
        have hql := hI.bnd
        have hsz := hM.bel.size
        obtain ⟨qa, qc, rfl⟩ := row_slice hM.qu
        by_cases hlti : i < q.length
        · obtain ⟨a0, ha0⟩ : ∃ a0, q[i]? = some a0 := ⟨q[i], by simp [hlti]⟩
          have hiI : (i : Int) < q.length := by omega
          obtain ⟨gq, cq, hqe, _, hgq⟩ := row_at hM.qu (by omega)
          obtain ⟨rfl, -, rfl⟩ : qa = some ⟨gq, 0, none⟩ ∧ q.length = q.length ∧ qc = cq := by simpa using hqe
          clear hqe
          have haN : a0 < N := by
            have := hI.qm a0 (List.mem_of_getElem? ha0)
            apply Classical.byContradiction
            intro hge
            rw [List.getD_eq_getElem?_getD, List.getElem?_eq_none (by rw [hI.len]; omega)] at this
            simp at this
          have haI : (a0 : Int) < N := by omega
          have hca : wr.cell? ⟨gq, i, none⟩ = some (.int .i64 (a0 : Int)) := by
            rw [hM.qu.cellAt i (by omega)]; simp [intsV, ha0]
          obtain ⟨v, hv⟩ : ∃ v, vs[a0]? = some v := ⟨vs[a0]'(by rw [hT.len]; exact haN), by simp⟩
          have hrow := hT.inner a0 v hv
          have hcv := hT.row.cellAt a0 (by omega)
          rw [hv] at hcv
          have hgt := hT.row.lt W0.heap.size rfl
          have hcv' := (hM.bel.cell (p := ⟨W0.heap.size, a0, none⟩) hgt.2).trans hcv
          have hfl := hUl a0
          obtain ⟨va, vc, rfl⟩ := row_slice hrow
          go_wp2
          clear hca hcv hcv' hiI haI
          go_loopw [9, 72] (fun qv jv W => ∃ (so : List Bool) (q : List Nat) (j : Nat), j ≤ (sucL rs a0 rs.length).length ∧ jv = .int .i64 j ∧ RM Wt N so qv q W ∧ BI N rs S so q i j ∧ q[i]? = some a0) (fun _ jv _ => (sucL rs a0 rs.length).length - (intOf jv).toNat)
          case atStart => exact ⟨so, q, 0, by omega, rfl, hM, hI, ha0⟩
          case round =>
            clear hM hI ha0 hile hql hsz hlti hgq
            obtain ⟨so, q, j, hj, rfl, hM, hI, ha0⟩ := hrel
            have hql := hI.bnd
            have hsz := hM.bel.size
            have hil := (List.getElem?_eq_some_iff.1 ha0).1
            obtain ⟨qa, qc, rfl⟩ := row_slice hM.qu
            by_cases hltj : j < (sucL rs a0 rs.length).length
            · obtain ⟨x, hx⟩ : ∃ x, (sucL rs a0 rs.length)[j]? = some x := ⟨(sucL rs a0 rs.length)[j], by simp⟩
              have hxN : x < N := by
                obtain ⟨t, ht, r, hr, he, s, hs, h0, rfl⟩ := (sucL_mem rs.length (Nat.le_refl _)).1 (List.mem_of_getElem? hx)
                have := hok.sym r (List.mem_of_getElem? hr) s hs
                omega
              have hxI : (x : Int) < N := by omega
              have hjI : (j : Int) < (sucL rs a0 rs.length).length := by omega
              obtain ⟨gv, cv, hve, _, hgv⟩ := row_at hrow (by omega)
              obtain ⟨rfl, -, rfl⟩ : va = some ⟨gv, 0, none⟩ ∧ (sucL rs a0 rs.length).length = (sucL rs a0 rs.length).length ∧ vc = cv := by simpa using hve
              have hcx : wr.cell? ⟨gv, j, none⟩ = some (.int .i64 (x : Int)) := by
                rw [hM.bel.cell (p := ⟨gv, j, none⟩) hgv, hrow.cellAt j (by omega)]; simp [intsV, hx]
              have hcs := getD_cell hM.row x hxN
              have hfs := hM.row.frozenAt x
              cases hq : so.getD x false with
              | true =>
                have hI2 := hI.skip ha0 hx hq
                rw [hq] at hcs
                clear hq hx
                go_wp2
                exact ⟨⟨so, q, j + 1, by omega, by go_num, hM, hI2, ha0⟩, by simp [intOf]; omega⟩
              | false =>
                have hI2 := hI.mark ha0 hx hq hxN
                rw [hq] at hcs
                have hM2 := hM.put x
                have HA0 : Hid ((q ++ [x])[i]? = some a0) := by show _ = _; rw [List.getElem?_append_left hil]; exact ha0
                obtain ⟨W8, hW8⟩ : ∃ W8, wr.setCell ⟨Wt.heap.size, x, none⟩ (.bool true) = W8 := ⟨_, rfl⟩
                rw [hW8] at hM2
                have hs8 := hM2.bel.size
                clear hq hx
                go_wp2_with (at_builtin; refine wpList_append_own _ rfl _ _ 41 rfl Wt.heap.size 3 i0 (.int .i64 0) 1 8 Try.underlying41 hinf hz0 hz1 hz2 rfl (by decide) _ _ _ rfl (hM2.qu.alloc _) ⟨W8.heap.size, 0, none⟩ 1 1 [.int .i64 ((x : Nat) : Int)] rfl rfl ?ca1 ?ca2 ?ca3 ?ca4 ?ca5 ?_)
                try case ca1 => exact cell_one_new _ _ _
                case ca2 => first | rfl | (intro u hu; simp at hu; subst hu; rfl)
                case ca3 => unfold maxLen; omega
                case ca4 => omega
                case ca5 => first | omega | (simp; omega)
                intro v' w3 hown' hgrow _
                have hb3 : Below Wt.heap.size W8 w3 := ((Below.refl _ W8).alloc hs8 (.cells #[.int .i64 ((x : Nat) : Int)] 3)).grown hgrow (by simp; omega) (fun p hp => (hM2.qu.lt p hp).1)
                have hrw3 : w3.ownsRow Wt.heap.size 4 1 (.slice (some ⟨Wt.heap.size, 0, none⟩) N N) N (boolsV (so.set x true)) := (hM2.row.alloc _).kept hgrow (row_ne hM2.row hM2.qu (by decide))
                obtain ⟨g', cap', rfl, _⟩ := row_at hown' (by omega)
                go_wp2
                go_roundw
                case rel => exact ⟨so.set x true, q ++ [x], j + 1, by omega, by go_num, ⟨hM2.bel.trans hb3, hrw3, by rw [intsV_snoc, List.length_append]; exact hown'⟩, hI2, HA0.out⟩
                case measure => simp [intOf]; omega
            · have hI2 := hI.next ha0 (by omega)
              go_wp2
              exact ⟨⟨so, q, i + 1, by go_num, hM, hI2, by omega⟩, by simp [intOf]; omega⟩
        · have hII : Hid _ := hI.done (by omega)
          go_wp2
          go_ret
          exact ⟨⟨_, rfl, so, row_mono hM.row (by have := hBw.size; omega), hI.len, hII.out⟩, hBw.trans (hM.bel.mono (by have := hBw.size; omega))⟩
end Go.Proofs.Ytopbibhpekjaeaa
