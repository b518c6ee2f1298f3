/- The nonterminals that can be all of a nonterminal's text, as they are told. -/
import Derived.Test.YtopbibhpekjaeaaC0
namespace Go.Proofs.Ytopbibhpekjaeaa
open Go.RowKit

theorem row_ne_blk {W : World} {b : Nat} {e : TypeId} {k : Nat} {v : Value} {n : Nat} {xs : List Value} {RB : Nat} {cs : Array Value} {t : TypeId} {fz : Nat × Nat} (h : W.ownsRow b e k v n xs) (hb : W.heap[RB]? = some (.cells cs t fz)) (hne : e ≠ t) : v.ownBlock ≠ some RB := by
  rcases h.2 with ⟨rfl, _⟩ | ⟨g, cap, cur, rfl, _, hg, _⟩
  · simp [Value.ownBlock]
  · simp only [Value.ownBlock]
    intro e'
    obtain rfl : g = RB := by simpa using e'
    rw [hg] at hb
    simp at hb
    exact hne hb.2.1
theorem blk_cell {W : World} {RB j : Nat} {cs : Array Value} {t : TypeId} {fz : Nat × Nat} {v : Value} (hb : W.heap[RB]? = some (.cells cs t fz)) (h : cs[j]? = some v) : W.cell? ⟨RB, j, none⟩ = some v := by
  rw [cell_of_row W RB j cs t fz hb]; exact h
theorem blk_new (W : World) (cs : Array Value) (t : TypeId) : (W.alloc (.cells cs t)).heap[W.heap.size]? = some (.cells cs t (0, 0)) := heap_alloc_new W _
/-- The box of a rule stays while a table's row is appended to. -/
theorem blk_fin {W w1 : World} {RB q m : Nat} {o o' : Obj} {u v : Value} (hb : W.heap[RB]? = some o) (hg : (W.alloc o').drew.grownBy w1 v.ownBlock) (h1 : v.ownBlock ≠ some RB) (h2 : RB ≠ q) : (w1.setCell ⟨q, m, none⟩ u).heap[RB]? = some o := by
  have hlt := heap_lt' hb
  rw [Below.heap_setCell _ _ _ _ h2, hg.block RB (by simp; omega) (fun e => h1 e.symm)]
  show (W.alloc o').heap[RB]? = _
  rw [Below.heap_alloc _ _ _ hlt]; exact hb
set_option maxRecDepth 100000 in
set_option maxHeartbeats 16000000 in
theorem loneSteps_any (N : Nat) (S : Int) (rs : List Rl) (a : Option Addr) (c : Nat) (w : World) (hok : Ok N rs) (hR : RAt w w.heap.size a rs) :
    Calls Try.prog 74 #[.agg #[.int .i64 (N : Int), .int .i64 S, .slice a rs.length c]] w fun e w' => ∃ tv vs so, e = .returned tv ∧ Tab w' w.heap.size tv N (fun n => loneL rs so n rs.length) vs ∧ so.length = N ∧ (∀ m, so.getD m false = true ↔ Lf rs pN m) ∧ Below w.heap.size w w' := by
  obtain ⟨i0, hinf, hz0, hz1, hz2⟩ := info_parts info3
  have hn1 := hok.n1
  have hn2 := hok.n2
  have hlen := hok.len
  have hmk := run_make_row' (P := Try.prog) 78 41 (.slice none 0 0) 24 Try.underlying78 info41 rfl .i64 .i64 N (by omega) (by omega)
  obtain ⟨W0, hW0⟩ : ∃ W0, w.alloc (.cells #[.int .i64 (N : Int), .int .i64 S, .slice a rs.length c] 24) = W0 := ⟨_, rfl⟩
  have hs0 : W0.heap.size = w.heap.size + 1 := by rw [← hW0]; simp
  have hB0 : Below w.heap.size w W0 := by rw [← hW0]; exact (Below.refl _ _).alloc (Nat.le_refl _) _
  have c0 : W0.cell? ⟨w.heap.size, 0, none⟩ = some (.int .i64 (N : Int)) := by rw [← hW0]; exact cell_new 0 rfl
  have c1 : W0.cell? ⟨w.heap.size, 1, none⟩ = some (.int .i64 S) := by rw [← hW0]; exact cell_new 1 rfl
  have c2 : W0.cell? ⟨w.heap.size, 2, none⟩ = some (.slice a rs.length c) := by rw [← hW0]; exact cell_new 2 rfl
  have H43 : Hid _ := fun (_ : Unit) => nullable_any N S rs a c W0 hok ((hR.keep hB0).mono (by omega))
  go_enter Try.func74, Try.ntmps74
  go_wp2_with (go_at_call 43; refine (H43.out ()).mono ?_)
  rintro e W2 ⟨⟨v, rfl, so, hso, hl, hL⟩, hb2⟩
  obtain ⟨g, cp, rfl, hg1, hg2⟩ := row_at hso (by omega)
  have hs2 := hb2.size
  have H73 : Hid _ := fun (_ : Unit) => symbolIs_any (.slice (some ⟨g, 0, none⟩) N cp) (.func (.func 61) #[] #[]) ⟨_, _, _, rfl⟩ ⟨_, rfl⟩ W2
  obtain ⟨W4, hW4⟩ : ∃ W4, (W2.alloc (.cells #[.slice (some ⟨g, 0, none⟩) N cp] 33)).alloc (.cells #[.func (.func 61) #[] #[]] 76) = W4 := ⟨_, rfl⟩
  have hs4 : W2.heap.size + 2 ≤ W4.heap.size := by rw [← hW4]; simp
  have hB4 : Below W2.heap.size W2 W4 := by rw [← hW4]; exact ((Below.refl _ _).alloc (Nat.le_refl _) _).alloc (by simp) _
  have dD : W4.cell? ⟨W2.heap.size, 0, none⟩ = some (.slice (some ⟨g, 0, none⟩) N cp) := by
    rw [← hW4, World.cell?_alloc_past _ _ _ (by simp)]
    exact cell_new (w := W2) (cs := #[.slice (some ⟨g, 0, none⟩) N cp]) (t := 33) 0 rfl
  have dC : W4.cell? ⟨W2.heap.size + 1, 0, none⟩ = some (.func (.func 61) #[] #[]) := by
    rw [← hW4]
    have := cell_new (w := W2.alloc (.cells #[.slice (some ⟨g, 0, none⟩) N cp] 33)) (cs := #[.func (.func 61) #[] #[]]) (t := 76) 0 rfl
    simp only [World.size_alloc] at this; exact this
  have d0 : W4.cell? ⟨w.heap.size, 0, none⟩ = some (.int .i64 (N : Int)) := (hB4.cell (p := ⟨w.heap.size, 0, none⟩) (by simp; omega)).trans ((hb2.cell (p := ⟨w.heap.size, 0, none⟩) (by simp; omega)).trans c0)
  have d2 : W4.cell? ⟨w.heap.size, 2, none⟩ = some (.slice a rs.length c) := (hB4.cell (p := ⟨w.heap.size, 2, none⟩) (by simp; omega)).trans ((hb2.cell (p := ⟨w.heap.size, 2, none⟩) (by simp; omega)).trans c2)
  have hso4 := row_below hso hB4
  have hBw4 : Below w.heap.size w W4 := (below_of hB0 hb2).trans (hB4.mono (by omega))
  rw [hW4] at H73
  clear hW4 c0 c1 c2 hW0 H43 hB0 hso hB4
  have hT0 := Tab.made W4 W4.heap.size N (Nat.le_refl _) (by unfold maxLen; omega)
  have hB10 : Below W4.heap.size W4 (W4.alloc (.cells (madeCells #[.slice none 0 0] N) 41)) := (Below.refl _ _).alloc (Nat.le_refl _) _
  have e2 : (W4.alloc (.cells (madeCells #[.slice none 0 0] N) 41)).cell? ⟨w.heap.size, 2, none⟩ = some (.slice a rs.length c) := (hB10.cell (p := ⟨w.heap.size, 2, none⟩) (by simp; omega)).trans d2
  go_wp2_with (go_at_call 73; refine (H73.out ()).mono ?_; rintro e W9 ⟨rfl, rfl⟩)
  clear H73 d0 d2 e2 hmk
  go_loopw [21] (fun i W => ∃ (k : Nat) (vs : List Value), k ≤ rs.length ∧ i = .int .i64 k ∧ Tab W W9.heap.size (.slice (some ⟨W9.heap.size, 0, none⟩) N N) N (fun n => loneL rs so n k) vs ∧ Below W9.heap.size W9 W) (fun i _ => rs.length - (intOf i).toNat)
  case atStart => exact ⟨0, _, by omega, rfl, hT0, hB10⟩
  case round =>
    clear hT0 hB10
    obtain ⟨k, vs, hk, rfl, hT, hB⟩ := hrel
    have hsz := hB.size
    have hBw : Below w.heap.size w wr := hBw4.trans (hB.mono (by omega))
    by_cases hlt : k < rs.length
    · obtain ⟨r, hr⟩ : ∃ r, rs[k]? = some r := ⟨rs[k], by simp [hlt]⟩
      obtain ⟨b, o, sa, sc, rfl, hb, hK, e0', e1'⟩ := hR.cells k r hr
      have e0 := (hBw.cell (p := ⟨b, o + k * 2, none⟩) hb).trans e0'
      have e1 := (hBw.cell (p := ⟨b, o + k * 2 + 1, none⟩) hb).trans e1'
      clear e0' e1'
      have hrm := List.mem_of_getElem? hr
      have hsym := hok.sym r hrm
      have hkl := hok.rhs r hrm
      have hlh := hok.lhs r hrm
      obtain ⟨m, hm⟩ : ∃ m : Nat, r.lhs = m := ⟨r.lhs.toNat, by omega⟩
      have hmN : m < N := by omega
      rw [hm] at e0
      obtain ⟨RB, hRB⟩ : ∃ RB, wr.heap.size = RB := ⟨_, rfl⟩
      obtain ⟨W5, hW5⟩ : ∃ W5, wr.alloc (.cells #[.int .i64 (m : Int), .slice sa r.rhs.length sc] 52) = W5 := ⟨_, rfl⟩
      have hB5 : Below wr.heap.size wr W5 := by rw [← hW5]; exact (Below.refl _ _).alloc (Nat.le_refl _) _
      have hs5 : W5.heap.size = RB + 1 := by rw [← hW5]; simp [hRB]
      have hblk : W5.heap[RB]? = some (.cells #[.int .i64 (m : Int), .slice sa r.rhs.length sc] 52 (0, 0)) := by rw [← hW5, ← hRB]; exact blk_new _ _ _
      have f0 := blk_cell (j := 0) hblk rfl
      have f1 := blk_cell (j := 1) hblk rfl
      have hB95 : Below W9.heap.size W9 W5 := hB.trans (hB5.mono hsz)
      have hBw5 : Below w.heap.size w W5 := hBw4.trans (hB95.mono (by omega))
      have hT5 := hT.below hB5
      have H76 : Hid _ := fun (s : Ks) (hs : s ∈ r.rhs) (W : World) (hB6 : Below W9.heap.size W9 W) => symSo_any 61 pN (enters_of Try.func61 (by kernel_rfl) rfl) hk61 s so g N cp (W2.heap.size + 1) W2.heap.size W (by have := hsym s hs; omega) (by have := hB6.size; omega) (by have := hB6.size; omega) (by have := hB6.size; omega) (fun m hm => getD_cell (row_below hso4 hB6) m hm) ((hB6.cell (p := ⟨W2.heap.size + 1, 0, none⟩) (by simp; omega)).trans dC) ((hB6.cell (p := ⟨W2.heap.size, 0, none⟩) (by simp; omega)).trans dD)
      go_wp2
      clear hW5
      go_loopw [7, 28] (fun fv i W => ∃ j : Nat, j ≤ r.rhs.length ∧ i = .int .i64 j ∧ fv = .int .i64 (fullOf so (r.rhs.take j)) ∧ Below W5.heap.size W5 W) (fun _ i _ => r.rhs.length - (intOf i).toNat)
      case atStart => exact ⟨0, by omega, rfl, rfl, Below.refl _ _⟩
      case round =>
        obtain ⟨j, hj, rfl, rfl, hBi⟩ := hrel
        have hszi := hBi.size
        have hB9i : Below W9.heap.size W9 wr := hB95.trans (hBi.mono (by omega))
        have hBwi : Below w.heap.size w wr := hBw4.trans (hB9i.mono (by omega))
        by_cases hlt2 : j < r.rhs.length
        · obtain ⟨s, hs⟩ : ∃ s, r.rhs[j]? = some s := ⟨r.rhs[j], by simp [hlt2]⟩
          obtain ⟨b2, o2, rfl, hb2, hso', k0, k1, k2, k3, k4⟩ := (hK.keep hBwi).cells j s hs
          have hB6 := hB9i.alloc hB9i.size (.cells #[.int .i64 s.nt, .int .u64 s.set.a, .int .u64 s.set.b, .int .u64 s.set.c, .int .u64 s.set.d] 56)
          have hB56 := hBi.alloc hszi (.cells #[.int .i64 s.nt, .int .u64 s.set.a, .int .u64 s.set.b, .int .u64 s.set.c, .int .u64 s.set.d] 56)
          have HF : Hid _ := fullOf_succ (so := so) hs
          have hfl := fullOf_le so (r.rhs.take j)
          rw [List.length_take] at hfl
          generalize fullOf so (r.rhs.take j) = n at *
          have H1 : Hid _ := fun (_ : Unit) => H76.out s (List.mem_of_getElem? hs) _ hB6
          cases hq : symSo pN so s with
          | false =>
            rw [hq] at H1 HF
            go_wp2_with (go_at_call 76; refine (H1.out ()).mono ?_; rintro e w2 ⟨rfl, hb2'⟩)
            exact ⟨⟨j + 1, by omega, by go_num, by rw [HF.out]; go_num, hB56.trans (hb2'.mono hB56.size)⟩, by simp [intOf]; omega⟩
          | true =>
            rw [hq] at H1 HF
            go_wp2_with (go_at_call 76; refine (H1.out ()).mono ?_; rintro e w2 ⟨rfl, hb2'⟩)
            exact ⟨⟨j + 1, by omega, by go_num, by rw [HF.out]; go_num, hB56.trans (hb2'.mono hB56.size)⟩, by simp [intOf]; omega⟩
        · obtain rfl : j = r.rhs.length := by omega
          rw [List.take_length]
          have hfl := fullOf_le so r.rhs
          have HE : Hid ((fun n : Nat => loneL rs so n k ++ (if r.lhs = (n : Int) then loneOf so (fullOf so r.rhs) (r.rhs.take r.rhs.length) else [])) = fun n => loneL rs so n (k + 1)) := by
            show _ = _
            funext n; simp [loneL, rhsAt, lhsAt, hr]
          have hU := fun n => loneL_len rs so n hok.rhs k
          generalize fullOf so r.rhs = F at *
          have f1' := (hBi.cell (p := ⟨RB, 1, none⟩) (by simp; omega)).trans f1
          have hblk' : wr.heap[RB]? = some (.cells #[.int .i64 (m : Int), .slice sa r.rhs.length sc] 52 (0, 0)) := (hBi.block RB (by omega)).trans hblk
          have hT' : Tab wr W9.heap.size (.slice (some ⟨W9.heap.size, 0, none⟩) N N) N (fun n => loneL rs so n k ++ (if r.lhs = (n : Int) then loneOf so F (r.rhs.take 0) else [])) vs := by
            have := hT5.below hBi
            simpa [loneOf] using this
          go_wp2
          clear f0 f1 f1' hBi hT5 hBwi hszi hblk hBw5 hB95
          go_loopw [42] (fun i W => ∃ (j : Nat) (vs : List Value), j ≤ r.rhs.length ∧ i = .int .i64 j ∧ Tab W W9.heap.size (.slice (some ⟨W9.heap.size, 0, none⟩) N N) N (fun n => loneL rs so n k ++ (if r.lhs = (n : Int) then loneOf so F (r.rhs.take j) else [])) vs ∧ Below W9.heap.size W9 W ∧ W.heap[RB]? = some (.cells #[.int .i64 (m : Int), .slice sa r.rhs.length sc] 52 (0, 0))) (fun i _ => r.rhs.length - (intOf i).toNat)
          case atStart => exact ⟨0, _, by omega, rfl, hT', hB9i, hblk'⟩
          case round =>
            clear hT' hblk' hB9i
            obtain ⟨j, vs1, hj, rfl, hT, hB9, hblk⟩ := hrel
            have hsz9 := hB9.size
            have hBwi : Below w.heap.size w wr := hBw4.trans (hB9.mono (by omega))
            by_cases hlt2 : j < r.rhs.length
            · obtain ⟨s, hs⟩ : ∃ s, r.rhs[j]? = some s := ⟨r.rhs[j], by simp [hlt2]⟩
              obtain ⟨b2, o2, rfl, hb2, hso', k0, k1, k2, k3, k4⟩ := (hK.keep hBwi).cells j s hs
              have hss := hsym s (List.mem_of_getElem? hs)
              have hRBlt := heap_lt' hblk
              have hBn : Below wr.heap.size wr (wr.alloc (.cells #[.int .i64 s.nt, .int .u64 s.set.a, .int .u64 s.set.b, .int .u64 s.set.c, .int .u64 s.set.d] 56)) := (Below.refl _ _).alloc (Nat.le_refl _) _
              have hB6 := hB9.alloc hsz9 (.cells #[.int .i64 s.nt, .int .u64 s.set.a, .int .u64 s.set.b, .int .u64 s.set.c, .int .u64 s.set.d] 56)
              have hblk6 : (wr.alloc (.cells #[.int .i64 s.nt, .int .u64 s.set.a, .int .u64 s.set.b, .int .u64 s.set.c, .int .u64 s.set.d] 56)).heap[RB]? = _ := (hBn.block RB hRBlt).trans hblk
              have H1 : Hid _ := fun (_ : Unit) => H76.out s (List.mem_of_getElem? hs) _ hB6
              have HLN : Hid (lone so F s = (decide (0 ≤ s.nt) && (decide (F = 0) || (decide (F = 1) && !(symSo pN so s))))) := rfl
              by_cases hneg : s.nt < 0
              · have HF : Hid _ := loneL_skip rs so k j F hs (by rw [HLN.out, decide_eq_false (by omega)]; rfl)
                have hneg' : decide (0 ≤ s.nt) = false := by simp; omega
                go_wp2
                refine ⟨⟨j + 1, vs1, by omega, by go_num, ?_, hB6, hblk6⟩, by simp [intOf]; omega⟩
                rw [HF.out]; exact hT.below hBn
              · have hpos : 0 ≤ s.nt := by omega
                by_cases hF0 : F = 0
                · have HF : Hid _ := loneL_step rs so k j m F hs hm (by rw [HLN.out, decide_eq_true hF0, decide_eq_true hpos]; simp)
                  obtain ⟨x, hx⟩ : ∃ x : Nat, s.nt = x := ⟨s.nt.toNat, by omega⟩
                  have hxt : s.nt.toNat = x := by omega
                  obtain ⟨v, hv⟩ : ∃ v, vs1[m]? = some v := ⟨vs1[m]'(by rw [hT.len]; exact hmN), by simp⟩
                  have hrow := hT.inner m v hv
                  have hcv := hT.row.cellAt m (by omega)
                  rw [hv] at hcv
                  have hfz := hT.row.frozenAt m
                  have hgs := hT.row.lt W9.heap.size rfl
                  have hlv : (loneL rs so m k ++ (if r.lhs = (m : Int) then loneOf so F (List.take j r.rhs) else [])).length ≤ 1000000 := by
                    have h1 := hU m
                    have h2 := loneOf_len so F (List.take j r.rhs)
                    rw [List.length_take] at h2
                    rw [List.length_append]
                    split
                    · omega
                    · simp; omega
                  have hne1 : v.ownBlock ≠ some RB := row_ne_blk hrow hblk (by decide)
                  have hneT : RB ≠ W9.heap.size := fun e => row_ne_blk hT.row hblk (by decide) (by rw [e]; rfl)
                  have hne2 : v.ownBlock ≠ some W9.heap.size := fun e => by
                    have := row_ne hrow hT.row (by decide)
                    rw [e] at this
                    simp [Value.ownBlock] at this
                  have hne3 : v.ownBlock ≠ some wr.heap.size := fun e => by have := (hrow.lt _ e).2; omega
                  have hmI : (m : Int) < N := by omega
                  rw [hx] at k0 hpos
                  rw [hxt] at HF
                  rw [hx] at hB6 hBn hblk6
                  clear H1 HLN
                  have h0' : ((F : Int) == 0) = true := by simp; omega
                  clear hF0
                  obtain ⟨W6, hW6⟩ : ∃ W6, wr.alloc (.cells #[.int .i64 (x : Int), .int .u64 s.set.a, .int .u64 s.set.b, .int .u64 s.set.c, .int .u64 s.set.d] 56) = W6 := ⟨_, rfl⟩
                  have hs6 : W6.heap.size = wr.heap.size + 1 := by rw [← hW6]; simp
                  rw [hW6] at hB6 hBn hblk6
                  have T : US2 RB wr.heap.size W9.heap.size m x v W6 := ⟨blk_cell (j := 0) hblk6 rfl, by rw [← hW6]; exact cell_new 0 rfl, (hBn.cell (p := ⟨W9.heap.size, m, none⟩) hgs.2).trans hcv, (hBn.frozen (p := ⟨W9.heap.size, m, none⟩) hgs.2).trans hfz, by omega, by omega, by omega⟩
                  have hT2 := hT.below hBn
                  have hrow2 := hT2.inner m v hv
                  have hB9W := hB6
                  have hblkW := hblk6
                  have hBW := hBn
                  have hszW := hBn.size
                  clear hcv hfz hrow hs6
                  have t0 := T.bz
                  go_wp2
                  clear t0
                  have HN : Hid (∀ j u, [Value.int .i64 ((x : Nat) : Int)][j]? = some u → (W6.alloc (.cells #[.int .i64 ((x : Nat) : Int)] 3)).drew.cell? ((⟨W6.heap.size, 0, none⟩ : Addr).add j) = some u) := cell_one_new W6 (.int .i64 ((x : Nat) : Int)) 3
                  have t1 := T.bx
                  have t3 := T.bz
                  have t2 := T.tb
                  obtain ⟨xs, HX⟩ : ∃ xs, Hid (loneL rs so m k ++ (if r.lhs = (m : Int) then loneOf so F (List.take j r.rhs) else []) = xs) := ⟨_, rfl⟩
                  rw [HX.out] at hrow2 hlv
                  have a1 := (T.alloc (.cells #[.int .i64 ((x : Nat) : Int)] 3)).bx
                  have a2 := (T.alloc (.cells #[.int .i64 ((x : Nat) : Int)] 3)).tb
                  have a3 := (T.alloc (.cells #[.int .i64 ((x : Nat) : Int)] 3)).bz
                  go_region_law (refine step_append_lies _ (by rfl) _ _ _ (by rfl) W9.heap.size 3 i0 _ 1 8 Try.underlying41 hinf hz0 hz1 hz2 rfl (by omega) v xs.length (intsV xs) (by rfl) (by first | exact (hrow2.alloc _).drew | exact (hrow2.drew.alloc _)) ⟨W6.heap.size, 0, none⟩ 1 1 [.int .i64 ((x : Nat) : Int)] (by rfl) (by rfl) HN.out (by simp [Value.oneCell']) (by omega) (by unfold maxLen; omega) (by omega) (by simp; omega) (W6.heap.size + 1) (by simp) ?_; intro g1 cap1 w1 hown1 hgrow hat hlt1; replace T : US2 RB wr.heap.size W9.heap.size m x v w1 := (by first | exact US2.grown (T.alloc _).drew hgrow hne1 hne2 hne3 | exact US2.grown (T.drew.alloc _) hgrow hne1 hne2 hne3); have f1 := T.fz; have f2 := T.tb; have f3 := T.bx; have f4 := T.bz)
                  all_goals go_wp2
                  all_goals refine ⟨⟨j + 1, vs1.set m (.slice (some ⟨g1, 0, none⟩) (xs.length + 1) cap1), by omega, by go_num, ?_, ?_, ?_⟩, by simp [intOf]; omega⟩
                  any_goals (with_reducible refine Below.setCell (p := ⟨W9.heap.size, m, none⟩) ?_ (Nat.le_refl _) _)
                  any_goals (with_reducible exact ((hB9W.alloc (by omega) (.cells #[.int .i64 ((x : Nat) : Int)] 3)).drew).grown hgrow (by simp; omega) (fun q hq => by have := (hrow2.lt q hq).1; omega))
                  any_goals (with_reducible exact blk_fin hblkW hgrow hne1 hneT)
                  all_goals (rw [HF.out]; exact USfin hT hv HX hBW rfl hown1 hgrow hat)
                · by_cases hF1 : F = 1
                  · cases hq : symSo pN so s with
                    | true =>
                      have HF : Hid _ := loneL_skip rs so k j F hs (by rw [HLN.out, hq, decide_eq_false hF0]; simp)
                      rw [hq] at H1
                      have h0' : ((F : Int) == 0) = false := by simp; omega
                      have h1' : ((F : Int) == 1) = true := by simp; omega
                      clear hF1 hF0
                      go_wp2_with (go_at_call 76; refine (H1.out ()).mono ?_; rintro e w2 ⟨rfl, hb2'⟩)
                      refine ⟨⟨j + 1, vs1, by omega, by go_num, ?_, hB6.trans (hb2'.mono hB6.size), (hb2'.block RB (by have := hBn.size; omega)).trans hblk6⟩, by simp [intOf]; omega⟩
                      rw [HF.out]; exact (hT.below hBn).below hb2'
                    | false =>
                      have HF : Hid _ := loneL_step rs so k j m F hs hm (by rw [HLN.out, hq, decide_eq_true hF1, decide_eq_true hpos]; simp)
                      obtain ⟨x, hx⟩ : ∃ x : Nat, s.nt = x := ⟨s.nt.toNat, by omega⟩
                      have hxt : s.nt.toNat = x := by omega
                      obtain ⟨v, hv⟩ : ∃ v, vs1[m]? = some v := ⟨vs1[m]'(by rw [hT.len]; exact hmN), by simp⟩
                      have hrow := hT.inner m v hv
                      have hcv := hT.row.cellAt m (by omega)
                      rw [hv] at hcv
                      have hfz := hT.row.frozenAt m
                      have hgs := hT.row.lt W9.heap.size rfl
                      have hlv : (loneL rs so m k ++ (if r.lhs = (m : Int) then loneOf so F (List.take j r.rhs) else [])).length ≤ 1000000 := by
                        have h1 := hU m
                        have h2 := loneOf_len so F (List.take j r.rhs)
                        rw [List.length_take] at h2
                        rw [List.length_append]
                        split
                        · omega
                        · simp; omega
                      have hne1 : v.ownBlock ≠ some RB := row_ne_blk hrow hblk (by decide)
                      have hneT : RB ≠ W9.heap.size := fun e => row_ne_blk hT.row hblk (by decide) (by rw [e]; rfl)
                      have hne2 : v.ownBlock ≠ some W9.heap.size := fun e => by
                        have := row_ne hrow hT.row (by decide)
                        rw [e] at this
                        simp [Value.ownBlock] at this
                      have hne3 : v.ownBlock ≠ some wr.heap.size := fun e => by have := (hrow.lt _ e).2; omega
                      have hmI : (m : Int) < N := by omega
                      rw [hx] at k0 hpos
                      rw [hxt] at HF
                      rw [hx] at hB6 hBn hblk6
                      rw [hq, hx] at H1
                      clear HLN
                      have h0' : ((F : Int) == 0) = false := by simp; omega
                      have h1' : ((F : Int) == 1) = true := by simp; omega
                      clear hF1 hF0
                      obtain ⟨W6, hW6⟩ : ∃ W6, wr.alloc (.cells #[.int .i64 (x : Int), .int .u64 s.set.a, .int .u64 s.set.b, .int .u64 s.set.c, .int .u64 s.set.d] 56) = W6 := ⟨_, rfl⟩
                      have hs6 : W6.heap.size = wr.heap.size + 1 := by rw [← hW6]; simp
                      rw [hW6] at hB6 hBn hblk6 H1
                      have T6 : US2 RB wr.heap.size W9.heap.size m x v W6 := ⟨blk_cell (j := 0) hblk6 rfl, by rw [← hW6]; exact cell_new 0 rfl, (hBn.cell (p := ⟨W9.heap.size, m, none⟩) hgs.2).trans hcv, (hBn.frozen (p := ⟨W9.heap.size, m, none⟩) hgs.2).trans hfz, by omega, by omega, by omega⟩
                      have y1 : W6.cell? ⟨wr.heap.size, 1, none⟩ = some (.int .u64 s.set.a) := by rw [← hW6]; exact cell_new 1 rfl
                      have y2 : W6.cell? ⟨wr.heap.size, 2, none⟩ = some (.int .u64 s.set.b) := by rw [← hW6]; exact cell_new 2 rfl
                      have y3 : W6.cell? ⟨wr.heap.size, 3, none⟩ = some (.int .u64 s.set.c) := by rw [← hW6]; exact cell_new 3 rfl
                      have y4 : W6.cell? ⟨wr.heap.size, 4, none⟩ = some (.int .u64 s.set.d) := by rw [← hW6]; exact cell_new 4 rfl
                      have hT2 := hT.below hBn
                      have t0 := T6.bz
                      clear hcv hfz hrow hs6
                      go_wp2_with (go_at_call 76; refine (H1.out ()).mono ?_; rintro e W7 ⟨rfl, hb7⟩)
                      clear t0 y1 y2 y3 y4
                      have T := T6.below hb7
                      have hrow2 := (hT2.below hb7).inner m v hv
                      have hs67 := hb7.size
                      have hBW : Below wr.heap.size wr W7 := hBn.trans (hb7.mono hBn.size)
                      have hB9W : Below W9.heap.size W9 W7 := hB6.trans (hb7.mono hB6.size)
                      have hblkW := (hb7.block RB T6.l1).trans hblk6
                      have hszW := hBW.size
                      have HN : Hid (∀ j u, [Value.int .i64 ((x : Nat) : Int)][j]? = some u → (W7.alloc (.cells #[.int .i64 ((x : Nat) : Int)] 3)).drew.cell? ((⟨W7.heap.size, 0, none⟩ : Addr).add j) = some u) := cell_one_new W7 (.int .i64 ((x : Nat) : Int)) 3
                      have t1 := T.bx
                      have t3 := T.bz
                      have t2 := T.tb
                      obtain ⟨xs, HX⟩ : ∃ xs, Hid (loneL rs so m k ++ (if r.lhs = (m : Int) then loneOf so F (List.take j r.rhs) else []) = xs) := ⟨_, rfl⟩
                      rw [HX.out] at hrow2 hlv
                      have a1 := (T.alloc (.cells #[.int .i64 ((x : Nat) : Int)] 3)).bx
                      have a2 := (T.alloc (.cells #[.int .i64 ((x : Nat) : Int)] 3)).tb
                      have a3 := (T.alloc (.cells #[.int .i64 ((x : Nat) : Int)] 3)).bz
                      go_region_law (refine step_append_lies _ (by rfl) _ _ _ (by rfl) W9.heap.size 3 i0 _ 1 8 Try.underlying41 hinf hz0 hz1 hz2 rfl (by omega) v xs.length (intsV xs) (by rfl) (by first | exact (hrow2.alloc _).drew | exact (hrow2.drew.alloc _)) ⟨W7.heap.size, 0, none⟩ 1 1 [.int .i64 ((x : Nat) : Int)] (by rfl) (by rfl) HN.out (by simp [Value.oneCell']) (by omega) (by unfold maxLen; omega) (by omega) (by simp; omega) (W7.heap.size + 1) (by simp) ?_; intro g1 cap1 w1 hown1 hgrow hat hlt1; replace T : US2 RB wr.heap.size W9.heap.size m x v w1 := (by first | exact US2.grown (T.alloc _).drew hgrow hne1 hne2 hne3 | exact US2.grown (T.drew.alloc _) hgrow hne1 hne2 hne3); have f1 := T.fz; have f2 := T.tb; have f3 := T.bx; have f4 := T.bz)
                      all_goals go_wp2
                      all_goals refine ⟨⟨j + 1, vs1.set m (.slice (some ⟨g1, 0, none⟩) (xs.length + 1) cap1), by omega, by go_num, ?_, ?_, ?_⟩, by simp [intOf]; omega⟩
                      any_goals (with_reducible refine Below.setCell (p := ⟨W9.heap.size, m, none⟩) ?_ (Nat.le_refl _) _)
                      any_goals (with_reducible exact ((hB9W.alloc (by omega) (.cells #[.int .i64 ((x : Nat) : Int)] 3)).drew).grown hgrow (by simp; omega) (fun q hq => by have := (hrow2.lt q hq).1; omega))
                      any_goals (with_reducible exact blk_fin hblkW hgrow hne1 hneT)
                      all_goals (rw [HF.out]; exact USfin hT hv HX hBW rfl hown1 hgrow hat)
                  · have HF : Hid _ := loneL_skip rs so k j F hs (by rw [HLN.out, decide_eq_false hF0, decide_eq_false hF1]; simp)
                    have h0' : ((F : Int) == 0) = false := by simp; omega
                    have h1' : ((F : Int) == 1) = false := by simp; omega
                    go_wp2
                    refine ⟨⟨j + 1, vs1, by omega, by go_num, ?_, hB6, hblk6⟩, by simp [intOf]; omega⟩
                    rw [HF.out]; exact hT.below hBn
            · obtain rfl : j = r.rhs.length := by omega
              rw [HE.out] at hT
              go_wp2
              exact ⟨⟨k + 1, vs1, by omega, by go_num, hT, hB9⟩, by simp [intOf]; omega⟩
    · obtain rfl : k = rs.length := by omega
      go_wp2
      go_ret
      exact ⟨_, vs, so, rfl, hT.mono (by omega), hl, hL, hBw⟩
end Go.Proofs.Ytopbibhpekjaeaa
