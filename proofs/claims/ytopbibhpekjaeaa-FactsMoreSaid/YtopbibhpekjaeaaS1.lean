/- The first bytes that rules' sets give, and who takes whose, as they are told. -/
import Derived.Test.YtopbibhpekjaeaaS0
namespace Go.Proofs.Ytopbibhpekjaeaa
open Go.RowKit

theorem tk_step (rs : List Rl) (so : List Bool) (k j x m : Nat) {r : Rl} {s : Ks} (hs : r.rhs[j]? = some s) (hx : s.nt = (x : Int)) :
    (fun n => tkL rs so n k ++ List.replicate (cnt n (r.rhs.take (j + 1))) m) = (fun n => if n = x then (tkL rs so n k ++ List.replicate (cnt n (r.rhs.take j)) m) ++ [m] else tkL rs so n k ++ List.replicate (cnt n (r.rhs.take j)) m) := by
  funext n
  rw [cnt_take_succ n hs]
  by_cases h : n = x
  · subst h
    rw [if_pos hx, if_pos rfl, List.append_assoc, ← List.replicate_succ']
  · rw [if_neg (by omega), if_neg h]; rfl
theorem tk_close (rs : List Rl) (so : List Bool) (k m : Nat) {r : Rl} {l : List Ks} (hr : rs[k]? = some r) (hm : r.lhs = (m : Int)) (hl : takP so r.rhs = l) : (fun n => tkL rs so n k ++ List.replicate (cnt n l) m) = fun n => tkL rs so n (k + 1) := by
  funext n
  simp [tkL, rhsAt, lhsAt, hr, hl, hm]
theorem own_close (rs : List Rl) (so : List Bool) (k m n : Nat) {r : Rl} (hr : rs[k]? = some r) (hm : r.lhs = (m : Int)) : ownL rs so n (k + 1) = if n = m then (ownL rs so n k).or (ownS so r.rhs) else ownL rs so n k := by
  simp only [ownL, rhsAt, lhsAt, hr, hm]
  by_cases h : n = m
  · subst h; simp
  · rw [if_neg h, if_neg (by omega)]
theorem OMfin {W6 w1 : World} {n x g : Nat} {o : Obj} {u : Value} {row : Option Nat} (h : n ≤ W6.heap.size) (hg : (W6.alloc o).drew.grownBy w1 row) : n ≤ (w1.setCell ⟨g, x, none⟩ u).heap.size := by
  have := hg.size
  simp [World.setCell] at this ⊢; omega
theorem OMset {W6 w1 : World} {base N x g : Nat} {o : Obj} {u v : Value} {xs : List Value} (h : W6.ownsRow base 49 4 (.slice (some ⟨g, 0, none⟩) N N) N xs) (hg : (W6.alloc o).drew.grownBy w1 v.ownBlock) (hne : v.ownBlock = none ∨ v.ownBlock ≠ some g) : (w1.setCell ⟨g + 1, x, none⟩ u).ownsRow base 49 4 (.slice (some ⟨g, 0, none⟩) N N) N xs := by
  have h1 := ((h.alloc o).drew).kept hg (by
    rcases hne with e | e
    · right; rw [e]; simp [Value.ownBlock]
    · right; exact fun e' => e e'.symm)
  exact ownsRow_setCell_other h1 (by simp [Value.ownBlock]) u
set_option maxRecDepth 100000 in
set_option maxHeartbeats 16000000 in
theorem ownFirst_any (N : Nat) (S : Int) (rs : List Rl) (a : Option Addr) (c : Nat) (w : World) (hok : Ok N rs) (hR : RAt w w.heap.size a rs) :
    Calls Try.prog 64 #[.agg #[.int .i64 (N : Int), .int .i64 S, .slice a rs.length c]] w fun e w' => ∃ W2 sets vs so, e = .returned (.tuple #[.slice (some ⟨W2.heap.size, 0, none⟩) N N, .slice (some ⟨W2.heap.size + 1, 0, none⟩) N N]) ∧ w.heap.size + 1 ≤ W2.heap.size ∧ OM W2 N sets (fun n => tkL rs so n rs.length) vs w' ∧ sets.length = N ∧ (∀ n, n < N → sets.getD n St.zero = ownL rs so n rs.length) ∧ (∀ m, so.getD m false = true ↔ Lf rs pN m) ∧ Below w.heap.size w w' := by
  obtain ⟨i0, hinf, hz0, hz1, hz2⟩ := info_parts info3
  have hn1 := hok.n1
  have hn2 := hok.n2
  have hlen := hok.len
  have hmk := run_make_row' (P := Try.prog) 78 41 (.slice none 0 0) 24 Try.underlying78 info41 rfl .i64 .i64 N (by omega) (by omega)
  have hmk4 := make4 N hn2
  have hsets : ∀ r ∈ rs, ∀ s ∈ r.rhs, s.set.ok := by
    intro r hr s hs
    obtain ⟨i, hi⟩ := List.mem_iff_getElem?.1 hr
    obtain ⟨_, _, _, _, _, _, hK2, _⟩ := hR.cells i r hi
    obtain ⟨j, hj⟩ := List.mem_iff_getElem?.1 hs
    obtain ⟨_, _, _, _, h, _⟩ := hK2.cells j s hj
    exact h
  obtain ⟨W0, hW0⟩ : ∃ W0, w.alloc (.cells #[.int .i64 (N : Int), .int .i64 S, .slice a rs.length c] 24) = W0 := ⟨_, rfl⟩
  have hs0 : W0.heap.size = w.heap.size + 1 := by rw [← hW0]; simp
  have hB0 : Below w.heap.size w W0 := by rw [← hW0]; exact (Below.refl _ _).alloc (Nat.le_refl _) _
  have c0 : W0.cell? ⟨w.heap.size, 0, none⟩ = some (.int .i64 (N : Int)) := by rw [← hW0]; exact cell_new 0 rfl
  have c1 : W0.cell? ⟨w.heap.size, 1, none⟩ = some (.int .i64 S) := by rw [← hW0]; exact cell_new 1 rfl
  have c2 : W0.cell? ⟨w.heap.size, 2, none⟩ = some (.slice a rs.length c) := by rw [← hW0]; exact cell_new 2 rfl
  have H43 : Hid _ := fun (_ : Unit) => nullable_any N S rs a c W0 hok ((hR.keep hB0).mono (by omega))
  go_enter Try.func64, Try.ntmps64
  go_wp2
  go_step3
  go_wp2_with (go_at_call 43; refine (H43.out ()).mono ?_)
  rintro e W2 ⟨⟨v, rfl, so, hso, hl, hL⟩, hb2⟩
  obtain ⟨g, cp, rfl, hg1, hg2⟩ := row_at hso (by omega)
  have hs2 := hb2.size
  have hBw2 := below_of hB0 hb2
  have d0 : W2.cell? ⟨w.heap.size, 0, none⟩ = some (.int .i64 (N : Int)) := (hb2.cell (p := ⟨w.heap.size, 0, none⟩) (by simp; omega)).trans c0
  have d2 : W2.cell? ⟨w.heap.size, 2, none⟩ = some (.slice a rs.length c) := (hb2.cell (p := ⟨w.heap.size, 2, none⟩) (by simp; omega)).trans c2
  obtain ⟨W3, hW3⟩ : ∃ W3, W2.alloc (.cells (madeCells #[.int .u64 0, .int .u64 0, .int .u64 0, .int .u64 0] (N * 4)) 49) = W3 := ⟨_, rfl⟩
  have hB3 : Below W2.heap.size W2 W3 := by rw [← hW3]; exact (Below.refl _ _).alloc (Nat.le_refl _) _
  have hs3 : W3.heap.size = W2.heap.size + 1 := by rw [← hW3]; simp
  have d03 := (hB3.cell (p := ⟨w.heap.size, 0, none⟩) (by simp; omega)).trans d0
  have hT0 := Tab.made W3 (W2.heap.size + 1) N (by omega) (by unfold maxLen; omega)
  obtain ⟨W4, hW4⟩ : ∃ W4, W3.alloc (.cells (madeCells #[.slice none 0 0] N) 41) = W4 := ⟨_, rfl⟩
  have hB4 : Below W3.heap.size W3 W4 := by rw [← hW4]; exact (Below.refl _ _).alloc (Nat.le_refl _) _
  have hs4 : W4.heap.size = W2.heap.size + 2 := by rw [← hW4]; simp [hs3]
  have hB24 : Below W2.heap.size W2 W4 := hB3.trans (hB4.mono (by omega))
  have d24 := (hB24.cell (p := ⟨w.heap.size, 2, none⟩) (by simp; omega)).trans d2
  rw [hW4, hs3] at hT0
  have hM0 : OM W2 N (List.replicate N St.zero) (fun _ => []) (List.replicate N (.slice none 0 0)) W4 := by
    refine ⟨hB24, by omega, ?_, hT0⟩
    refine row_below (W := W3) ?_ hB4
    have := World.ownsRow_lit (e := 49) (size := 4) (base := W2.heap.size) W2 (madeCells #[.int .u64 0, .int .u64 0, .int .u64 0, .int .u64 0] (N * 4)) N (Nat.le_refl _) (by unfold maxLen; omega) (by rw [size_madeCells])
    rw [made4, hW3] at this; exact this
  clear c0 c1 c2 hW0 H43 hB0 hb2 d2 hT0 hB3 hB4
  go_wp2
  go_step3
  go_wp2
  clear hmk hmk4 hW3 hW4 d0 d03 d24 hs3 hs4 hB24
  go_loopw [22] (fun iv W => ∃ (k : Nat) (sets : List St) (vs : List Value), k ≤ rs.length ∧ iv = .int .i64 k ∧ OM W2 N sets (fun n => tkL rs so n k) vs W ∧ sets.length = N ∧ ∀ n, n < N → sets.getD n St.zero = ownL rs so n k) (fun iv _ => rs.length - (intOf iv).toNat)
  case atStart => exact ⟨0, _, _, by omega, rfl, hM0, by simp, fun n hn => by simp [ownL, List.getD_eq_getElem?_getD, hn]⟩
  case round =>
    clear hM0
    obtain ⟨k, sets, vs, hk, rfl, hM, hsl, hown⟩ := hrel
    have hsz := hM.siz
    have hBw : Below w.heap.size w wr := hBw2.trans (hM.bel.mono (by omega))
    by_cases hlt : k < rs.length
    · obtain ⟨r, hr⟩ : ∃ r, rs[k]? = some r := ⟨rs[k], by simp [hlt]⟩
      obtain ⟨b, o, sa, sc, rfl, hb, hK, e0', e1'⟩ := hR.cells k r hr
      have e0 := (hBw.cell (p := ⟨b, o + k * 2, none⟩) hb).trans e0'
      have e1 := (hBw.cell (p := ⟨b, o + k * 2 + 1, none⟩) hb).trans e1'
      clear e0' e1'
      have hrm := List.mem_of_getElem? hr
      have hsym := hok.sym r hrm
      have hkl := hok.rhs r hrm
      have hlh := hok.lhs r hrm
      obtain ⟨m, hm⟩ : ∃ m : Nat, r.lhs = m := ⟨r.lhs.toNat, by omega⟩
      have hmN : m < N := by omega
      rw [hm] at e0
      obtain ⟨RB, hRB⟩ : ∃ RB, wr.heap.size = RB := ⟨_, rfl⟩
      obtain ⟨W5, hW5⟩ : ∃ W5, wr.alloc (.cells #[.int .i64 (m : Int), .slice sa r.rhs.length sc] 52) = W5 := ⟨_, rfl⟩
      have hB5 : Below wr.heap.size wr W5 := by rw [← hW5]; exact (Below.refl _ _).alloc (Nat.le_refl _) _
      have hblk : W5.heap[RB]? = some (.cells #[.int .i64 (m : Int), .slice sa r.rhs.length sc] 52 (0, 0)) := by rw [← hW5, ← hRB]; exact blk_new _ _ _
      have f1 := blk_cell (j := 1) hblk rfl
      have hM5 : OM W2 N sets (fun n => tkL rs so n k ++ List.replicate (cnt n (r.rhs.take 0)) m) vs W5 := by have := hM.below hB5; simpa [cnt] using this
      have hU := fun n => tkL_len rs so n hok.rhs k
      go_wp2
      clear hW5 f1 e0 e1 hM
      go_loopw [29] (fun jv W => ∃ (j : Nat) (vs : List Value), j ≤ r.rhs.length ∧ jv = .int .i64 j ∧ OM W2 N sets (fun n => tkL rs so n k ++ List.replicate (cnt n (r.rhs.take j)) m) vs W ∧ (∀ x ∈ r.rhs.take j, 0 ≤ x.nt ∧ symSo pN so x = true) ∧ W.heap[RB]? = some (.cells #[.int .i64 (m : Int), .slice sa r.rhs.length sc] 52 (0, 0))) (fun jv _ => r.rhs.length - (intOf jv).toNat)
      case atStart => exact ⟨0, vs, by omega, rfl, hM5, by simp, hblk⟩
      case round =>
        clear hM5 hblk
        obtain ⟨j, vs1, hj, rfl, hM, hall, hblk⟩ := hrel
        have hsz := hM.siz
        have hBwi : Below w.heap.size w wr := hBw2.trans (hM.bel.mono (by omega))
        by_cases hlt2 : j < r.rhs.length
        · obtain ⟨s, hs⟩ : ∃ s, r.rhs[j]? = some s := ⟨r.rhs[j], by simp [hlt2]⟩
          obtain ⟨b2, o2, rfl, hb2, hso', k0, k1, k2, k3, k4⟩ := (hK.keep hBwi).cells j s hs
          have hss := hsym s (List.mem_of_getElem? hs)
          have hRBlt := heap_lt' hblk
          by_cases hneg : s.nt < 0
          · obtain ⟨ht1, ht2⟩ := takP_stop so r.rhs j s hs hall hneg
            obtain ⟨W6, hW6⟩ : ∃ W6, wr.alloc (.cells #[.int .i64 s.nt, .int .u64 s.set.a, .int .u64 s.set.b, .int .u64 s.set.c, .int .u64 s.set.d] 56) = W6 := ⟨_, rfl⟩
            have hB6 : Below wr.heap.size wr W6 := by rw [← hW6]; exact (Below.refl _ _).alloc (Nat.le_refl _) _
            have hs6 : W6.heap.size = wr.heap.size + 1 := by rw [← hW6]; simp
            have hM6 := hM.below hB6
            obtain ⟨z0, z1, z2, z3⟩ := set_cells hM6.sets hsl hmN
            have hz0' := hM6.sets.frozenAt (m * 4)
            have hz1' := hM6.sets.frozenAt (m * 4 + 1)
            have hz2' := hM6.sets.frozenAt (m * 4 + 2)
            have hz3' := hM6.sets.frozenAt (m * 4 + 3)
            have y0 : W6.cell? ⟨wr.heap.size, 0, none⟩ = some (.int .i64 s.nt) := by rw [← hW6]; exact cell_new 0 rfl
            have y1 : W6.cell? ⟨wr.heap.size, 1, none⟩ = some (.int .u64 s.set.a) := by rw [← hW6]; exact cell_new 1 rfl
            have y2 : W6.cell? ⟨wr.heap.size, 2, none⟩ = some (.int .u64 s.set.b) := by rw [← hW6]; exact cell_new 2 rfl
            have y3 : W6.cell? ⟨wr.heap.size, 3, none⟩ = some (.int .u64 s.set.c) := by rw [← hW6]; exact cell_new 3 rfl
            have y4 : W6.cell? ⟨wr.heap.size, 4, none⟩ = some (.int .u64 s.set.d) := by rw [← hW6]; exact cell_new 4 rfl
            have y5 : W6.cell? ⟨RB, 0, none⟩ = some (.int .i64 (m : Int)) := blk_cell (j := 0) ((hB6.block RB hRBlt).trans hblk) rfl
            have hl6 : W2.heap.size < W6.heap.size := by omega
            have hl7 : RB < W6.heap.size := by omega
            have hl8 : wr.heap.size < W6.heap.size := by omega
            have hmI : (m : Int) < N := by omega
            have hsm : (sets.getD m St.zero).ok := by rw [hown m hmN]; exact ownL_ok rs so m hsets k
            have HU : Hid _ := fun (W : World) => or_any (sets.getD m St.zero) s.set W hsm hso'
            have HTK : Hid _ := tk_close rs so k m hr hm ht1
            have HOW : Hid (∀ n, n < N → (sets.set m ((sets.getD m St.zero).or s.set)).getD n St.zero = ownL rs so n (k + 1)) := fun n hn => by
              rw [getD_set_st _ _ _ _ (by omega), own_close rs so k m n hr hm, ht2]
              split
              · rename_i e; rw [e, hown m hmN]
              · exact hown n hn
            have HPUT : Hid (∀ {W : World}, Below W6.heap.size W6 W → OM W2 N (sets.set m ((sets.getD m St.zero).or s.set)) (fun n => tkL rs so n k ++ List.replicate (cnt n (r.rhs.take j)) m) vs1 (put4 W W2.heap.size (m * 4) ((sets.getD m St.zero).or s.set))) := fun hb => (hM6.below hb).put (by omega) _
            rw [HTK.out] at HPUT
            have hsl2 : (sets.set m ((sets.getD m St.zero).or s.set)).length = N := by rw [List.length_set]; exact hsl
            have HSL : Hid _ := hsl2
            generalize sets.set m ((sets.getD m St.zero).or s.set) = sets2 at *
            obtain ⟨u, hu⟩ : ∃ u, (sets.getD m St.zero).or s.set = u := ⟨_, rfl⟩
            rw [hu] at HU HPUT
            clear hu hsl2
            generalize sets.getD m St.zero = q at *
            clear hM hM6 hB6 hown hall HTK ht1 ht2
            go_wp2
            go_region_with (go_at_call 66; refine (HU.out _).mono ?_; rintro e w3 ⟨rfl, hb3⟩; have q0 := (hb3.cell (p := ⟨W2.heap.size, m * 4, none⟩) hl6).trans z0; have q1 := (hb3.cell (p := ⟨W2.heap.size, m * 4 + 1, none⟩) hl6).trans z1; have q2 := (hb3.cell (p := ⟨W2.heap.size, m * 4 + 2, none⟩) hl6).trans z2; have q3 := (hb3.cell (p := ⟨W2.heap.size, m * 4 + 3, none⟩) hl6).trans z3; have r0 := (hb3.frozen (p := ⟨W2.heap.size, m * 4, none⟩) hl6).trans hz0'; have r1 := (hb3.frozen (p := ⟨W2.heap.size, m * 4 + 1, none⟩) hl6).trans hz1'; have r2 := (hb3.frozen (p := ⟨W2.heap.size, m * 4 + 2, none⟩) hl6).trans hz2'; have r3 := (hb3.frozen (p := ⟨W2.heap.size, m * 4 + 3, none⟩) hl6).trans hz3'; have q5 := (hb3.cell (p := ⟨RB, 0, none⟩) hl7).trans y5)
            all_goals go_wp2
            all_goals exact ⟨⟨k + 1, sets2, vs1, by omega, by go_num, HPUT.out ⟨hb3.os, hb3.tape, hb3.output, hb3.size, hb3.block⟩, HSL.out, HOW.out⟩, by simp [intOf]; omega⟩
          · obtain ⟨x, hx⟩ : ∃ x : Nat, s.nt = x := ⟨s.nt.toNat, by omega⟩
            have hxN : x < N := by omega
            obtain ⟨W6, hW6⟩ : ∃ W6, wr.alloc (.cells #[.int .i64 (x : Int), .int .u64 s.set.a, .int .u64 s.set.b, .int .u64 s.set.c, .int .u64 s.set.d] 56) = W6 := ⟨_, rfl⟩
            have hB6 : Below wr.heap.size wr W6 := by rw [← hW6]; exact (Below.refl _ _).alloc (Nat.le_refl _) _
            have hs6 : wr.heap.size + 1 ≤ W6.heap.size := by rw [← hW6]; simp
            have hM6 := hM.below hB6
            have hblk6 := (hB6.block RB hRBlt).trans hblk
            obtain ⟨v, hv⟩ : ∃ v, vs1[x]? = some v := ⟨vs1[x]'(by rw [hM.tab.len]; exact hxN), by simp⟩
            have hrow := hM.tab.inner x v hv
            have hrow2 := hM6.tab.inner x v hv
            have hcv := hM6.tab.row.cellAt x (by omega)
            rw [hv] at hcv
            have hfz := hM6.tab.row.frozenAt x
            have hlv : (tkL rs so x k ++ List.replicate (cnt x (List.take j r.rhs)) m).length ≤ 1000000 := by
              have h1 := hU x
              have h2 := cnt_le x (List.take j r.rhs)
              rw [List.length_take] at h2
              rw [List.length_append, List.length_replicate]; omega
            have hne1 : v.ownBlock ≠ some wr.heap.size := fun e => by have := (hrow.lt _ e).2; omega
            have hne2 : v.ownBlock ≠ some (W2.heap.size + 1) := fun e => by
              have := row_ne hrow hM.tab.row (by decide)
              rw [e] at this
              simp [Value.ownBlock] at this
            have hne3 : v.ownBlock ≠ some RB := row_ne_blk hrow hblk (by decide)
            have hneT : RB ≠ W2.heap.size + 1 := fun e => row_ne_blk hM.tab.row hblk (by decide) (by rw [e]; rfl)
            have hneS : v.ownBlock = none ∨ v.ownBlock ≠ some W2.heap.size := by
              cases hvb : v.ownBlock with
              | none => exact .inl rfl
              | some q => right; intro e; have := (hrow.lt q hvb).1; simp at e; omega
            have hxI : (x : Int) < N := by omega
            rw [hx] at k0
            have T : US2 wr.heap.size RB (W2.heap.size + 1) x m v W6 := ⟨by rw [← hW6]; exact cell_new 0 rfl, blk_cell (j := 0) hblk6 rfl, hcv, hfz, by omega, by omega, by omega⟩
            have HF : Hid _ := tk_step rs so k j x m hs hx
            have hsc := getD_cell hso x hxN
            have hneg' : decide ((x : Int) < 0) = false := by simp
            clear hcv hfz hrow
            have t0 := T.bx
            go_wp2
            clear t0
            go_cut [29] from 29 to 67 (fun s29 wc => s29 = .int .i64 ((j : Nat) : Int) ∧ ∃ vs2, OM W2 N sets (fun n => tkL rs so n k ++ List.replicate (cnt n (r.rhs.take (j + 1))) m) vs2 wc ∧ wc.heap[RB]? = some (.cells #[.int .i64 (m : Int), .slice (some ⟨b2, o2, none⟩) r.rhs.length sc] 52 (0, 0)) ∧ wc.cell? ⟨wr.heap.size, 0, none⟩ = some (.int .i64 (x : Int)))
            case first =>
              have HN : Hid (∀ j u, [Value.int .i64 ((m : Nat) : Int)][j]? = some u → (W6.alloc (.cells #[.int .i64 ((m : Nat) : Int)] 3)).drew.cell? ((⟨W6.heap.size, 0, none⟩ : Addr).add j) = some u) := cell_one_new W6 (.int .i64 ((m : Nat) : Int)) 3
              have t1 := T.bx
              have t3 := T.bz
              have t2 := T.tb
              obtain ⟨xs, HX⟩ : ∃ xs, Hid (tkL rs so x k ++ List.replicate (cnt x (List.take j r.rhs)) m = xs) := ⟨_, rfl⟩
              rw [HX.out] at hrow2 hlv
              have a1 := (T.alloc (.cells #[.int .i64 ((m : Nat) : Int)] 3)).bx
              have a2 := (T.alloc (.cells #[.int .i64 ((m : Nat) : Int)] 3)).tb
              have a3 := (T.alloc (.cells #[.int .i64 ((m : Nat) : Int)] 3)).bz
              go_region_law (refine step_append_lies _ (by rfl) _ _ _ (by rfl) (W2.heap.size + 1) 3 i0 _ 1 8 Try.underlying41 hinf hz0 hz1 hz2 rfl (by omega) v xs.length (intsV xs) (by rfl) (by first | exact (hrow2.alloc _).drew | exact (hrow2.drew.alloc _)) ⟨W6.heap.size, 0, none⟩ 1 1 [.int .i64 ((m : Nat) : Int)] (by rfl) (by rfl) HN.out (by simp [Value.oneCell']) (by omega) (by unfold maxLen; omega) (by omega) (by simp; omega) (W6.heap.size + 1) (by simp) ?_; intro g1 cap1 w1 hown1 hgrow hat hlt1; replace T : US2 wr.heap.size RB (W2.heap.size + 1) x m v w1 := (by first | exact US2.grown (T.alloc _).drew hgrow hne1 hne2 hne3 | exact US2.grown (T.drew.alloc _) hgrow hne1 hne2 hne3); have f1 := T.fz; have f2 := T.tb; have f3 := T.bx; have f4 := T.bz)
              all_goals go_wp2_with fail
              all_goals go_meet
              all_goals refine ⟨rfl, vs1.set x (.slice (some ⟨g1, 0, none⟩) (xs.length + 1) cap1), ⟨?_, ?_, ?_, ?_⟩, ?_, ?_⟩
              any_goals (with_reducible exact blk_fin hblk6 hgrow hne3 hneT)
              any_goals (with_reducible exact (World.cell?_setCell_far _ _ _ _ (by show W2.heap.size + 1 ≠ wr.heap.size; omega)).trans T.bx)
              any_goals (with_reducible exact ((((hM6.bel.alloc (by omega) (.cells #[.int .i64 ((m : Nat) : Int)] 3)).drew).grown hgrow (by simp; omega) (fun q hq => by have := (hrow2.lt q hq).1; omega)).setCell (p := ⟨W2.heap.size + 1, x, none⟩) (by show W2.heap.size ≤ W2.heap.size + 1; omega) _))
              any_goals (with_reducible exact OMfin hM6.siz hgrow)
              any_goals (with_reducible exact OMset hM6.sets hgrow hneS)
              all_goals (rw [HF.out]; exact USfin hM.tab hv HX hB6 rfl hown1 hgrow hat)
            case rest =>
              obtain ⟨rfl, vs2, hM2, hblk2, hbx⟩ := hcut
              have hsc2 : wc.cell? ⟨g, x, none⟩ = some (.bool (so.getD x false)) := (hM2.bel.cell (p := ⟨g, x, none⟩) hg2).trans hsc
              have HSO : Hid (symSo pN so s = so.getD x false) := by show _ = _; unfold symSo; rw [if_neg (by omega), hx]; rfl
              cases hq : so.getD x false with
              | false =>
                rw [hq] at hsc2 HSO
                obtain ⟨ht1, ht2⟩ := takP_end so r.rhs j s hs hall (by omega) HSO.out
                have HTK : Hid _ := tk_close rs so k m hr hm ht1
                rw [HTK.out] at hM2
                have HOW : Hid (∀ n, n < N → sets.getD n St.zero = ownL rs so n (k + 1)) := fun n hn => by
                  rw [own_close rs so k m n hr hm, ht2, or_zero, hown n hn]; split <;> rfl
                clear hown hall ht1 ht2 HTK HSO hq
                go_wp2
                exact ⟨⟨k + 1, sets, vs2, by omega, by go_num, hM2, hsl, HOW.out⟩, by simp [intOf]; omega⟩
              | true =>
                rw [hq] at hsc2 HSO
                have HALL : Hid (∀ x ∈ r.rhs.take (j + 1), 0 ≤ x.nt ∧ symSo pN so x = true) := fun y hy => by
                  rw [List.take_add_one, hs] at hy
                  rcases List.mem_append.1 hy with hy | hy
                  · exact hall y hy
                  · simp at hy; subst hy; exact ⟨by omega, HSO.out⟩
                clear hall hq
                go_wp2
                exact ⟨⟨j + 1, vs2, by omega, by go_num, hM2, HALL.out, hblk2⟩, by simp [intOf]; omega⟩
        · obtain rfl : j = r.rhs.length := by omega
          rw [List.take_length] at hall
          obtain ⟨ht1, ht2⟩ := takP_all so r.rhs hall
          have HTK : Hid _ := tk_close rs so k m hr hm ht1
          rw [List.take_length, HTK.out] at hM
          have HOW : Hid (∀ n, n < N → sets.getD n St.zero = ownL rs so n (k + 1)) := fun n hn => by
            rw [own_close rs so k m n hr hm, ht2, or_zero, hown n hn]; split <;> rfl
          clear hown
          go_wp2
          exact ⟨⟨k + 1, sets, vs1, by omega, by go_num, hM, hsl, HOW.out⟩, by simp [intOf]; omega⟩
    · obtain rfl : k = rs.length := by omega
      have HOW : Hid _ := hown
      clear hown
      go_wp2
      try rw [Exit.noGoto_ret]
      go_ret2
      exact ⟨W2, sets, vs, so, rfl, by omega, hM, hsl, HOW.out, hL, hBw⟩
end Go.Proofs.Ytopbibhpekjaeaa
