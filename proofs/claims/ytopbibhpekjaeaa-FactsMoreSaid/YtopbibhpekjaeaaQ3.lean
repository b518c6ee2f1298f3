/- Lengths that know of bytes alone. -/
import Derived.Test.YtopbibhpekjaeaaQ2
namespace Go.Proofs.Ytopbibhpekjaeaa
open Go.RowKit

def nil513 : List Value := List.replicate 513 (Value.slice none 0 0)
theorem nil513_len : nil513.length = 513 := List.length_replicate
theorem nil513_get (i : Nat) (v : Value) (h : nil513[i]? = some v) : v = .slice none 0 0 := (List.mem_replicate.1 (List.mem_of_getElem? (l := List.replicate 513 (Value.slice none 0 0)) h)).2
theorem zero90 (x0 x1 x2 x3 x4 : Value) : (((((Try.zeroCells90.setIfInBounds 0 x0).setIfInBounds 1 x1).setIfInBounds 2 x2).setIfInBounds 3 x3).setIfInBounds 4 x4) = ([x0, x1, x2] ++ ([x3, x4] ++ nil513)).toArray := by kernel_rfl
def f00 (R : Nat) : Nat → List Nat := fun i => if i = 0 ∨ i = 1 then List.replicate R 0 else []
theorem LB.made (W0 : World) (R g1 g2 : Nat) (x0 x1 x2 : Value) (hR : R ≤ 8192) (hg : (g1 = W0.heap.size ∧ g2 = W0.heap.size + 1) ∨ (g1 = W0.heap.size + 1 ∧ g2 = W0.heap.size)) :
    LB (((W0.alloc (.cells (madeCells #[.int .i64 0] R) 3)).alloc (.cells (madeCells #[.int .i64 0] R) 3)).alloc (.cells ([x0, x1, x2] ++ ([Value.slice (some ⟨g1, 0, none⟩) R R, Value.slice (some ⟨g2, 0, none⟩) R R] ++ nil513)).toArray 90)).drew W0.heap.size (W0.heap.size + 1 + 1) [x0, x1, x2] ([Value.slice (some ⟨g1, 0, none⟩) R R, Value.slice (some ⟨g2, 0, none⟩) R R] ++ nil513) (f00 R) := by
  have e : intsV (List.replicate R 0) = List.replicate R (.int .i64 0) := by simp [intsV]
  have r1 : (W0.alloc (.cells (madeCells #[.int .i64 0] R) 3)).ownsRow W0.heap.size 3 1 (.slice (some ⟨W0.heap.size, 0, none⟩) R R) R (intsV (List.replicate R 0)) := by
    have := World.ownsRow_lit (e := 3) (size := 1) (base := W0.heap.size) W0 (madeCells #[.int .i64 0] R) R (Nat.le_refl _) (by unfold maxLen; omega) (by rw [size_madeCells]; omega)
    rw [toList_madeCells_one] at this; rw [e]; exact this
  have r2 : ((W0.alloc (.cells (madeCells #[.int .i64 0] R) 3)).alloc (.cells (madeCells #[.int .i64 0] R) 3)).ownsRow W0.heap.size 3 1 (.slice (some ⟨W0.heap.size + 1, 0, none⟩) R R) R (intsV (List.replicate R 0)) := by
    have := World.ownsRow_lit (e := 3) (size := 1) (base := W0.heap.size) (W0.alloc (.cells (madeCells #[.int .i64 0] R) 3)) (madeCells #[.int .i64 0] R) R (by simp) (by unfold maxLen; omega) (by rw [size_madeCells]; omega)
    rw [toList_madeCells_one] at this; rw [e]; simpa using this
  have k1 : ∀ o, (((W0.alloc (.cells (madeCells #[.int .i64 0] R) 3)).alloc (.cells (madeCells #[.int .i64 0] R) 3)).alloc o).drew.ownsRow W0.heap.size 3 1 (.slice (some ⟨W0.heap.size, 0, none⟩) R R) R (intsV (List.replicate R 0)) := fun o => (r1.alloc _).alloc _
  have k2 : ∀ o, (((W0.alloc (.cells (madeCells #[.int .i64 0] R) 3)).alloc (.cells (madeCells #[.int .i64 0] R) 3)).alloc o).drew.ownsRow W0.heap.size 3 1 (.slice (some ⟨W0.heap.size + 1, 0, none⟩) R R) R (intsV (List.replicate R 0)) := fun o => r2.alloc _
  have hrep := nil513_get
  refine ⟨?_, rfl, by rw [List.length_append, nil513_len]; rfl, ⟨?_, ?_⟩⟩
  · show (World.alloc _ _).heap[_]? = _
    have := blk_new ((W0.alloc (.cells (madeCells #[.int .i64 0] R) 3)).alloc (.cells (madeCells #[.int .i64 0] R) 3)) ([x0, x1, x2] ++ ([Value.slice (some ⟨g1, 0, none⟩) R R, Value.slice (some ⟨g2, 0, none⟩) R R] ++ nil513)).toArray 90
    simp only [World.size_alloc] at this
    exact this
  · intro i v hv
    match i, hv with
    | 0, hv =>
      simp only [List.cons_append, List.getElem?_cons_zero, Option.some.injEq] at hv; subst hv
      simp only [f00, true_or, if_true, List.length_replicate]
      rcases hg with ⟨rfl, rfl⟩ | ⟨rfl, rfl⟩
      · exact k1 _
      · exact k2 _
    | 1, hv =>
      simp only [List.cons_append, List.getElem?_cons_zero, List.getElem?_cons_succ, Option.some.injEq] at hv; subst hv
      simp only [f00, or_true, if_true, List.length_replicate]
      rcases hg with ⟨rfl, rfl⟩ | ⟨rfl, rfl⟩
      · exact k2 _
      · exact k1 _
    | i + 2, hv =>
      rw [List.getElem?_append_right (Nat.le_add_left 2 i)] at hv
      obtain rfl := hrep _ v hv
      simp only [f00, show ¬ (i + 2 = 0 ∨ i + 2 = 1) by omega, if_false]
      exact World.ownsRow_nil _ _ _ _
  · intro i j v u hij hv hu
    have two : ∀ (i : Nat) (v : Value), ([Value.slice (some ⟨g1, 0, none⟩) R R, .slice (some ⟨g2, 0, none⟩) R R] ++ nil513)[i]? = some v → (i = 0 ∧ v = .slice (some ⟨g1, 0, none⟩) R R) ∨ (i = 1 ∧ v = .slice (some ⟨g2, 0, none⟩) R R) ∨ v = .slice none 0 0 := fun i v hv => by
      match i, hv with
      | 0, hv => simp only [List.cons_append, List.getElem?_cons_zero, Option.some.injEq] at hv; exact .inl ⟨rfl, hv.symm⟩
      | 1, hv => simp only [List.cons_append, List.getElem?_cons_zero, List.getElem?_cons_succ, Option.some.injEq] at hv; exact .inr (.inl ⟨rfl, hv.symm⟩)
      | i + 2, hv =>
        rw [List.getElem?_append_right (Nat.le_add_left 2 i)] at hv
        exact .inr (.inr (hrep _ v hv))
    rcases two i v hv with ⟨rfl, rfl⟩ | ⟨rfl, rfl⟩ | rfl
    · rcases two j u hu with ⟨rfl, rfl⟩ | ⟨rfl, rfl⟩ | rfl
      · omega
      · right; simp [Value.ownBlock]; omega
      · right; simp [Value.ownBlock]
    · rcases two j u hu with ⟨rfl, rfl⟩ | ⟨rfl, rfl⟩ | rfl
      · right; simp [Value.ownBlock]; omega
      · omega
      · right; simp [Value.ownBlock]
    · exact .inl rfl
theorem nl0 {f f' : Nat → List Nat} {R k x y : Nat} (hk : k < R) (h0 : (f' 0).length = R) (h1 : (f' 1).length = R) (hy : (f' 1).getD k 0 = y) (ho : ∀ q, q ≠ k → (f' 0).getD q 0 = (f 0).getD q 0 ∧ (f' 1).getD q 0 = (f 1).getD q 0) (hr : ∀ i, 2 ≤ i → f' i = f i) (g : Nat → List Nat) (hg : g = fun i => if i = 0 then (f' i).set k x else f' i) : ((g 0).length = R ∧ (g 1).length = R) ∧ ((g 0).getD k 0 = x ∧ (g 1).getD k 0 = y) ∧ (∀ q, q ≠ k → (g 0).getD q 0 = (f 0).getD q 0 ∧ (g 1).getD q 0 = (f 1).getD q 0) ∧ ∀ i, 2 ≤ i → g i = f i := by
  have e0 : g 0 = (f' 0).set k x := by rw [hg]; rfl
  have e1 : g 1 = f' 1 := by rw [hg]; rfl
  refine ⟨⟨by rw [e0, List.length_set]; exact h0, by rw [e1]; exact h1⟩, ⟨by rw [e0, getD_set_nat _ _ _ _ (by omega), if_pos rfl], by rw [e1]; exact hy⟩, fun q hq => ⟨?_, by rw [e1]; exact (ho q hq).2⟩, fun i hi => ?_⟩
  · rw [e0, getD_set_nat _ _ _ _ (by omega), if_neg hq]; exact (ho q hq).1
  · rw [hg]; show (if i = 0 then _ else _) = _; rw [if_neg (by omega)]; exact hr i hi
theorem nl1 {f f' : Nat → List Nat} {R k x y : Nat} (hk : k < R) (h0 : (f' 0).length = R) (h1 : (f' 1).length = R) (hy : (f' 0).getD k 0 = y) (ho : ∀ q, q ≠ k → (f' 0).getD q 0 = (f 0).getD q 0 ∧ (f' 1).getD q 0 = (f 1).getD q 0) (hr : ∀ i, 2 ≤ i → f' i = f i) (g : Nat → List Nat) (hg : g = fun i => if i = 1 then (f' i).set k x else f' i) : ((g 0).length = R ∧ (g 1).length = R) ∧ ((g 0).getD k 0 = y ∧ (g 1).getD k 0 = x) ∧ (∀ q, q ≠ k → (g 0).getD q 0 = (f 0).getD q 0 ∧ (g 1).getD q 0 = (f 1).getD q 0) ∧ ∀ i, 2 ≤ i → g i = f i := by
  have e0 : g 0 = f' 0 := by rw [hg]; rfl
  have e1 : g 1 = (f' 1).set k x := by rw [hg]; rfl
  refine ⟨⟨by rw [e0]; exact h0, by rw [e1, List.length_set]; exact h1⟩, ⟨by rw [e0]; exact hy, by rw [e1, getD_set_nat _ _ _ _ (by omega), if_pos rfl]⟩, fun q hq => ⟨by rw [e0]; exact (ho q hq).1, ?_⟩, fun i hi => ?_⟩
  · rw [e1, getD_set_nat _ _ _ _ (by omega), if_neg hq]; exact (ho q hq).2
  · rw [hg]; show (if i = 1 then _ else _) = _; rw [if_neg (by omega)]; exact hr i hi
set_option maxRecDepth 100000 in
set_option maxHeartbeats 16000000 in
theorem newLengths_any (N : Nat) (S : Int) (rs : List Rl) (a : Option Addr) (c : Nat) (w : World) (hok : Ok N rs) (hR : RAt w w.heap.size a rs) :
    Calls Try.prog 71 #[.agg #[.int .i64 (N : Int), .int .i64 S, .slice a rs.length c]] w fun e w' => ∃ (L : Nat) (vs : List Value) (f : Nat → List Nat), e = .returned (.pointer (some ⟨L, 0, none⟩)) ∧ w.heap.size + 1 ≤ L ∧ LB w' (w.heap.size + 1) L [.int .i64 (N : Int), .int .i64 S, .slice a rs.length c] vs f ∧ (f 0).length = rs.length ∧ (f 1).length = rs.length ∧ (∀ (k : Nat) (r : Rl), rs[k]? = some r → (f 0).getD k 0 = kn dn r.rhs) ∧ (∀ (k : Nat) (r : Rl), rs[k]? = some r → (f 1).getD k 0 = ms dn r.rhs) ∧ (∀ m, m ≤ 512 → f (2 + m) = rd0 rs m rs.length) ∧ Below w.heap.size w w' := by
  have hn1 := hok.n1
  have hn2 := hok.n2
  have hlen := hok.len
  have hmk := run_make_row' (P := Try.prog) 41 3 (.int .i64 0) 8 Try.underlying41 info3 rfl .i64 .i64 rs.length (by omega) (by omega)
  obtain ⟨W0, hW0⟩ : ∃ W0, w.alloc (.cells #[.int .i64 (N : Int), .int .i64 S, .slice a rs.length c] 24) = W0 := ⟨_, rfl⟩
  have hs0 : W0.heap.size = w.heap.size + 1 := by rw [← hW0]; simp
  have hB0 : Below w.heap.size w W0 := by rw [← hW0]; exact (Below.refl _ _).alloc (Nat.le_refl _) _
  have c0 : W0.cell? ⟨w.heap.size, 0, none⟩ = some (.int .i64 (N : Int)) := by rw [← hW0]; exact cell_new 0 rfl
  have c1 : W0.cell? ⟨w.heap.size, 1, none⟩ = some (.int .i64 S) := by rw [← hW0]; exact cell_new 1 rfl
  have c2 : W0.cell? ⟨w.heap.size, 2, none⟩ = some (.slice a rs.length c) := by rw [← hW0]; exact cell_new 2 rfl
  have hwl : w.heap.size < W0.heap.size := by omega
  have HS0 : Hid _ := hs0
  clear hs0
  go_enter Try.func71, Try.ntmps71
  go_wp2
  go_cut [3] from 8 (fun s3 wc => ∃ L vs, s3 = .pointer (some ⟨L, 0, none⟩) ∧ W0.heap.size ≤ L ∧ LB wc W0.heap.size L [.int .i64 (N : Int), .int .i64 S, .slice a rs.length c] vs (f00 rs.length) ∧ Below W0.heap.size W0 wc)
  case first =>
    go_region
    all_goals go_wp2_with fail
    all_goals go_meet
    all_goals rw [zero90]
    · exact ⟨_, _, rfl, by omega, LB.made W0 rs.length _ _ _ _ _ hlen (.inl ⟨rfl, rfl⟩), ((((Below.refl _ W0).alloc (Nat.le_refl _) _).alloc (by simp) _).alloc (by simp; omega) _).drew⟩
    · exact ⟨_, _, rfl, by omega, LB.made W0 rs.length _ _ _ _ _ hlen (.inr ⟨rfl, rfl⟩), ((((Below.refl _ W0).alloc (Nat.le_refl _) _).alloc (by simp) _).alloc (by simp; omega) _).drew⟩
  case rest =>
    obtain ⟨L, vs, rfl, hL, hLB, hBc⟩ := hcut
    have d2 := (hBc.cell (p := ⟨w.heap.size, 2, none⟩) hwl).trans c2
    clear hmk c0 c1
    go_wp2
    clear d2
    go_loopw [22] (fun kv W => ∃ (k : Nat) (vs : List Value) (f : Nat → List Nat), k ≤ rs.length ∧ kv = .int .i64 k ∧ LB W W0.heap.size L [.int .i64 (N : Int), .int .i64 S, .slice a rs.length c] vs f ∧ ((f 0).length = rs.length ∧ (f 1).length = rs.length) ∧ (∀ (q : Nat) (r : Rl), rs[q]? = some r → q < k → (f 0).getD q 0 = kn dn r.rhs ∧ (f 1).getD q 0 = ms dn r.rhs) ∧ (∀ q, k ≤ q → (f 0).getD q 0 = 0 ∧ (f 1).getD q 0 = 0) ∧ (∀ m, m ≤ 512 → f (2 + m) = rd0 rs m k) ∧ (∀ i, (f i).length ≤ 8192 + k) ∧ Below W0.heap.size W0 W) (fun kv _ => rs.length - (intOf kv).toNat)
    case atStart => exact ⟨0, vs, f00 rs.length, by omega, rfl, hLB, by simp [f00], fun q r _ h => by omega, fun q _ => by simp [f00, List.getD_eq_getElem?_getD, List.getElem?_replicate]; split <;> rfl, fun m _ => by unfold f00; rw [if_neg (by omega)]; rfl, fun i => by unfold f00; split <;> simp; omega, hBc⟩
    case round =>
      clear hLB hBc
      obtain ⟨k, vs1, f, hk, rfl, hLB, ⟨hf0, hf1⟩, hdone, hzero, hrd, hfl, hB⟩ := hrel
      have hsz := hB.size
      have hBw : Below w.heap.size w wr := hB0.trans (hB.mono (by omega))
      by_cases hlt : k < rs.length
      · obtain ⟨r, hr⟩ : ∃ r, rs[k]? = some r := ⟨rs[k], by simp [hlt]⟩
        obtain ⟨b, o, sa, sc, rfl, hb, hK, e0', e1'⟩ := hR.cells k r hr
        have e0 := (hBw.cell (p := ⟨b, o + k * 2, none⟩) hb).trans e0'
        have e1 := (hBw.cell (p := ⟨b, o + k * 2 + 1, none⟩) hb).trans e1'
        clear e0' e1'
        have hrm := List.mem_of_getElem? hr
        have hkl := hok.rhs r hrm
        have hLl := hLB.lt
        have hLB5 := hLB.below ((Below.refl _ wr).alloc (Nat.le_refl _) (.cells #[.int .i64 r.lhs, .slice sa r.rhs.length sc] 52))
        have hB5 := hB.alloc hsz (.cells #[.int .i64 r.lhs, .slice sa r.rhs.length sc] 52)
        have hz := hzero k (Nat.le_refl _)
        go_wp2
        go_loopw [30] (fun jv W => ∃ (j : Nat) (vs : List Value) (f' : Nat → List Nat), j ≤ r.rhs.length ∧ jv = .int .i64 j ∧ LB W W0.heap.size L [.int .i64 (N : Int), .int .i64 S, .slice (some ⟨b, o, none⟩) rs.length c] vs f' ∧ ((f' 0).length = rs.length ∧ (f' 1).length = rs.length) ∧ ((f' 0).getD k 0 = kn dn (r.rhs.take j) ∧ (f' 1).getD k 0 = ms dn (r.rhs.take j)) ∧ (∀ q, q ≠ k → (f' 0).getD q 0 = (f 0).getD q 0 ∧ (f' 1).getD q 0 = (f 1).getD q 0) ∧ (∀ i, 2 ≤ i → f' i = f i) ∧ Below W0.heap.size W0 W) (fun jv _ => r.rhs.length - (intOf jv).toNat)
        case atStart => exact ⟨0, vs1, f, by omega, rfl, hLB5, ⟨hf0, hf1⟩, by simp [kn, ms]; simpa [List.getD_eq_getElem?_getD] using hz, fun _ _ => ⟨rfl, rfl⟩, fun _ _ => rfl, hB5⟩
        case round =>
          clear hLB5 hB5 hz hLB hLl e0 e1
          obtain ⟨j, vs2, f', hj, rfl, hLB, ⟨hg0, hg1⟩, ⟨hgk, hgm⟩, hoth, hrest, hB⟩ := hrel
          have hszi := hB.size
          have hBwi : Below w.heap.size w wr := hB0.trans (hB.mono (by omega))
          by_cases hlt2 : j < r.rhs.length
          · obtain ⟨s, hs⟩ : ∃ s, r.rhs[j]? = some s := ⟨r.rhs[j], by simp [hlt2]⟩
            obtain ⟨b2, o2, rfl, hb2, hso', k0, k1, k2, k3, k4⟩ := (hK.keep hBwi).cells j s hs
            obtain ⟨hkn, hms⟩ := kn_take hs
            have hknl := (kn_le (r.rhs.take j)).1
            have hmsl := (kn_le (r.rhs.take j)).2
            rw [List.length_take] at hknl hmsl
            obtain ⟨W6, hW6⟩ : ∃ W6, wr.alloc (.cells #[.int .i64 s.nt, .int .u64 s.set.a, .int .u64 s.set.b, .int .u64 s.set.c, .int .u64 s.set.d] 56) = W6 := ⟨_, rfl⟩
            have hB6 : Below wr.heap.size wr W6 := by rw [← hW6]; exact (Below.refl _ _).alloc (Nat.le_refl _) _
            have hLB6 := hLB.below hB6
            have hB96 : Below W0.heap.size W0 W6 := hB.trans (hB6.mono hszi)
            have y0 : W6.cell? ⟨wr.heap.size, 0, none⟩ = some (.int .i64 s.nt) := by rw [← hW6]; exact cell_new 0 rfl
            have y1 : W6.cell? ⟨wr.heap.size, 1, none⟩ = some (.int .u64 s.set.a) := by rw [← hW6]; exact cell_new 1 rfl
            have y2 : W6.cell? ⟨wr.heap.size, 2, none⟩ = some (.int .u64 s.set.b) := by rw [← hW6]; exact cell_new 2 rfl
            have y3 : W6.cell? ⟨wr.heap.size, 3, none⟩ = some (.int .u64 s.set.c) := by rw [← hW6]; exact cell_new 3 rfl
            have y4 : W6.cell? ⟨wr.heap.size, 4, none⟩ = some (.int .u64 s.set.d) := by rw [← hW6]; exact cell_new 4 rfl
            have hkI : (k : Int) < rs.length := by omega
            obtain ⟨kb, kc, kv1, kv2, kv3, kv4, kv5, kv6⟩ := hLB6.kcell (i := 0) (by omega) hg0 hlt hgk
            obtain ⟨mb, mc, mv1, mv2, mv3, mv4, mv5, mv6⟩ := hLB6.kcell (i := 1) (by omega) hg1 hlt hgm
            have hLl6 := hLB6.lt
            have HLB6 : Hid _ := hLB6
            have HOTH : Hid _ := hoth
            have HREST : Hid _ := hrest
            have HHB : Hid _ := fun (W : World) => hasByte_any s.set W
            generalize kn dn (r.rhs.take j) = x at *
            generalize ms dn (r.rhs.take j) = y at *
            clear hLB hLB6 hoth hrest hB6 hB
            by_cases hneg : s.nt < 0
            · cases ha : s.set.any with
              | true =>
                rw [ha] at HHB
                rw [if_pos ⟨hneg, ha⟩] at hkn hms
                have HPUT : Hid (∀ {W : World}, Below W6.heap.size W6 W → LB (W.setCell ⟨kb, k, none⟩ (.int .i64 ((x : Int) + 1))) W0.heap.size L [.int .i64 (N : Int), .int .i64 S, .slice (some ⟨b, o, none⟩) rs.length c] vs2 (fun i => if i = 0 then (f' i).set k (x + 1) else f' i)) := fun hb => by
                  have := (HLB6.out.below hb).put (r := k) (x := x + 1) kv1 hg0
                  rw [show ((x + 1 : Nat) : Int) = (x : Int) + 1 by omega] at this; exact this
                have HALL : Hid _ := nl0 (x := x + 1) hlt hg0 hg1 hgm HOTH.out HREST.out _ rfl
                have HKN : Hid _ := hkn
                have HMS : Hid _ := hms
                clear hkn hms ha mv1 mv2 mv3 mv4 mv5 mv6 hgk hgm kv1
                go_wp2_with (go_at_call 63; refine (HHB.out _).mono ?_; rintro e w3 ⟨rfl, hb3⟩; have p1 := (hb3.cell (p := ⟨L, 3, none⟩) hLl6).trans kv2; have p2 := (hb3.cell (p := ⟨kb, k, none⟩) kv5).trans kv3; have p3 := (hb3.frozen (p := ⟨kb, k, none⟩) kv5).trans kv4)
                refine ⟨⟨j + 1, vs2, _, by omega, by go_num, HPUT.out hb3, HALL.out.1, ?_, HALL.out.2.2.1, HALL.out.2.2.2, ?_⟩, by simp [intOf]; omega⟩
                · rw [HKN.out, HMS.out]; exact HALL.out.2.1
                · exact (hB96.trans (hb3.mono hB96.size)).setCell (p := ⟨kb, k, none⟩) kv6 _
              | false =>
                rw [ha] at HHB
                rw [if_neg (by rw [ha]; simp)] at hkn hms
                have HPUT : Hid (∀ {W : World}, Below W6.heap.size W6 W → LB (W.setCell ⟨mb, k, none⟩ (.int .i64 ((y : Int) + 1))) W0.heap.size L [.int .i64 (N : Int), .int .i64 S, .slice (some ⟨b, o, none⟩) rs.length c] vs2 (fun i => if i = 1 then (f' i).set k (y + 1) else f' i)) := fun hb => by
                  have := (HLB6.out.below hb).put (r := k) (x := y + 1) mv1 hg1
                  rw [show ((y + 1 : Nat) : Int) = (y : Int) + 1 by omega] at this; exact this
                have HALL : Hid _ := nl1 (x := y + 1) hlt hg0 hg1 hgk HOTH.out HREST.out _ rfl
                have HKN : Hid _ := hkn
                have HMS : Hid _ := hms
                clear hkn hms ha kv1 kv2 kv3 kv4 kv5 kv6 hgk hgm mv1
                go_wp2_with (go_at_call 63; refine (HHB.out _).mono ?_; rintro e w3 ⟨rfl, hb3⟩; have p1 := (hb3.cell (p := ⟨L, 4, none⟩) hLl6).trans mv2; have p2 := (hb3.cell (p := ⟨mb, k, none⟩) mv5).trans mv3; have p3 := (hb3.frozen (p := ⟨mb, k, none⟩) mv5).trans mv4)
                refine ⟨⟨j + 1, vs2, _, by omega, by go_num, HPUT.out hb3, HALL.out.1, ?_, HALL.out.2.2.1, HALL.out.2.2.2, ?_⟩, by simp [intOf]; omega⟩
                · rw [HKN.out, HMS.out]; exact HALL.out.2.1
                · exact (hB96.trans (hb3.mono hB96.size)).setCell (p := ⟨mb, k, none⟩) mv6 _
            · rw [if_neg (fun h => hneg h.1)] at hkn hms
              have hneg' : decide (s.nt < 0) = false := by simp; omega
              have HPUT : Hid (LB (W6.setCell ⟨mb, k, none⟩ (.int .i64 ((y : Int) + 1))) W0.heap.size L [.int .i64 (N : Int), .int .i64 S, .slice (some ⟨b, o, none⟩) rs.length c] vs2 (fun i => if i = 1 then (f' i).set k (y + 1) else f' i)) := by
                have := HLB6.out.put (r := k) (x := y + 1) mv1 hg1
                rw [show ((y + 1 : Nat) : Int) = (y : Int) + 1 by omega] at this; exact this
              have HALL : Hid _ := nl1 (x := y + 1) hlt hg0 hg1 hgk HOTH.out HREST.out _ rfl
              have HKN : Hid _ := hkn
              have HMS : Hid _ := hms
              have mv2' : W6.cell? ⟨L, 4, none⟩ = some (.slice (some ⟨mb, 0, none⟩) rs.length mc) := mv2
              clear hkn hms kv1 kv2 kv3 kv4 kv5 kv6 hgk hgm mv1 mv2 HHB
              go_wp2
              refine ⟨⟨j + 1, vs2, _, by omega, by go_num, HPUT.out, HALL.out.1, ?_, HALL.out.2.2.1, HALL.out.2.2.2, ?_⟩, by simp [intOf]; omega⟩
              · rw [HKN.out, HMS.out]; exact HALL.out.2.1
              · exact hB96.setCell (p := ⟨mb, k, none⟩) mv6 _
          · obtain rfl : j = r.rhs.length := by omega
            rw [List.take_length] at hgk hgm
            have hf'l : ∀ i, (f' i).length ≤ 8192 + k := fun i => by
              rcases Nat.lt_or_ge i 2 with h | h
              · have : i = 0 ∨ i = 1 := by omega
                rcases this with rfl | rfl <;> omega
              · rw [hrest i h]; exact hfl i
            have hknl := (kn_le r.rhs).1
            have H72 : Hid _ := fun (_ : Unit) => look_any N S rs (some ⟨b, o, none⟩) c W0.heap.size L k vs2 f' r wr hok ((hR.keep hBwi).mono (by omega)) hL (by omega) hr hLB hg0 hg1 (fun i => by have := hf'l i; omega) (by rw [hgk]; omega)
            rw [hgk, hgm] at H72
            have HDONE : Hid (∀ (g : Nat → List Nat), g = (if ms dn r.rhs = 0 ∧ kn dn r.rhs ≤ 512 then (fun i => if i = 2 + kn dn r.rhs then f' i ++ [r.lhs.toNat] else f' i) else f') → ((g 0).length = rs.length ∧ (g 1).length = rs.length) ∧ (∀ (q : Nat) (r : Rl), rs[q]? = some r → q < k + 1 → (g 0).getD q 0 = kn dn r.rhs ∧ (g 1).getD q 0 = ms dn r.rhs) ∧ (∀ q, k + 1 ≤ q → (g 0).getD q 0 = 0 ∧ (g 1).getD q 0 = 0) ∧ (∀ m, m ≤ 512 → g (2 + m) = rd0 rs m (k + 1)) ∧ ∀ i, (g i).length ≤ 8192 + (k + 1)) := fun g hg => by
              have e01 : g 0 = f' 0 ∧ g 1 = f' 1 := by
                rw [hg]; split
                · exact ⟨by show (if 0 = 2 + _ then _ else _) = _; rw [if_neg (by omega)], by show (if 1 = 2 + _ then _ else _) = _; rw [if_neg (by omega)]⟩
                · exact ⟨rfl, rfl⟩
              rw [e01.1, e01.2]
              refine ⟨⟨hg0, hg1⟩, fun q r' hr' hq => ?_, fun q hq => ?_, fun m hm => ?_, fun i => ?_⟩
              · by_cases e : q = k
                · subst e
                  rw [hr] at hr'
                  obtain rfl := Option.some.inj hr'
                  exact ⟨hgk, hgm⟩
                · rw [(hoth q e).1, (hoth q e).2]; exact hdone q r' hr' (by omega)
              · rw [(hoth q (by omega)).1, (hoth q (by omega)).2]; exact hzero q (by omega)
              · have e1 : rhsAt rs k = r.rhs := by unfold rhsAt; rw [hr]
                have e2 : lhsAt rs k = r.lhs := by unfold lhsAt; rw [hr]
                rw [rd0, e1, e2, ← hrd m hm, ← hrest (2 + m) (by omega), hg]
                by_cases hc : ms dn r.rhs = 0 ∧ kn dn r.rhs ≤ 512
                · rw [if_pos hc]
                  by_cases em : m = kn dn r.rhs
                  · rw [if_pos (show 2 + m = 2 + kn dn r.rhs by omega), if_pos ⟨hc.1, em.symm, hm, hlt⟩]
                  · rw [if_neg (show ¬ 2 + m = 2 + kn dn r.rhs by omega), if_neg (fun h => em h.2.1.symm), List.append_nil]
                · rw [if_neg hc, if_neg (fun h => hc ⟨h.1, by omega⟩), List.append_nil]
              · rw [hg]
                have := hf'l i
                split
                · show (if i = 2 + _ then _ else _ : List Nat).length ≤ _
                  split
                  · rw [List.length_append]; simp; omega
                  · omega
                · omega
            generalize (if ms dn r.rhs = 0 ∧ kn dn r.rhs ≤ 512 then (fun i => if i = 2 + kn dn r.rhs then f' i ++ [r.lhs.toNat] else f' i) else f') = g at *
            have HALL : Hid _ := HDONE.out g rfl
            clear HDONE hdone hzero hrd hfl hoth hrest hgk hgm hLB hf'l
            go_wp2_with (go_at_call 72; refine (H72.out ()).mono ?_; rintro e w3 ⟨rfl, ⟨vs3, hLB3⟩, hb3⟩)
            exact ⟨⟨k + 1, vs3, g, by omega, by go_num, hLB3, HALL.out.1, HALL.out.2.1, HALL.out.2.2.1, HALL.out.2.2.2.1, HALL.out.2.2.2.2, hB.trans hb3⟩, by simp [intOf]; omega⟩
      · obtain rfl : k = rs.length := by omega
        go_wp2
        go_ret
        exact ⟨L, vs1, f, rfl, by rw [← HS0.out]; exact hL, by rw [← HS0.out]; exact hLB, hf0, hf1, fun k r hr => (hdone k r hr (List.getElem?_eq_some_iff.1 hr).1).1, fun k r hr => (hdone k r hr (List.getElem?_eq_some_iff.1 hr).1).2, hrd, hBw⟩
end Go.Proofs.Ytopbibhpekjaeaa
