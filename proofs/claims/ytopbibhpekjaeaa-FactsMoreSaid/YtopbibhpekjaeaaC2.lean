/- Whether a nonterminal leads to itself. -/
import Derived.Test.YtopbibhpekjaeaaF2
namespace Go.Proofs.Ytopbibhpekjaeaa
open Go.RowKit

theorem tab_cell {W : World} {base gt tc N i : Nat} {f : Nat → List Nat} {vs : List Value} (h : Tab W base (.slice (some ⟨gt, 0, none⟩) N tc) N f vs) (hi : i < N) : ∃ a c, W.cell? ⟨gt, i, none⟩ = some (.slice a (f i).length c) ∧ W.ownsRow base 3 1 (.slice a (f i).length c) (f i).length (intsV (f i)) := by
  obtain ⟨v, hv⟩ : ∃ v, vs[i]? = some v := ⟨vs[i]'(by rw [h.len]; exact hi), by simp⟩
  have h1 := h.row.cellAt i (by omega)
  rw [hv] at h1
  have h2 := h.inner i v hv
  obtain ⟨a, c, rfl⟩ := row_slice h2
  exact ⟨a, c, h1, h2⟩
theorem ints_cell {W : World} {base j x : Nat} {l : List Nat} {a : Option Addr} {c : Nat} (h : W.ownsRow base 3 1 (.slice a l.length c) l.length (intsV l)) (hj : l[j]? = some x) : ∃ g, a = some ⟨g, 0, none⟩ ∧ base ≤ g ∧ g < W.heap.size ∧ W.cell? ⟨g, j, none⟩ = some (.int .i64 (x : Int)) := by
  have hlt := (List.getElem?_eq_some_iff.1 hj).1
  obtain ⟨g, c', he, h1, h2⟩ := row_at h (by omega)
  obtain ⟨rfl, rfl⟩ : a = some ⟨g, 0, none⟩ ∧ c = c' := by simp at he; exact ⟨he.1, he.2⟩
  refine ⟨g, rfl, h1, h2, ?_⟩
  rw [h.cellAt j (by omega)]
  simp [intsV, hj]
theorem intsV_set (l : List Nat) (m x : Nat) : intsV (l.set m x) = (intsV l).set m (.int .i64 (x : Int)) := by simp [intsV, List.map_set]
theorem tot_step (f : Nat → List Nat) (st : List Nat) (N i j b : Nat) (hl : st.length = N) (hb : (f i)[j]? = some b) (hbN : b < N) (h : ∀ n, n < N → st.getD n 0 = tot f n i + ((f i).take j).count n) : ∀ n, n < N → (st.set b (st.getD b 0 + 1)).getD n 0 = tot f n i + ((f i).take (j + 1)).count n := by
  intro n hn
  rw [getD_set_nat _ _ _ _ (by omega), List.take_add_one, hb, List.count_append, count_one]
  have := h n hn
  by_cases e : n = b
  · subst e; rw [if_pos rfl, if_pos rfl]; omega
  · rw [if_neg e, if_neg e]; omega
/-- Memory while it is found out: the table lies below W1's end, the steps at it, what is gone behind. -/
structure CM (W1 : World) (N : Nat) (st : List Nat) (gv : Value) (gone : List Nat) (W : World) : Prop where
  bel : Below W1.heap.size W1 W
  siz : W1.heap.size + 1 ≤ W.heap.size
  st : W.ownsRow W1.heap.size 3 1 (.slice (some ⟨W1.heap.size, 0, none⟩) N N) N (intsV st)
  gone : W.ownsRow (W1.heap.size + 1) 3 1 gv gone.length (intsV gone)
section
variable {W1 W W' : World} {N : Nat} {st gone : List Nat} {gv gv' : Value}
theorem CM.put (h : CM W1 N st gv gone W) (m x : Nat) : CM W1 N (st.set m x) gv gone (W.setCell ⟨W1.heap.size, m, none⟩ (.int .i64 (x : Int))) := by
  have hst := h.st.stored m (.int .i64 (x : Int))
  refine ⟨h.bel.setCell (p := ⟨W1.heap.size, m, none⟩) (Nat.le_refl _) _, by have := h.siz; simpa [World.setCell] using this, by rw [intsV_set]; exact hst.1, h.gone.kept hst.2 ?_⟩
  cases hv : gv.ownBlock with
  | none => exact .inl rfl
  | some g => right; intro e; have := (h.gone.lt g hv).1; simp at e; omega
theorem CM.app (h : CM W1 N st gv gone W) {x : Nat} (hg : (W.alloc (.cells #[.int .i64 (x : Int)] 3)).grownBy W' gv.ownBlock) (hown : W'.ownsRow (W1.heap.size + 1) 3 1 gv' (gone.length + 1) (intsV gone ++ [.int .i64 (x : Int)])) : CM W1 N st gv' (gone ++ [x]) W' := by
  have hb : Below (W1.heap.size + 1) W W' := ((Below.refl _ W).alloc h.siz (.cells #[.int .i64 (x : Int)] 3)).grown hg (by have := h.siz; simp; omega) (fun q hq => (h.gone.lt q hq).1)
  refine ⟨h.bel.trans (hb.mono (by omega)), Nat.le_trans h.siz hb.size, row_belowB h.st hb (fun g hg => ?_), by rw [intsV_snoc, List.length_append]; exact hown⟩
  have : W1.heap.size = g := by simpa [Value.ownBlock] using hg
  omega
end
theorem st_cell {W : World} {base g N c m : Nat} {st : List Nat} (h : W.ownsRow base 3 1 (.slice (some ⟨g, 0, none⟩) N c) N (intsV st)) (hm : m < N) : W.cell? ⟨g, m, none⟩ = some (.int .i64 ((st.getD m 0 : Nat) : Int)) := by
  have hl : st.length = N := by have := h.1; simpa [intsV] using this
  rw [h.cellAt m (by omega)]
  simp [intsV, List.getD_eq_getElem?_getD, hl, hm]
set_option maxRecDepth 100000 in
set_option maxHeartbeats 8000000 in
theorem cyclic_of (N : Nat) (S : Int) (rs : List Rl) (a : Option Addr) (c : Nat) (w : World) (hok : Ok N rs) (hR : RAt w w.heap.size a rs)
    (H : ∀ w, RAt w w.heap.size a rs → Calls Try.prog 74 #[.agg #[.int .i64 (N : Int), .int .i64 S, .slice a rs.length c]] w fun e w' => ∃ tv vs so, e = .returned tv ∧ Tab w' w.heap.size tv N (fun n => loneL rs so n rs.length) vs ∧ so.length = N ∧ (∀ m, so.getD m false = true ↔ Lf rs pN m) ∧ Below w.heap.size w w') :
    Calls Try.prog 58 #[.agg #[.int .i64 (N : Int), .int .i64 S, .slice a rs.length c]] w fun e w' => (∃ v, e = .returned v ∧ ∃ x, v = .bool x ∧ (x = true ↔ Cyc N rs)) ∧ Below w.heap.size w w' := by
  obtain ⟨i0, hinf, hz0, hz1, hz2⟩ := info_parts info3
  have hn1 := hok.n1
  have hn2 := hok.n2
  have hlen := hok.len
  have hmk := run_make_row' (P := Try.prog) 41 3 (.int .i64 0) 8 Try.underlying41 info3 rfl .i64 .i64 N (by omega) (by omega)
  obtain ⟨W0, hW0⟩ : ∃ W0, w.alloc (.cells #[.int .i64 (N : Int), .int .i64 S, .slice a rs.length c] 24) = W0 := ⟨_, rfl⟩
  have hs0 : W0.heap.size = w.heap.size + 1 := by rw [← hW0]; simp
  have hB0 : Below w.heap.size w W0 := by rw [← hW0]; exact (Below.refl _ _).alloc (Nat.le_refl _) _
  have c0 : W0.cell? ⟨w.heap.size, 0, none⟩ = some (.int .i64 (N : Int)) := by rw [← hW0]; exact cell_new 0 rfl
  have c1 : W0.cell? ⟨w.heap.size, 1, none⟩ = some (.int .i64 S) := by rw [← hW0]; exact cell_new 1 rfl
  have c2 : W0.cell? ⟨w.heap.size, 2, none⟩ = some (.slice a rs.length c) := by rw [← hW0]; exact cell_new 2 rfl
  have H74 : Hid _ := fun (_ : Unit) => H W0 ((hR.keep hB0).mono (by omega))
  go_enter Try.func58, Try.ntmps58
  go_wp2_with (go_at_call 74; refine (H74.out ()).mono ?_)
  rintro e W1 ⟨tv, vs, so, rfl, hT, hl, hL, hb1⟩
  have hs1 : w.heap.size + 1 ≤ W1.heap.size := by have := hb1.size; omega
  have d0 : W1.cell? ⟨w.heap.size, 0, none⟩ = some (.int .i64 (N : Int)) := (hb1.cell (p := ⟨w.heap.size, 0, none⟩) (by simp; omega)).trans c0
  have hBw1 := below_of hB0 hb1
  obtain ⟨gt, tc, rfl, hgt1, hgt2⟩ := row_at hT.row (by omega)
  obtain ⟨f, hf⟩ : ∃ f : Nat → List Nat, f = fun n => loneL rs so n rs.length := ⟨_, rfl⟩
  have hfl : ∀ n, (f n).length ≤ 655360 := fun n => by have := loneL_len rs so n hok.rhs rs.length; rw [hf]; show (loneL rs so n rs.length).length ≤ _; omega
  have hfN : ∀ a b, b ∈ f a → b < N := fun a b h => lead_lt hok ((loneL_lead hL a b).1 (by rw [hf] at h; exact h))
  have HC : Hid ((¬ ∃ rank : Nat → Nat, ∀ a b, a < N → b ∈ f a → rank a < rank b) ↔ Cyc N rs) := by
    show _ ↔ _
    unfold Cyc
    rw [hf]
    simp only [loneL_lead hL]
  rw [← hf] at hT
  clear hf
  have hCM0 : CM W1 N (List.replicate N 0) (.slice none 0 0) [] (W1.alloc (.cells (madeCells #[.int .i64 0] N) 3)) := by
    refine ⟨(Below.refl _ _).alloc (Nat.le_refl _) _, by simp, ?_, World.ownsRow_nil _ _ _ _⟩
    have := World.ownsRow_lit (e := 3) (size := 1) (base := W1.heap.size) W1 (madeCells #[.int .i64 0] N) N (Nat.le_refl _) (by unfold maxLen; omega) (by rw [size_madeCells]; omega)
    rw [toList_madeCells_one] at this
    simpa [intsV] using this
  have htot : ∀ n i, tot f n i ≤ i * 655360 := fun n i => tot_le f n 655360 hfl i
  clear hW0 hs0 hB0 c0 c1 c2 H74 hb1 hR hL hl
  go_wp2
  clear hmk
  go_loopw [22] (fun iv W => ∃ (i : Nat) (st : List Nat), i ≤ N ∧ iv = .int .i64 i ∧ CM W1 N st (.slice none 0 0) [] W ∧ st.length = N ∧ ∀ n, n < N → st.getD n 0 = tot f n i) (fun iv _ => N - (intOf iv).toNat)
  case atStart => exact ⟨0, _, by omega, rfl, hCM0, by simp, fun n hn => by simp [tot, List.getD_eq_getElem?_getD, hn]⟩
  case round =>
    clear hCM0
    obtain ⟨i, st, hi, rfl, hC, hsl, hst⟩ := hrel
    by_cases hlt : i < N
    · obtain ⟨va, vc, hv1', hv2⟩ := tab_cell hT hlt
      have hv1 := (hC.bel.cell (p := ⟨gt, i, none⟩) hgt2).trans hv1'
      have hlI : (i : Int) < N := by omega
      have hfli := hfl i
      go_wp2
      go_loopw [28] (fun jv W => ∃ (j : Nat) (st : List Nat), j ≤ (f i).length ∧ jv = .int .i64 j ∧ CM W1 N st (.slice none 0 0) [] W ∧ st.length = N ∧ ∀ n, n < N → st.getD n 0 = tot f n i + ((f i).take j).count n) (fun jv _ => (f i).length - (intOf jv).toNat)
      case atStart => exact ⟨0, st, by omega, rfl, hC, hsl, fun n hn => by rw [hst n hn]; simp⟩
      case round =>
        clear hC hst hsl hv1
        obtain ⟨j, st, hj, rfl, hC, hsl, hst⟩ := hrel
        by_cases hlt2 : j < (f i).length
        · obtain ⟨b, hb⟩ : ∃ b, (f i)[j]? = some b := ⟨(f i)[j], by simp [hlt2]⟩
          have hbN := hfN i b (List.mem_of_getElem? hb)
          have hst2 := tot_step f st N i j b hsl hb hbN hst
          have hcb := st_cell hC.st hbN
          have hfz := hC.st.frozenAt b
          have hvb : st.getD b 0 ≤ 4096 * 655360 + 655360 := by
            have h1 := hst b hbN
            have h2 := htot b i
            have h3 := List.count_le_length (a := b) (l := (f i).take j)
            rw [List.length_take] at h3
            have h4 : i * 655360 ≤ 4096 * 655360 := Nat.mul_le_mul_right _ (by omega)
            omega
          have hC2 := hC.put b (st.getD b 0 + 1)
          have hv3 := row_below hv2 hC.bel
          obtain ⟨gi, rfl, _, hgl, hcj⟩ := ints_cell hv3 hb
          have hbI : (b : Int) < N := by omega
          have HS2 : Hid _ := hst2
          clear hst2 hst
          generalize st.getD b 0 = x at *
          have HC2 : Hid (CM W1 N (st.set b (x + 1)) (.slice none 0 0) [] (wr.setCell ⟨W1.heap.size, b, none⟩ (.int .i64 ((x : Int) + 1)))) := by
            have e : ((x + 1 : Nat) : Int) = (x : Int) + 1 := by omega
            rw [e] at hC2; exact hC2
          clear hC2
          go_wp2
          exact ⟨⟨j + 1, st.set b (x + 1), by omega, by go_num, HC2.out, by rw [List.length_set]; exact hsl, HS2.out⟩, by simp [intOf]; omega⟩
        · obtain rfl : j = (f i).length := by omega
          rw [List.take_length] at hst
          go_wp2
          exact ⟨⟨i + 1, st, by omega, by go_num, hC, hsl, fun n hn => by rw [hst n hn]; rfl⟩, by simp [intOf]; omega⟩
    · obtain rfl : N = i := by omega
      have hst0 : ∀ n, n < N → st.getD n 0 = rem f [] n N := fun n hn => by rw [hst n hn, rem_nil]
      have hstb : ∀ n, n < N → st.getD n 0 ≤ 4096 * 655360 := fun n hn => by
        have h1 := hst n hn
        have h2 := htot n N
        have h4 : N * 655360 ≤ 4096 * 655360 := Nat.mul_le_mul_right _ (by omega)
        omega
      clear hst hlt hi
      go_wp2
      go_loopw [9, 42] (fun gv kv W => ∃ k : Nat, k ≤ N ∧ kv = .int .i64 k ∧ CM W1 N st gv ((List.range k).filter fun n => decide (st.getD n 0 = 0)) W) (fun _ kv _ => N - (intOf kv).toNat)
      case atStart => exact ⟨0, by omega, rfl, hC⟩
      case round =>
        clear hC
        obtain ⟨k, hk, rfl, hC⟩ := hrel
        have hszc := hC.siz
        by_cases hlt : k < N
        · have hcb := st_cell hC.st hlt
          have hkI : (k : Int) < N := by omega
          have HF : Hid (((List.range (k + 1)).filter fun n => decide (st.getD n 0 = 0)) = ((List.range k).filter fun n => decide (st.getD n 0 = 0)) ++ (if st.getD k 0 = 0 then [k] else [])) := by
            show _ = _
            rw [List.range_succ, List.filter_append]
            by_cases h0 : st.getD k 0 = 0
            · rw [if_pos h0]; simp only [List.filter_cons, h0, decide_true, if_true, List.filter_nil]
            · rw [if_neg h0]; simp only [List.filter_cons, h0, decide_false, List.filter_nil]; rfl
          have hgl : ((List.range k).filter fun n => decide (st.getD n 0 = 0)).length ≤ k := Nat.le_trans (List.length_filter_le _ _) (by simp)
          generalize ((List.range k).filter fun n => decide (st.getD n 0 = 0)) = gone at *
          by_cases h0 : st.getD k 0 = 0
          · rw [if_pos h0] at HF
            rw [h0] at hcb
            clear h0
            have hcb' : wr.cell? ⟨W1.heap.size, k, none⟩ = some (.int .i64 0) := hcb
            clear hcb
            go_wp2_with (at_builtin; refine wpList_append_own _ rfl _ _ 41 rfl (W1.heap.size + 1) 3 i0 (.int .i64 0) 1 8 Try.underlying41 hinf hz0 hz1 hz2 rfl (by decide) _ _ _ rfl (hC.gone.alloc _) ⟨wr.heap.size, 0, none⟩ 1 1 [.int .i64 ((k : Nat) : Int)] rfl rfl ?ca1 ?ca2 ?ca3 ?ca4 ?ca5 ?_)
            try case ca1 => exact cell_one_new _ _ _
            case ca2 => first | rfl | (intro u hu; simp at hu; subst hu; rfl)
            case ca3 => unfold maxLen; omega
            case ca4 => omega
            case ca5 => first | omega | (simp; omega)
            intro v' w3 hown' hgrow _
            have hC2 := hC.app hgrow hown'
            obtain ⟨g', cap', rfl, _⟩ := row_at hown' (by omega)
            go_wp2
            go_roundw
            case rel => exact ⟨k + 1, by omega, by go_num, by rw [HF.out]; exact hC2⟩
            case measure => simp [intOf]; omega
          · rw [if_neg h0, List.append_nil] at HF
            have h0' : (((st.getD k 0 : Nat) : Int) == 0) = false := by simp only [beq_eq_false_iff_ne]; omega
            generalize st.getD k 0 = x at *
            go_wp2
            exact ⟨⟨k + 1, by omega, by go_num, by rw [HF.out]; exact hC⟩, by simp [intOf]; omega⟩
        · obtain rfl : N = k := by omega
          have hK : KI N f st ((List.range N).filter fun n => decide (st.getD n 0 = 0)) 0 0 := by
            refine ⟨hsl, List.Pairwise.filter _ List.nodup_range, fun a ha => ?_, Nat.zero_le _, fun n hn => ?_, fun n hn => ?_, fun q b hb a ha hab => ?_⟩
            · have := (List.mem_filter.1 ha).1; simpa using this
            · rw [hst0 n hn]
              split <;> simp
            · simp [List.mem_filter, hn]
            · exfalso
              have hbm := List.mem_filter.1 (List.mem_of_getElem? hb)
              have hbN : b < N := by simpa using hbm.1
              have h0 : st.getD b 0 = 0 := by simpa using hbm.2
              have := rem_zero f [] b N (by rw [← hst0 b hbN]; exact h0) a ha hab
              cases this
          generalize ((List.range N).filter fun n => decide (st.getD n 0 = 0)) = gone at *
          clear hst0 hlt hk
          go_wp2
          go_loopw [9, 12] (fun gv iv W => ∃ (st gone : List Nat) (i : Nat), iv = .int .i64 i ∧ CM W1 N st gv gone W ∧ KI N f st gone i 0 ∧ ∀ n, n < N → st.getD n 0 ≤ 4096 * 655360) (fun _ iv _ => N + 1 - (intOf iv).toNat)
          case atStart => exact ⟨st, gone, 0, rfl, hC, hK, hstb⟩
          case round =>
            clear hC hK hstb hsl
            obtain ⟨st, gone, i, rfl, hC, hK, hstb⟩ := hrel
            have hgN := nodup_len hK.nodup hK.lt
            have hile := hK.le
            obtain ⟨ga, gc, rfl⟩ := row_slice hC.gone
            by_cases hlt : i < gone.length
            · obtain ⟨x, hx⟩ : ∃ x, gone[i]? = some x := ⟨gone[i], by simp [hlt]⟩
              have hxN := hK.lt x (List.mem_of_getElem? hx)
              obtain ⟨gg, rfl, _, hggl, hcx⟩ := ints_cell hC.gone hx
              obtain ⟨va, vc, hv1', hv2⟩ := tab_cell hT hxN
              have hv1 := (hC.bel.cell (p := ⟨gt, x, none⟩) hgt2).trans hv1'
              have hxI : (x : Int) < N := by omega
              have hiI : (i : Int) < gone.length := by omega
              have hflx := hfl x
              go_wp2
              go_loopw [9, 68] (fun gv jv W => ∃ (st gone : List Nat) (j : Nat), j ≤ (f x).length ∧ jv = .int .i64 j ∧ CM W1 N st gv gone W ∧ KI N f st gone i j ∧ gone[i]? = some x ∧ ∀ n, n < N → st.getD n 0 ≤ 4096 * 655360) (fun _ jv _ => (f x).length - (intOf jv).toNat)
              case atStart => exact ⟨st, gone, 0, by omega, rfl, hC, hK, hx, hstb⟩
              case round =>
                clear hC hK hstb hx hcx hv1 hv1' hgN hile hlt hiI
                obtain ⟨st, gone, j, hj, rfl, hC, hK, hx, hstb⟩ := hrel
                have hgN := nodup_len hK.nodup hK.lt
                have hszc := hC.siz
                have hile := (List.getElem?_eq_some_iff.1 hx).1
                by_cases hlt2 : j < (f x).length
                · obtain ⟨b, hb⟩ : ∃ b, (f x)[j]? = some b := ⟨(f x)[j], by simp [hlt2]⟩
                  have hbN := hfN x b (List.mem_of_getElem? hb)
                  have hpos := hK.pos hx hb hbN
                  have hsb := hstb b hbN
                  have hcb := st_cell hC.st hbN
                  have hfz := hC.st.frozenAt b
                  have hv3 := row_below hv2 hC.bel
                  obtain ⟨gi, rfl, _, hgl, hcj⟩ := ints_cell hv3 hb
                  have hbI : (b : Int) < N := by omega
                  have hsl := hK.len
                  by_cases h1 : st.getD b 0 = 1
                  · have HK2 : Hid _ := hK.drop hx hb hbN h1
                    have hC2 := hC.put b 0
                    have HST : Hid (∀ n, n < N → (st.set b 0).getD n 0 ≤ 4096 * 655360) := fun n hn => by
                      rw [getD_set_nat _ _ _ _ (by omega)]; split
                      · omega
                      · exact hstb n hn
                    have HX2 : Hid ((gone ++ [b])[i]? = some x) := by show _ = _; rw [List.getElem?_append_left hile]; exact hx
                    rw [h1] at hcb
                    have hcb' : wr.cell? ⟨W1.heap.size, b, none⟩ = some (.int .i64 1) := hcb
                    obtain ⟨W7, hW7⟩ : ∃ W7, wr.setCell ⟨W1.heap.size, b, none⟩ (.int .i64 0) = W7 := ⟨_, rfl⟩
                    have hC3 := hC2
                    rw [show (((0 : Nat) : Nat) : Int) = 0 from rfl, hW7] at hC3
                    have hcb7 : W7.cell? ⟨W1.heap.size, b, none⟩ = some (.int .i64 0) := by
                      have := st_cell hC3.st hbN
                      rw [getD_set_nat _ _ _ _ (by omega), if_pos rfl] at this
                      exact this
                    have hsz7 := hC3.siz
                    clear hcb h1 hC2 hC hK hx hb hstb
                    go_wp2_with (at_builtin; refine wpList_append_own _ rfl _ _ 41 rfl (W1.heap.size + 1) 3 i0 (.int .i64 0) 1 8 Try.underlying41 hinf hz0 hz1 hz2 rfl (by decide) _ _ _ rfl (hC3.gone.alloc _) ⟨W7.heap.size, 0, none⟩ 1 1 [.int .i64 ((b : Nat) : Int)] rfl rfl ?cb1 ?cb2 ?cb3 ?cb4 ?cb5 ?_)
                    try case cb1 => exact cell_one_new _ _ _
                    case cb2 => first | rfl | (intro u hu; simp at hu; subst hu; rfl)
                    case cb3 => unfold maxLen; omega
                    case cb4 => omega
                    case cb5 => first | omega | (simp; omega)
                    intro v' w3 hown' hgrow _
                    have hC4 := hC3.app hgrow hown'
                    obtain ⟨g', cap', rfl, _⟩ := row_at hown' (by omega)
                    go_wp2
                    go_roundw
                    case rel => exact ⟨st.set b 0, gone ++ [b], j + 1, by omega, by go_num, hC4, HK2.out, HX2.out, HST.out⟩
                    case measure => simp [intOf]; omega
                  · have HK2 : Hid _ := hK.dec hx hb hbN h1
                    have hC2 := hC.put b (st.getD b 0 - 1)
                    have HST : Hid (∀ n, n < N → (st.set b (st.getD b 0 - 1)).getD n 0 ≤ 4096 * 655360) := fun n hn => by
                      rw [getD_set_nat _ _ _ _ (by omega)]; split
                      · omega
                      · exact hstb n hn
                    have HX2 : Hid (gone[i]? = some x) := hx
                    obtain ⟨q, hq⟩ : ∃ q, st.getD b 0 = q + 1 := ⟨st.getD b 0 - 1, by omega⟩
                    have hq0 : 1 ≤ q := by omega
                    rw [hq] at hcb HK2 hC2 HST hsb
                    simp only [Nat.add_sub_cancel] at HK2 hC2 HST
                    clear hK hx hb hstb h1 hpos hC
                    have hcb' : wr.cell? ⟨W1.heap.size, b, none⟩ = some (.int .i64 ((q : Int) + 1)) := hcb
                    clear hcb hq
                    have hcb7 : (wr.setCell ⟨W1.heap.size, b, none⟩ (.int .i64 (q : Int))).cell? ⟨W1.heap.size, b, none⟩ = some (.int .i64 (q : Int)) := by
                      have := st_cell hC2.st hbN
                      rw [getD_set_nat _ _ _ _ (by omega), if_pos rfl] at this
                      exact this
                    obtain ⟨W7, hW7⟩ : ∃ W7, wr.setCell ⟨W1.heap.size, b, none⟩ (.int .i64 (q : Int)) = W7 := ⟨_, rfl⟩
                    rw [hW7] at hC2 hcb7
                    have hq1 : ((q : Int) == 0) = false := by simp only [beq_eq_false_iff_ne]; omega
                    go_wp2
                    exact ⟨⟨st.set b q, gone, j + 1, by omega, by go_num, hC2, HK2.out, HX2.out, HST.out⟩, by simp [intOf]; omega⟩
                · obtain rfl : j = (f x).length := by omega
                  have hK2 := hK.next hx (Nat.le_refl _)
                  have hiN : i < N := by omega
                  go_wp2
                  refine ⟨⟨st, gone, i + 1, by go_num, hC, hK2, hstb⟩, ?_⟩
                  simp only [intOf]; omega
            · obtain rfl : gone.length = i := by omega
              have hd := hK.done hfN
              have d0' := (hC.bel.cell (p := ⟨w.heap.size, 0, none⟩) (by simp; omega)).trans d0
              have HD : Hid _ := hd.trans HC.out
              clear hd HC
              go_wp2
              go_ret
              refine ⟨⟨_, rfl, _, rfl, ?_⟩, hBw1.trans (hC.bel.mono (by omega))⟩
              have e : decide ((gone.length : Int) < (N : Int)) = decide (gone.length < N) := by
                by_cases h : gone.length < N
                · rw [decide_eq_true h, decide_eq_true (by omega)]
                · rw [decide_eq_false h, decide_eq_false (by omega)]
              rw [← HD.out, ← e]
end Go.Proofs.Ytopbibhpekjaeaa
