/- Whether a symbol is so, asked by a closure; what is so of which nonterminals. -/
import Derived.Test.YtopbibhpekjaeaaF0
import Derived.WalkMore
import Derived.Deep.AppendSrc
namespace Go.Proofs.Ytopbibhpekjaeaa
open Go.RowKit

def boolsV (l : List Bool) : List Value := l.map Value.bool
set_option maxRecDepth 100000 in
set_option maxHeartbeats 1000000 in
theorem symbolIs_any (v f : Value) (hv : ∃ a n c, v = .slice a n c) (hf : ∃ K, f = .func (.func K) #[] #[]) (w : World) :
    Calls Try.prog 73 #[v, f] w fun e w' => e = .returned (.func (.func 76) #[] #[.pointer (some ⟨w.heap.size + 1, 0, none⟩), .pointer (some ⟨w.heap.size, 0, none⟩)]) ∧ w' = (w.alloc (.cells #[v] 33)).alloc (.cells #[f] 76) := by
  have hmf := hmf
  obtain ⟨a, n, c, rfl⟩ := hv
  obtain ⟨K, rfl⟩ := hf
  go_enter Try.func73, Try.ntmps73
  go_wp2
  go_ret
  exact ⟨rfl, rfl⟩
theorem getD_cell {W : World} {base g N c : Nat} {so : List Bool} (h : W.ownsRow base 4 1 (.slice (some ⟨g, 0, none⟩) N c) N (boolsV so)) (m : Nat) (hm : m < N) : W.cell? ⟨g, m, none⟩ = some (.bool (so.getD m false)) := by
  have hl : so.length = N := by have := h.1; simpa [boolsV] using this
  rw [h.cellAt m (by omega)]
  simp [boolsV, List.getD_eq_getElem?_getD, hl, hm]
set_option maxRecDepth 100000 in
set_option maxHeartbeats 1000000 in
theorem symSo_any (K : Nat) (p : St → Bool) (hent : Enters Try.prog K) (HK : ∀ (st : St) (W : World), Calls Try.prog K #[.agg #[.int .u64 st.a, .int .u64 st.b, .int .u64 st.c, .int .u64 st.d]] W fun e W' => e = .returned (.bool (p st)) ∧ Below W.heap.size W W')
    (s : Ks) (so : List Bool) (g N cp C D : Nat) (w : World) (hs : s.nt = -1 ∨ (0 ≤ s.nt ∧ s.nt < (N : Int))) (hg : g < w.heap.size) (hC : C < w.heap.size) (hD : D < w.heap.size) (hso : ∀ m, m < N → w.cell? ⟨g, m, none⟩ = some (.bool (so.getD m false)))
    (hc : w.cell? ⟨C, 0, none⟩ = some (.func (.func K) #[] #[])) (hd : w.cell? ⟨D, 0, none⟩ = some (.slice (some ⟨g, 0, none⟩) N cp)) :
    Calls Try.prog 76 #[.agg #[.int .i64 s.nt, .int .u64 s.set.a, .int .u64 s.set.b, .int .u64 s.set.c, .int .u64 s.set.d], .pointer (some ⟨C, 0, none⟩), .pointer (some ⟨D, 0, none⟩)] w fun e w' => e = .returned (.bool (symSo p so s)) ∧ Below w.heap.size w w' := by
  have hB0 : Below w.heap.size w (w.alloc (.cells #[.int .i64 s.nt, .int .u64 s.set.a, .int .u64 s.set.b, .int .u64 s.set.c, .int .u64 s.set.d] 56)) := (Below.refl _ _).alloc (Nat.le_refl _) _
  have HK1 : Hid _ := HK s.set
  clear HK
  unfold Enters at hent
  rcases hs with hs | ⟨h0, h1⟩
  · have HE : Hid (symSo p so s = p s.set) := by show _ = _; unfold symSo; rw [if_pos (by omega)]
    have hneg : s.nt < 0 := by omega
    rw [HE.out]
    generalize p s.set = x at *
    go_enter Try.func76, Try.ntmps76
    go_wp2_with (refine (HK1.out _).mono ?_; rintro e w2 ⟨rfl, hb2⟩)
    go_ret
    exact ⟨rfl, below_of ((Below.refl _ _).alloc (Nat.le_refl _) _) hb2⟩
  · obtain ⟨m, hm⟩ : ∃ m : Nat, s.nt = m := ⟨s.nt.toNat, by omega⟩
    have HE : Hid (symSo p so s = so.getD m false) := by show _ = _; unfold symSo; rw [if_neg (by omega), hm]; rfl
    rw [HE.out]
    have hc1 := hso m (by omega)
    have hm1 : (m : Int) < N := by omega
    generalize so.getD m false = x at *
    have hneg : decide (s.nt < 0) = false := by simp; omega
    rw [hm] at hneg
    have hl1 : (w.alloc (.cells #[.int .i64 (m : Int), .int .u64 s.set.a, .int .u64 s.set.b, .int .u64 s.set.c, .int .u64 s.set.d] 56)).cell? ⟨g, m, none⟩ = some (.bool x) := by rw [World.cell?_alloc_past _ _ _ hg]; exact hc1
    rw [hm] at hB0
    clear h0 h1 HE HK1
    rw [hm]
    go_enter Try.func76, Try.ntmps76
    go_wp2
    go_ret
    exact ⟨rfl, hB0⟩

theorem Tab.fr {W W' : World} {base N : Nat} {tv : Value} {f : Nat → List Nat} {vs : List Value} (h : Tab W base tv N f vs) (hf : ∀ b, base ≤ b → b < W.heap.size → W'.heap[b]? = W.heap[b]?) : Tab W' base tv N f vs := by
  have key : ∀ {e : TypeId} {k : Nat} {v : Value} {n : Nat} {xs : List Value}, W.ownsRow base e k v n xs → W'.ownsRow base e k v n xs := fun h => by
    refine ⟨h.1, ?_⟩
    rcases h.2 with h0 | ⟨g, cap, cur, hv, hbg, hg, rest⟩
    · exact .inl h0
    · exact .inr ⟨g, cap, cur, hv, hbg, (hf g hbg (heap_lt' hg)).trans hg, rest⟩
  exact ⟨key h.row, fun i v hv => key (h.inner i v hv), h.apart⟩
theorem app_nil (ty : TypeId) (w : World) : (Builtin.append_ #[41, 41] ty #[.slice none 0 0, .slice none 0 0]).run Try.prog w = .ok (.slice none 0 0) w := by kernel_rfl
theorem app_nothing {w : World} {base n : Nat} {v : Value} {xs : List Value} (ty : TypeId) (h : w.ownsRow base 3 1 v n xs) : (Builtin.append_ #[41, 41] ty #[v, .slice none 0 0]).run Try.prog w = .ok v w := by
  obtain ⟨i0, hinf, hz0, hz1, hz2⟩ := info_parts info3
  rcases h.2 with ⟨rfl, _⟩ | ⟨g, cap, cur, rfl, _, hg, hle, _⟩
  · exact app_nil ty w
  · have := run_append_room_src (P := Try.prog) w 41 41 ty 3 i0 Try.underlying41 hinf g 0 n cap (.slice none 0 0) 0 [] (Src.ofNil w Try.underlying41 0) (by omega) (fun j hj => by simp at hj) (fun j hj => by simp at hj)
    simpa [World.setCells] using this
/-- A row of numbers put behind another one, whatever they are. -/
theorem wpList_append_ints {ops : Array Oper} {rest : List Oper} {o : Oper} {a : Act} {Q : Exit → Act → World → Prop} {w : World} (hgd : o.guard = none) (s x : Operand)
    (ho : o.op = .call { callee := .builtin .append, args := #[s, x], argTypes := #[41, 41] }) (base base2 : Nat) (av xv : Value) (xs ys : List Nat)
    (hs : a.eval s = av) (hx : a.eval x = xv) (ha : w.ownsRow base 3 1 av xs.length (intsV xs)) (hy : w.ownsRow base2 3 1 xv ys.length (intsV ys)) (hn : xs.length + ys.length ≤ 1000000000000) (hb : base ≤ w.heap.size)
    (h : ∀ v' w', w'.ownsRow base 3 1 v' (xs ++ ys).length (intsV (xs ++ ys)) → w.grownBy w' av.ownBlock → wpList Try.prog ops Q rest (a.put o.dst v') w') :
    wpList Try.prog ops Q (o :: rest) a w := by
  obtain ⟨i0, hinf, hz0, hz1, hz2⟩ := info_parts info3
  rcases hy.2 with ⟨rfl, h0⟩ | ⟨g, cap, cur, rfl, _⟩
  · obtain rfl := List.eq_nil_of_length_eq_zero h0
    refine wpList_plain hgd fun K hK => ?_
    have hrun := app_nothing o.type ha
    unfold Oper.wp execOp
    simp only [ho, resolve, invoke, builtin, Sem.run_bind, Sem.run_pure, Result.andThen_ok, List.map_toArray, List.map_cons, List.map_nil, hs, hx, hrun]
    exact hK _ _ (h _ _ (by rw [List.append_nil]; exact ha) ⟨rfl, rfl, rfl, Nat.le_refl _, fun _ _ _ => rfl⟩)
  · refine wpList_append_own w hgd s x 41 ho base 3 i0 (.int .i64 0) 1 8 Try.underlying41 hinf hz0 hz1 hz2 rfl (by decide) _ _ _ hs ha ⟨g, 0, none⟩ ys.length cap (intsV ys) hx (by simp [intsV]) (hy.cells rfl) (fun u hu => ?_) (by unfold maxLen; omega) (by omega) hb fun v' w' hown hgrow _ => ?_
    · simp only [intsV, List.mem_map] at hu
      obtain ⟨n, _, rfl⟩ := hu
      rfl
    · exact h v' w' (by rw [List.length_append, intsV_app]; exact hown) hgrow
/-- Memory while it is found out what is so: B: the box with the grammar; the marks lie at B + 1, their box at B + 2, the question's at B + 3; W1: the world in which the table of users was told. -/
structure LM (w W1 : World) (a : Option Addr) (n c K N : Nat) (so : List Bool) (av : Value) (again : List Nat) (W : World) : Prop where
  bel : Below w.heap.size w W
  siz : W1.heap.size ≤ W.heap.size
  g2 : W.cell? ⟨w.heap.size, 2, none⟩ = some (.slice a n c)
  so : W.ownsRow (w.heap.size + 1) 4 1 (.slice (some ⟨w.heap.size + 1, 0, none⟩) N N) N (boolsV so)
  bD : W.cell? ⟨w.heap.size + 2, 0, none⟩ = some (.slice (some ⟨w.heap.size + 1, 0, none⟩) N N)
  bC : W.cell? ⟨w.heap.size + 3, 0, none⟩ = some (.func (.func K) #[] #[])
  fr : ∀ b, w.heap.size + 4 ≤ b → b < W1.heap.size → W.heap[b]? = W1.heap[b]?
  ag : W.ownsRow W1.heap.size 3 1 av again.length (intsV again)
section
variable {w W1 W W' : World} {a : Option Addr} {n c K N : Nat} {so : List Bool} {av av' : Value} {again again' : List Nat}
theorem LM.lower (h : LM w W1 a n c K N so av again W) (h4 : w.heap.size + 4 ≤ W1.heap.size) (hb : Below W1.heap.size W W') (hag : W'.ownsRow W1.heap.size 3 1 av' again'.length (intsV again')) : LM w W1 a n c K N so av' again' W' := by
  refine ⟨h.bel.trans (hb.mono (by omega)), Nat.le_trans h.siz hb.size, (hb.cell (p := ⟨w.heap.size, 2, none⟩) (by simp; omega)).trans h.g2, row_belowB h.so hb (fun g hg => ?_), (hb.cell (p := ⟨w.heap.size + 2, 0, none⟩) (by simp; omega)).trans h.bD, (hb.cell (p := ⟨w.heap.size + 3, 0, none⟩) (by simp; omega)).trans h.bC, fun b h1 h2 => (hb.block b h2).trans (h.fr b h1 h2), hag⟩
  have : w.heap.size + 1 = g := by simpa [Value.ownBlock] using hg
  omega
theorem LM.below (h : LM w W1 a n c K N so av again W) (h4 : w.heap.size + 4 ≤ W1.heap.size) (hb : Below W.heap.size W W') : LM w W1 a n c K N so av again W' :=
  h.lower h4 (hb.mono h.siz) (row_below h.ag hb)
theorem boolsV_set (l : List Bool) (m : Nat) (b : Bool) : boolsV (l.set m b) = (boolsV l).set m (.bool b) := by simp [boolsV, List.map_set]
theorem LM.put (h : LM w W1 a n c K N so av again W) (m : Nat) : LM w W1 a n c K N (so.set m true) av again (W.setCell ⟨w.heap.size + 1, m, none⟩ (.bool true)) := by
  have hst := h.so.stored m (.bool true)
  have hc : ∀ p : Addr, p.block ≠ w.heap.size + 1 → (W.setCell ⟨w.heap.size + 1, m, none⟩ (.bool true)).cell? p = W.cell? p := fun p hp => World.cell?_setCell_far _ _ _ _ (fun e => hp e.symm)
  refine ⟨h.bel.setCell (p := ⟨w.heap.size + 1, m, none⟩) (by show w.heap.size ≤ w.heap.size + 1; omega) _, by have := h.siz; simpa [World.setCell] using this, (hc _ (by simp)).trans h.g2, by rw [boolsV_set]; exact hst.1, (hc _ (by simp)).trans h.bD, (hc _ (by simp)).trans h.bC, fun b h1 h2 => ?_, ?_⟩
  · rw [Below.heap_setCell _ _ _ _ (by show b ≠ w.heap.size + 1; omega)]; exact h.fr b h1 h2
  · exact h.ag.kept hst.2 (row_ne h.ag h.so (by decide))
end
set_option maxRecDepth 100000 in
set_option maxHeartbeats 8000000 in
theorem least_any (K : Nat) (p : St → Bool) (hent : Enters Try.prog K) (HK : ∀ (st : St) (W : World), Calls Try.prog K #[.agg #[.int .u64 st.a, .int .u64 st.b, .int .u64 st.c, .int .u64 st.d]] W fun e W' => e = .returned (.bool (p st)) ∧ Below W.heap.size W W')
    (N : Nat) (S : Int) (rs : List Rl) (a : Option Addr) (c : Nat) (w : World) (hok : Ok N rs) (hR : RAt w w.heap.size a rs) :
    Calls Try.prog 60 #[.agg #[.int .i64 (N : Int), .int .i64 S, .slice a rs.length c], .func (.func K) #[] #[]] w fun e w' => ∃ so : List Bool, e = .returned (.slice (some ⟨w.heap.size + 1, 0, none⟩) N N) ∧ w'.ownsRow (w.heap.size + 1) 4 1 (.slice (some ⟨w.heap.size + 1, 0, none⟩) N N) N (boolsV so) ∧ so.length = N ∧ (∀ m, so.getD m false = true ↔ Lf rs p m) ∧ Below w.heap.size w w' := by
  obtain ⟨i0, hinf, hz0, hz1, hz2⟩ := info_parts info3
  have hn1 := hok.n1
  have hn2 := hok.n2
  have hlen := hok.len
  have hmk := run_make_row' (P := Try.prog) 33 4 (.bool false) 1 Try.underlying33 info4 rfl .i64 .i64 N (by omega) (by omega)
  obtain ⟨W0, hW0⟩ : ∃ W0, w.alloc (.cells #[.int .i64 (N : Int), .int .i64 S, .slice a rs.length c] 24) = W0 := ⟨_, rfl⟩
  have hs0 : W0.heap.size = w.heap.size + 1 := by rw [← hW0]; simp
  have hB0 : Below w.heap.size w W0 := by rw [← hW0]; exact (Below.refl _ _).alloc (Nat.le_refl _) _
  have c0 : W0.cell? ⟨w.heap.size, 0, none⟩ = some (.int .i64 (N : Int)) := by rw [← hW0]; exact cell_new 0 rfl
  have c1 : W0.cell? ⟨w.heap.size, 1, none⟩ = some (.int .i64 S) := by rw [← hW0]; exact cell_new 1 rfl
  have c2 : W0.cell? ⟨w.heap.size, 2, none⟩ = some (.slice a rs.length c) := by rw [← hW0]; exact cell_new 2 rfl
  obtain ⟨W2, hW2⟩ : ∃ W2, W0.alloc (.cells (madeCells #[.bool false] N) 4) = W2 := ⟨_, rfl⟩
  have hs2 : W2.heap.size = w.heap.size + 2 := by rw [← hW2]; simp [hs0]
  have hB2 : Below W0.heap.size W0 W2 := by rw [← hW2]; exact (Below.refl _ _).alloc (Nat.le_refl _) _
  have hso : W2.ownsRow (w.heap.size + 1) 4 1 (.slice (some ⟨w.heap.size + 1, 0, none⟩) N N) N (boolsV (List.replicate N false)) := by
    have := World.ownsRow_lit (e := 4) (size := 1) (base := w.heap.size + 1) W0 (madeCells #[.bool false] N) N (by omega) (by unfold maxLen; omega) (by rw [size_madeCells]; omega)
    rw [toList_madeCells_one, hW2, hs0] at this
    simpa [boolsV] using this
  have H73 : Hid _ := fun (_ : Unit) => symbolIs_any (.slice (some ⟨w.heap.size + 1, 0, none⟩) N N) (.func (.func K) #[] #[]) ⟨_, _, _, rfl⟩ ⟨_, rfl⟩ W2
  obtain ⟨W3, hW3⟩ : ∃ W3, (W2.alloc (.cells #[.slice (some ⟨w.heap.size + 1, 0, none⟩) N N] 33)).alloc (.cells #[.func (.func K) #[] #[]] 76) = W3 := ⟨_, rfl⟩
  have hs3 : W3.heap.size = w.heap.size + 4 := by rw [← hW3]; simp [hs2]
  have hB3 : Below W2.heap.size W2 W3 := by rw [← hW3]; exact ((Below.refl _ _).alloc (Nat.le_refl _) _).alloc (by simp) _
  rw [hW3, hs2, show w.heap.size + 2 + 1 = w.heap.size + 3 from rfl] at H73
  have hB03 : Below W0.heap.size W0 W3 := hB2.trans (hB3.mono (by omega))
  have d0 : W3.cell? ⟨w.heap.size, 0, none⟩ = some (.int .i64 (N : Int)) := (hB03.cell (p := ⟨w.heap.size, 0, none⟩) (by simp; omega)).trans c0
  have d1 : W3.cell? ⟨w.heap.size, 1, none⟩ = some (.int .i64 S) := (hB03.cell (p := ⟨w.heap.size, 1, none⟩) (by simp; omega)).trans c1
  have d2 : W3.cell? ⟨w.heap.size, 2, none⟩ = some (.slice a rs.length c) := (hB03.cell (p := ⟨w.heap.size, 2, none⟩) (by simp; omega)).trans c2
  have dD : W3.cell? ⟨w.heap.size + 2, 0, none⟩ = some (.slice (some ⟨w.heap.size + 1, 0, none⟩) N N) := by
    rw [← hW3, World.cell?_alloc_past _ _ _ (by simp; omega)]
    have := cell_new (w := W2) (cs := #[.slice (some ⟨w.heap.size + 1, 0, none⟩) N N]) (t := 33) 0 rfl
    rw [hs2] at this; exact this
  have dC : W3.cell? ⟨w.heap.size + 3, 0, none⟩ = some (.func (.func K) #[] #[]) := by
    rw [← hW3]
    have := cell_new (w := W2.alloc (.cells #[.slice (some ⟨w.heap.size + 1, 0, none⟩) N N] 33)) (cs := #[.func (.func K) #[] #[]]) (t := 76) 0 rfl
    simp only [World.size_alloc, hs2] at this; exact this
  have hB30 : Below w.heap.size w W3 := hB0.trans (hB03.mono (by omega))
  have H70 : Hid _ := fun (_ : Unit) => users_any N S rs a c W3 hok ((hR.keep hB30).mono (by omega))
  rw [hs3] at H70
  go_enter Try.func60, Try.ntmps60
  go_wp2
  go_step3
  go_wp2_with (first | (go_at_call 73; refine (H73.out ()).mono ?_; rintro e w2 ⟨rfl, rfl⟩) | (go_at_call 70; refine (H70.out ()).mono ?_; rintro e W1 ⟨tv, vs, rfl, hT, hb1⟩; have g2 := (hb1.cell (p := ⟨w.heap.size, 2, none⟩) (by simp)).trans d2))
  have h4 : w.heap.size + 4 ≤ W1.heap.size := by have := hb1.size; omega
  have hM : LM w W1 a rs.length c K N (List.replicate N false) (.slice none 0 0) [] W1 :=
    ⟨hB30.trans (hb1.mono (by omega)), Nat.le_refl _, (hb1.cell (p := ⟨w.heap.size, 2, none⟩) (by simp)).trans d2, row_belowB (row_below hso hB3) hb1 (fun g hg => by have : w.heap.size + 1 = g := by { simpa [Value.ownBlock] using hg }; omega), (hb1.cell (p := ⟨w.heap.size + 2, 0, none⟩) (by simp)).trans dD, (hb1.cell (p := ⟨w.heap.size + 3, 0, none⟩) (by simp)).trans dC, fun _ _ _ => rfl, World.ownsRow_nil _ _ _ _⟩
  clear hW0 hs0 hB0 c0 c1 c2 hW2 hs2 hB2 hso H73 hs3 hB3 hB03 d0 d1 d2 dD dC hB30 H70 hb1 hmk g2
  obtain ⟨gt, tc, rfl, hgt1, hgt2⟩ := row_at hT.row (by omega)
  go_loopw [8, 25] (fun av i W => ∃ k : Nat, k ≤ rs.length ∧ i = .int .i64 k ∧ LM w W1 a rs.length c K N (List.replicate N false) av (List.range k) W) (fun _ i _ => rs.length - (intOf i).toNat)
  case atStart => exact ⟨0, by omega, rfl, hM⟩
  case round =>
    clear hM
    obtain ⟨k, hk, rfl, hM⟩ := hrel
    have hsz := hM.siz
    by_cases hlt : k < rs.length
    · go_wp2_with (at_builtin; refine wpList_append_own _ rfl _ _ 41 rfl W1.heap.size 3 i0 (.int .i64 0) 1 8 Try.underlying41 hinf hz0 hz1 hz2 rfl (by decide) _ _ _ rfl (hM.ag.alloc _) ⟨wr.heap.size, 0, none⟩ 1 1 [.int .i64 ((k : Nat) : Int)] rfl rfl ?ca1 ?ca2 ?ca3 ?ca4 ?ca5 ?_)
      try case ca1 => exact cell_one_new _ _ _
      case ca2 => first | rfl | (intro u hu; simp at hu; subst hu; rfl)
      case ca3 => unfold maxLen; simp; omega
      case ca4 => simp; omega
      case ca5 => first | omega | (simp; omega)
      intro v' w2 hown' hgrow _
      have hb2 : Below W1.heap.size wr w2 := ((Below.refl _ wr).alloc hsz (.cells #[.int .i64 ((k : Nat) : Int)] 3)).grown hgrow (by simp; omega) (fun q hq => (hM.ag.lt q hq).1)
      obtain ⟨g', cap', rfl, _⟩ := row_at hown' (by omega)
      have hM2 : LM w W1 a rs.length c K N (List.replicate N false) (.slice (some ⟨g', 0, none⟩) (k + 1) cap') (List.range (k + 1)) w2 := hM.lower h4 hb2 (by rw [List.range_succ, intsV_snoc, List.length_append, List.length_range]; exact hown')
      go_wp2
      go_roundw
      case rel => exact ⟨k + 1, by omega, by go_num, hM2⟩
      case measure => simp [intOf]; omega
    · obtain rfl : k = rs.length := by omega
      have hI0 := LI.start N rs p
      clear hlt hk
      go_wp2
      go_step3
      go_wp2
      go_loopw [8, 10] (fun av iv W => ∃ (so : List Bool) (again : List Nat) (i : Nat), iv = .int .i64 i ∧ LM w W1 a rs.length c K N so av again W ∧ LI N rs p so again i) (fun _ iv _ => 8192 + 4096 * 655360 + 1 - (intOf iv).toNat)
      case atStart => exact ⟨_, _, 0, rfl, hM, hI0⟩
      case round =>
        clear hM hI0
        obtain ⟨so, again, i, rfl, hM, hI⟩ := hrel
        have hsz := hM.siz
        have hcnt : so.count true ≤ N := by have := List.count_le_length (a := true) (l := so); rw [hI.len] at this; exact this
        have hbnd : again.length ≤ 8192 + 4096 * 655360 := by
          have h1 := hI.bnd
          have h2 : so.count true * 655360 ≤ 4096 * 655360 := Nat.mul_le_mul_right _ (by omega)
          omega
        obtain ⟨aa, ac, rfl⟩ := row_slice hM.ag
        by_cases hlt : i < again.length
        · obtain ⟨k, hk⟩ : ∃ k, again[i]? = some k := ⟨again[i], by simp [hlt]⟩
          have hkr := hI.idx k (List.mem_of_getElem? hk)
          obtain ⟨r, hr⟩ : ∃ r, rs[k]? = some r := ⟨rs[k], by simp [hkr]⟩
          obtain ⟨b, o, sa, sc, rfl, hb, hKA, e0', e1'⟩ := hR.cells k r hr
          have e0 := (hM.bel.cell (p := ⟨b, o + k * 2, none⟩) hb).trans e0'
          have e1 := (hM.bel.cell (p := ⟨b, o + k * 2 + 1, none⟩) hb).trans e1'
          clear e0' e1'
          have hrm := List.mem_of_getElem? hr
          have hkl := hok.rhs r hrm
          have hlh := hok.lhs r hrm
          have hsym := hok.sym r hrm
          obtain ⟨m, hm⟩ : ∃ m : Nat, r.lhs = m := ⟨r.lhs.toNat, by omega⟩
          have hmN : m < N := by omega
          rw [hm] at e0
          obtain ⟨ga, _, hga, _, hgl⟩ := row_at hM.ag (by omega)
          obtain rfl : aa = some ⟨ga, 0, none⟩ := by simp at hga; exact hga.1
          have hca : wr.cell? ⟨ga, i, none⟩ = some (.int .i64 (k : Int)) := by
            rw [hM.ag.cellAt i (by omega)]; simp [intsV, hk]
          have g2 := hM.g2
          have hiI : (i : Int) < again.length := by omega
          have hkI : (k : Int) < rs.length := by omega
          have hmI : (m : Int) < N := by omega
          have hl1 : w.heap.size < wr.heap.size := by omega
          have hl2 : b < wr.heap.size := by omega
          go_wp2
          go_region
          obtain ⟨W5, hW5⟩ : ∃ W5, (wr.alloc (.cells #[.int .i64 (m : Int), .slice sa r.rhs.length sc] 52)).drew = W5 := ⟨_, rfl⟩
          have hB5 : Below wr.heap.size wr W5 := by rw [← hW5]; exact ((Below.refl _ _).alloc (Nat.le_refl _) _).drew
          have hs5 : W5.heap.size = wr.heap.size + 1 := by rw [← hW5]; simp
          have f0 : W5.cell? ⟨wr.heap.size, 0, none⟩ = some (.int .i64 (m : Int)) := by rw [← hW5]; exact cell_new (w := wr) 0 rfl
          have f1 : W5.cell? ⟨wr.heap.size, 1, none⟩ = some (.slice sa r.rhs.length sc) := by rw [← hW5]; exact cell_new (w := wr) 1 rfl
          rw [hW5]
          have M5 := hM.below h4 hB5
          have hcm := getD_cell M5.so m hmN
          clear hW5 hM e0 e1 hca g2
          cases hx : so.getD m false with
          | true =>
            have hI2 := hI.skip hk hr (.inl (by rw [hm]; simpa using hx))
            rw [hx] at hcm
            go_wp2
            go_roundw
            case rel => exact ⟨so, again, i + 1, by go_num, M5, hI2⟩
            case measure => simp [intOf]; omega
          | false =>
            rw [hx] at hcm
            go_wp2
            go_loopw [55] (fun jv W => ∃ j : Nat, j ≤ r.rhs.length ∧ jv = .int .i64 j ∧ (∀ s ∈ r.rhs.take j, symSo p so s = true) ∧ Below W5.heap.size W5 W) (fun jv _ => r.rhs.length - (intOf jv).toNat)
            case atStart => exact ⟨0, by omega, rfl, by simp, Below.refl _ _⟩
            case round =>
              obtain ⟨j, hj, rfl, hall, hBi⟩ := hrel
              have Mi := M5.below h4 hBi
              have hszi := hBi.size
              by_cases hlt2 : j < r.rhs.length
              · obtain ⟨s, hs⟩ : ∃ s, r.rhs[j]? = some s := ⟨r.rhs[j], by simp [hlt2]⟩
                obtain ⟨b2, o2, rfl, hb2, hso, k0, k1, k2, k3, k4⟩ := (hKA.keep Mi.bel).cells j s hs
                have hss := hsym s (List.mem_of_getElem? hs)
                have hB6 := hBi.alloc hszi (.cells #[.int .i64 s.nt, .int .u64 s.set.a, .int .u64 s.set.b, .int .u64 s.set.c, .int .u64 s.set.d] 56)
                have H76 : Hid _ := fun (W : World) (h : Below W5.heap.size W5 W) => symSo_any K p hent HK s so (w.heap.size + 1) N N (w.heap.size + 3) (w.heap.size + 2) W (by omega) (by have := h.size; omega) (by have := h.size; omega) (by have := h.size; omega) (fun m hm => getD_cell (M5.below h4 h).so m hm) (M5.below h4 h).bC (M5.below h4 h).bD
                have HS : Hid _ := hs
                have HALL : Hid _ := hall
                clear hs hall
                cases hq : symSo p so s with
                | false =>
                  rw [hq] at H76
                  have hI2 := hI.skip hk hr (.inr ⟨s, List.mem_of_getElem? HS.out, hq⟩)
                  go_wp2_with (go_at_call 76; refine (H76.out _ hB6).mono ?_; rintro e w2 ⟨rfl, hb2'⟩)
                  exact ⟨⟨so, again, i + 1, by go_num, M5.below h4 (hB6.trans (hb2'.mono hB6.size)), hI2⟩, by simp [intOf]; omega⟩
                | true =>
                  rw [hq] at H76
                  go_wp2_with (go_at_call 76; refine (H76.out _ hB6).mono ?_; rintro e w2 ⟨rfl, hb2'⟩)
                  refine ⟨⟨j + 1, by omega, by go_num, ?_, hB6.trans (hb2'.mono hB6.size)⟩, by simp [intOf]; omega⟩
                  intro x hx'
                  rw [List.take_add_one, HS.out] at hx'
                  rcases List.mem_append.1 hx' with hx' | hx'
                  · exact HALL.out x hx'
                  · simp at hx'; subst hx'; exact hq
              · obtain rfl : j = r.rhs.length := by omega
                rw [List.take_length] at hall
                have f0' := (hBi.cell (by rw [hs5]; exact Nat.lt_succ_self _)).trans f0
                have hcm' := getD_cell Mi.so m hmN
                rw [hx] at hcm'
                have hfz := Mi.so.frozenAt m
                have M7 := Mi.put m
                obtain ⟨W7, hW7⟩ : ∃ W7, wr.setCell ⟨w.heap.size + 1, m, none⟩ (.bool true) = W7 := ⟨_, rfl⟩
                have f7 := fun h => (World.cell?_setCell_far wr ⟨w.heap.size + 1, m, none⟩ _ (.bool true) h).trans f0'
                replace f7 := f7 (by simp; omega)
                rw [hW7] at f7
                rw [hW7] at M7
                have hT7 := hT.fr M7.fr
                obtain ⟨v, hv⟩ : ∃ v, vs[m]? = some v := ⟨vs[m]'(by rw [hT.len]; exact hmN), by simp⟩
                have hrow := hT7.inner m v hv
                have hcv := hT7.row.cellAt m (by omega)
                rw [hv] at hcv
                have hul := usr_len rs m hok.rhs rs.length
                have hI2 := hI.mark hk hr hm hmN hx hall (fun r hr s hs => by have := hok.sym r hr s hs; omega) (fun k' r' hr' h => usr_has rs m hr' h rs.length (List.getElem?_eq_some_iff.1 hr').1) (usr_mem rs m rs.length) (by omega)
                have HI : Hid _ := hI2
                clear hI2 hall hI
                go_wp2_with (at_builtin; refine wpList_append_ints rfl _ _ rfl W1.heap.size (w.heap.size + 4) _ _ again (usr rs m rs.length) rfl rfl M7.ag hrow (by omega) M7.siz ?_)
                intro v' w8 hown hgrow
                have hb8 : Below W1.heap.size W7 w8 := (Below.refl _ _).grown hgrow M7.siz (fun q hq => (M7.ag.lt q hq).1)
                go_wp2
                exact ⟨⟨so.set m true, again ++ usr rs m rs.length, i + 1, by go_num, M7.lower h4 hb8 (by rw [List.length_append]; exact hown), HI.out⟩, by simp [intOf]; omega⟩
        · have hii : i = again.length := by have := hI.le; omega
          go_wp2
          try rw [Exit.noGoto_ret]
          go_ret
          exact ⟨so, rfl, hM.so, hI.len, hI.done hii, hM.bel⟩
end Go.Proofs.Ytopbibhpekjaeaa
