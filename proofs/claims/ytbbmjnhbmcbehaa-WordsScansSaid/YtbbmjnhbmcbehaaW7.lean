/- The runs of a set's bytes, as Runs collects them going through the set. -/
import Derived.Test.YtbbmjnhbmcbehaaW6
namespace Go.Proofs.Ytbbmjnhbmcbehaa
open Go.RowKit Go.Shelf

attribute [local go_sem] Oper.semAt_some

theorem info46 : (Try.prog.info? 80).map (fun i => (i.zero, i.size, i.bytes)) = some (some (.agg #[.int .i64 0, .int .i64 0]), 2, 16) := by kernel_rfl
theorem two_new (w : World) (x y : Value) (t : TypeId) : ∀ j u, [x, y][j]? = some u → (w.alloc (.cells #[x, y] t)).cell? ((⟨w.heap.size, 0, none⟩ : Addr).add j) = some u := by
  intro j u hj
  match j, hj with
  | 0, hj => simp at hj; subst hj; simp [Addr.add]
  | 1, hj => simp at hj; subst hj; simp [Addr.add]
  | j + 2, hj => simp at hj

/-- One byte more: it goes on with the last run, or begins one. -/
def runStep (rs : List (Nat × Nat)) (b : Nat) : List (Nat × Nat) :=
  match rs.getLast? with
  | none => [(b, b)]
  | some r => if r.2 + 1 = b then rs.dropLast ++ [(r.1, b)] else rs ++ [(b, b)]
def runsOf (l : List (Fin 256)) : List (Nat × Nat) := l.foldl (fun rs b => runStep rs b.val) []
theorem runsOf_snoc (l : List (Fin 256)) (b : Fin 256) : runsOf (l ++ [b]) = runStep (runsOf l) b.val := by simp [runsOf]
def rcells (rs : List (Nat × Nat)) : List Value := rs.flatMap fun r => [.int .i64 r.1, .int .i64 r.2]
theorem rcells_snoc (rs : List (Nat × Nat)) (r : Nat × Nat) : rcells (rs ++ [r]) = rcells rs ++ [.int .i64 r.1, .int .i64 r.2] := by simp [rcells]
theorem rcells_len (rs : List (Nat × Nat)) : (rcells rs).length = rs.length * 2 := by
  induction rs with
  | nil => rfl
  | cons r rs ih => simp [rcells] at *; omega
theorem runStep_len (rs : List (Nat × Nat)) (b : Nat) : (runStep rs b).length ≤ rs.length + 1 := by
  unfold runStep; split
  · simp
  · split <;> simp
theorem runsOf_len (l : List (Fin 256)) : (runsOf l).length ≤ l.length := by
  suffices ∀ (l : List (Fin 256)) (rs : List (Nat × Nat)), (l.foldl (fun rs b => runStep rs b.val) rs).length ≤ rs.length + l.length by
    have := this l []; simpa [runsOf] using this
  intro l
  induction l with
  | nil => intro rs; simp
  | cons b l ih => intro rs; have h1 := ih (runStep rs b.val); have h2 := runStep_len rs b.val; simp only [List.foldl_cons, List.length_cons]; omega

theorem SBox.appended {W w1 : World} {s : St} {B' n₀ B : Nat} {t e : TypeId} {size : Nat} {v : Value} {k : Nat} {xs : List Value} {tmp : Obj} (v' : Value)
    (h : SBox s B' W) (hv : Boxed W B t v) (hte : (33 : TypeId) ≠ e) (hrow : W.ownsRow n₀ e size v k xs) (hgrow : (W.alloc tmp).grownBy w1 v.ownBlock) : SBox s B' (w1.setCell ⟨B, 0, none⟩ v') :=
  ((h.alloc tmp).kept hgrow (h.not_row hte hrow)).kept (grownBy_setCell' w1 B v') (fun e => (h.not_box hv) (Option.some.inj e))
theorem runStep_nil (b : Nat) : runStep [] b = [(b, b)] := rfl
theorem runStep_on (rs : List (Nat × Nat)) (lo hi b : Nat) (h : hi + 1 = b) : runStep (rs ++ [(lo, hi)]) b = rs ++ [(lo, b)] := by simp [runStep, h]
theorem runStep_off (rs : List (Nat × Nat)) (lo hi b : Nat) (h : ¬ hi + 1 = b) : runStep (rs ++ [(lo, hi)]) b = rs ++ [(lo, hi)] ++ [(b, b)] := by simp [runStep, h]
theorem rcells_set (rs : List (Nat × Nat)) (lo hi b : Nat) : (rcells (rs ++ [(lo, hi)])).set (rs.length * 2 + 1) (.int .i64 b) = rcells (rs ++ [(lo, b)]) := by
  rw [rcells_snoc, rcells_snoc, List.set_append_right _ _ (by rw [rcells_len]; omega), rcells_len]
  simp

set_option maxRecDepth 100000 in
set_option maxHeartbeats 2000000 in
theorem runs_any (s : St) (hs : s.ok) (w : World) :
    Calls Try.prog 51 #[.agg #[.int .u64 s.a, .int .u64 s.b, .int .u64 s.c, .int .u64 s.d]] w fun e W' => ∃ v, e = .returned v ∧ W'.ownsRow w.heap.size 80 2 v (runsOf (upTo s 256)).length (rcells (runsOf (upTo s 256))) ∧ (v = .slice none 0 0 ↔ runsOf (upTo s 256) = []) ∧ Below w.heap.size w W' := by
  refine (callsIn_wide (n := 3)).1 ?_
  obtain ⟨i0, hi, hz0, hz1, hz2⟩ := info_parts info46
  refine callsIn_of_wp_marks Try.func51 rfl trivial ?_ rfl
  simp only [Try.ntmps51, List.size_toArray, List.length_cons, List.length_nil, Nat.reduceAdd, Nat.reduceSub, Array.replicate_succ, Array.replicate_zero, List.push_toArray, List.append_toArray, List.nil_append, List.cons_append]
  gi_wp2_with (refine ⟨trivial, ?_⟩; gi_at_call 73; refine (callsIn_wide.2 (all_any s _)).mono ?_; rintro e w' ⟨rfl, rfl⟩)
  have bO := Boxed.new (w.alloc (.cells #[.int .u64 s.a, .int .u64 s.b, .int .u64 s.c, .int .u64 s.d] 33)) 77 (.slice none 0 0)
  have bN := SBox.new s ((w.alloc (.cells #[.int .u64 s.a, .int .u64 s.b, .int .u64 s.c, .int .u64 s.d] 33)).alloc (.cells #[.slice none 0 0] 77))
  rw [World.size_alloc] at bO
  rw [World.size_alloc, World.size_alloc] at bN
  have hB0 : Below w.heap.size w (((w.alloc (.cells #[.int .u64 s.a, .int .u64 s.b, .int .u64 s.c, .int .u64 s.d] 33)).alloc (.cells #[.slice none 0 0] 77)).alloc (.cells #[.int .u64 s.a, .int .u64 s.b, .int .u64 s.c, .int .u64 s.d] 33)) := (((Below.refl _ w).alloc (Nat.le_refl _) _).alloc (by simp <;> omega) _).alloc (by simp <;> omega) _
  refine wpIn_rangeFunc_ownG (F := Fence.wide) rfl (by omega) (gf := 86) (lb := #[.pointer (some ⟨w.heap.size + 1 + 1, 0, none⟩)]) rfl trivial (enters_of Try.func86 (by kernel_rfl) rfl)
    (all_stops (3 - 1) (by omega) (w.heap.size + 1 + 1) w.heap.size s hs _ (by simp; omega) bN) keepB_t (keepB_b (by simp; omega)) (Below.refl _ _) (fun _ => rfl)
    (fun pre W => (∃ v, Boxed W (w.heap.size + 1) 77 v ∧ W.ownsRow w.heap.size 80 2 v (runsOf pre).length (rcells (runsOf pre)) ∧ (v = .slice none 0 0 ↔ runsOf pre = [])) ∧ (SBox s (w.heap.size + 1 + 1) W ∧ Below w.heap.size w W))
    (fun _ _ _ => False)
    (OwnFrom.and (Own.from (holdsRow_own w.heap.size (w.heap.size + 1) 77 80 2 (fun pre => (runsOf pre).length) (fun pre => rcells (runsOf pre)) (fun pre v => v = .slice none 0 0 ↔ runsOf pre = [])) _) (OwnFrom.and (Own.from (SBox.own s _) _) (ownFrom_below (Nat.le_refl _) (by simp; omega))))
    (fun _ _ _ _ _ hs _ _ => hs)
    ⟨⟨_, bO.alloc _, World.ownsRow_nil _ _ _ _, by simp [runsOf]⟩, bN, hB0⟩
    (fun x => { tmps := #[.agg #[.int .u64 s.a, .int .u64 s.b, .int .u64 s.c, .int .u64 s.d], .pointer (some ⟨w.heap.size, 0, none⟩), .slice none 0 0, .pointer (some ⟨w.heap.size + 1, 0, none⟩), .int .u8 x.val, undef, undef, .agg #[.int .u64 s.a, .int .u64 s.b, .int .u64 s.c, .int .u64 s.d], .func (.func 86) #[] #[.pointer (some ⟨w.heap.size + 1 + 1, 0, none⟩)], .int .u8 x.val, undef, undef, undef, undef, undef, undef, undef, undef, undef, undef, undef, undef, undef, undef, undef, undef, undef, undef, undef, undef, undef, undef, undef, undef, undef, undef, undef, undef, undef, undef], defers := [] }) ?assign ?body ?done ?stop
  case assign =>
    intro l x W K hK
    gi_wp2
    exact hK
  case body =>
    rintro l pre x W ⟨⟨v, hv, hrow, hnil⟩, hbx, hB⟩ hlt
    have hc := hv.cell
    have hpl : (runsOf pre).length ≤ pre.length := runsOf_len pre
    have HS : Hid _ := runsOf_snoc pre x
    have hx := x.isLt
    generalize x.val = b at *
    generalize runsOf pre = rs at *
    rcases List.eq_nil_or_concat rs with rfl | ⟨rs', ⟨lo, hi'⟩, rfl⟩
    · obtain rfl := hnil.2 rfl
      gi_wp2_with (gi_at_builtin; refine wpListIn_append_own _ rfl _ _ 77 rfl w.heap.size 80 i0 (.agg #[.int .i64 0, .int .i64 0]) 2 16 Try.underlying77 hi hz0 hz1 hz2 rfl (by decide) _ _ _ rfl (hrow.alloc _) ⟨W.heap.size, 0, none⟩ 1 1 [.int .i64 b, .int .i64 b] rfl rfl (two_new _ _ _ _) (by simp [Value.oneCell']) (by decide) (by decide) (by have := hB.size; simp; omega) ?_; intro v' w1 hown' hgrow _; obtain ⟨g', cap', rfl⟩ := ownsRow_succ hown'; obtain ⟨hv1, hv2, hr2, hk2, hb2⟩ := hv.appended (by decide) hrow hB.size (by omega) hown' hgrow; have hc1 := hv1.cell; have hf1 := hv1.frozen)
      have hsb := hbx.appended (.slice (some ⟨g', 0, none⟩) 1 cap') hv (by decide) hrow hgrow
      exact ⟨hk2.from _, ⟨hb2, fun _ => hsb⟩, ⟨_, hv2, by rw [HS.out]; simpa [runStep_nil, rcells] using hr2, by rw [HS.out]; simp [runStep_nil]⟩, hsb, hB.trans hb2⟩
    · rw [List.concat_eq_append] at *
      have hlen : (rs' ++ [(lo, hi')]).length = rs'.length + 1 := by simp
      rw [hlen] at hrow hpl
      obtain ⟨g, cap, rfl⟩ := ownsRow_succ hrow
      have hcell := hrow.cellAt (rs'.length * 2 + 1) (by omega)
      have hfz := hrow.frozenAt (rs'.length * 2 + 1)
      have hcv : (rcells (rs' ++ [(lo, hi')]))[rs'.length * 2 + 1]? = some (.int .i64 hi') := by
        rw [rcells_snoc, List.getElem?_append_right (by rw [rcells_len]; omega), rcells_len]
        simp
      rw [hcv] at hcell
      clear hcv
      by_cases hh : hi' + 1 = b
      · have hq : ((hi' : Int) == (b : Int) - 1) = true := by simp; omega
        have hst := hrow.stored (rs'.length * 2 + 1) (.int .i64 b)
        have hbg : w.heap.size ≤ g := (hrow.lt g rfl).1
        have HST : Hid _ := hst
        clear hst
        gi_wp2
        have hst := HST.out
        have hnb : some (w.heap.size + 1) ≠ some g := hv.not_row (by decide) hrow
        have hns : some (w.heap.size + 1 + 1) ≠ some g := hbx.not_row (by decide) hrow
        have hsb := hbx.kept hst.2 hns
        have hbl := (Below.refl w.heap.size W).setCell (p := ⟨g, rs'.length * 2 + 1, none⟩) hbg (.int .i64 b)
        refine ⟨(KeepsOthers.setCell _ _ _).from _, ⟨hbl, fun _ => hsb⟩, ⟨_, hv.kept hst.2 hnb, ?_, ?_⟩, hsb, hB.trans hbl⟩
        · rw [HS.out, runStep_on rs' lo hi' b hh, ← rcells_set rs' lo hi' b]; simpa using hst.1
        · rw [HS.out, runStep_on rs' lo hi' b hh]; simp
      · have hq : ((hi' : Int) == (b : Int) - 1) = false := by simp; omega
        gi_wp2_with (gi_at_builtin; refine wpListIn_append_own _ rfl _ _ 77 rfl w.heap.size 80 i0 (.agg #[.int .i64 0, .int .i64 0]) 2 16 Try.underlying77 hi hz0 hz1 hz2 rfl (by decide) _ _ _ rfl (hrow.alloc _) ⟨W.heap.size, 0, none⟩ 1 1 [.int .i64 b, .int .i64 b] rfl rfl (two_new _ _ _ _) (by simp [Value.oneCell']) (by unfold maxLen; omega) (by omega) (by have := hB.size; simp; omega) ?_; intro v' w1 hown' hgrow _; obtain ⟨g', cap', rfl⟩ := ownsRow_succ hown'; obtain ⟨hv1, hv2, hr2, hk2, hb2⟩ := hv.appended (by decide) hrow hB.size (by omega) hown' hgrow; have hc1 := hv1.cell; have hf1 := hv1.frozen)
        have hsb := hbx.appended (.slice (some ⟨g', 0, none⟩) (rs'.length + 1 + 1) cap') hv (by decide) hrow hgrow
        refine ⟨hk2.from _, ⟨hb2, fun _ => hsb⟩, ⟨_, hv2, ?_, ?_⟩, hsb, hB.trans hb2⟩
        · rw [HS.out, runStep_off rs' lo hi' b hh, rcells_snoc (rs' ++ [(lo, hi')])]; simpa using hr2
        · rw [HS.out, runStep_off rs' lo hi' b hh]; simp
  case done =>
    rintro D ys W hD rfl ⟨⟨v, hv, hrow, hnil⟩, hbx, hB⟩ hK
    have hc := hv.cell
    gi_wp2
    refine ⟨by simp, .inl ⟨_, _, rfl, run_takeDeferred hK, ?_⟩⟩
    exact ⟨_, results_tmp rfl _ _ _, v, rfl, ownsRow_putObj hrow _ hK rfl, hnil, hB.trans (belowK_b (w := w) (Nat.le_refl _) W D _ _ (by simp at hD; omega) hK rfl rfl)⟩
  case stop =>
    rintro D c pre W _ _ h _
    exact h.elim

end Go.Proofs.Ytbbmjnhbmcbehaa
