/- The law CharsetEach, walked: at every set and a number that is out of its range the call returns true, and turns nothing that was there. -/
import Derived.Test.YtpjnohpjdmgglabE2
import Derived.Test.YtpjnohpjdmgglabW10
namespace Go.Proofs.Ytpjnohpjdmgglab
open Go.RowKit Go.Shelf

attribute [local go_sem] Oper.semAt_some

set_option maxRecDepth 100000 in
set_option maxHeartbeats 4000000 in
theorem each_hi (s : St) (hs : s.ok) (kk : Int) (hkk : 256 < kk) (w : World) :
    Calls Try.prog 5 #[.agg #[.int .u64 s.a, .int .u64 s.b, .int .u64 s.c, .int .u64 s.d], .int .i64 kk] w fun e W' => e = .returned (.bool true) ∧ Below w.heap.size w W' := by
  refine (callsIn_wide (n := 3)).1 ?_
  refine callsIn_of_wp_marks Try.func5 rfl trivial ?_ rfl
  simp only [Try.ntmps5, List.size_toArray, List.length_cons, List.length_nil, Nat.reduceAdd, Nat.reduceSub, Array.replicate_succ, Array.replicate_zero, List.push_toArray, List.append_toArray, List.nil_append, List.cons_append]
  obtain ⟨m, hm⟩ : ∃ m : Nat, m = 256 := ⟨256, rfl⟩
  have EF : ∀ (p : Value) w, (binOp .eql 35 (.func (.func 40) #[] #[p]) .nilFunc).run Try.prog w = .ok (.bool false) w := fun p w => by kernel_rfl
  have b0 := SBox.new s w
  have bm0 := CB.new #[.int .i64 256] 3 (w.alloc (.cells #[.int .u64 s.a, .int .u64 s.b, .int .u64 s.c, .int .u64 s.d] 24))
  have br0 := CB.new #[.bool false] 4 ((w.alloc (.cells #[.int .u64 s.a, .int .u64 s.b, .int .u64 s.c, .int .u64 s.d] 24)).alloc (.cells #[.int .i64 256] 3))
  simp only [World.size_alloc] at bm0 br0
  gi_wp2_with (refine ⟨trivial, ?_⟩; gi_at_call 17; refine (callsIn_wide.2 (bytes_any s hs _)).mono ?_)
  rintro e w1 ⟨v, rfl, hrow, hb1⟩
  have c0 := ((b0.alloc _).alloc _).below hb1
  have cm := (bm0.alloc _).below hb1
  have hm1 : 1 ≤ m := by omega
  have hm2 : m ≤ 256 := by omega
  replace cm : CB #[.int .i64 (m : Nat)] 3 (w.heap.size + 1) w1 := by subst hm; exact cm
  clear hm
  have cr := br0.below hb1
  have hB1 : Below w.heap.size w w1 := below_of (((Below.refl _ w).alloc (Nat.le_refl _) _ |>.alloc (by simp <;> omega) _ |>.alloc (by simp <;> omega) _)) hb1
  simp only [World.size_alloc] at hrow
  obtain ⟨a, cap, rfl, hr⟩ : ∃ a cap, v = .slice a (upTo s 256).length cap ∧ ((upTo s 256).length = 0 ∨ ∃ g cur, a = some ⟨g, 0, none⟩ ∧ CB cur 5 g w1 ∧ w.heap.size + 1 + 1 < g ∧ g < w1.heap.size ∧ ∀ i, i < (upTo s 256).length → cur[i]? = some (.int .u8 (((upTo s 256).getD i 0).val : Int))) := by
    rcases hrow.2 with ⟨rfl, h0⟩ | ⟨g, cap, cur, rfl, h1, hg, h2, h3, h4, ht⟩
    · exact ⟨none, 0, by rw [h0], .inl h0⟩
    · exact ⟨_, cap, rfl, .inr ⟨g, cur, rfl, hg, by omega, (Array.getElem?_eq_some_iff.1 hg).1, fun i hi => row_cells ht i hi⟩⟩
  clear hrow hb1 bm0 br0 b0
  obtain ⟨L, hL0⟩ : ∃ L, upTo s 256 = L := ⟨_, rfl⟩
  rw [hL0] at hr ⊢
  have hL : Hid _ := hL0
  clear hL0
  obtain ⟨k0, k1, k2, k3⟩ := ((c0.alloc (.cells #[.slice a L.length cap] 32)).alloc (.cells #[.int .i64 0] 3)).cells
  gi_wp2_with (refine ⟨trivial, ?_⟩; gi_at_call 18; refine (callsIn_wide.2 (all_any s _)).mono ?_; rintro e w' ⟨rfl, rfl⟩)
  generalize decide (kk < 1) = d1
  have hsort : ∀ i, i + 1 < L.length → (L.getD i 0).val < (L.getD (i + 1) 0).val := fun i hi => by
    have := upTo_sorted s 256 (Nat.le_refl _)
    rw [hL.out] at this
    exact sorted_get this i hi
  have hno : ∀ pre : List (Fin 256), (∃ k, k ≤ 256 ∧ pre = upTo s k) → Beg L pre := by
    rintro pre ⟨k, hk, rfl⟩
    have := upTo_beg s k hk
    rw [hL.out] at this
    exact this
  have y1 : w.heap.size + 1 + 1 < w1.heap.size := cr.lt
  have j0 : J w s m a cap L w1.heap.size 0 (((w1.alloc (.cells #[.slice a L.length cap] 32)).alloc (.cells #[.int .i64 0] 3)).alloc (.cells #[.int .u64 s.a, .int .u64 s.b, .int .u64 s.c, .int .u64 s.d] 24)) := by
    have t1 := ((CB.new #[.slice a L.length cap] 32 w1).alloc (.cells #[.int .i64 0] 3)).alloc (.cells #[.int .u64 s.a, .int .u64 s.b, .int .u64 s.c, .int .u64 s.d] 24)
    have t2 := (CB.new #[.int .i64 0] 3 (w1.alloc (.cells #[.slice a L.length cap] 32))).alloc (.cells #[.int .u64 s.a, .int .u64 s.b, .int .u64 s.c, .int .u64 s.d] 24)
    have t3 := SBox.new s ((w1.alloc (.cells #[.slice a L.length cap] 32)).alloc (.cells #[.int .i64 0] 3))
    simp only [World.size_alloc] at t1 t2 t3
    refine ⟨((cm.alloc _).alloc _).alloc _, ((cr.alloc _).alloc _).alloc _, t1, t2, t3, ?_, y1⟩
    rcases hr with h0 | ⟨g, cur, h1, h2, h3, h4, h5⟩
    · exact .inl h0
    · exact .inr ⟨g, cur, h1, ((h2.alloc _).alloc _).alloc _, h3, h4, h5⟩
  have hB3 : Below w.heap.size w (((w1.alloc (.cells #[.slice a L.length cap] 32)).alloc (.cells #[.int .i64 0] 3)).alloc (.cells #[.int .u64 s.a, .int .u64 s.b, .int .u64 s.c, .int .u64 s.d] 24)) := ((hB1.alloc hB1.size _).alloc (by have := hB1.size; simp; omega) _).alloc (by have := hB1.size; simp; omega) _
  clear c0 cm cr hr k0 k1 k2 k3
  have hz1 := hB1.size
  refine wpIn_rangeFunc_ownG (F := Fence.wide) rfl (by omega) (gf := 40) (lb := #[.pointer (some ⟨w1.heap.size + 1 + 1, 0, none⟩)]) rfl trivial (enters_of Try.func40 (by kernel_rfl) rfl)
    (all_stops (3 - 1) (by omega) (w1.heap.size + 1 + 1) w.heap.size s hs _ (by simp; omega) j0.bs) keepB_t (keepB_b (by simp; omega)) (Below.refl _ _) (fun _ => rfl)
    (fun pre W => (Beg L pre ∧ pre.length < m) ∧ (J w s m a cap L w1.heap.size pre.length W ∧ Below w.heap.size w W))
    (fun c pre W => (c = .exit 0 ∧ Beg L pre ∧ pre.length = m ∧ J w s m a cap L w1.heap.size pre.length W ∧ Below w.heap.size w W) ∨ ¬ Beg L pre)
    (OwnFrom.and (ownFrom_pure _ _) (OwnFrom.and (Own.from J.own _) (ownFrom_below (Nat.le_refl _) (by simp; omega))))
    ?own
    ⟨⟨rfl, by simp; omega⟩, j0, hB3⟩
    (fun x => { tmps := #[.agg #[.int .u64 s.a, .int .u64 s.b, .int .u64 s.c, .int .u64 s.d], .int .i64 kk, .pointer (some ⟨w.heap.size, 0, none⟩), .pointer (some ⟨w.heap.size + 1, 0, none⟩), .pointer (some ⟨w.heap.size + 1 + 1, 0, none⟩), .pointer (some ⟨w1.heap.size, 0, none⟩), .pointer (some ⟨w1.heap.size + 1, 0, none⟩), .func (.func 40) #[] #[.pointer (some ⟨w1.heap.size + 1 + 1, 0, none⟩)], .int .u8 x.val, .int .i64 kk, .bool d1, .bool d1, .int .i64 kk, .bool true, .bool true, .agg #[.int .u64 s.a, .int .u64 s.b, .int .u64 s.c, .int .u64 s.d], .slice a L.length cap, .agg #[.int .u64 s.a, .int .u64 s.b, .int .u64 s.c, .int .u64 s.d], .func (.func 40) #[] #[.pointer (some ⟨w1.heap.size + 1 + 1, 0, none⟩)], .func (.func 40) #[] #[.pointer (some ⟨w1.heap.size + 1 + 1, 0, none⟩)], .bool false, .func (.func 40) #[] #[.pointer (some ⟨w1.heap.size + 1 + 1, 0, none⟩)], .int .u8 x.val, undef, undef, undef, undef, undef, undef, undef, undef, undef, undef, undef, undef, undef, undef, undef, undef, undef, undef, undef, undef, undef, undef, undef, undef, undef, undef, undef, undef, undef, undef, undef, undef, undef, undef, undef, undef, undef, undef, undef, undef, undef, undef, undef, undef, undef, undef, undef, undef], defers := [] }) ?assign ?body ?done ?stop
  case own =>
    intro c pre X Y row h hg hrw
    rcases h with ⟨h1, h2, h3, h4, h5⟩ | h
    · exact .inl ⟨h1, h2, h3, (Own.from J.own _) pre X Y row h4 hg hrw, (ownFrom_below (β := Unit) (Nat.le_refl _) (by simp; omega)) () X Y row h5 hg hrw⟩
    · exact .inr h
  case assign =>
    intro l x W K hK
    gi_wp2
    exact hK
  case body =>
    rintro l pre x W ⟨⟨hbeg, hlt⟩, hJ, hB⟩ hN
    have HLn : Hid ((pre ++ [x]).length = pre.length + 1) := by show _ = _; simp
    have HG : Hid (Beg L (pre ++ [x]) → pre.length < L.length ∧ L.getD pre.length 0 = x) := beg_get
    have HS : Hid (pre.length < L.length → L.getD pre.length 0 = x → Beg L (pre ++ [x])) := beg_snoc hbeg
    clear hbeg EF hno j0 hB3
    obtain ⟨cn, fn⟩ := hJ.bn.one
    obtain ⟨cl, _⟩ := hJ.bl.one
    obtain ⟨cmm, _⟩ := hJ.bm.one
    obtain ⟨crr, frr⟩ := hJ.br.one
    have kr := fun v => keeps_set (N := (((w1.alloc (.cells #[.slice a L.length cap] 32)).alloc (.cells #[.int .i64 0] 3)).alloc (.cells #[.int .u64 s.a, .int .u64 s.b, .int .u64 s.c, .int .u64 s.d] 24)).heap.size) v hJ.br
    have kn := fun v => keeps_set (N := (((w1.alloc (.cells #[.slice a L.length cap] 32)).alloc (.cells #[.int .i64 0] 3)).alloc (.cells #[.int .u64 s.a, .int .u64 s.b, .int .u64 s.c, .int .u64 s.d] 24)).heap.size) v hJ.bn
    have hJs := fun n' => hJ.step n'
    have hBs := fun v : Value => hB.setCell (p := ⟨w1.heap.size + 1, 0, none⟩) (by simp only; omega) v
    generalize hnn : pre.length = n at *
    by_cases h1 : n < L.length
    · obtain ⟨g, cur, rfl, hcb, hg1, hg2, hcur⟩ := hJ.row.resolve_left (by omega)
      have cx := hcb.at (hcur n h1)
      by_cases h2 : L.getD n 0 = x
      · rw [h2] at cx
        have hbeg' : Hid _ := HS.out h1 h2
        match n, h1, h2 with
        | 0, h1, h2 =>
          have hne : ¬ L = [] := by rintro rfl; simp at h1
          by_cases h4 : m = 1
          · have q := hJs (0 + 1)
            push_cast at q
            gi_wp2
            exact ⟨kn _, .inl ⟨rfl, hbeg'.out, by rw [HLn.out]; omega, by rw [HLn.out]; exact q, hBs _⟩⟩
          · have q := hJs (0 + 1)
            push_cast at q
            have h4' : ((((0 + 1 : Nat)) : Int) == (m : Int)) = false := by simp; omega
            gi_wp2
            exact ⟨kn _, ⟨(Below.refl _ _).setCell (p := ⟨w1.heap.size + 1, 0, none⟩) (by simp only; omega) _, fun z => z.other _ (by omega)⟩, ⟨hbeg'.out, by rw [HLn.out]; omega⟩, by rw [HLn.out]; exact q, hBs _⟩
        | k + 1, h1, h2 =>
          have cy := hcb.at (hcur k (by omega))
          have hlt2 := hsort k h1
          rw [h2] at hlt2
          generalize (L.getD k 0).val = y at *
          by_cases h4 : m = k + 1 + 1
          · have q := hJs (k + 1 + 1)
            push_cast at q
            gi_wp2
            exact ⟨kn _, .inl ⟨rfl, hbeg'.out, by rw [HLn.out]; omega, by rw [HLn.out]; exact q, hBs _⟩⟩
          · have q := hJs (k + 1 + 1)
            push_cast at q
            have h4' : ((((k + 1 + 1 : Nat)) : Int) == (m : Int)) = false := by simp; omega
            gi_wp2
            exact ⟨kn _, ⟨(Below.refl _ _).setCell (p := ⟨w1.heap.size + 1, 0, none⟩) (by simp only; omega) _, fun z => z.other _ (by omega)⟩, ⟨hbeg'.out, by rw [HLn.out]; omega⟩, by rw [HLn.out]; exact q, hBs _⟩
      · have h2' : ((((L.getD n 0).val : Nat) : Int) != ((x.val : Nat) : Int)) = true := by
          have : (L.getD n 0).val ≠ x.val := fun h => h2 (Fin.ext h)
          rw [bne_iff_ne]; omega
        have hbad : Hid (¬ Beg L (pre ++ [x])) := fun h => h2 (HG.out h).2
        generalize (L.getD n 0).val = y at *
        gi_wp2
        exact ⟨kr _, .inr hbad.out⟩
    · have hbad : Hid (¬ Beg L (pre ++ [x])) := fun h => h1 (HG.out h).1
      gi_wp2
      exact ⟨kr _, .inr hbad.out⟩
  case done =>
    rintro D ys W hD hys ⟨⟨hbeg, hlt⟩, hJ, hB⟩ hK
    have hyl : ys.length = L.length := by rw [hys, hL.out]
    rw [hyl] at hJ hlt
    obtain ⟨cn, fn⟩ := hJ.bn.one
    obtain ⟨cl, _⟩ := hJ.bl.one
    obtain ⟨cmm, _⟩ := hJ.bm.one
    obtain ⟨crr, frr⟩ := hJ.br.one
    clear EF hno j0 hB3
    gi_wp2_with (refine ⟨trivial, ?_⟩; gi_at_call 14; refine (callsIn_wide.2 (alive_any _)).mono ?_)
    rintro e w2 ⟨rfl, hb2⟩
    have hJ2 := hJ.below hb2
    have hB2 := below_of hB hb2
    have hK2 := (hb2.block D (Array.getElem?_eq_some_iff.1 hK).1).trans hK
    clear cn fn cl cmm crr frr
    obtain ⟨cn, fn⟩ := hJ2.bn.one
    obtain ⟨cl, _⟩ := hJ2.bl.one
    obtain ⟨cmm, _⟩ := hJ2.bm.one
    obtain ⟨crr, frr⟩ := hJ2.br.one
    have g1 : ((L.length : Int) == (m : Int)) = false := by rw [beq_eq_false_iff_ne]; omega
    have hD' : D ≠ w.heap.size + 1 + 1 := by simp at hD; omega
    have hK3 := (Below.heap_setCell w2 ⟨w.heap.size + 1 + 1, 0, none⟩ (.bool true) D hD').trans hK2
    gi_wp2
    refine ⟨by simp, .inl ⟨_, _, rfl, run_takeDeferred hK3, ?_⟩⟩
    have hcb : CB #[.bool true] 4 (w.heap.size + 1 + 1) ((w2.setCell ⟨w.heap.size + 1 + 1, 0, none⟩ (.bool true)).putObj D (.deferred none)) := (World.putObj_heap_other (fun h => hD' h.symm)).trans (hJ2.br.put (.bool true))
    have hcell := hcb.one.1
    refine ⟨.bool true, by simp [results, Try.results5, go_sem, hcell], rfl, ?_⟩
    exact (hB2.setCell (p := ⟨w.heap.size + 1 + 1, 0, none⟩) (by simp only; omega) _).trans (belowK_b (w := w) (Nat.le_refl _) _ D _ _ (by simp at hD; omega) hK3 rfl rfl)
  case stop =>
    rintro D c pre W hD hSp h hK
    have hbeg0 := hno pre hSp
    obtain ⟨rfl, hbeg, hlen, hJ, hB⟩ | h := h
    case inr => exact absurd hbeg0 h
    rw [hlen] at hJ
    have hle : m ≤ L.length := by
      have := congrArg List.length hbeg
      simp only [List.length_take] at this
      omega
    obtain ⟨cn, fn⟩ := hJ.bn.one
    obtain ⟨cl, _⟩ := hJ.bl.one
    obtain ⟨cmm, _⟩ := hJ.bm.one
    obtain ⟨crr, frr⟩ := hJ.br.one
    clear EF hno j0 hB3
    gi_wp2_with (refine ⟨trivial, ?_⟩; gi_at_call 14; refine (callsIn_wide.2 (alive_any _)).mono ?_)
    rintro e w2 ⟨rfl, hb2⟩
    have hJ2 := hJ.below hb2
    have hB2 := below_of hB hb2
    have hK2 := (hb2.block D (Array.getElem?_eq_some_iff.1 hK).1).trans hK
    clear cn fn cl cmm crr frr
    obtain ⟨cn, fn⟩ := hJ2.bn.one
    obtain ⟨cl, _⟩ := hJ2.bl.one
    obtain ⟨cmm, _⟩ := hJ2.bm.one
    obtain ⟨crr, frr⟩ := hJ2.br.one
    have hD' : D ≠ w.heap.size + 1 + 1 := by simp at hD; omega
    have hK3 := (Below.heap_setCell w2 ⟨w.heap.size + 1 + 1, 0, none⟩ (.bool true) D hD').trans hK2
    gi_wp2
    refine ⟨by simp, .inl ⟨_, _, rfl, run_takeDeferred hK3, ?_⟩⟩
    have hcb : CB #[.bool true] 4 (w.heap.size + 1 + 1) ((w2.setCell ⟨w.heap.size + 1 + 1, 0, none⟩ (.bool true)).putObj D (.deferred none)) := (World.putObj_heap_other (fun h => hD' h.symm)).trans (hJ2.br.put (.bool true))
    have hcell := hcb.one.1
    refine ⟨.bool true, by simp [results, Try.results5, go_sem, hcell], rfl, ?_⟩
    exact (hB2.setCell (p := ⟨w.heap.size + 1 + 1, 0, none⟩) (by simp only; omega) _).trans (belowK_b (w := w) (Nat.le_refl _) _ D _ _ (by simp at hD; omega) hK3 rfl rfl)
end Go.Proofs.Ytpjnohpjdmgglab
