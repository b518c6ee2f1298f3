/- Does what is written fit: the walk. -/
import Derived.Test.YtlkcadibjmfmcaaDoorBd
namespace Go.Proofs.YtlkcadibjmfmcaaDoor
open Go.RowKit Go.Shelf

attribute [local go_sem] Oper.semAt_some

theorem signq_le (n : Nat) : (signq n).length ≤ 4 := by
  unfold signq
  split
  · simp
  · unfold escq; split <;> simp
theorem qlen_le (t : List UInt8) : qlen t ≤ 4 * t.length + 2 := by
  have h : ∀ l : List Nat, (l.flatMap signq).length ≤ 4 * l.length := by
    intro l
    induction l with
    | nil => simp
    | cons c l ih => have := signq_le c; rw [List.flatMap_cons, List.length_append, List.length_cons]; omega
  have := h (nums t)
  rw [nums_len] at this
  unfold qlen quoteL
  rw [List.length_append, List.length_append]
  simp only [List.length_cons, List.length_nil]
  omega
theorem ownS_le (d : Tm) (hc : d.cons.size ≤ 1000000000000) {w : World} {B f b o : Nat} (h : TermAt w B f b o d) : ownS d ≤ 200000000000000 := by
  obtain ⟨_, sa, sc, _, _, ⟨ta, tc, _, _, ht, _⟩, _, _, hk⟩ := h
  have hkl := hk.len
  have hq := qlen_le d.text
  unfold ownS
  repeat' split
  all_goals omega
set_option maxRecDepth 100000 in
set_option maxHeartbeats 4000000 in
theorem fits_any (d : Tm) (tv : Value) (sa : Option Addr) (sc f : Nat) (w : World) (htv : Txt w w.heap.size tv d.text) (hk : MAt w w.heap.size f sa d.kids) (hsc : d.kids.length ≤ sc) (hlen : (pre d 1).length ≤ 1000000000000) (hcs : ∀ p ∈ pre d 1, p.1.cons.size ≤ 1000000000000) :
    Calls Tryd.prog 47 #[.agg #[.int .i64 d.kind, .string d.cons, tv, .slice sa d.kids.length sc]] w fun e w' => e = .returned (.bool (fitsT d)) ∧ Below w.heap.size w w' := by
  refine (callsIn_wide (n := 3)).1 ?_
  refine callsIn_of_wp_marks Tryd.func47 rfl trivial ?_ rfl
  simp only [Tryd.ntmps47, List.size_toArray, List.length_cons, List.length_nil, Nat.reduceAdd, Nat.reduceSub, Array.replicate_succ, Array.replicate_zero, List.push_toArray, List.append_toArray, List.nil_append, List.cons_append]
  obtain ⟨w1, hw1⟩ : ∃ w1, w.alloc (.cells #[.int .i64 d.kind, .string d.cons, tv, .slice sa d.kids.length sc] 25) = w1 := ⟨_, rfl⟩
  have s1 : w1.heap.size = w.heap.size + 1 := by rw [← hw1]; simp
  have hB1 : Below w.heap.size w w1 := by rw [← hw1]; exact (Below.refl _ _).alloc (Nat.le_refl _) _
  have hd1 : TermAt w1 (w.heap.size + 1) f w.heap.size 0 d := ⟨by omega, sa, sc, by rw [← hw1]; exact cell_new 0 rfl, by rw [← hw1]; exact cell_new 1 rfl, (htv.keep hB1).cell (by omega) (by rw [← hw1]; exact cell_new 2 rfl), by rw [← hw1]; exact cell_new 3 rfl, hsc, (hk.keep hB1).mono (by omega)⟩
  gi_wp2_with (refine ⟨trivial, ?_⟩; gi_at_call 37; refine (callsIn_wide.2 (parts_any _ _)).mono ?_; rintro e w' ⟨rfl, rfl⟩)
  have bR := (((Boxed.new w1 4 (.bool false)).alloc (.cells #[.int .i64 0] 3)).alloc (.cells #[.pointer (some ⟨w.heap.size, 0, none⟩)] 62)).alloc (.cells #[.func (.func 36) #[] #[]] 81)
  have bC := ((Boxed.new (w1.alloc (.cells #[.bool false] 4)) 3 (.int .i64 0)).alloc (.cells #[.pointer (some ⟨w.heap.size, 0, none⟩)] 62)).alloc (.cells #[.func (.func 36) #[] #[]] 81)
  have b1 := (Boxed.new ((w1.alloc (.cells #[.bool false] 4)).alloc (.cells #[.int .i64 0] 3)) 62 (.pointer (some ⟨w.heap.size, 0, none⟩))).alloc (.cells #[.func (.func 36) #[] #[]] 81)
  have b2 := Boxed.new (((w1.alloc (.cells #[.bool false] 4)).alloc (.cells #[.int .i64 0] 3)).alloc (.cells #[.pointer (some ⟨w.heap.size, 0, none⟩)] 62)) 81 (.func (.func 36) #[] #[])
  obtain ⟨w5, hw5⟩ : ∃ w5, (((w1.alloc (.cells #[.bool false] 4)).alloc (.cells #[.int .i64 0] 3)).alloc (.cells #[.pointer (some ⟨w.heap.size, 0, none⟩)] 62)).alloc (.cells #[.func (.func 36) #[] #[]] 81) = w5 := ⟨_, rfl⟩
  have s5 : w5.heap.size = w.heap.size + 5 := by rw [← hw5]; simp [s1]
  have hB5 : Below w1.heap.size w1 w5 := by rw [← hw5]; exact ((((Below.refl _ _).alloc (Nat.le_refl _) _).alloc (by simp) _).alloc (by simp; omega) _).alloc (by simp; omega) _
  simp only [World.size_alloc, s1] at bR bC b1 b2
  rw [hw5] at bR bC b1 b2
  rw [hw5]
  have hd5 : TermAt w5 (w.heap.size + 1) f w.heap.size 0 d := hd1.keep (by rw [← s1]; exact hB5)
  have hBw : Below w.heap.size w w5 := hB1.trans (hB5.mono (by omega))
  clear hw5 hd1 hB5 hB1 hw1
  refine range_law_t (F := Fence.wide) rfl (by omega) (gf := 56) (lb := #[.pointer (some ⟨w.heap.size + 1 + 1 + 1, 0, none⟩), .pointer (some ⟨w.heap.size + 1 + 1 + 1 + 1, 0, none⟩)]) rfl trivial (enters_of Tryd.func56 (by kernel_rfl) rfl)
    (parts_seq_t (3 - 1) (by omega) (w.heap.size + 1 + 1 + 1) (w.heap.size + 1 + 1 + 1 + 1) (w.heap.size + 1) f w.heap.size 0 d w5 (by omega) hd5 hlen (by omega) (by omega) b1.cell b2.cell) (by omega) (fun b hb => by rcases hb with rfl | rfl <;> omega) (Below.refl _ _) (fun _ => rfl)
    (FI w w5) (FX w w5) (FI.stays w w5) (FI.noMind w w5 (by omega)) (fun c => FX.stays w w5 c (by omega)) (fun c => FX.noMind w w5 c (by omega))
    ⟨bR, bC, fun b hb => (by rcases hb with rfl | rfl <;> omega), Below.refl _ _, by decide⟩
    (fun x => { tmps := #[.agg #[.int .i64 d.kind, .string d.cons, tv, .slice sa d.kids.length sc], .pointer (some ⟨w.heap.size, 0, none⟩), .pointer (some ⟨w.heap.size + 1, 0, none⟩), .pointer (some ⟨w.heap.size + 1 + 1, 0, none⟩), .pointer (some ⟨x.b, x.o, none⟩), .func (.func 56) #[] #[.pointer (some ⟨w.heap.size + 1 + 1 + 1, 0, none⟩), .pointer (some ⟨w.heap.size + 1 + 1 + 1 + 1, 0, none⟩)], .pointer (some ⟨x.b, x.o, none⟩), .int .i64 (x.deep : Int), undef, undef, undef, undef, undef, undef], defers := [] }) ?assign ?body ?done ?stop
  case assign =>
    intro l x W K hK
    unfold Px.enc
    gi_wp2
    exact hK
  case body =>
    rintro l A xs x W hI hlt ⟨hx, hr⟩ hA
    have hls := box_lt hI.sum
    have hlr := box_lt hI.res
    have hd2 := hx.keep hI.bel
    have hcx : x.doc.cons.size ≤ 1000000000000 := hcs x.say (by obtain ⟨r, hr⟩ := hr; rw [← hr]; simp)
    have hso : osum ((xs ++ [x]).map Px.say) = osum (xs.map Px.say) + ownS x.doc := by rw [List.map_append, osum_app]; simp [osum, Px.say]
    have hol := ownS_le x.doc hcx hd2
    have HC : Hid (∀ W', Below W.heap.size W W' → Calls Tryd.prog 62 #[.pointer (some ⟨x.b, x.o, none⟩)] W' fun e w' => e = .returned (.int .i64 (ownS x.doc)) ∧ Below W.heap.size W w') := fun W' hb => by
      refine (ownSize_any x.doc (w.heap.size + 1) f x.b x.o W' (by have := hb.size; omega) (hd2.keep (hb.mono (by omega))) hcx).mono ?_
      rintro e w' ⟨rfl, hb'⟩
      exact ⟨rfl, hb.trans (hb'.mono hb.size)⟩
    have hfw := hI.few
    obtain ⟨s, hs⟩ : ∃ s, osum (xs.map Px.say) = s := ⟨_, rfl⟩
    have HQ : Hid (∀ W', Below W.heap.size W W' → W'.cell? ⟨w.heap.size + 1 + 1, 0, none⟩ = some (.int .i64 (s : Int)) ∧ W'.frozen? ⟨w.heap.size + 1 + 1, 0, none⟩ = false ∧ W'.cell? ⟨w.heap.size + 1, 0, none⟩ = some (.bool false) ∧ W'.frozen? ⟨w.heap.size + 1, 0, none⟩ = false) := fun W' hb => by
      have b1 : Boxed W' (w.heap.size + 1 + 1) 3 (.int .i64 (s : Int)) := by rw [← hs]; exact (hb.block _ hls).trans hI.sum
      have b2 : Boxed W' (w.heap.size + 1) 4 (.bool false) := (hb.block _ hlr).trans hI.res
      exact ⟨b1.cell, b1.frozen, b2.cell, b2.frozen⟩
    rw [hs] at hso hfw
    have HFX : Hid (65536 < s + ownS x.doc → ∀ W2, Below W.heap.size W W2 → KeepsFrom w5.heap.size W ((W2.setCell ⟨w.heap.size + 1 + 1, 0, none⟩ (.int .i64 ((s : Int) + (ownS x.doc : Int)))).setCell ⟨w.heap.size + 1, 0, none⟩ (.bool false)) ∧ FX w w5 .ret A (xs ++ [x]) ((W2.setCell ⟨w.heap.size + 1 + 1, 0, none⟩ (.int .i64 ((s : Int) + (ownS x.doc : Int)))).setCell ⟨w.heap.size + 1, 0, none⟩ (.bool false))) := fun hbad W2 hb => by
      have b2 : Boxed W2 (w.heap.size + 1) 4 (.bool false) := (hb.block _ hlr).trans hI.res
      have b3 : Boxed (W2.setCell ⟨w.heap.size + 1 + 1, 0, none⟩ (.int .i64 ((s : Int) + (ownS x.doc : Int)))) (w.heap.size + 1) 4 (.bool false) := (Below.heap_setCell W2 ⟨w.heap.size + 1 + 1, 0, none⟩ _ _ (by show w.heap.size + 1 ≠ w.heap.size + 1 + 1; omega)).trans b2
      refine ⟨((KeepsFrom.of_grownBy (below_grown hb) (fun j hj => by cases hj)).trans (KeepsFrom.of_grownBy (grown_set W2 (w.heap.size + 1 + 1) 0 _) (fun j hj => by cases hj; omega))).trans (KeepsFrom.of_grownBy (grown_set _ (w.heap.size + 1) 0 (.bool false)) (fun j hj => by cases hj; omega)), rfl, box_set b3 _, hI.ab, ((hI.bel.trans (hb.mono (by omega))).setCell (by show w.heap.size + 1 ≤ w.heap.size + 1 + 1; omega) _).setCell (Nat.le_refl _) _, by rw [hso]; exact hbad⟩
    have HFI : Hid (s + ownS x.doc ≤ 65536 → ∀ W2, Below W.heap.size W W2 → KeepsFrom w5.heap.size W (W2.setCell ⟨w.heap.size + 1 + 1, 0, none⟩ (.int .i64 ((s : Int) + (ownS x.doc : Int)))) ∧ Keep (w.heap.size + 1) A W (W2.setCell ⟨w.heap.size + 1 + 1, 0, none⟩ (.int .i64 ((s : Int) + (ownS x.doc : Int)))) ∧ FI w w5 A (xs ++ [x]) (W2.setCell ⟨w.heap.size + 1 + 1, 0, none⟩ (.int .i64 ((s : Int) + (ownS x.doc : Int))))) := fun hok W2 hb => by
      have b1 : Boxed W2 (w.heap.size + 1 + 1) 3 (.int .i64 (osum (xs.map Px.say) : Int)) := (hb.block _ hls).trans hI.sum
      have b2 : Boxed W2 (w.heap.size + 1) 4 (.bool false) := (hb.block _ hlr).trans hI.res
      refine ⟨(KeepsFrom.of_grownBy (below_grown hb) (fun j hj => by cases hj)).trans (KeepsFrom.of_grownBy (grown_set W2 (w.heap.size + 1 + 1) 0 _) (fun j hj => by cases hj; omega)), ⟨(hb.mono (by omega)).setCell (by show w.heap.size + 1 ≤ w.heap.size + 1 + 1; omega) _, fun b hA' hlt' => (Below.heap_setCell W2 ⟨w.heap.size + 1 + 1, 0, none⟩ _ _ (by have := hI.ab b hA'; show b ≠ w.heap.size + 1 + 1; omega)).trans (hb.block b hlt')⟩, (Below.heap_setCell W2 ⟨w.heap.size + 1 + 1, 0, none⟩ _ _ (by show w.heap.size + 1 ≠ w.heap.size + 1 + 1; omega)).trans b2, ?_, hI.ab, (hI.bel.trans (hb.mono (by omega))).setCell (by show w.heap.size + 1 ≤ w.heap.size + 1 + 1; omega) _, by rw [hso]; exact hok⟩
      have := box_set b1 (.int .i64 ((s : Int) + (ownS x.doc : Int)))
      rw [hso]; push_cast; exact this
    obtain ⟨W0, hW0⟩ : ∃ W0, W.drew = W0 := ⟨_, rfl⟩
    have hB0 : Below W.heap.size W W0 := by rw [← hW0]; exact (Below.refl _ _).drew
    obtain ⟨p1, p2, p3, p4⟩ := HQ.out W0 hB0
    have hwr : IntKind.i64.wrap ((s : Int) + (ownS x.doc : Int)) = (s : Int) + (ownS x.doc : Int) := by rw [IntKind.wrap_i64]; omega
    have hls2 : w.heap.size + 1 + 1 < W0.heap.size := by have := hB0.size; omega
    clear hd2 hx hI hA hso hs hcx
    generalize ownS x.doc = q at *
    by_cases hok : s + q ≤ 65536
    · have HB : Hid _ := HFI.out hok
      have h2' : decide ((65536 : Int) < (s : Int) + (q : Int)) = false := by simp; omega
      have h2n : ¬ (65536 : Int) < (s : Int) + (q : Int) := by omega
      clear HFX HFI
      gi_wp2
      refine region_held l _ (by kernel_rfl) (noDefer_spec (by kernel_rfl)) (S := fun _ => True) (fun ⟨_, _, h⟩ => by cases h) trivial (fun hHeld => ?_)
      rw [hW0]
      refine wpAnyH_take (i := 1) (v := ?v1) rfl (by kernel_rfl) (by kernel_rfl) (by kernel_rfl) (fun _ _ _ h => h) (Or.inl ⟨by rfl, ?y1⟩) (by assumption) ?_
      case y1 => (intro w hSw; (try dsimp only at hSw); go_simp <;> with_reducible rfl)
      try simp only [Act.put, List.getElem_toArray, List.setIfInBounds_toArray]
      refine wpAnyH_ready (rs := [0, 2]) (by kernel_rfl) (by simp) ?_
      refine (AllReadyH.cons rfl (fun K hK => ?_) (AllReadyH.cons rfl (fun K hK => ?_) AllReadyH.nil))
      · skip
        go_simp
        refine hK.out _ _ trivial (fun hHeld => ?_)
        clear hK K
        try simp only [Act.put, List.getElem_toArray, List.getElem_cons_zero, List.getElem_cons_succ, List.setIfInBounds_toArray, List.set_cons_zero, List.set_cons_succ]
        refine wpAnyH_ready (rs := [2]) (by kernel_rfl) (by simp) ?_
        refine (AllReadyH.cons rfl (fun K hK => ?_) AllReadyH.nil)
        go_simp
        go_at_call 62
        refine (HC.out _ (by assumption)).mono ?_
        rintro e w2 ⟨rfl, hb2⟩
        obtain ⟨q1, q2, q3, q4⟩ := HQ.out w2 hb2
        go_wp2_with fail
        refine hK.out _ _ trivial (fun hHeld => ?_)
        clear hK K
        try simp only [Act.put, List.getElem_toArray, List.getElem_cons_zero, List.getElem_cons_succ, List.setIfInBounds_toArray, List.set_cons_zero, List.set_cons_succ]
        refine wpAnyH_take (i := 3) (v := ?v2) rfl (by kernel_rfl) (by kernel_rfl) (by kernel_rfl) (fun _ _ _ h => h) (Or.inl ⟨by rfl, ?y2⟩) (by assumption) ?_
        case y2 => (intro w hSw; (try dsimp only at hSw); go_simp <;> with_reducible rfl)
        try simp only [Act.put, List.getElem_toArray, List.getElem_cons_zero, List.getElem_cons_succ, List.setIfInBounds_toArray, List.set_cons_zero, List.set_cons_succ]
        refine wpAnyH_ready (rs := [4]) (by kernel_rfl) (by simp) ?_
        refine (AllReadyH.cons rfl (fun K hK => ?_) AllReadyH.nil)
        go_simp
        refine hK.out _ _ trivial (fun hHeld => ?_)
        clear hK K
        try simp only [Act.put, List.getElem_toArray, List.getElem_cons_zero, List.getElem_cons_succ, List.setIfInBounds_toArray, List.set_cons_zero, List.set_cons_succ]
        refine wpAnyH_done (by kernel_rfl) ?_ _
        gi_wp2
        exact HB.out _ hb2
      · skip
        go_simp
        go_at_call 62
        refine (HC.out _ (by assumption)).mono ?_
        rintro e w2 ⟨rfl, hb2⟩
        obtain ⟨q1, q2, q3, q4⟩ := HQ.out w2 hb2
        go_wp2_with fail
        refine hK.out _ _ trivial (fun hHeld => ?_)
        clear hK K
        try simp only [Act.put, List.getElem_toArray, List.getElem_cons_zero, List.getElem_cons_succ, List.setIfInBounds_toArray, List.set_cons_zero, List.set_cons_succ]
        refine wpAnyH_ready (rs := [0]) (by kernel_rfl) (by simp) ?_
        refine (AllReadyH.cons rfl (fun K hK => ?_) AllReadyH.nil)
        go_simp
        refine hK.out _ _ trivial (fun hHeld => ?_)
        clear hK K
        try simp only [Act.put, List.getElem_toArray, List.getElem_cons_zero, List.getElem_cons_succ, List.setIfInBounds_toArray, List.set_cons_zero, List.set_cons_succ]
        refine wpAnyH_take (i := 3) (v := ?v3) rfl (by kernel_rfl) (by kernel_rfl) (by kernel_rfl) (fun _ _ _ h => h) (Or.inl ⟨by rfl, ?y3⟩) (by assumption) ?_
        case y3 => (intro w hSw; (try dsimp only at hSw); go_simp <;> with_reducible rfl)
        try simp only [Act.put, List.getElem_toArray, List.getElem_cons_zero, List.getElem_cons_succ, List.setIfInBounds_toArray, List.set_cons_zero, List.set_cons_succ]
        refine wpAnyH_ready (rs := [4]) (by kernel_rfl) (by simp) ?_
        refine (AllReadyH.cons rfl (fun K hK => ?_) AllReadyH.nil)
        go_simp
        refine hK.out _ _ trivial (fun hHeld => ?_)
        clear hK K
        try simp only [Act.put, List.getElem_toArray, List.getElem_cons_zero, List.getElem_cons_succ, List.setIfInBounds_toArray, List.set_cons_zero, List.set_cons_succ]
        refine wpAnyH_done (by kernel_rfl) ?_ _
        gi_wp2
        exact HB.out _ hb2
    · have HB : Hid _ := HFX.out (by omega)
      have h2' : (65536 : Int) < (s : Int) + (q : Int) := by omega
      clear HFX HFI
      gi_wp2
      refine region_held l _ (by kernel_rfl) (noDefer_spec (by kernel_rfl)) (S := fun _ => True) (fun ⟨_, _, h⟩ => by cases h) trivial (fun hHeld => ?_)
      rw [hW0]
      refine wpAnyH_take (i := 1) (v := ?v4) rfl (by kernel_rfl) (by kernel_rfl) (by kernel_rfl) (fun _ _ _ h => h) (Or.inl ⟨by rfl, ?y4⟩) (by assumption) ?_
      case y4 => (intro w hSw; (try dsimp only at hSw); go_simp <;> with_reducible rfl)
      try simp only [Act.put, List.getElem_toArray, List.setIfInBounds_toArray]
      refine wpAnyH_ready (rs := [0, 2]) (by kernel_rfl) (by simp) ?_
      refine (AllReadyH.cons rfl (fun K hK => ?_) (AllReadyH.cons rfl (fun K hK => ?_) AllReadyH.nil))
      · skip
        go_simp
        refine hK.out _ _ trivial (fun hHeld => ?_)
        clear hK K
        try simp only [Act.put, List.getElem_toArray, List.getElem_cons_zero, List.getElem_cons_succ, List.setIfInBounds_toArray, List.set_cons_zero, List.set_cons_succ]
        refine wpAnyH_ready (rs := [2]) (by kernel_rfl) (by simp) ?_
        refine (AllReadyH.cons rfl (fun K hK => ?_) AllReadyH.nil)
        go_simp
        go_at_call 62
        refine (HC.out _ (by assumption)).mono ?_
        rintro e w2 ⟨rfl, hb2⟩
        obtain ⟨q1, q2, q3, q4⟩ := HQ.out w2 hb2
        go_wp2_with fail
        refine hK.out _ _ trivial (fun hHeld => ?_)
        clear hK K
        try simp only [Act.put, List.getElem_toArray, List.getElem_cons_zero, List.getElem_cons_succ, List.setIfInBounds_toArray, List.set_cons_zero, List.set_cons_succ]
        refine wpAnyH_take (i := 3) (v := ?v5) rfl (by kernel_rfl) (by kernel_rfl) (by kernel_rfl) (fun _ _ _ h => h) (Or.inl ⟨by rfl, ?y5⟩) (by assumption) ?_
        case y5 => (intro w hSw; (try dsimp only at hSw); go_simp <;> with_reducible rfl)
        try simp only [Act.put, List.getElem_toArray, List.getElem_cons_zero, List.getElem_cons_succ, List.setIfInBounds_toArray, List.set_cons_zero, List.set_cons_succ]
        refine wpAnyH_ready (rs := [4]) (by kernel_rfl) (by simp) ?_
        refine (AllReadyH.cons rfl (fun K hK => ?_) AllReadyH.nil)
        go_simp
        refine hK.out _ _ trivial (fun hHeld => ?_)
        clear hK K
        try simp only [Act.put, List.getElem_toArray, List.getElem_cons_zero, List.getElem_cons_succ, List.setIfInBounds_toArray, List.set_cons_zero, List.set_cons_succ]
        refine wpAnyH_done (by kernel_rfl) ?_ _
        gi_wp2
        exact HB.out _ hb2
      · skip
        go_simp
        go_at_call 62
        refine (HC.out _ (by assumption)).mono ?_
        rintro e w2 ⟨rfl, hb2⟩
        obtain ⟨q1, q2, q3, q4⟩ := HQ.out w2 hb2
        go_wp2_with fail
        refine hK.out _ _ trivial (fun hHeld => ?_)
        clear hK K
        try simp only [Act.put, List.getElem_toArray, List.getElem_cons_zero, List.getElem_cons_succ, List.setIfInBounds_toArray, List.set_cons_zero, List.set_cons_succ]
        refine wpAnyH_ready (rs := [0]) (by kernel_rfl) (by simp) ?_
        refine (AllReadyH.cons rfl (fun K hK => ?_) AllReadyH.nil)
        go_simp
        refine hK.out _ _ trivial (fun hHeld => ?_)
        clear hK K
        try simp only [Act.put, List.getElem_toArray, List.getElem_cons_zero, List.getElem_cons_succ, List.setIfInBounds_toArray, List.set_cons_zero, List.set_cons_succ]
        refine wpAnyH_take (i := 3) (v := ?v6) rfl (by kernel_rfl) (by kernel_rfl) (by kernel_rfl) (fun _ _ _ h => h) (Or.inl ⟨by rfl, ?y6⟩) (by assumption) ?_
        case y6 => (intro w hSw; (try dsimp only at hSw); go_simp <;> with_reducible rfl)
        try simp only [Act.put, List.getElem_toArray, List.getElem_cons_zero, List.getElem_cons_succ, List.setIfInBounds_toArray, List.set_cons_zero, List.set_cons_succ]
        refine wpAnyH_ready (rs := [4]) (by kernel_rfl) (by simp) ?_
        refine (AllReadyH.cons rfl (fun K hK => ?_) AllReadyH.nil)
        go_simp
        refine hK.out _ _ trivial (fun hHeld => ?_)
        clear hK K
        try simp only [Act.put, List.getElem_toArray, List.getElem_cons_zero, List.getElem_cons_succ, List.setIfInBounds_toArray, List.set_cons_zero, List.set_cons_succ]
        refine wpAnyH_done (by kernel_rfl) ?_ _
        gi_wp2
        exact HB.out _ hb2
  case done =>
    rintro D A xs W hD ⟨hS, _⟩ hI hK
    have cr := hI.res.cell
    have rf := hI.res.frozen
    have hD' : D ≠ w.heap.size + 1 := by omega
    have hK3 := (Below.heap_setCell W ⟨w.heap.size + 1, 0, none⟩ (.bool true) D hD').trans hK
    have hg := fits_good hS hI.few
    have hcell : ((W.setCell ⟨w.heap.size + 1, 0, none⟩ (.bool true)).putObj D (.deferred none)).cell? ⟨w.heap.size + 1, 0, none⟩ = some (.bool true) := (World.cell?_of_block (a := ⟨w.heap.size + 1, 0, none⟩) (World.putObj_heap_other (fun h => hD' h.symm))).trans (box_set hI.res (.bool true)).cell
    have hBf : Below w.heap.size w ((W.setCell ⟨w.heap.size + 1, 0, none⟩ (.bool true)).putObj D (.deferred none)) := by
      have h1 := (hBw.trans (hI.bel.mono (by omega))).setCell (p := ⟨w.heap.size + 1, 0, none⟩) (by show w.heap.size ≤ w.heap.size + 1; omega) (.bool true)
      exact ⟨h1.os, h1.tape, h1.output, by simpa using h1.size, fun b hb => (World.putObj_heap_other (by omega)).trans (h1.block b hb)⟩
    have HG : Hid _ := hg
    clear hI hS hg bR b1 b2 hd5
    gi_wp2
    refine ⟨by simp, .inl ⟨_, _, rfl, run_takeDeferred hK3, ?_⟩⟩
    exact ⟨.bool true, by simp [results, Tryd.results47, go_sem, hcell], by rw [HG.out], hBf⟩
  case stop =>
    rintro D c A xs W hD ⟨hS, _⟩ hX hK
    obtain rfl := hX.code
    have hg := fits_bad hS hX.bad
    have hD' : D ≠ w.heap.size + 1 := by omega
    have hcell : (W.putObj D (.deferred none)).cell? ⟨w.heap.size + 1, 0, none⟩ = some (.bool false) := (World.cell?_of_block (a := ⟨w.heap.size + 1, 0, none⟩) (World.putObj_heap_other (fun h => hD' h.symm))).trans hX.res.cell
    have hBf : Below w.heap.size w (W.putObj D (.deferred none)) := by
      have h1 := hBw.trans (hX.bel.mono (by omega))
      exact ⟨h1.os, h1.tape, h1.output, by simpa using h1.size, fun b hb => (World.putObj_heap_other (by omega)).trans (h1.block b hb)⟩
    have HG : Hid _ := hg
    clear hX hS hg bR b1 b2 hd5
    gi_wp2
    refine ⟨by simp, .inl ⟨_, _, rfl, run_takeDeferred hK, ?_⟩⟩
    exact ⟨.bool false, by simp [results, Tryd.results47, go_sem, hcell], by rw [HG.out], hBf⟩
end Go.Proofs.YtlkcadibjmfmcaaDoor
