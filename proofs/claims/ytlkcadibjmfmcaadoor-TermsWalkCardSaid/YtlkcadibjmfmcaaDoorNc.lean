/- Which terms are right: the walk. -/
import Derived.Test.YtlkcadibjmfmcaaDoorNb
namespace Go.Proofs.YtlkcadibjmfmcaaDoor
open Go.RowKit Go.Shelf

attribute [local go_sem] Oper.semAt_some

/-- May a part stand so deep? -/
def okP (p : Tm × Nat) : Bool := decide (p.2 ≤ 200) && okK p.1
/-- Is a term right? -/
def rightT (d : Tm) : Bool := (pre d 1).all okP
/-- While one goes through: all that have come may stand where they stand. -/
structure RI (w wd : World) (A : Nat → Prop) (xs : List Px) (W : World) : Prop where
  res : Boxed W (w.heap.size + 1) 4 (.bool false)
  ab : ∀ b, A b → w.heap.size + 2 ≤ b
  bel : Below (w.heap.size + 1) wd W
  ok : ∀ x ∈ xs, okP x.say = true
/-- One has come that may not. -/
structure RX (w wd : World) (c : Code) (A : Nat → Prop) (xs : List Px) (W : World) : Prop where
  code : c = .ret
  res : Boxed W (w.heap.size + 1) 4 (.bool false)
  ab : ∀ b, A b → w.heap.size + 2 ≤ b
  bel : Below (w.heap.size + 1) wd W
  bad : ∃ x ∈ xs, okP x.say = false
theorem RI.stays (w wd : World) : Stays (RI w wd) := by
  intro A A' xs X Y h hi ha
  have hlr := box_lt h.res
  have hk : ∀ b, b < w.heap.size + 2 → b < X.heap.size → Y.heap[b]? = X.heap[b]? := fun b hb hx => hi.keep b hx (fun hA => by have := h.ab b hA; omega)
  refine ⟨(hk _ (by omega) hlr).trans h.res, fun b hb => ?_, ⟨hi.os.trans h.bel.os, hi.tape.trans h.bel.tape, hi.output.trans h.bel.output, Nat.le_trans h.bel.size hi.size, fun b hb => (hk b (by omega) (by omega)).trans (h.bel.block b hb)⟩, h.ok⟩
  rcases ha b hb with h' | h'
  · exact h.ab b h'
  · omega
theorem RX.stays (w wd : World) (c : Code) : Stays (RX w wd c) := by
  intro A A' xs X Y h hi ha
  have hlr := box_lt h.res
  have hs := h.bel.size
  have hk : ∀ b, b < w.heap.size + 2 → b < X.heap.size → Y.heap[b]? = X.heap[b]? := fun b hb hx => hi.keep b hx (fun hA => by have := h.ab b hA; omega)
  refine ⟨h.code, (hk _ (by omega) hlr).trans h.res, fun b hb => ?_, ⟨hi.os.trans h.bel.os, hi.tape.trans h.bel.tape, hi.output.trans h.bel.output, Nat.le_trans h.bel.size hi.size, fun b hb => (hk b (by omega) (by omega)).trans (h.bel.block b hb)⟩, h.bad⟩
  rcases ha b hb with h' | h'
  · exact h.ab b h'
  · omega
theorem RI.noMind (w wd : World) {B : Nat} (hB : w.heap.size + 2 ≤ B) : NoMind B (RI w wd) := by
  intro A xs W l o o' h hl _ _
  have hk : ∀ b, b < w.heap.size + 2 → (W.putObj l o').heap[b]? = W.heap[b]? := fun b hb => World.putObj_heap_other (by omega)
  exact ⟨(hk _ (by omega)).trans h.res, h.ab, ⟨h.bel.os, h.bel.tape, h.bel.output, by simpa using h.bel.size, fun b hb => (hk b (by omega)).trans (h.bel.block b hb)⟩, h.ok⟩
theorem RX.noMind (w wd : World) (c : Code) {B : Nat} (hB : w.heap.size + 2 ≤ B) : NoMind B (RX w wd c) := by
  intro A xs W l o o' h hl _ _
  have hk : ∀ b, b < w.heap.size + 2 → (W.putObj l o').heap[b]? = W.heap[b]? := fun b hb => World.putObj_heap_other (by omega)
  exact ⟨h.code, (hk _ (by omega)).trans h.res, h.ab, ⟨h.bel.os, h.bel.tape, h.bel.output, by simpa using h.bel.size, fun b hb => (hk b (by omega)).trans (h.bel.block b hb)⟩, h.bad⟩
theorem right_bad {d : Tm} {xs : List Px} (h : ∃ r, xs.map Px.say ++ r = pre d 1) (hb : ∃ x ∈ xs, okP x.say = false) : rightT d = false := by
  obtain ⟨r, hr⟩ := h
  obtain ⟨x, hx, hb⟩ := hb
  unfold rightT
  rw [← hr, List.all_eq_false]
  exact ⟨x.say, by simp; exact .inl ⟨x, hx, rfl⟩, by rw [hb]; simp⟩
theorem right_good {d : Tm} {xs : List Px} (h : xs.map Px.say = pre d 1) (h2 : ∀ x ∈ xs, okP x.say = true) : rightT d = true := by
  unfold rightT
  rw [← h]
  simp
  exact fun x hx => h2 x hx
theorem below_grown {W W' : World} (h : Below W.heap.size W W') : W.grownBy W' none := ⟨h.os, h.tape, h.output, h.size, fun k hk _ => h.block k hk⟩
set_option maxRecDepth 100000 in
set_option maxHeartbeats 4000000 in
theorem right_any (d : Tm) (tv : Value) (sa : Option Addr) (sc f : Nat) (w : World) (htv : Txt w w.heap.size tv d.text) (hk : MAt w w.heap.size f sa d.kids) (hsc : d.kids.length ≤ sc) (hlen : (pre d 1).length ≤ 1000000000000) :
    Calls Tryd.prog 19 #[.agg #[.int .i64 d.kind, .string d.cons, tv, .slice sa d.kids.length sc]] w fun e w' => e = .returned (.bool (rightT d)) ∧ Below w.heap.size w w' := by
  refine (callsIn_wide (n := 3)).1 ?_
  refine callsIn_of_wp_marks Tryd.func19 rfl trivial ?_ rfl
  simp only [Tryd.ntmps19, List.size_toArray, List.length_cons, List.length_nil, Nat.reduceAdd, Nat.reduceSub, Array.replicate_succ, Array.replicate_zero, List.push_toArray, List.append_toArray, List.nil_append, List.cons_append]
  obtain ⟨w1, hw1⟩ : ∃ w1, w.alloc (.cells #[.int .i64 d.kind, .string d.cons, tv, .slice sa d.kids.length sc] 25) = w1 := ⟨_, rfl⟩
  have s1 : w1.heap.size = w.heap.size + 1 := by rw [← hw1]; simp
  have hB1 : Below w.heap.size w w1 := by rw [← hw1]; exact (Below.refl _ _).alloc (Nat.le_refl _) _
  have hd1 : TermAt w1 (w.heap.size + 1) f w.heap.size 0 d := ⟨by omega, sa, sc, by rw [← hw1]; exact cell_new 0 rfl, by rw [← hw1]; exact cell_new 1 rfl, (htv.keep hB1).cell (by omega) (by rw [← hw1]; exact cell_new 2 rfl), by rw [← hw1]; exact cell_new 3 rfl, hsc, (hk.keep hB1).mono (by omega)⟩
  gi_wp2_with (refine ⟨trivial, ?_⟩; gi_at_call 37; refine (callsIn_wide.2 (parts_any _ _)).mono ?_; rintro e w' ⟨rfl, rfl⟩)
  have bR := ((Boxed.new w1 4 (.bool false)).alloc (.cells #[.pointer (some ⟨w.heap.size, 0, none⟩)] 62)).alloc (.cells #[.func (.func 36) #[] #[]] 81)
  have b1 := (Boxed.new (w1.alloc (.cells #[.bool false] 4)) 62 (.pointer (some ⟨w.heap.size, 0, none⟩))).alloc (.cells #[.func (.func 36) #[] #[]] 81)
  have b2 := Boxed.new ((w1.alloc (.cells #[.bool false] 4)).alloc (.cells #[.pointer (some ⟨w.heap.size, 0, none⟩)] 62)) 81 (.func (.func 36) #[] #[])
  obtain ⟨w5, hw5⟩ : ∃ w5, ((w1.alloc (.cells #[.bool false] 4)).alloc (.cells #[.pointer (some ⟨w.heap.size, 0, none⟩)] 62)).alloc (.cells #[.func (.func 36) #[] #[]] 81) = w5 := ⟨_, rfl⟩
  have s5 : w5.heap.size = w.heap.size + 4 := by rw [← hw5]; simp [s1]
  have hB5 : Below w1.heap.size w1 w5 := by rw [← hw5]; exact (((Below.refl _ _).alloc (Nat.le_refl _) _).alloc (by simp) _).alloc (by simp; omega) _
  simp only [World.size_alloc, s1] at bR b1 b2
  rw [hw5] at bR b1 b2
  rw [hw5]
  have hd5 : TermAt w5 (w.heap.size + 1) f w.heap.size 0 d := hd1.keep (by rw [← s1]; exact hB5)
  have hBw : Below w.heap.size w w5 := hB1.trans (hB5.mono (by omega))
  clear hw5 hd1 hB5 hB1 hw1
  refine range_law (F := Fence.wide) rfl (by omega) (gf := 56) (lb := #[.pointer (some ⟨w.heap.size + 1 + 1, 0, none⟩), .pointer (some ⟨w.heap.size + 1 + 1 + 1, 0, none⟩)]) rfl trivial (enters_of Tryd.func56 (by kernel_rfl) rfl)
    (parts_seq (3 - 1) (by omega) (w.heap.size + 1 + 1) (w.heap.size + 1 + 1 + 1) (w.heap.size + 1) f w.heap.size 0 d w5 (by omega) hd5 hlen (by omega) (by omega) b1.cell b2.cell) (by omega) (fun b hb => by rcases hb with rfl | rfl <;> omega) (Below.refl _ _) (fun _ => rfl)
    (RI w w5) (RX w w5) (RI.stays w w5) (RI.noMind w w5 (by omega)) (fun c => RX.stays w w5 c) (fun c => RX.noMind w w5 c (by omega))
    ⟨bR, fun b hb => (by rcases hb with rfl | rfl <;> omega), Below.refl _ _, fun x hx => (by cases hx)⟩
    (fun x => { tmps := #[.agg #[.int .i64 d.kind, .string d.cons, tv, .slice sa d.kids.length sc], .pointer (some ⟨w.heap.size, 0, none⟩), .pointer (some ⟨w.heap.size + 1, 0, none⟩), .pointer (some ⟨x.b, x.o, none⟩), .int .i64 (x.deep : Int), .func (.func 56) #[] #[.pointer (some ⟨w.heap.size + 1 + 1, 0, none⟩), .pointer (some ⟨w.heap.size + 1 + 1 + 1, 0, none⟩)], .pointer (some ⟨x.b, x.o, none⟩), .int .i64 (x.deep : Int), undef, undef, undef, undef, undef, undef, undef], defers := [] }) ?assign ?body ?done ?stop
  case assign =>
    intro l x W K hK
    unfold Px.enc
    gi_wp2
    exact hK
  case body =>
    intro l A xs x W hI hlt hx hA
    have cr := hI.res.cell
    have rf := hI.res.frozen
    have hd2 := hx.keep hI.bel
    have hWs : w.heap.size + 1 ≤ W.heap.size := by have := box_lt hI.res; omega
    have HC : Hid _ := fun (_ : Unit) => isOfKind_any x.doc (w.heap.size + 1) f x.b x.o W hWs hd2
    have HRX : Hid (∀ W2, Below W.heap.size W W2 → okP x.say = false → KeepsFrom w5.heap.size W (W2.setCell ⟨w.heap.size + 1, 0, none⟩ (.bool false)) ∧ RX w w5 .ret A (xs ++ [x]) (W2.setCell ⟨w.heap.size + 1, 0, none⟩ (.bool false))) := fun W2 hb hbad => by
      have bR2 : Boxed W2 (w.heap.size + 1) 4 (.bool false) := (hb.block _ (box_lt hI.res)).trans hI.res
      exact ⟨(KeepsFrom.of_grownBy (below_grown hb) (fun j hj => by cases hj)).trans (KeepsFrom.of_grownBy (grown_set W2 (w.heap.size + 1) 0 (.bool false)) (fun j hj => by cases hj; omega)), rfl, box_set bR2 _, hI.ab, (hI.bel.trans (hb.mono hWs)).setCell (Nat.le_refl _) _, x, by simp, hbad⟩
    have HRI : Hid (∀ W2, Below W.heap.size W W2 → okP x.say = true → KeepsFrom w5.heap.size W W2 ∧ Keep (w.heap.size + 1) A W W2 ∧ RI w w5 A (xs ++ [x]) W2) := fun W2 hb h2 => by
      refine ⟨KeepsFrom.of_grownBy (below_grown hb) (fun j hj => by cases hj), ⟨hb.mono hWs, fun b _ hlt' => hb.block b hlt'⟩, (hb.block _ (box_lt hI.res)).trans hI.res, hI.ab, hI.bel.trans (hb.mono hWs), fun y hy => ?_⟩
      rcases List.mem_append.1 hy with h | h
      · exact hI.ok y h
      · simp at h; subst h; exact h2
    have HQ : Hid (∀ W2, Below W.heap.size W W2 → W2.cell? ⟨w.heap.size + 1, 0, none⟩ = some (.bool false) ∧ W2.frozen? ⟨w.heap.size + 1, 0, none⟩ = false) := fun W2 hb => ⟨(hb.cell (p := ⟨w.heap.size + 1, 0, none⟩) (box_lt hI.res)).trans cr, (hb.frozen (p := ⟨w.heap.size + 1, 0, none⟩) (box_lt hI.res)).trans rf⟩
    have HK : Hid (okP x.say = (decide (x.deep ≤ 200) && okK x.doc)) := rfl
    clear hd2 hx hI hA hWs
    by_cases h2 : x.deep ≤ 200
    · have h2' : decide ((200 : Int) < (x.deep : Int)) = false := by simp; omega
      have hk : okP x.say = okK x.doc := by rw [HK.out]; simp [h2]
      cases hkk : okK x.doc with
      | true =>
        have HB : Hid _ := fun W2 hb => HRI.out W2 hb (hk.trans hkk)
        rw [hkk] at HC
        clear h2 HRX HRI hk hkk HK HQ
        gi_wp2_with (refine ⟨trivial, ?_⟩; gi_at_call 39; refine (CallsIn.inRound l (callsIn_wide.2 (HC.out ()))).mono ?_; rintro e w' ⟨rfl, hb'⟩)
        exact HB.out _ hb'
      | false =>
        have HB : Hid _ := fun W2 hb => HRX.out W2 hb (hk.trans hkk)
        rw [hkk] at HC
        clear h2 HRX HRI hk hkk HK
        gi_wp2_with (refine ⟨trivial, ?_⟩; gi_at_call 39; refine (CallsIn.inRound l (callsIn_wide.2 (HC.out ()))).mono ?_; rintro e w' ⟨rfl, hb'⟩; obtain ⟨q1, q2⟩ := HQ.out w' hb')
        exact HB.out _ hb'
    · have h2' : (200 : Int) < (x.deep : Int) := by omega
      have HB : Hid _ := HRX.out W (Below.refl _ _) (by rw [HK.out]; simp [h2])
      clear h2 HRX HRI HC HK HQ
      gi_wp2_with (refine ⟨trivial, ?_⟩)
      exact HB.out
  case done =>
    rintro D A xs W hD ⟨hS, _⟩ hI hK
    have cr := hI.res.cell
    have rf := hI.res.frozen
    have hD' : D ≠ w.heap.size + 1 := by omega
    have hK3 := (Below.heap_setCell W ⟨w.heap.size + 1, 0, none⟩ (.bool true) D hD').trans hK
    have hg := right_good hS hI.ok
    have hcell : ((W.setCell ⟨w.heap.size + 1, 0, none⟩ (.bool true)).putObj D (.deferred none)).cell? ⟨w.heap.size + 1, 0, none⟩ = some (.bool true) := (World.cell?_of_block (a := ⟨w.heap.size + 1, 0, none⟩) (World.putObj_heap_other (fun h => hD' h.symm))).trans (box_set hI.res (.bool true)).cell
    have hBf : Below w.heap.size w ((W.setCell ⟨w.heap.size + 1, 0, none⟩ (.bool true)).putObj D (.deferred none)) := by
      have h1 := (hBw.trans (hI.bel.mono (by omega))).setCell (p := ⟨w.heap.size + 1, 0, none⟩) (by show w.heap.size ≤ w.heap.size + 1; omega) (.bool true)
      exact ⟨h1.os, h1.tape, h1.output, by simpa using h1.size, fun b hb => (World.putObj_heap_other (by omega)).trans (h1.block b hb)⟩
    have HG : Hid _ := hg
    clear hI hS hg bR b1 b2 hd5
    gi_wp2
    refine ⟨by simp, .inl ⟨_, _, rfl, run_takeDeferred hK3, ?_⟩⟩
    exact ⟨.bool true, by simp [results, Tryd.results19, go_sem, hcell], by rw [HG.out], hBf⟩
  case stop =>
    rintro D c A xs W hD ⟨hS, _⟩ hX hK
    obtain rfl := hX.code
    have hg := right_bad hS hX.bad
    have hD' : D ≠ w.heap.size + 1 := by omega
    have hcell : (W.putObj D (.deferred none)).cell? ⟨w.heap.size + 1, 0, none⟩ = some (.bool false) := (World.cell?_of_block (a := ⟨w.heap.size + 1, 0, none⟩) (World.putObj_heap_other (fun h => hD' h.symm))).trans hX.res.cell
    have hBf : Below w.heap.size w (W.putObj D (.deferred none)) := by
      have h1 := hBw.trans (hX.bel.mono (by omega))
      exact ⟨h1.os, h1.tape, h1.output, by simpa using h1.size, fun b hb => (World.putObj_heap_other (by omega)).trans (h1.block b hb)⟩
    have HG : Hid _ := hg
    clear hX hS hg bR b1 b2 hd5
    gi_wp2
    refine ⟨by simp, .inl ⟨_, _, rfl, run_takeDeferred hK, ?_⟩⟩
    exact ⟨.bool false, by simp [results, Tryd.results19, go_sem, hcell], by rw [HG.out], hBf⟩
end Go.Proofs.YtlkcadibjmfmcaaDoor
