/- Which documents are right: the walk. -/
import Derived.Test.YtbmejfcbladofaaI5
namespace Go.Proofs.Ytbmejfcbladofaa
open Go.RowKit Go.Shelf

attribute [local go_sem] Oper.semAt_some

theorem cell_new {w : World} {cs : Array Value} {t : TypeId} {v : Value} (k : Nat) (h : cs[k]? = some v) : (w.alloc (.cells cs t)).cell? ⟨w.heap.size, k, none⟩ = some v := by
  rw [World.cell?_alloc_at _ _ _ _ rfl]; simpa using h
theorem right_bad {d : Dc} {xs : List Px} (h : ∃ r, xs.map Px.say ++ r = pre d 1) (hb : 20000 < xs.length ∨ ∃ x ∈ xs, okP x.say = false) : rightD d = false := by
  obtain ⟨r, hr⟩ := h
  unfold rightD
  rw [← hr]
  rcases hb with hb | ⟨x, hx, hb⟩
  · have : decide ((xs.map Px.say ++ r).length ≤ 20000) = false := by simp; omega
    rw [this]; rfl
  · have : (xs.map Px.say ++ r).all okP = false := by
      rw [List.all_eq_false]
      exact ⟨x.say, by simp; exact .inl ⟨x, hx, rfl⟩, by rw [hb]; simp⟩
    rw [this, Bool.and_false]
theorem right_good {d : Dc} {xs : List Px} (h : xs.map Px.say = pre d 1) (h1 : xs.length ≤ 20000) (h2 : ∀ x ∈ xs, okP x.say = true) : rightD d = true := by
  unfold rightD
  rw [← h]
  simp
  exact ⟨h1, fun x hx => h2 x hx⟩
theorem grown_set (W : World) (b o : Nat) (u : Value) : W.grownBy (W.setCell ⟨b, o, none⟩ u) (some b) := ⟨rfl, rfl, rfl, by simp [World.setCell], fun k _ hne => Below.heap_setCell W ⟨b, o, none⟩ u k (fun e => hne (by rw [e]))⟩
theorem box_set {W : World} {B : Nat} {t : TypeId} {v : Value} (h : Boxed W B t v) (u : Value) : Boxed (W.setCell ⟨B, 0, none⟩ u) B t u := by
  have := heap_setCell_same W B 0 #[v] t u h
  simpa [Boxed] using this
theorem box_other {W : World} {B b : Nat} {t : TypeId} {v : Value} (h : Boxed W B t v) (u : Value) (hne : B ≠ b) : Boxed (W.setCell ⟨b, 0, none⟩ u) B t v := (Below.heap_setCell W ⟨b, 0, none⟩ u B hne).trans h
set_option maxRecDepth 100000 in
set_option maxHeartbeats 4000000 in
theorem right_any (d : Dc) (sa : Option Addr) (sc f : Nat) (w : World) (hk : DAt w w.heap.size f sa d.kids) (hsc : d.kids.length ≤ sc) (hlen : (pre d 1).length ≤ 1000000000000) :
    Calls Try.prog 15 #[.agg #[.int .i64 d.kind, .string d.text, .int .i64 d.n, .slice sa d.kids.length sc]] w fun e w' => e = .returned (.bool (rightD d)) ∧ Below w.heap.size w w' := by
  refine (callsIn_wide (n := 3)).1 ?_
  refine callsIn_of_wp_marks Try.func15 rfl trivial ?_ rfl
  simp only [Try.ntmps15, List.size_toArray, List.length_cons, List.length_nil, Nat.reduceAdd, Nat.reduceSub, Array.replicate_succ, Array.replicate_zero, List.push_toArray, List.append_toArray, List.nil_append, List.cons_append]
  obtain ⟨w1, hw1⟩ : ∃ w1, w.alloc (.cells #[.int .i64 d.kind, .string d.text, .int .i64 d.n, .slice sa d.kids.length sc] 24) = w1 := ⟨_, rfl⟩
  have s1 : w1.heap.size = w.heap.size + 1 := by rw [← hw1]; simp
  have hB1 : Below w.heap.size w w1 := by rw [← hw1]; exact (Below.refl _ _).alloc (Nat.le_refl _) _
  have hd1 : DocAt w1 (w.heap.size + 1) f w.heap.size 0 d := ⟨by omega, sa, sc, by rw [← hw1]; exact cell_new 0 rfl, by rw [← hw1]; exact cell_new 1 rfl, by rw [← hw1]; exact cell_new 2 rfl, by rw [← hw1]; exact cell_new 3 rfl, hsc, (hk.keep hB1).mono (by omega)⟩
  gi_wp2_with (refine ⟨trivial, ?_⟩; gi_at_call 29; refine (callsIn_wide.2 (parts_any _ _)).mono ?_; rintro e w' ⟨rfl, rfl⟩)
  have bR := (((Boxed.new w1 4 (.bool false)).alloc (.cells #[.int .i64 0] 3)).alloc (.cells #[.pointer (some ⟨w.heap.size, 0, none⟩)] 60)).alloc (.cells #[.func (.func 30) #[] #[]] 76)
  have bC := ((Boxed.new (w1.alloc (.cells #[.bool false] 4)) 3 (.int .i64 0)).alloc (.cells #[.pointer (some ⟨w.heap.size, 0, none⟩)] 60)).alloc (.cells #[.func (.func 30) #[] #[]] 76)
  have b1 := (Boxed.new ((w1.alloc (.cells #[.bool false] 4)).alloc (.cells #[.int .i64 0] 3)) 60 (.pointer (some ⟨w.heap.size, 0, none⟩))).alloc (.cells #[.func (.func 30) #[] #[]] 76)
  have b2 := Boxed.new (((w1.alloc (.cells #[.bool false] 4)).alloc (.cells #[.int .i64 0] 3)).alloc (.cells #[.pointer (some ⟨w.heap.size, 0, none⟩)] 60)) 76 (.func (.func 30) #[] #[])
  obtain ⟨w5, hw5⟩ : ∃ w5, (((w1.alloc (.cells #[.bool false] 4)).alloc (.cells #[.int .i64 0] 3)).alloc (.cells #[.pointer (some ⟨w.heap.size, 0, none⟩)] 60)).alloc (.cells #[.func (.func 30) #[] #[]] 76) = w5 := ⟨_, rfl⟩
  have s5 : w5.heap.size = w.heap.size + 5 := by rw [← hw5]; simp [s1]
  have hB5 : Below w1.heap.size w1 w5 := by rw [← hw5]; exact ((((Below.refl _ _).alloc (Nat.le_refl _) _).alloc (by simp) _).alloc (by simp; omega) _).alloc (by simp; omega) _
  simp only [World.size_alloc, s1] at bR bC b1 b2
  rw [hw5] at bR bC b1 b2
  rw [hw5]
  have hd5 : DocAt w5 (w.heap.size + 1) f w.heap.size 0 d := hd1.keep (by rw [← s1]; exact hB5)
  have hBw : Below w.heap.size w w5 := hB1.trans (hB5.mono (by omega))
  clear hw5 hd1 hB5 hB1 hw1
  refine range_law (F := Fence.wide) rfl (by omega) (gf := 42) (lb := #[.pointer (some ⟨w.heap.size + 1 + 1 + 1, 0, none⟩), .pointer (some ⟨w.heap.size + 1 + 1 + 1 + 1, 0, none⟩)]) rfl trivial (enters_of Try.func42 (by kernel_rfl) rfl)
    (parts_seq (3 - 1) (by omega) (w.heap.size + 1 + 1 + 1) (w.heap.size + 1 + 1 + 1 + 1) (w.heap.size + 1) f w.heap.size 0 d w5 (by omega) hd5 hlen (by omega) (by omega) b1.cell b2.cell) (by omega) (fun b hb => by rcases hb with rfl | rfl <;> omega) (Below.refl _ _) (fun _ => rfl)
    (RI w w5) (RX w w5) (RI.stays w w5) (RI.noMind w w5 (by omega)) (fun c => RX.stays w w5 c (by omega)) (fun c => RX.noMind w w5 c (by omega))
    ⟨bC, bR, fun b hb => (by rcases hb with rfl | rfl <;> omega), Below.refl _ _, fun x hx => (by cases hx), by simp⟩
    (fun x => { tmps := #[.agg #[.int .i64 d.kind, .string d.text, .int .i64 d.n, .slice sa d.kids.length sc], .pointer (some ⟨w.heap.size, 0, none⟩), .pointer (some ⟨w.heap.size + 1, 0, none⟩), .pointer (some ⟨w.heap.size + 1 + 1, 0, none⟩), .pointer (some ⟨x.b, x.o, none⟩), .int .i64 (x.deep : Int), .func (.func 42) #[] #[.pointer (some ⟨w.heap.size + 1 + 1 + 1, 0, none⟩), .pointer (some ⟨w.heap.size + 1 + 1 + 1 + 1, 0, none⟩)], .pointer (some ⟨x.b, x.o, none⟩), .int .i64 (x.deep : Int), undef, undef, undef, undef, undef, undef, undef, undef, undef, undef, undef, undef, undef], defers := [] }) ?assign ?body ?done ?stop
  case assign =>
    intro l x W K hK
    unfold Px.enc
    gi_wp2
    exact hK
  case body =>
    intro l A xs x W hI hlt hx hA
    have cc := hI.cnt.cell
    have cf := hI.cnt.frozen
    have cr := hI.res.cell
    have rf := hI.res.frozen
    have hfew := hI.few
    obtain ⟨W2, hW2⟩ : ∃ W2, W.setCell ⟨w.heap.size + 1 + 1, 0, none⟩ (.int .i64 ((xs.length : Int) + 1)) = W2 := ⟨_, rfl⟩
    have hbel2 : Below (w.heap.size + 1) w5 W2 := by rw [← hW2]; exact hI.bel.setCell (by show _ ≤ w.heap.size + 1 + 1; omega) _
    have bC2 : Boxed W2 (w.heap.size + 1 + 1) 3 (.int .i64 ((xs.length : Int) + 1)) := by rw [← hW2]; exact box_set hI.cnt _
    have bR2 : Boxed W2 (w.heap.size + 1) 4 (.bool false) := by rw [← hW2]; exact box_other hI.res _ (by omega)
    have hd2 := hx.keep hbel2
    have hg2 : W.grownBy W2 (some (w.heap.size + 1 + 1)) := by rw [← hW2]; exact grown_set _ _ _ _
    have HC : Hid _ := fun (_ : Unit) => isOfKind_any x.doc (w.heap.size + 1) f x.b x.o W2 hd2
    have hmid : ∀ b, A b → w.heap.size + 3 ≤ b := hI.ab
    have hxok := hI.ok
    have c2c := bC2.cell
    have c2r := bR2.cell
    have c2f := bR2.frozen
    have hlen1 : ((xs ++ [x]).length : Int) = (xs.length : Int) + 1 := by simp
    have HRX : Hid (∀ W3, W3 = W2.setCell ⟨w.heap.size + 1, 0, none⟩ (.bool false) → (20000 < (xs ++ [x]).length ∨ ∃ y ∈ xs ++ [x], okP y.say = false) → KeepsFrom w5.heap.size W W3 ∧ RX w w5 .ret A (xs ++ [x]) W3) := fun W3 hW3 hbad => by
      subst hW3
      refine ⟨(KeepsFrom.of_grownBy hg2 (fun j hj => by cases hj; omega)).trans (KeepsFrom.of_grownBy (grown_set W2 (w.heap.size + 1) 0 (.bool false)) (fun j hj => by cases hj; omega)), rfl, box_set bR2 _, hmid, hbel2.setCell (Nat.le_refl _) _, hbad⟩
    have HRI : Hid (xs.length + 1 ≤ 20000 → okP x.say = true → KeepsFrom w5.heap.size W W2 ∧ Keep (w.heap.size + 1) A W W2 ∧ RI w w5 A (xs ++ [x]) W2) := fun h1 h2 => by
      refine ⟨KeepsFrom.of_grownBy hg2 (fun j hj => by cases hj; omega), ⟨by rw [← hW2]; exact (Below.refl _ _).setCell (by show _ ≤ w.heap.size + 1 + 1; omega) _, fun b hb hlt' => hg2.block b hlt' (fun e => by cases e; have := hmid _ hb; omega)⟩, by rw [hlen1]; exact bC2, bR2, hmid, hbel2, fun y hy => ?_, by simp; omega⟩
      rcases List.mem_append.1 hy with h | h
      · exact hxok y h
      · simp at h; subst h; exact h2
    have HK : Hid (okP x.say = (decide (x.deep ≤ 200) && okK x.doc)) := rfl
    clear hbel2 bC2 bR2 hd2 hg2 hx hI hmid hxok hlen1 hA
    by_cases h1 : xs.length = 20000
    · have h1' : (20000 : Int) < (xs.length : Int) + 1 := by omega
      have HB : Hid _ := HRX.out _ rfl (.inl (by simp; omega))
      clear h1 HRX HRI HC
      gi_wp2_with (refine ⟨trivial, ?_⟩)
      exact HB.out
    · have h1' : decide ((20000 : Int) < (xs.length : Int) + 1) = false := by simp; omega
      have h1f : xs.length + 1 ≤ 20000 := by omega
      by_cases h2 : x.deep ≤ 200
      · have h2' : decide ((200 : Int) < (x.deep : Int)) = false := by simp; omega
        have hk : okP x.say = okK x.doc := by rw [HK.out]; simp [h2]
        cases hkk : okK x.doc with
        | true =>
          have HB : Hid _ := HRI.out h1f (hk.trans hkk)
          rw [hkk] at HC
          clear h1 h1f h2 HRX HRI hk hkk HK
          gi_wp2_with (refine ⟨trivial, ?_⟩; gi_at_call 31; refine (CallsIn.inRound l (callsIn_wide.2 (HC.out ()))).mono ?_; rintro e w' ⟨rfl, rfl⟩)
          exact HB.out
        | false =>
          have HB : Hid _ := HRX.out _ rfl (.inr ⟨x, by simp, hk.trans hkk⟩)
          rw [hkk] at HC
          clear h1 h1f h2 HRX HRI hk hkk HK
          gi_wp2_with (refine ⟨trivial, ?_⟩; gi_at_call 31; refine (CallsIn.inRound l (callsIn_wide.2 (HC.out ()))).mono ?_; rintro e w' ⟨rfl, rfl⟩)
          exact HB.out
      · have h2' : (200 : Int) < (x.deep : Int) := by omega
        have HB : Hid _ := HRX.out _ rfl (.inr ⟨x, by simp, by rw [HK.out]; simp [h2]⟩)
        clear h1 h1f h2 HRX HRI HC HK
        gi_wp2_with (refine ⟨trivial, ?_⟩)
        exact HB.out
  case done =>
    rintro D A xs W hD ⟨hS, _⟩ hI hK
    have cr := hI.res.cell
    have rf := hI.res.frozen
    have hD' : D ≠ w.heap.size + 1 := by omega
    have hK3 := (Below.heap_setCell W ⟨w.heap.size + 1, 0, none⟩ (.bool true) D hD').trans hK
    have hg := right_good hS hI.few hI.ok
    have hcell : ((W.setCell ⟨w.heap.size + 1, 0, none⟩ (.bool true)).putObj D (.deferred none)).cell? ⟨w.heap.size + 1, 0, none⟩ = some (.bool true) := (World.cell?_of_block (a := ⟨w.heap.size + 1, 0, none⟩) (World.putObj_heap_other (fun h => hD' h.symm))).trans (box_set hI.res (.bool true)).cell
    have hBf : Below w.heap.size w ((W.setCell ⟨w.heap.size + 1, 0, none⟩ (.bool true)).putObj D (.deferred none)) := by
      have h1 := (hBw.trans (hI.bel.mono (by omega))).setCell (p := ⟨w.heap.size + 1, 0, none⟩) (by show w.heap.size ≤ w.heap.size + 1; omega) (.bool true)
      exact ⟨h1.os, h1.tape, h1.output, by simpa using h1.size, fun b hb => (World.putObj_heap_other (by omega)).trans (h1.block b hb)⟩
    have HG : Hid _ := hg
    clear hI hS hg bR bC b1 b2 hd5
    gi_wp2
    refine ⟨by simp, .inl ⟨_, _, rfl, run_takeDeferred hK3, ?_⟩⟩
    exact ⟨.bool true, by simp [results, Try.results15, go_sem, hcell], by rw [HG.out], hBf⟩
  case stop =>
    rintro D c A xs W hD ⟨hS, _⟩ hX hK
    obtain rfl := hX.code
    have hg := right_bad hS hX.bad
    have hD' : D ≠ w.heap.size + 1 := by omega
    have hcell : (W.putObj D (.deferred none)).cell? ⟨w.heap.size + 1, 0, none⟩ = some (.bool false) := (World.cell?_of_block (a := ⟨w.heap.size + 1, 0, none⟩) (World.putObj_heap_other (fun h => hD' h.symm))).trans hX.res.cell
    have hBf : Below w.heap.size w (W.putObj D (.deferred none)) := by
      have h1 := hBw.trans (hX.bel.mono (by omega))
      exact ⟨h1.os, h1.tape, h1.output, by simpa using h1.size, fun b hb => (World.putObj_heap_other (by omega)).trans (h1.block b hb)⟩
    have HG : Hid _ := hg
    clear hX hS hg bR bC b1 b2 hd5
    gi_wp2
    refine ⟨by simp, .inl ⟨_, _, rfl, run_takeDeferred hK, ?_⟩⟩
    exact ⟨.bool false, by simp [results, Try.results15, go_sem, hcell], by rw [HG.out], hBf⟩
end Go.Proofs.Ytbmejfcbladofaa
