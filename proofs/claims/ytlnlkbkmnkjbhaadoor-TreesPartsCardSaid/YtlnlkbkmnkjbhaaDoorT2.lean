/- Going through a tree's parts with one box: hasText. -/
import Derived.Test.YtlnlkbkmnkjbhaaDoorT1
namespace Go.Proofs.YtlnlkbkmnkjbhaaDoor
open Go.RowKit Go.Shelf

attribute [local go_sem] Oper.semAt_some

/-- While one goes through the parts: what the box holds, and what is so of the parts that have come. -/
structure BI (w wd : World) (U : Nat → Prop) (t : TypeId) (val : List Qx → Value) (ok : List Qx → Prop) (A : Nat → Prop) (xs : List Qx) (X : World) : Prop where
  box : Boxed X (w.heap.size + 1) t (val xs)
  ok : ok xs
  ab : ∀ b, A b → w.heap.size + 3 ≤ b
  keep : Ab U wd X
  bel : Below w.heap.size w X
  sz : w.heap.size + 5 ≤ X.heap.size
section
variable {w wd : World} {U : Nat → Prop} {t : TypeId} {val : List Qx → Value} {ok : List Qx → Prop}
theorem BI.move {A A' : Nat → Prop} {xs : List Qx} {X Y : World} (h : BI w wd U t val ok A xs X) (hU : ∀ b, U b → b < w.heap.size + 3) (hi : Iter A X Y) (ha : Adds A A' X Y) : BI w wd U t val ok A' xs Y := by
  have hs := h.sz
  have hk : ∀ b, b < w.heap.size + 3 → Y.heap[b]? = X.heap[b]? := fun b hb => hi.keep b (by omega) (fun hA => by have := h.ab b hA; omega)
  refine ⟨(hk _ (by omega)).trans h.box, h.ok, fun b hb' => ?_, ⟨hi.os.trans h.keep.os, hi.tape.trans h.keep.tape, hi.output.trans h.keep.output, Nat.le_trans h.keep.size hi.size, fun b hb' => (hk b (hU b hb')).trans (h.keep.block b hb')⟩, ⟨hi.os.trans h.bel.os, hi.tape.trans h.bel.tape, hi.output.trans h.bel.output, Nat.le_trans h.bel.size hi.size, fun b hb' => (hk b (by omega)).trans (h.bel.block b hb')⟩, Nat.le_trans hs hi.size⟩
  rcases ha b hb' with h' | h'
  · exact h.ab b h'
  · omega
theorem BI.stays (hU : ∀ b, U b → b < w.heap.size + 3) : Stays (BI w wd U t val ok) := fun _ _ _ _ _ h hi ha => h.move hU hi ha
theorem BI.noMind (hU : ∀ b, U b → b < w.heap.size + 3) {A0 : Nat → Prop} : NoMindAt (w.heap.size + 3) A0 (BI w wd U t val ok) := by
  intro A xs X o' h hA hlt
  have hk : ∀ b, b ≠ w.heap.size + 3 + 1 → (X.putObj (w.heap.size + 3 + 1) o').heap[b]? = X.heap[b]? := fun b hb => World.putObj_heap_other hb
  exact ⟨(hk _ (by omega)).trans h.box, h.ok, h.ab, ⟨h.keep.os, h.keep.tape, h.keep.output, by simpa using h.keep.size, fun b hb' => (hk b (by have := hU b hb'; omega)).trans (h.keep.block b hb')⟩, ⟨h.bel.os, h.bel.tape, h.bel.output, by simpa using h.bel.size, fun b hb' => (hk b (by omega)).trans (h.bel.block b hb')⟩, by simpa using h.sz⟩
/-- A round that stores into the box, and makes memory besides. -/
theorem BI.step {A : Nat → Prop} {xs : List Qx} {X Y : World} (h : BI w wd U t val ok A xs X) (hU : ∀ b, U b → b < w.heap.size ∨ b = w.heap.size + 2) (hg : X.grownBy Y (some (w.heap.size + 1))) (x : Qx) (val' : List Qx → Value) (ok' : List Qx → Prop) (hb : Boxed Y (w.heap.size + 1) t (val' (xs ++ [x]))) (ho : ok' (xs ++ [x])) :
    Two (w.heap.size + 3) X Y ∧ KeepU U A X Y ∧ BI w wd U t val' ok' A (xs ++ [x]) Y := by
  have hs := h.sz
  have hk : ∀ b, b < X.heap.size → b ≠ w.heap.size + 1 → Y.heap[b]? = X.heap[b]? := fun b h1 h2 => hg.block b h1 (fun e => h2 (by cases e; rfl))
  have hab : Ab U X Y := ⟨hg.os, hg.tape, hg.output, hg.size, fun b hb => hk b (by rcases hU b hb with h | h <;> omega) (by rcases hU b hb with h | h <;> omega)⟩
  exact ⟨⟨hk _ (by omega) (by omega), hk _ (by omega) (by omega)⟩, ⟨hab, fun b hA hlt => hk b hlt (by have := h.ab b hA; omega)⟩, ⟨hb, ho, h.ab, h.keep.trans hab, h.bel.trans ⟨hg.os, hg.tape, hg.output, hg.size, fun b hb => hk b (by omega) (by omega)⟩, Nat.le_trans hs hg.size⟩⟩
end
theorem marks_fst : ∀ (k : Nat) (l : List (Tr × Nat)), (marks k l).map (fun q => (q.1, q.2.1)) = l
  | k, [] => rfl
  | k, p :: l => by simp [marks, marks_fst (lstp k p) l]
theorem marks_of {d : Tr} {xs : List Qx} (h : xs.map Qx.say = marks 0 (pre d 1)) {p : Tr × Nat} (hp : p ∈ pre d 1) : ∃ q ∈ xs, q.doc = p.1 ∧ q.deep = p.2 := by
  rw [← marks_fst 0 (pre d 1), ← h] at hp
  simp only [List.map_map, List.mem_map] at hp
  obtain ⟨q, hq, rfl⟩ := hp
  exact ⟨q, hq, rfl, rfl⟩
theorem marks_back {d : Tr} {q : Qx} (h : q.say ∈ marks 0 (pre d 1)) : (q.doc, q.deep) ∈ pre d 1 := by
  rw [← marks_fst 0 (pre d 1)]
  exact List.mem_map_of_mem (f := fun q : Tr × Nat × Nat => (q.1, q.2.1)) h
/-- Plain by itself, and not too deep. -/
def fineQ (q : Qx) : Prop := q.deep ≤ 200 ∧ isPl q.doc = true
set_option maxRecDepth 100000 in
set_option maxHeartbeats 4000000 in
theorem hasText_any (d : Tr) (sa : Option Addr) (sc f : Nat) (w : World) (hk : TAt w w.heap.size f sa d.kids) (hsc : d.kids.length ≤ sc) (hlen : sz d ≤ 1000000000000) :
    Calls Tryd.prog 52 #[.agg #[.int .i64 d.rule, .int .u8 (d.byte.toNat : Int), .slice sa d.kids.length sc]] w fun e w' => e = .returned (.bool (pl d && decide (dp d ≤ 200))) ∧ Below w.heap.size w w' := by
  refine (callsIn_wide (n := 9)).1 ?_
  refine callsIn_of_wp_marks Tryd.func52 rfl trivial ?_ rfl
  simp only [Tryd.ntmps52, List.size_toArray, List.length_cons, List.length_nil, Nat.reduceAdd, Nat.reduceSub, Array.replicate_succ, Array.replicate_zero, List.push_toArray, List.append_toArray, List.nil_append, List.cons_append]
  gi_wp2_with (refine ⟨trivial, ?_⟩; gi_at_call 46; refine (callsIn_wide.2 (tparts_any d _ _)).mono ?_; rintro e w' ⟨rfl, rfl⟩)
  obtain ⟨w3, hw3⟩ : ∃ w3, ((w.alloc (.cells #[.int .i64 d.rule, .int .u8 (d.byte.toNat : Int), .slice sa d.kids.length sc] 27)).alloc (.cells #[.bool false] 4)).alloc (.cells #[.int .i64 d.rule, .int .u8 (d.byte.toNat : Int), .slice sa d.kids.length sc] 27) = w3 := ⟨_, rfl⟩
  have bL := (Boxed.new (w.alloc (.cells #[.int .i64 d.rule, .int .u8 (d.byte.toNat : Int), .slice sa d.kids.length sc] 27)) 4 (.bool false)).alloc (.cells #[.int .i64 d.rule, .int .u8 (d.byte.toNat : Int), .slice sa d.kids.length sc] 27)
  have s3 : w3.heap.size = w.heap.size + 3 := by rw [← hw3]; simp
  have hB3 : Below w.heap.size w w3 := by rw [← hw3]; exact ((((Below.refl _ _).alloc (Nat.le_refl _) _).alloc (by simp) _).alloc (by simp; omega) _)
  simp only [World.size_alloc] at bL
  have t0 : ∀ j v, (#[.int .i64 d.rule, .int .u8 (d.byte.toNat : Int), .slice sa d.kids.length sc] : Array Value)[j]? = some v → w3.cell? ⟨w.heap.size + 1 + 1, j, none⟩ = some v := fun j v hv => by
    have := cell_new (w := (w.alloc (.cells #[.int .i64 d.rule, .int .u8 (d.byte.toNat : Int), .slice sa d.kids.length sc] 27)).alloc (.cells #[.bool false] 4)) (t := 27) j hv
    rw [hw3] at this; simpa using this
  rw [hw3] at bL
  rw [hw3]
  clear hw3
  obtain ⟨U, hUd⟩ : ∃ U : Nat → Prop, U = fun b => b < w.heap.size ∨ b = w.heap.size + 1 + 1 := ⟨_, rfl⟩
  have hU : ∀ b, U b → b < w.heap.size ∨ b = w.heap.size + 1 + 1 := fun b hb => by rw [hUd] at hb; exact hb
  have hU3 : ∀ b, U b → b < w.heap.size + 3 := fun b hb => by rcases hU b hb with h | h <;> omega
  have hd3 : TreeIn w3 U f (w.heap.size + 1 + 1) 0 d := ⟨by rw [hUd]; exact .inr rfl, sa, sc, t0 0 _ rfl, t0 1 _ rfl, t0 2 _ rfl, hsc, (hk.keep hB3).tin (fun b hb => by rw [hUd]; exact .inl hb)⟩
  clear t0
  refine range_law_h (kx := True) (F := Fence.wide) rfl (fun _ => by omega) (gf := 68) (lb := #[.pointer (some ⟨w.heap.size + 1 + 1, 0, none⟩)]) rfl trivial (enters_of Tryd.func68 (by kernel_rfl) rfl)
    (tparts_seq (9 - 1) (by omega) (w.heap.size + 1 + 1) U f d w3 (fun b hb => by have := hU3 b hb; omega) hd3 (by rw [pre_len]; exact hlen)) (fun b hb => by have := hU3 b hb; omega) (fun b hb => hb.elim) (Below.refl _ _) (fun _ => rfl)
    (BI w w3 U 4 (fun _ => .bool false) (fun xs => ∀ q ∈ xs, fineQ q)) (fun c A xs X => c = .ret ∧ BI w w3 U 4 (fun _ => .bool false) (fun xs => ∃ q ∈ xs, ¬ fineQ q) A xs X) (BI.stays hU3) (by rw [s3]; exact BI.noMind hU3) (fun c A A' xs X Y h hi ha => ⟨h.1, h.2.move hU3 hi ha⟩) (fun c => by rw [s3]; exact fun A xs X o' h hA hlt => ⟨h.1, BI.noMind hU3 A xs X o' h.2 hA hlt⟩)
    (fun W1 hb1 hs1 => ?start)
    (fun x a' X => ∃ Pb, X.cell? ⟨Pb, 0, none⟩ = some (.pointer (some ⟨x.b, x.o, none⟩)) ∧ X.cell? ⟨Pb, 1, none⟩ = some (.int .i64 (x.deep : Int)) ∧ w.heap.size + 5 ≤ Pb ∧ Pb < X.heap.size ∧ a' = { tmps := #[.agg #[.int .i64 d.rule, .int .u8 (d.byte.toNat : Int), .slice sa d.kids.length sc], .pointer (some ⟨w.heap.size, 0, none⟩), .pointer (some ⟨w.heap.size + 1, 0, none⟩), .pointer (some ⟨Pb, 0, none⟩), .agg #[.int .i64 d.rule, .int .u8 (d.byte.toNat : Int), .slice sa d.kids.length sc], .func (.func 68) #[] #[.pointer (some ⟨w.heap.size + 1 + 1, 0, none⟩)], .agg #[.pointer (some ⟨x.b, x.o, none⟩), .int .i64 (x.deep : Int), .int .i64 (x.bytes : Int)], undef, undef, undef, undef, undef, undef, undef, undef, undef, undef, undef], defers := [] }) ?ax ?assign ?body ?done ?stop
  case start =>
    exact ⟨(hb1.block _ (by omega)).trans bL, fun q hq => (by cases hq), fun b hb => hb.elim, Ab.of_below hb1 (fun b hb => by have := hU3 b hb; omega), hB3.trans (hb1.mono (by omega)), by omega⟩
  case ax =>
    rintro x a' X o' ⟨Pb, c0, c2, h1, h2, rfl⟩ hlt
    have hk : ∀ q, (X.putObj (w3.heap.size + 1) o').cell? ⟨Pb, q, none⟩ = X.cell? ⟨Pb, q, none⟩ := fun q => World.cell?_of_block (a := ⟨Pb, q, none⟩) (World.putObj_heap_other (by show Pb ≠ _; omega))
    exact ⟨Pb, (hk 0).trans c0, (hk 1).trans c2, h1, by simpa using h2, rfl⟩
  case assign =>
    intro l' A xs x X K hI hlt hx hA hK
    have hsz := hI.sz
    have HK : Hid (∀ a', a' = _ → K a' (X.alloc (.cells #[.pointer (some ⟨x.b, x.o, none⟩), .int .i64 (x.deep : Int), .int .i64 (x.bytes : Int)] 79))) := fun a' ha' => by
      have hb : Below X.heap.size X (X.alloc (.cells #[.pointer (some ⟨x.b, x.o, none⟩), .int .i64 (x.deep : Int), .int .i64 (x.bytes : Int)] 79)) := (Below.refl _ _).alloc (Nat.le_refl _) _
      exact hK a' _ ⟨hb.block _ (by omega), hb.block _ (by omega)⟩ ⟨Ab.of_below hb (fun b hb => by have := hU3 b hb; omega), fun b hA' hlt' => hb.block b hlt'⟩ (hI.move hU3 (Iter.of_below hb) adds_same) ⟨X.heap.size, cell_new 0 rfl, cell_new 1 rfl, by omega, by simp, ha'⟩
    unfold Qx.enc
    clear hK hI hx
    gi_wp2
    exact HK.out _ rfl
  case body =>
    rintro l' A xs x a' X hI ⟨Pb, p0, p1, hP1, hP2, rfl⟩ hlt hx hA
    have hsz := hI.sz
    have hxX := hx.1.keep hI.keep
    obtain ⟨hub, sa', sc', c0, c1, c2, hsc', hkk⟩ := hxX
    have hubU := hU _ hub
    have cL := hI.box.cell
    have fL := hI.box.frozen
    have HI : Hid _ := hI
    have HU : Hid (∀ b, U b → b < w.heap.size ∨ b = w.heap.size + 2) := hU
    have HBAD : Hid (¬ fineQ x → ∀ Y, X.grownBy Y (some (w.heap.size + 1)) → Boxed Y (w.heap.size + 1) 4 (.bool false) → Two (w.heap.size + 3) X Y ∧ BI w w3 U 4 (fun _ => .bool false) (fun xs => ∃ q ∈ xs, ¬ fineQ q) A (xs ++ [x]) Y ∧ KeepU U A X Y) := fun hn Y hg hb => by
      have := HI.out.step HU.out hg x (fun _ => .bool false) (fun xs => ∃ q ∈ xs, ¬ fineQ q) hb ⟨x, by simp, hn⟩
      exact ⟨this.1, this.2.2, this.2.1⟩
    have HGOOD : Hid (fineQ x → ∀ Y, X.grownBy Y (some (w.heap.size + 1)) → Boxed Y (w.heap.size + 1) 4 (.bool false) → Two (w.heap.size + 3) X Y ∧ KeepU U A X Y ∧ BI w w3 U 4 (fun _ => .bool false) (fun xs => ∀ q ∈ xs, fineQ q) A (xs ++ [x]) Y) := fun hn Y hg hb => HI.out.step HU.out hg x (fun _ => .bool false) (fun xs => ∀ q ∈ xs, fineQ q) hb (fun q hq => by
      rcases List.mem_append.1 hq with h | h
      · exact HI.out.ok q h
      · simp at h; subst h; exact hn)
    have HBX : Hid _ := hI.box
    clear hI hx
    by_cases hdp : x.deep ≤ 200
    · have hdpI : decide ((200 : Int) < (x.deep : Int)) = false := by simp; omega
      have hdpN : ¬ (200 : Int) < (x.deep : Int) := by omega
      have HLP : Hid _ := fun (_ : Unit) => isPlain_any x.doc sa' sc' X
      cases hpl : isPl x.doc with
      | true =>
        rw [hpl] at HLP
        have HF : Hid (fineQ x) := ⟨hdp, hpl⟩
        clear hdp hpl
        gi_wp2_with (refine ⟨trivial, ?_⟩; gi_at_call 73; refine (CallsIn.inRound l' (callsIn_wide.2 (HLP.out ()))).mono ?_)
        first | rintro e w5 rfl hb5 | rintro e w5 ⟨rfl, hb5⟩
        have HH : Hid _ := HGOOD.out HF.out w5 (grown_of_below hb5 _) ((hb5.block _ (by omega)).trans HBX.out)
        clear hb5
        gi_wp2
        rw [s3]; exact HH.out
      | false =>
        rw [hpl] at HLP
        have HF : Hid (¬ fineQ x) := fun h => by rw [h.2] at hpl; cases hpl
        clear hdp hpl
        gi_wp2_with (refine ⟨trivial, ?_⟩; gi_at_call 73; refine (CallsIn.inRound l' (callsIn_wide.2 (HLP.out ()))).mono ?_)
        first | rintro e w5 rfl hb5 | rintro e w5 ⟨rfl, hb5⟩
        have hB5 : Boxed w5 (w.heap.size + 1) 4 (.bool false) := (hb5.block _ (by omega)).trans HBX.out
        have cL5 := hB5.cell
        have fL5 := hB5.frozen
        have HH : Hid _ := HBAD.out HF.out (w5.setCell ⟨w.heap.size + 1, 0, none⟩ (.bool false)) (grown_tr (grown_of_below hb5 _) (grown_set _ _ _ _)) (box_set hB5 _)
        clear hb5 hB5 cL fL
        gi_wp2
        rw [s3]; exact ⟨HH.out.1, ⟨rfl, HH.out.2.1⟩, fun _ => HH.out.2.2⟩
    · have hdpI : decide ((200 : Int) < (x.deep : Int)) = true := by simp; omega
      have hdpN : (200 : Int) < (x.deep : Int) := by omega
      have HF : Hid (¬ fineQ x) := fun h => hdp h.1
      have HH : Hid _ := HBAD.out HF.out (X.setCell ⟨w.heap.size + 1, 0, none⟩ (.bool false)) (grown_set _ _ _ _) (box_set HBX.out _)
      clear hdp
      gi_wp2
      refine ⟨trivial, ?_⟩
      gi_wp2
      rw [s3]; exact ⟨HH.out.1, ⟨rfl, HH.out.2.1⟩, fun _ => HH.out.2.2⟩
  case done =>
    rintro D A xs X hD ⟨hS, hT⟩ hI hK
    have hall : ∀ p ∈ pre d 1, p.2 ≤ 200 ∧ isPl p.1 = true := fun p hp => by
      obtain ⟨q, hq, e1, e2⟩ := marks_of hS hp
      have := hI.ok q hq
      rw [← e1, ← e2]; exact ⟨this.1, this.2⟩
    have hres := (pl_pre d 1 200 (Nat.le_refl _)).1 hall
    have HR : Hid ((pl d && decide (dp d ≤ 200)) = true) := by show _ = _; simp [hres.1]; omega
    have hkD : ∀ b, b ≠ D → ((X.setCell ⟨w.heap.size + 1, 0, none⟩ (.bool true)).putObj D (.deferred none)).heap[b]? = (X.setCell ⟨w.heap.size + 1, 0, none⟩ (.bool true)).heap[b]? := fun b hb => World.putObj_heap_other hb
    have cL := hI.box.cell
    have fL := hI.box.frozen
    have HC : Hid (((X.setCell ⟨w.heap.size + 1, 0, none⟩ (.bool true)).putObj D (.deferred none)).cell? ⟨w.heap.size + 1, 0, none⟩ = some (.bool true)) := (World.cell?_of_block (a := ⟨w.heap.size + 1, 0, none⟩) (hkD _ (by show w.heap.size + 1 ≠ D; omega))).trans (box_set hI.box _).cell
    have HB : Hid (Below w.heap.size w ((X.setCell ⟨w.heap.size + 1, 0, none⟩ (.bool true)).putObj D (.deferred none))) := ⟨hI.bel.os, hI.bel.tape, hI.bel.output, by simpa [World.setCell] using hI.bel.size, fun b hb => (hkD b (by omega)).trans ((Below.heap_setCell X ⟨w.heap.size + 1, 0, none⟩ _ b (by show b ≠ w.heap.size + 1; omega)).trans (hI.bel.block b hb))⟩
    have hK2 : (X.setCell ⟨w.heap.size + 1, 0, none⟩ (.bool true)).heap[D]? = some (.deferred (some [])) := (Below.heap_setCell X ⟨w.heap.size + 1, 0, none⟩ _ D (by show D ≠ w.heap.size + 1; omega)).trans hK
    have HK2 : Hid _ := hK2
    clear hI hS hT hall hres hkD hd3 bL hK2
    gi_wp2
    refine ⟨by simp, .inl ⟨_, _, rfl, run_takeDeferred HK2.out, ?_⟩⟩
    exact ⟨.bool true, by simp [results, Tryd.results52, go_sem, HC.out], by rw [HR.out], HB.out⟩
  case stop =>
    rintro D c A xs X hD ⟨⟨r, hS⟩, hT⟩ ⟨rfl, hX⟩ hK
    obtain ⟨q, hq, hn⟩ := hX.ok
    have HR : Hid ((pl d && decide (dp d ≤ 200)) = false) := by
      show _ = _
      cases h : (pl d && decide (dp d ≤ 200)) with
      | false => rfl
      | true =>
        simp only [Bool.and_eq_true, decide_eq_true_eq] at h
        have h2 := (pl_pre d 1 200 (Nat.le_refl _)).2 ⟨h.1, by omega⟩
        exact absurd (h2 (q.doc, q.deep) (marks_back (by rw [← hS]; exact List.mem_append_left _ (List.mem_map_of_mem hq)))) hn
    have hkD : ∀ b, b ≠ D → (X.putObj D (.deferred none)).heap[b]? = X.heap[b]? := fun b hb => World.putObj_heap_other hb
    have HC : Hid ((X.putObj D (.deferred none)).cell? ⟨w.heap.size + 1, 0, none⟩ = some (.bool false)) := (World.cell?_of_block (a := ⟨w.heap.size + 1, 0, none⟩) (hkD _ (by show w.heap.size + 1 ≠ D; omega))).trans hX.box.cell
    have HB : Hid (Below w.heap.size w (X.putObj D (.deferred none))) := ⟨hX.bel.os, hX.bel.tape, hX.bel.output, by simpa using hX.bel.size, fun b hb => (hkD b (by omega)).trans (hX.bel.block b hb)⟩
    clear hX hS hT hkD hd3 bL hn hq
    gi_wp2
    refine ⟨by simp, .inl ⟨_, _, rfl, run_takeDeferred hK, ?_⟩⟩
    exact ⟨.bool false, by simp [results, Tryd.results52, go_sem, HC.out], by rw [HR.out], HB.out⟩
end Go.Proofs.YtlnlkbkmnkjbhaaDoor
