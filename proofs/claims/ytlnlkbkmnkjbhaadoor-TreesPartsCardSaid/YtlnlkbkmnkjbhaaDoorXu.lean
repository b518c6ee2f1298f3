/- The document's Put. -/
import Derived.Test.YtlnlkbkmnkjbhaaDoorXt
namespace Go.Proofs.YtlnlkbkmnkjbhaaDoor
open Go.RowKit Go.Shelf

set_option maxRecDepth 100000 in
set_option maxHeartbeats 8000000 in
theorem refPut_any : ∀ (ps : List Int) (d s : Tr) (sa ta : Option Addr) (sc tc f : Nat) (pa : Option Addr) (pc : Nat) (w : World), TAt w w.heap.size f sa d.kids → d.kids.length ≤ sc → TAt w w.heap.size f ta s.kids → s.kids.length ≤ tc → IAt w w.heap.size pa ps → ps.length ≤ pc → ps.length ≤ 1000000000000 →
    Calls Tryd.prog 31 #[.agg #[.int .i64 d.rule, .int .u8 (d.byte.toNat : Int), .slice sa d.kids.length sc], .slice pa ps.length pc, .agg #[.int .i64 s.rule, .int .u8 (s.byte.toNat : Int), .slice ta s.kids.length tc]] w fun e w' => APost w (putP d ps s) e w' := by
  intro ps
  induction ps with
  | nil =>
    intro d s sa ta sc tc f pa pc w hk hsc hks htc _ _ _
    have hX0 := P3.start w d s sa ta sc tc
    obtain ⟨w2, hw2⟩ : ∃ w2, ((w.alloc (.cells #[.int .i64 d.rule, .int .u8 (d.byte.toNat : Int), .slice sa d.kids.length sc] 27)).alloc (.cells #[.int .i64 s.rule, .int .u8 (s.byte.toNat : Int), .slice ta s.kids.length tc] 27)).alloc (.cells #[.int .i64 0, .int .u8 0, .slice none 0 0] 27) = w2 := ⟨_, rfl⟩
    rw [hw2] at hX0
    have hB := hX0.bel
    have HC : Hid _ := fun (_ : Unit) => copy_any f s ta tc w2 ((hks.keep hB).mono hB.size)
    have r0 := hX0.r0
    have r1 := hX0.r1
    have r2 := hX0.r2
    have rf := hX0.rf
    have hlt2 := hX0.lt
    have hsB : w.heap.size ≤ w.heap.size + 1 + 1 := by omega
    have HF : Hid (∀ va vc w7, s.kids.length ≤ vc → TIn w7 (fun b => w2.heap.size ≤ b ∧ b < w7.heap.size) f va s.kids → Below w2.heap.size w2 w7 → APost w2 (some s) (.returned (.tuple #[.agg #[.int .i64 s.rule, .int .u8 (s.byte.toNat : Int), .slice va s.kids.length vc], .int .i64 0])) w7) := fun va vc w7 h1 h2 h3 => ⟨⟨f, va, vc, rfl, h1, h2⟩, h3⟩
    have HL : Hid (∀ e w7, APost w2 (some s) e w7 → _) := fun e w7 h => apost_lift hB hsB hlt2 r0 r1 r2 rf h
    clear hX0 hk hB hks
    subst hw2
    go_enter Tryd.func31, Tryd.ntmps31
    go_wp2_with (go_at_call 16; refine (HC.out ()).mono ?_; rintro e w7 ⟨⟨va, vc, rfl, hvc, htin⟩, hb7⟩; obtain ⟨r, u, va', vn', vc', er, he, ⟨r0, r1, r2, rf⟩, _, hp7⟩ := HL.out _ _ (HF.out va vc w7 hvc htin hb7); injection he with he; injection he with he; have HP7 : Hid _ := And.intro he hp7; clear he hp7 hvc htin hb7)
    refine bodyPost_ret (v := .tuple #[.agg #[.int .i64 s.rule, .int .u8 (s.byte.toNat : Int), .slice va s.kids.length vc], .int .i64 0]) (by simp [results, Tryd.results31, go_sem, r0, r1, r2]) rfl ?_
    obtain ⟨he, hp7⟩ := HP7.out
    simp at he
    obtain ⟨⟨rfl, rfl, rfl, rfl, rfl⟩, rfl⟩ := he
    exact hp7
  | cons v ps ih =>
    intro d s sa ta sc tc f pa pc w hk hsc hks htc hp hpc hpl
    obtain ⟨pb, po, rfl, hpb, hpv⟩ := hp 0 v rfl
    rw [Nat.add_zero] at hpv
    have hX0 := P3.start w d s sa ta sc tc
    obtain ⟨w2, hw2⟩ : ∃ w2, ((w.alloc (.cells #[.int .i64 d.rule, .int .u8 (d.byte.toNat : Int), .slice sa d.kids.length sc] 27)).alloc (.cells #[.int .i64 s.rule, .int .u8 (s.byte.toNat : Int), .slice ta s.kids.length tc] 27)).alloc (.cells #[.int .i64 0, .int .u8 0, .slice none 0 0] 27) = w2 := ⟨_, rfl⟩
    rw [hw2] at hX0
    have hB := hX0.bel
    have r0 := hX0.r0
    have r1 := hX0.r1
    have r2 := hX0.r2
    have rf := hX0.rf
    have hlt2 := hX0.lt
    have hsB : w.heap.size ≤ w.heap.size + 1 + 1 := by omega
    have hpv2 := (hB.cell (p := ⟨pb, po, none⟩) hpb).trans hpv
    have x2 := hX0.d2
    have HS3 : Hid (w2.drew.cell? ⟨w.heap.size, 2, none⟩ = some (.slice sa d.kids.length sc) ∧ w2.drew.cell? ⟨pb, po, none⟩ = some (.int .i64 v)) := ⟨x2, hpv2⟩
    have HBD : Hid (Below w.heap.size w w2.drew) := ⟨hB.os, hB.tape, hB.output, hB.size, hB.block⟩
    have hln : ((ps.length : Int) + 1 == 0) = false := by simp; omega
    have hl0 : (0 : Int) < (ps.length : Int) + 1 := by omega
    have hlN : 0 < ps.length + 1 := by omega
    obtain ⟨n, hn⟩ : ∃ n, ps.length = n := ⟨_, rfl⟩
    rw [List.length_cons] at hpc hpl ⊢
    rw [hn] at hln hl0 hlN hpc hpl ⊢
    by_cases hv0 : v < 0
    · have HN : Hid (putP d (v :: ps) s = none) := by show _ = _; rw [putP]; unfold kidAt; rw [if_neg (by omega)]; rfl
      have hd0 : decide (v < 0) = true := by simpa using hv0
      clear hX0 hk hB ih hp hpv hn hks
      subst hw2
      go_enter Tryd.func31, Tryd.ntmps31
      go_wp2
      refine wp_region_held_drew (S := (fun W => W.cell? ⟨w.heap.size, 2, none⟩ = some (.slice sa d.kids.length sc) ∧ W.cell? ⟨pb, po, none⟩ = some (.int .i64 v))) (by kernel_rfl) HS3.out (fun hHeld => ?_)
      refine wpAnyH_take (i := 0) (v := ?v53) rfl (by kernel_rfl) (by kernel_rfl) (by kernel_rfl) (fun _ _ _ h => h) (Or.inl ⟨by rfl, ?y53⟩) (by assumption) ?_
      case y53 => (intro w hSw; (try dsimp only at hSw); go_simp <;> with_reducible rfl)
      try simp only [Act.put, List.getElem_toArray, List.getElem_cons_zero, List.setIfInBounds_toArray, List.set_cons_zero, List.set_cons_succ]
      refine wpAnyH_take (i := 1) (v := ?v54) rfl (by kernel_rfl) (by kernel_rfl) (by kernel_rfl) (fun _ _ _ h => h) (Or.inl ⟨by rfl, ?y54⟩) (by assumption) ?_
      case y54 => (intro w hSw; (try dsimp only at hSw); go_simp <;> with_reducible rfl)
      try simp only [Act.put, List.getElem_toArray, List.getElem_cons_zero, List.getElem_cons_succ, List.setIfInBounds_toArray, List.set_cons_zero, List.set_cons_succ]
      refine wpAnyH_take (i := 2) (v := ?v55) rfl (by kernel_rfl) (by kernel_rfl) (by kernel_rfl) (fun _ _ _ h => h) (Or.inl ⟨by rfl, ?y55⟩) (by assumption) ?_
      case y55 => (intro w hSw; (try dsimp only at hSw); go_simp <;> with_reducible rfl)
      try simp only [Act.put, List.getElem_toArray, List.getElem_cons_zero, List.getElem_cons_succ, List.setIfInBounds_toArray, List.set_cons_zero, List.set_cons_succ]
      refine wpAnyH_take (i := 3) (v := ?v56) rfl (by kernel_rfl) (by kernel_rfl) (by kernel_rfl) (fun _ _ _ h => h) (Or.inl ⟨by rfl, ?y56⟩) (by assumption) ?_
      case y56 => (intro w hSw; (try dsimp only at hSw); go_simp <;> with_reducible rfl)
      try simp only [Act.put, List.getElem_toArray, List.getElem_cons_zero, List.getElem_cons_succ, List.setIfInBounds_toArray, List.set_cons_zero, List.set_cons_succ]
      refine wpAnyH_take (i := 4) (v := ?v57) rfl (by kernel_rfl) (by kernel_rfl) (by kernel_rfl) (fun _ _ _ h => h) (Or.inl ⟨by rfl, ?y57⟩) (by assumption) ?_
      case y57 => (intro w hSw; (try dsimp only at hSw); go_simp <;> with_reducible rfl)
      try simp only [Act.put, List.getElem_toArray, List.getElem_cons_zero, List.getElem_cons_succ, List.setIfInBounds_toArray, List.set_cons_zero, List.set_cons_succ]
      refine wpAnyH_take (i := 5) (v := undef) rfl (by kernel_rfl) (by kernel_rfl) (by kernel_rfl) (fun _ _ _ h => h) (Or.inr ⟨by rfl, rfl⟩) (by assumption) ?_
      try simp only [Act.put, List.getElem_toArray, List.getElem_cons_zero, List.getElem_cons_succ, List.setIfInBounds_toArray, List.set_cons_zero, List.set_cons_succ]
      refine wpAnyH_take (i := 6) (v := undef) rfl (by kernel_rfl) (by kernel_rfl) (by kernel_rfl) (fun _ _ _ h => h) (Or.inr ⟨by rfl, rfl⟩) (by assumption) ?_
      try simp only [Act.put, List.getElem_toArray, List.getElem_cons_zero, List.getElem_cons_succ, List.setIfInBounds_toArray, List.set_cons_zero, List.set_cons_succ]
      refine wpAnyH_take (i := 7) (v := undef) rfl (by kernel_rfl) (by kernel_rfl) (by kernel_rfl) (fun _ _ _ h => h) (Or.inr ⟨by rfl, rfl⟩) (by assumption) ?_
      try simp only [Act.put, List.getElem_toArray, List.getElem_cons_zero, List.getElem_cons_succ, List.setIfInBounds_toArray, List.set_cons_zero, List.set_cons_succ]
      refine wpAnyH_take (i := 8) (v := undef) rfl (by kernel_rfl) (by kernel_rfl) (by kernel_rfl) (fun _ _ _ h => h) (Or.inr ⟨by rfl, rfl⟩) (by assumption) ?_
      try simp only [Act.put, List.getElem_toArray, List.getElem_cons_zero, List.getElem_cons_succ, List.setIfInBounds_toArray, List.set_cons_zero, List.set_cons_succ]
      refine wpAnyH_take (i := 9) (v := undef) rfl (by kernel_rfl) (by kernel_rfl) (by kernel_rfl) (fun _ _ _ h => h) (Or.inr ⟨by rfl, rfl⟩) (by assumption) ?_
      try simp only [Act.put, List.getElem_toArray, List.getElem_cons_zero, List.getElem_cons_succ, List.setIfInBounds_toArray, List.set_cons_zero, List.set_cons_succ]
      refine wpAnyH_take (i := 10) (v := undef) rfl (by kernel_rfl) (by kernel_rfl) (by kernel_rfl) (fun _ _ _ h => h) (Or.inr ⟨by rfl, rfl⟩) (by assumption) ?_
      try simp only [Act.put, List.getElem_toArray, List.getElem_cons_zero, List.getElem_cons_succ, List.setIfInBounds_toArray, List.set_cons_zero, List.set_cons_succ]
      refine wpAnyH_take (i := 11) (v := undef) rfl (by kernel_rfl) (by kernel_rfl) (by kernel_rfl) (fun _ _ _ h => h) (Or.inr ⟨by rfl, rfl⟩) (by assumption) ?_
      try simp only [Act.put, List.getElem_toArray, List.getElem_cons_zero, List.getElem_cons_succ, List.setIfInBounds_toArray, List.set_cons_zero, List.set_cons_succ]
      refine wpAnyH_take (i := 12) (v := ?v58) rfl (by kernel_rfl) (by kernel_rfl) (by kernel_rfl) (fun _ _ _ h => h) (Or.inl ⟨by rfl, ?y58⟩) (by assumption) ?_
      case y58 => (intro w hSw; (try dsimp only at hSw); go_simp <;> with_reducible rfl)
      try simp only [Act.put, List.getElem_toArray, List.getElem_cons_zero, List.getElem_cons_succ, List.setIfInBounds_toArray, List.set_cons_zero, List.set_cons_succ]
      refine wpAnyH_done (by kernel_rfl) ?_ _
      clear hHeld
      go_wp2
      refine bodyPost_ret (v := .tuple #[.agg #[.int .i64 0, .int .u8 0, .slice none 0 0], .int .i64 4]) (by simp [results, Tryd.results31, go_sem, r0, r1, r2]) rfl ?_
      rw [HN.out]
      exact ⟨rfl, HBD.out⟩
    · by_cases hv1 : (d.kids.length : Int) ≤ v
      · have HN : Hid (putP d (v :: ps) s = none) := by
          show _ = _
          rw [putP]
          unfold kidAt
          rw [if_pos (by omega), List.getElem?_eq_none (by omega)]
          rfl
        have hd0 : decide (v < 0) = false := by simpa using hv0
        have hd1 : decide ((d.kids.length : Int) ≤ v) = true := by simpa using hv1
        clear hX0 hk hB ih hp hpv hn hks
        subst hw2
        go_enter Tryd.func31, Tryd.ntmps31
        go_wp2
        refine wp_region_held_drew (S := (fun W => W.cell? ⟨w.heap.size, 2, none⟩ = some (.slice sa d.kids.length sc) ∧ W.cell? ⟨pb, po, none⟩ = some (.int .i64 v))) (by kernel_rfl) HS3.out (fun hHeld => ?_)
        refine wpAnyH_take (i := 0) (v := ?v30) rfl (by kernel_rfl) (by kernel_rfl) (by kernel_rfl) (fun _ _ _ h => h) (Or.inl ⟨by rfl, ?y30⟩) (by assumption) ?_
        case y30 => (intro w hSw; (try dsimp only at hSw); go_simp <;> with_reducible rfl)
        try simp only [Act.put, List.getElem_toArray, List.getElem_cons_zero, List.setIfInBounds_toArray, List.set_cons_zero, List.set_cons_succ]
        refine wpAnyH_take (i := 1) (v := ?v31) rfl (by kernel_rfl) (by kernel_rfl) (by kernel_rfl) (fun _ _ _ h => h) (Or.inl ⟨by rfl, ?y31⟩) (by assumption) ?_
        case y31 => (intro w hSw; (try dsimp only at hSw); go_simp <;> with_reducible rfl)
        try simp only [Act.put, List.getElem_toArray, List.getElem_cons_zero, List.getElem_cons_succ, List.setIfInBounds_toArray, List.set_cons_zero, List.set_cons_succ]
        refine wpAnyH_take (i := 2) (v := ?v32) rfl (by kernel_rfl) (by kernel_rfl) (by kernel_rfl) (fun _ _ _ h => h) (Or.inl ⟨by rfl, ?y32⟩) (by assumption) ?_
        case y32 => (intro w hSw; (try dsimp only at hSw); go_simp <;> with_reducible rfl)
        try simp only [Act.put, List.getElem_toArray, List.getElem_cons_zero, List.getElem_cons_succ, List.setIfInBounds_toArray, List.set_cons_zero, List.set_cons_succ]
        refine wpAnyH_take (i := 3) (v := ?v33) rfl (by kernel_rfl) (by kernel_rfl) (by kernel_rfl) (fun _ _ _ h => h) (Or.inl ⟨by rfl, ?y33⟩) (by assumption) ?_
        case y33 => (intro w hSw; (try dsimp only at hSw); go_simp <;> with_reducible rfl)
        try simp only [Act.put, List.getElem_toArray, List.getElem_cons_zero, List.getElem_cons_succ, List.setIfInBounds_toArray, List.set_cons_zero, List.set_cons_succ]
        refine wpAnyH_take (i := 4) (v := ?v34) rfl (by kernel_rfl) (by kernel_rfl) (by kernel_rfl) (fun _ _ _ h => h) (Or.inl ⟨by rfl, ?y34⟩) (by assumption) ?_
        case y34 => (intro w hSw; (try dsimp only at hSw); go_simp <;> with_reducible rfl)
        try simp only [Act.put, List.getElem_toArray, List.getElem_cons_zero, List.getElem_cons_succ, List.setIfInBounds_toArray, List.set_cons_zero, List.set_cons_succ]
        refine wpAnyH_take (i := 5) (v := ?v35) rfl (by kernel_rfl) (by kernel_rfl) (by kernel_rfl) (fun _ _ _ h => h) (Or.inl ⟨by rfl, ?y35⟩) (by assumption) ?_
        case y35 => (intro w hSw; (try dsimp only at hSw); go_simp <;> with_reducible rfl)
        try simp only [Act.put, List.getElem_toArray, List.getElem_cons_zero, List.getElem_cons_succ, List.setIfInBounds_toArray, List.set_cons_zero, List.set_cons_succ]
        refine wpAnyH_take (i := 6) (v := ?v36) rfl (by kernel_rfl) (by kernel_rfl) (by kernel_rfl) (fun _ _ _ h => h) (Or.inl ⟨by rfl, ?y36⟩) (by assumption) ?_
        case y36 => (intro w hSw; (try dsimp only at hSw); go_simp <;> with_reducible rfl)
        try simp only [Act.put, List.getElem_toArray, List.getElem_cons_zero, List.getElem_cons_succ, List.setIfInBounds_toArray, List.set_cons_zero, List.set_cons_succ]
        refine wpAnyH_take (i := 7) (v := ?v37) rfl (by kernel_rfl) (by kernel_rfl) (by kernel_rfl) (fun _ _ _ h => h) (Or.inl ⟨by rfl, ?y37⟩) (by assumption) ?_
        case y37 => (intro w hSw; (try dsimp only at hSw); go_simp <;> with_reducible rfl)
        try simp only [Act.put, List.getElem_toArray, List.getElem_cons_zero, List.getElem_cons_succ, List.setIfInBounds_toArray, List.set_cons_zero, List.set_cons_succ]
        refine wpAnyH_take (i := 8) (v := ?v38) rfl (by kernel_rfl) (by kernel_rfl) (by kernel_rfl) (fun _ _ _ h => h) (Or.inl ⟨by rfl, ?y38⟩) (by assumption) ?_
        case y38 => (intro w hSw; (try dsimp only at hSw); go_simp <;> with_reducible rfl)
        try simp only [Act.put, List.getElem_toArray, List.getElem_cons_zero, List.getElem_cons_succ, List.setIfInBounds_toArray, List.set_cons_zero, List.set_cons_succ]
        refine wpAnyH_take (i := 9) (v := ?v39) rfl (by kernel_rfl) (by kernel_rfl) (by kernel_rfl) (fun _ _ _ h => h) (Or.inl ⟨by rfl, ?y39⟩) (by assumption) ?_
        case y39 => (intro w hSw; (try dsimp only at hSw); go_simp <;> with_reducible rfl)
        try simp only [Act.put, List.getElem_toArray, List.getElem_cons_zero, List.getElem_cons_succ, List.setIfInBounds_toArray, List.set_cons_zero, List.set_cons_succ]
        refine wpAnyH_take (i := 10) (v := ?v40) rfl (by kernel_rfl) (by kernel_rfl) (by kernel_rfl) (fun _ _ _ h => h) (Or.inl ⟨by rfl, ?y40⟩) (by assumption) ?_
        case y40 => (intro w hSw; (try dsimp only at hSw); go_simp <;> with_reducible rfl)
        try simp only [Act.put, List.getElem_toArray, List.getElem_cons_zero, List.getElem_cons_succ, List.setIfInBounds_toArray, List.set_cons_zero, List.set_cons_succ]
        refine wpAnyH_take (i := 11) (v := ?v41) rfl (by kernel_rfl) (by kernel_rfl) (by kernel_rfl) (fun _ _ _ h => h) (Or.inl ⟨by rfl, ?y41⟩) (by assumption) ?_
        case y41 => (intro w hSw; (try dsimp only at hSw); go_simp <;> with_reducible rfl)
        try simp only [Act.put, List.getElem_toArray, List.getElem_cons_zero, List.getElem_cons_succ, List.setIfInBounds_toArray, List.set_cons_zero, List.set_cons_succ]
        refine wpAnyH_take (i := 12) (v := ?v42) rfl (by kernel_rfl) (by kernel_rfl) (by kernel_rfl) (fun _ _ _ h => h) (Or.inl ⟨by rfl, ?y42⟩) (by assumption) ?_
        case y42 => (intro w hSw; (try dsimp only at hSw); go_simp <;> with_reducible rfl)
        try simp only [Act.put, List.getElem_toArray, List.getElem_cons_zero, List.getElem_cons_succ, List.setIfInBounds_toArray, List.set_cons_zero, List.set_cons_succ]
        refine wpAnyH_done (by kernel_rfl) ?_ _
        clear hHeld
        go_wp2
        refine bodyPost_ret (v := .tuple #[.agg #[.int .i64 0, .int .u8 0, .slice none 0 0], .int .i64 4]) (by simp [results, Tryd.results31, go_sem, r0, r1, r2]) rfl ?_
        rw [HN.out]
        exact ⟨rfl, HBD.out⟩
      · obtain ⟨m, rfl⟩ : ∃ m : Nat, v = (m : Int) := ⟨v.toNat, by omega⟩
        have hmN : m < d.kids.length := by omega
        obtain ⟨x, hx⟩ : ∃ x, d.kids[m]? = some x := ⟨d.kids[m], by simp⟩
        have HN : Hid (putP d ((m : Int) :: ps) s = (putP x ps s).map (fun y => .mk d.rule d.byte (d.kids.set m y))) := by
          show _ = _
          rw [putP]
          unfold kidAt
          rw [if_pos (by omega), Int.toNat_natCast, hx]
          rfl
        obtain ⟨b, o, rfl, hb, xa, xc, c0, c1, c2, hxc, hxk⟩ := hk.one hx
        have hd0 : decide ((m : Int) < 0) = false := by simp
        have hd1 : decide (d.kids.length ≤ m) = false := by simp; omega
        have hd2 : ¬ d.kids.length ≤ m := by omega
        have HX0 : Hid _ := hX0
        have HS5 : Hid (∀ W, Below w2.heap.size w2 W → W.cell? ⟨w.heap.size, 2, none⟩ = some (.slice (some ⟨b, o, none⟩) d.kids.length sc) ∧ W.cell? ⟨pb, po, none⟩ = some (.int .i64 (m : Int)) ∧ W.cell? ⟨b, o + m * 3, none⟩ = some (.int .i64 x.rule) ∧ W.cell? ⟨b, o + m * 3 + 1, none⟩ = some (.int .u8 (x.byte.toNat : Int)) ∧ W.cell? ⟨b, o + m * 3 + 2, none⟩ = some (.slice xa x.kids.length xc) ∧ W.cell? ⟨w.heap.size + 1, 0, none⟩ = some (.int .i64 s.rule) ∧ W.cell? ⟨w.heap.size + 1, 1, none⟩ = some (.int .u8 (s.byte.toNat : Int)) ∧ W.cell? ⟨w.heap.size + 1, 2, none⟩ = some (.slice ta s.kids.length tc)) := fun W hW => by
          have hs := hB.size
          have hx3 := hX0.nx hW
          have k' : ∀ b q, b < w.heap.size → W.cell? ⟨b, q, none⟩ = w.cell? ⟨b, q, none⟩ := fun b q hb => hx3.bel.cell (p := ⟨b, q, none⟩) hb
          exact ⟨hx3.d2, (k' _ _ hpb).trans hpv, (k' _ _ hb).trans c0, (k' _ _ hb).trans c1, (k' _ _ hb).trans c2, hx3.s0, hx3.s1, hx3.s2⟩
        have HC : Hid (∀ W, Below w2.heap.size w2 W → Calls Tryd.prog 31 #[.agg #[.int .i64 x.rule, .int .u8 (x.byte.toNat : Int), .slice xa x.kids.length xc], .slice (if pc = 1 then some ⟨pb, po, none⟩ else some ⟨pb, po + 1, none⟩) n (pc - 1), .agg #[.int .i64 s.rule, .int .u8 (s.byte.toNat : Int), .slice ta s.kids.length tc]] W fun e w' => APost W (putP x ps s) e w') := fun W hW => by
          have hBW := below_of hB hW
          have hI : IAt W W.heap.size (if pc = 1 then some ⟨pb, po, none⟩ else some ⟨pb, po + 1, none⟩) ps := by
            split
            · have h0 : ps = [] := List.length_eq_zero_iff.1 (by omega)
              rw [h0]
              exact fun j u hj => by cases hj
            · exact (hp.tail.keep hBW).mono hBW.size
          have h' := ih x s xa ta xc tc f (if pc = 1 then some ⟨pb, po, none⟩ else some ⟨pb, po + 1, none⟩) (pc - 1) W ((hxk.keep hBW).mono hBW.size) hxc ((hks.keep hBW).mono hBW.size) htc hI (by omega) (by omega)
          rw [hn] at h'
          exact h'
        have TT : Below w2.heap.size w2 w2.drew.drew := ⟨rfl, rfl, rfl, Nat.le_refl _, fun _ _ => rfl⟩
        have HTT : Hid _ := TT
        have hm0 : (0 : Int) ≤ (m : Int) := by omega
        have hmI : (m : Int) < (d.kids.length : Int) := by omega
        have hp1 : (1 : Int) ≤ (n : Int) + 1 := by omega
        have hp2 : (n : Int) + 1 ≤ (pc : Int) := by omega
        have hp3 : n + 1 ≤ pc := hpc
        have HKD : Hid _ := hk
        have HPV : Hid _ := And.intro hpb hpv
        clear hX0 hk hB ih hp hpv hn hxk c0 c1 c2 hx hv0 hv1 TT r0 r1 r2 rf hks
        go_enter Tryd.func31, Tryd.ntmps31
        go_wp2
        refine wp_region_held_drew (S := (fun W => W.cell? ⟨w.heap.size, 2, none⟩ = some (.slice (some ⟨b, o, none⟩) d.kids.length sc) ∧ W.cell? ⟨pb, po, none⟩ = some (.int .i64 (m : Int)))) (by kernel_rfl) HS3.out (fun hHeld => ?_)
        refine wpAnyH_take (i := 0) (v := ?v1) rfl (by kernel_rfl) (by kernel_rfl) (by kernel_rfl) (fun _ _ _ h => h) (Or.inl ⟨by rfl, ?y1⟩) (by assumption) ?_
        case y1 => (intro w hSw; (try dsimp only at hSw); go_simp <;> with_reducible rfl)
        try simp only [Act.put, List.getElem_toArray, List.getElem_cons_zero, List.setIfInBounds_toArray, List.set_cons_zero, List.set_cons_succ]
        refine wpAnyH_take (i := 1) (v := ?v2) rfl (by kernel_rfl) (by kernel_rfl) (by kernel_rfl) (fun _ _ _ h => h) (Or.inl ⟨by rfl, ?y2⟩) (by assumption) ?_
        case y2 => (intro w hSw; (try dsimp only at hSw); go_simp <;> with_reducible rfl)
        try simp only [Act.put, List.getElem_toArray, List.getElem_cons_zero, List.getElem_cons_succ, List.setIfInBounds_toArray, List.set_cons_zero, List.set_cons_succ]
        refine wpAnyH_take (i := 2) (v := ?v3) rfl (by kernel_rfl) (by kernel_rfl) (by kernel_rfl) (fun _ _ _ h => h) (Or.inl ⟨by rfl, ?y3⟩) (by assumption) ?_
        case y3 => (intro w hSw; (try dsimp only at hSw); go_simp <;> with_reducible rfl)
        try simp only [Act.put, List.getElem_toArray, List.getElem_cons_zero, List.getElem_cons_succ, List.setIfInBounds_toArray, List.set_cons_zero, List.set_cons_succ]
        refine wpAnyH_take (i := 3) (v := ?v4) rfl (by kernel_rfl) (by kernel_rfl) (by kernel_rfl) (fun _ _ _ h => h) (Or.inl ⟨by rfl, ?y4⟩) (by assumption) ?_
        case y4 => (intro w hSw; (try dsimp only at hSw); go_simp <;> with_reducible rfl)
        try simp only [Act.put, List.getElem_toArray, List.getElem_cons_zero, List.getElem_cons_succ, List.setIfInBounds_toArray, List.set_cons_zero, List.set_cons_succ]
        refine wpAnyH_take (i := 4) (v := ?v5) rfl (by kernel_rfl) (by kernel_rfl) (by kernel_rfl) (fun _ _ _ h => h) (Or.inl ⟨by rfl, ?y5⟩) (by assumption) ?_
        case y5 => (intro w hSw; (try dsimp only at hSw); go_simp <;> with_reducible rfl)
        try simp only [Act.put, List.getElem_toArray, List.getElem_cons_zero, List.getElem_cons_succ, List.setIfInBounds_toArray, List.set_cons_zero, List.set_cons_succ]
        refine wpAnyH_take (i := 5) (v := ?v6) rfl (by kernel_rfl) (by kernel_rfl) (by kernel_rfl) (fun _ _ _ h => h) (Or.inl ⟨by rfl, ?y6⟩) (by assumption) ?_
        case y6 => (intro w hSw; (try dsimp only at hSw); go_simp <;> with_reducible rfl)
        try simp only [Act.put, List.getElem_toArray, List.getElem_cons_zero, List.getElem_cons_succ, List.setIfInBounds_toArray, List.set_cons_zero, List.set_cons_succ]
        refine wpAnyH_take (i := 6) (v := ?v7) rfl (by kernel_rfl) (by kernel_rfl) (by kernel_rfl) (fun _ _ _ h => h) (Or.inl ⟨by rfl, ?y7⟩) (by assumption) ?_
        case y7 => (intro w hSw; (try dsimp only at hSw); go_simp <;> with_reducible rfl)
        try simp only [Act.put, List.getElem_toArray, List.getElem_cons_zero, List.getElem_cons_succ, List.setIfInBounds_toArray, List.set_cons_zero, List.set_cons_succ]
        refine wpAnyH_take (i := 7) (v := ?v8) rfl (by kernel_rfl) (by kernel_rfl) (by kernel_rfl) (fun _ _ _ h => h) (Or.inl ⟨by rfl, ?y8⟩) (by assumption) ?_
        case y8 => (intro w hSw; (try dsimp only at hSw); go_simp <;> with_reducible rfl)
        try simp only [Act.put, List.getElem_toArray, List.getElem_cons_zero, List.getElem_cons_succ, List.setIfInBounds_toArray, List.set_cons_zero, List.set_cons_succ]
        refine wpAnyH_take (i := 8) (v := ?v9) rfl (by kernel_rfl) (by kernel_rfl) (by kernel_rfl) (fun _ _ _ h => h) (Or.inl ⟨by rfl, ?y9⟩) (by assumption) ?_
        case y9 => (intro w hSw; (try dsimp only at hSw); go_simp <;> with_reducible rfl)
        try simp only [Act.put, List.getElem_toArray, List.getElem_cons_zero, List.getElem_cons_succ, List.setIfInBounds_toArray, List.set_cons_zero, List.set_cons_succ]
        refine wpAnyH_take (i := 9) (v := ?v10) rfl (by kernel_rfl) (by kernel_rfl) (by kernel_rfl) (fun _ _ _ h => h) (Or.inl ⟨by rfl, ?y10⟩) (by assumption) ?_
        case y10 => (intro w hSw; (try dsimp only at hSw); go_simp <;> with_reducible rfl)
        try simp only [Act.put, List.getElem_toArray, List.getElem_cons_zero, List.getElem_cons_succ, List.setIfInBounds_toArray, List.set_cons_zero, List.set_cons_succ]
        refine wpAnyH_take (i := 10) (v := ?v11) rfl (by kernel_rfl) (by kernel_rfl) (by kernel_rfl) (fun _ _ _ h => h) (Or.inl ⟨by rfl, ?y11⟩) (by assumption) ?_
        case y11 => (intro w hSw; (try dsimp only at hSw); go_simp <;> with_reducible rfl)
        try simp only [Act.put, List.getElem_toArray, List.getElem_cons_zero, List.getElem_cons_succ, List.setIfInBounds_toArray, List.set_cons_zero, List.set_cons_succ]
        refine wpAnyH_take (i := 11) (v := ?v12) rfl (by kernel_rfl) (by kernel_rfl) (by kernel_rfl) (fun _ _ _ h => h) (Or.inl ⟨by rfl, ?y12⟩) (by assumption) ?_
        case y12 => (intro w hSw; (try dsimp only at hSw); go_simp <;> with_reducible rfl)
        try simp only [Act.put, List.getElem_toArray, List.getElem_cons_zero, List.getElem_cons_succ, List.setIfInBounds_toArray, List.set_cons_zero, List.set_cons_succ]
        refine wpAnyH_take (i := 12) (v := ?v13) rfl (by kernel_rfl) (by kernel_rfl) (by kernel_rfl) (fun _ _ _ h => h) (Or.inl ⟨by rfl, ?y13⟩) (by assumption) ?_
        case y13 => (intro w hSw; (try dsimp only at hSw); go_simp <;> with_reducible rfl)
        try simp only [Act.put, List.getElem_toArray, List.getElem_cons_zero, List.getElem_cons_succ, List.setIfInBounds_toArray, List.set_cons_zero, List.set_cons_succ]
        refine wpAnyH_done (by kernel_rfl) ?_ _
        clear hHeld
        go_wp2
        refine wp_region_held_drew (S := (fun W => W.cell? ⟨w.heap.size, 2, none⟩ = some (.slice (some ⟨b, o, none⟩) d.kids.length sc) ∧ W.cell? ⟨pb, po, none⟩ = some (.int .i64 (m : Int)) ∧ W.cell? ⟨b, o + m * 3, none⟩ = some (.int .i64 x.rule) ∧ W.cell? ⟨b, o + m * 3 + 1, none⟩ = some (.int .u8 (x.byte.toNat : Int)) ∧ W.cell? ⟨b, o + m * 3 + 2, none⟩ = some (.slice xa x.kids.length xc) ∧ W.cell? ⟨w.heap.size + 1, 0, none⟩ = some (.int .i64 s.rule) ∧ W.cell? ⟨w.heap.size + 1, 1, none⟩ = some (.int .u8 (s.byte.toNat : Int)) ∧ W.cell? ⟨w.heap.size + 1, 2, none⟩ = some (.slice ta s.kids.length tc))) (by kernel_rfl) (HS5.out _ HTT.out) (fun hHeld => ?_)
        refine wpAnyH_take (i := 0) (v := ?v43) rfl (by kernel_rfl) (by kernel_rfl) (by kernel_rfl) (fun _ _ _ h => h) (Or.inl ⟨by rfl, ?y43⟩) (by assumption) ?_
        case y43 => (intro w hSw; (try dsimp only at hSw); go_simp <;> with_reducible rfl)
        try simp only [Act.put, List.getElem_toArray, List.getElem_cons_zero, List.setIfInBounds_toArray, List.set_cons_zero, List.set_cons_succ]
        refine wpAnyH_take (i := 1) (v := ?v44) rfl (by kernel_rfl) (by kernel_rfl) (by kernel_rfl) (fun _ _ _ h => h) (Or.inl ⟨by rfl, ?y44⟩) (by assumption) ?_
        case y44 => (intro w hSw; (try dsimp only at hSw); go_simp <;> with_reducible rfl)
        try simp only [Act.put, List.getElem_toArray, List.getElem_cons_zero, List.getElem_cons_succ, List.setIfInBounds_toArray, List.set_cons_zero, List.set_cons_succ]
        refine wpAnyH_take (i := 2) (v := ?v45) rfl (by kernel_rfl) (by kernel_rfl) (by kernel_rfl) (fun _ _ _ h => h) (Or.inl ⟨by rfl, ?y45⟩) (by assumption) ?_
        case y45 => (intro w hSw; (try dsimp only at hSw); go_simp <;> with_reducible rfl)
        try simp only [Act.put, List.getElem_toArray, List.getElem_cons_zero, List.getElem_cons_succ, List.setIfInBounds_toArray, List.set_cons_zero, List.set_cons_succ]
        refine wpAnyH_take (i := 3) (v := ?v46) rfl (by kernel_rfl) (by kernel_rfl) (by kernel_rfl) (fun _ _ _ h => h) (Or.inl ⟨by rfl, ?y46⟩) (by assumption) ?_
        case y46 => (intro w hSw; (try dsimp only at hSw); go_simp <;> with_reducible rfl)
        try simp only [Act.put, List.getElem_toArray, List.getElem_cons_zero, List.getElem_cons_succ, List.setIfInBounds_toArray, List.set_cons_zero, List.set_cons_succ]
        refine wpAnyH_take (i := 4) (v := ?v47) rfl (by kernel_rfl) (by kernel_rfl) (by kernel_rfl) (fun _ _ _ h => h) (Or.inl ⟨by rfl, ?y47⟩) (by assumption) ?_
        case y47 => (intro w hSw; (try dsimp only at hSw); go_simp <;> with_reducible rfl)
        try simp only [Act.put, List.getElem_toArray, List.getElem_cons_zero, List.getElem_cons_succ, List.setIfInBounds_toArray, List.set_cons_zero, List.set_cons_succ]
        refine wpAnyH_take (i := 5) (v := ?v48) rfl (by kernel_rfl) (by kernel_rfl) (by kernel_rfl) (fun _ _ _ h => h) (Or.inl ⟨by rfl, ?y48⟩) (by assumption) ?_
        case y48 => (intro w hSw; (try dsimp only at hSw); go_simp <;> with_reducible rfl)
        try simp only [Act.put, List.getElem_toArray, List.getElem_cons_zero, List.getElem_cons_succ, List.setIfInBounds_toArray, List.set_cons_zero, List.set_cons_succ]
        refine wpAnyH_take (i := 6) (v := ?v49) rfl (by kernel_rfl) (by kernel_rfl) (by kernel_rfl) (fun _ _ _ h => h) (Or.inl ⟨by rfl, ?y49⟩) (by assumption) ?_
        case y49 => (intro w hSw; (try dsimp only at hSw); go_simp <;> with_reducible rfl)
        try simp only [Act.put, List.getElem_toArray, List.getElem_cons_zero, List.getElem_cons_succ, List.setIfInBounds_toArray, List.set_cons_zero, List.set_cons_succ]
        refine wpAnyH_take (i := 7) (v := ?v50) rfl (by kernel_rfl) (by kernel_rfl) (by kernel_rfl) (fun _ _ _ h => h) (Or.inl ⟨by rfl, ?y50⟩) (by assumption) ?_
        case y50 => (intro w hSw; (try dsimp only at hSw); go_simp <;> with_reducible rfl)
        try simp only [Act.put, List.getElem_toArray, List.getElem_cons_zero, List.getElem_cons_succ, List.setIfInBounds_toArray, List.set_cons_zero, List.set_cons_succ]
        refine wpAnyH_take (i := 8) (v := ?v51) rfl (by kernel_rfl) (by kernel_rfl) (by kernel_rfl) (fun _ _ _ h => h) (Or.inl ⟨by rfl, ?y51⟩) (by assumption) ?_
        case y51 => (intro w hSw; (try dsimp only at hSw); go_simp <;> with_reducible rfl)
        try simp only [Act.put, List.getElem_toArray, List.getElem_cons_zero, List.getElem_cons_succ, List.setIfInBounds_toArray, List.set_cons_zero, List.set_cons_succ]
        refine wpAnyH_take (i := 9) (v := ?v52) rfl (by kernel_rfl) (by kernel_rfl) (by kernel_rfl) (fun _ _ _ h => h) (Or.inl ⟨by rfl, ?y52⟩) (by assumption) ?_
        case y52 => (intro w hSw; (try dsimp only at hSw); go_simp <;> with_reducible rfl)
        try simp only [Act.put, List.getElem_toArray, List.getElem_cons_zero, List.getElem_cons_succ, List.setIfInBounds_toArray, List.set_cons_zero, List.set_cons_succ]
        generalize (if pc = 1 then (some ⟨pb, po, none⟩ : Option Addr) else some ⟨pb, po + 1, none⟩) = qa at HC ⊢
        rcases hqq : putP x ps s with _ | y
        · rw [hqq] at HC HN
          refine wpAnyH_ready (rs := [10, 14]) (by kernel_rfl) (by simp) ?_
          refine (AllReadyH.cons rfl (fun K hK => ?_) (AllReadyH.cons rfl (fun K hK => ?_) AllReadyH.nil))
          · have HTW := HTT.out
            go_simp
            refine (HC.out _ HTW).mono ?_
            rintro e w7 ⟨rfl, hb7⟩
            have HW7 : Hid (Below w2.heap.size w2 w7) := below_of HTW hb7
            clear hb7
            go_wp2_with fail
            refine hK.out _ _ (HS5.out _ HW7.out) (fun hHeld => ?_)
            clear hK K
            try simp only [Act.put, List.getElem_toArray, List.getElem_cons_zero, List.getElem_cons_succ, List.setIfInBounds_toArray, List.set_cons_zero, List.set_cons_succ]
            refine wpAnyH_take (i := 11) (v := ?v14) rfl (by kernel_rfl) (by kernel_rfl) (by kernel_rfl) (fun _ _ _ h => h) (Or.inl ⟨by rfl, ?y14⟩) (by assumption) ?_
            case y14 => (intro w hSw; (try dsimp only at hSw); go_simp <;> with_reducible rfl)
            try simp only [Act.put, List.getElem_toArray, List.getElem_cons_zero, List.getElem_cons_succ, List.setIfInBounds_toArray, List.set_cons_zero, List.set_cons_succ]
            refine wpAnyH_take (i := 12) (v := ?v15) rfl (by kernel_rfl) (by kernel_rfl) (by kernel_rfl) (fun _ _ _ h => h) (Or.inl ⟨by rfl, ?y15⟩) (by assumption) ?_
            case y15 => (intro w hSw; (try dsimp only at hSw); go_simp <;> with_reducible rfl)
            try simp only [Act.put, List.getElem_toArray, List.getElem_cons_zero, List.getElem_cons_succ, List.setIfInBounds_toArray, List.set_cons_zero, List.set_cons_succ]
            refine wpAnyH_take (i := 13) (v := ?v16) rfl (by kernel_rfl) (by kernel_rfl) (by kernel_rfl) (fun _ _ _ h => h) (Or.inl ⟨by rfl, ?y16⟩) (by assumption) ?_
            case y16 => (intro w hSw; (try dsimp only at hSw); go_simp <;> with_reducible rfl)
            try simp only [Act.put, List.getElem_toArray, List.getElem_cons_zero, List.getElem_cons_succ, List.setIfInBounds_toArray, List.set_cons_zero, List.set_cons_succ]
            refine wpAnyH_ready (rs := [14]) (by kernel_rfl) (by simp) ?_
            refine (AllReadyH.cons rfl (fun K hK => ?_) AllReadyH.nil)
            go_simp
            have HWV : Hid (Below w2.heap.size w2 (w7.alloc (.cells #[.int .i64 0, .int .u8 0, .slice none 0 0] 27))) := HW7.out.alloc HW7.out.size _
            refine hK.out _ _ (HS5.out _ HWV.out) (fun hHeld => ?_)
            clear hK K
            try simp only [Act.put, List.getElem_toArray, List.getElem_cons_zero, List.getElem_cons_succ, List.setIfInBounds_toArray, List.set_cons_zero, List.set_cons_succ]
            refine wpAnyH_ready (rs := [15]) (by kernel_rfl) (by simp) ?_
            refine (AllReadyH.cons rfl (fun K hK => ?_) AllReadyH.nil)
            go_simp
            refine hK.out _ _ (HS5.out _ HWV.out) (fun hHeld => ?_)
            clear hK K
            try simp only [Act.put, List.getElem_toArray, List.getElem_cons_zero, List.getElem_cons_succ, List.setIfInBounds_toArray, List.set_cons_zero, List.set_cons_succ]
            refine wpAnyH_take (i := 16) (v := ?v17) rfl (by kernel_rfl) (by kernel_rfl) (by kernel_rfl) (fun _ _ _ h => h) (Or.inl ⟨by rfl, ?y17⟩) (by assumption) ?_
            case y17 => (intro w hSw; (try dsimp only at hSw); go_simp <;> with_reducible rfl)
            try simp only [Act.put, List.getElem_toArray, List.getElem_cons_zero, List.getElem_cons_succ, List.setIfInBounds_toArray, List.set_cons_zero, List.set_cons_succ]
            refine wpAnyH_done (by kernel_rfl) ?_ _
            clear hHeld
            have r0 := (HWV.out.cell (p := ⟨w.heap.size + 1 + 1, 0, none⟩) HX0.out.lt).trans HX0.out.r0
            have r1 := (HWV.out.cell (p := ⟨w.heap.size + 1 + 1, 1, none⟩) HX0.out.lt).trans HX0.out.r1
            have r2 := (HWV.out.cell (p := ⟨w.heap.size + 1 + 1, 2, none⟩) HX0.out.lt).trans HX0.out.r2
            have rf := fun q => (HWV.out.frozen (p := ⟨w.heap.size + 1 + 1, q, none⟩) HX0.out.lt).trans (HX0.out.rf q)
            go_wp2
            refine bodyPost_ret (v := .tuple #[.agg #[.int .i64 0, .int .u8 0, .slice none 0 0], .int .i64 4]) (by simp [results, Tryd.results31, go_sem, r0, r1, r2]) rfl ?_
            rw [HN.out]
            exact ⟨rfl, by first | exact below_of HX0.out.bel HWV.out | exact below_set3 (below_of HX0.out.bel HWV.out) hsB _ _ _⟩
          · go_simp
            have HTW : Below w2.heap.size w2 (w2.drew.drew.alloc (.cells #[.int .i64 0, .int .u8 0, .slice none 0 0] 27)) := HTT.out.alloc (Nat.le_refl _) _
            refine hK.out _ _ (HS5.out _ HTW) (fun hHeld => ?_)
            clear hK K
            try simp only [Act.put, List.getElem_toArray, List.getElem_cons_zero, List.getElem_cons_succ, List.setIfInBounds_toArray, List.set_cons_zero, List.set_cons_succ]
            refine wpAnyH_ready (rs := [10]) (by kernel_rfl) (by simp) ?_
            refine (AllReadyH.cons rfl (fun K hK => ?_) AllReadyH.nil)
            go_simp
            refine (HC.out _ HTW).mono ?_
            rintro e w7 ⟨rfl, hb7⟩
            have ez : (w2.drew.drew.alloc (.cells #[.int .i64 0, .int .u8 0, .slice none 0 0] 27)).heap.size = w2.heap.size + 1 := by rw [World.size_alloc]; rfl
            have z0 : w7.cell? ⟨w2.heap.size, 0, none⟩ = some (.int .i64 0) := (hb7.cell (p := ⟨w2.heap.size, 0, none⟩) (by rw [ez]; exact Nat.lt_succ_self _)).trans (cell_new (w := w2.drew.drew) 0 rfl)
            have z1 : w7.cell? ⟨w2.heap.size, 1, none⟩ = some (.int .u8 0) := (hb7.cell (p := ⟨w2.heap.size, 1, none⟩) (by rw [ez]; exact Nat.lt_succ_self _)).trans (cell_new (w := w2.drew.drew) 1 rfl)
            have z2 : w7.cell? ⟨w2.heap.size, 2, none⟩ = some (.slice none 0 0) := (hb7.cell (p := ⟨w2.heap.size, 2, none⟩) (by rw [ez]; exact Nat.lt_succ_self _)).trans (cell_new (w := w2.drew.drew) 2 rfl)
            have fz : ∀ q, w7.frozen? ⟨w2.heap.size, q, none⟩ = false := fun q => (hb7.frozen (p := ⟨w2.heap.size, q, none⟩) (by rw [ez]; exact Nat.lt_succ_self _)).trans (World.frozen?_alloc_at _ _ _ _ rfl)
            have fz0 := fz 0
            have fz1 := fz 1
            have fz2 := fz 2
            have HW7 : Hid (Below w2.heap.size w2 w7) := below_of HTW hb7
            have HWV : Hid (Below w2.heap.size w2 (((w7.setCell ⟨w2.heap.size, 0, none⟩ (.int .i64 0)).setCell ⟨w2.heap.size, 1, none⟩ (.int .u8 0)).setCell ⟨w2.heap.size, 2, none⟩ (.slice none 0 0))) := below_set3 HW7.out (Nat.le_refl _) _ _ _
            clear hb7 fz ez
            go_wp2_with fail
            refine hK.out _ _ (HS5.out _ HW7.out) (fun hHeld => ?_)
            clear hK K
            try simp only [Act.put, List.getElem_toArray, List.getElem_cons_zero, List.getElem_cons_succ, List.setIfInBounds_toArray, List.set_cons_zero, List.set_cons_succ]
            refine wpAnyH_take (i := 11) (v := ?v18) rfl (by kernel_rfl) (by kernel_rfl) (by kernel_rfl) (fun _ _ _ h => h) (Or.inl ⟨by rfl, ?y18⟩) (by assumption) ?_
            case y18 => (intro w hSw; (try dsimp only at hSw); go_simp <;> with_reducible rfl)
            try simp only [Act.put, List.getElem_toArray, List.getElem_cons_zero, List.getElem_cons_succ, List.setIfInBounds_toArray, List.set_cons_zero, List.set_cons_succ]
            refine wpAnyH_take (i := 12) (v := ?v19) rfl (by kernel_rfl) (by kernel_rfl) (by kernel_rfl) (fun _ _ _ h => h) (Or.inl ⟨by rfl, ?y19⟩) (by assumption) ?_
            case y19 => (intro w hSw; (try dsimp only at hSw); go_simp <;> with_reducible rfl)
            try simp only [Act.put, List.getElem_toArray, List.getElem_cons_zero, List.getElem_cons_succ, List.setIfInBounds_toArray, List.set_cons_zero, List.set_cons_succ]
            refine wpAnyH_take (i := 13) (v := ?v20) rfl (by kernel_rfl) (by kernel_rfl) (by kernel_rfl) (fun _ _ _ h => h) (Or.inl ⟨by rfl, ?y20⟩) (by assumption) ?_
            case y20 => (intro w hSw; (try dsimp only at hSw); go_simp <;> with_reducible rfl)
            try simp only [Act.put, List.getElem_toArray, List.getElem_cons_zero, List.getElem_cons_succ, List.setIfInBounds_toArray, List.set_cons_zero, List.set_cons_succ]
            refine wpAnyH_ready (rs := [15]) (by kernel_rfl) (by simp) ?_
            refine (AllReadyH.cons rfl (fun K hK => ?_) AllReadyH.nil)
            go_simp
            refine hK.out _ _ (HS5.out _ HWV.out) (fun hHeld => ?_)
            clear hK K
            try simp only [Act.put, List.getElem_toArray, List.getElem_cons_zero, List.getElem_cons_succ, List.setIfInBounds_toArray, List.set_cons_zero, List.set_cons_succ]
            refine wpAnyH_take (i := 16) (v := ?v21) rfl (by kernel_rfl) (by kernel_rfl) (by kernel_rfl) (fun _ _ _ h => h) (Or.inl ⟨by rfl, ?y21⟩) (by assumption) ?_
            case y21 => (intro w hSw; (try dsimp only at hSw); go_simp <;> with_reducible rfl)
            try simp only [Act.put, List.getElem_toArray, List.getElem_cons_zero, List.getElem_cons_succ, List.setIfInBounds_toArray, List.set_cons_zero, List.set_cons_succ]
            refine wpAnyH_done (by kernel_rfl) ?_ _
            clear hHeld
            have r0 := (HWV.out.cell (p := ⟨w.heap.size + 1 + 1, 0, none⟩) HX0.out.lt).trans HX0.out.r0
            have r1 := (HWV.out.cell (p := ⟨w.heap.size + 1 + 1, 1, none⟩) HX0.out.lt).trans HX0.out.r1
            have r2 := (HWV.out.cell (p := ⟨w.heap.size + 1 + 1, 2, none⟩) HX0.out.lt).trans HX0.out.r2
            have rf := fun q => (HWV.out.frozen (p := ⟨w.heap.size + 1 + 1, q, none⟩) HX0.out.lt).trans (HX0.out.rf q)
            go_wp2
            refine bodyPost_ret (v := .tuple #[.agg #[.int .i64 0, .int .u8 0, .slice none 0 0], .int .i64 4]) (by simp [results, Tryd.results31, go_sem, r0, r1, r2]) rfl ?_
            rw [HN.out]
            exact ⟨rfl, by first | exact below_of HX0.out.bel HWV.out | exact below_set3 (below_of HX0.out.bel HWV.out) hsB _ _ _⟩
        · rw [hqq] at HC HN
          refine wpAnyH_ready (rs := [10, 14]) (by kernel_rfl) (by simp) ?_
          refine (AllReadyH.cons rfl (fun K hK => ?_) (AllReadyH.cons rfl (fun K hK => ?_) AllReadyH.nil))
          · have HTW := HTT.out
            go_simp
            refine (HC.out _ HTW).mono ?_
            rintro e w7 ⟨⟨F, va, vc, rfl, hvc, htin⟩, hb7⟩
            have HT7 : Hid _ := And.intro hvc (And.intro htin hb7)
            have HW7 : Hid (Below w2.heap.size w2 w7) := below_of HTW hb7
            clear hvc htin hb7
            go_wp2_with fail
            refine hK.out _ _ (HS5.out _ HW7.out) (fun hHeld => ?_)
            clear hK K
            try simp only [Act.put, List.getElem_toArray, List.getElem_cons_zero, List.getElem_cons_succ, List.setIfInBounds_toArray, List.set_cons_zero, List.set_cons_succ]
            refine wpAnyH_take (i := 11) (v := ?v22) rfl (by kernel_rfl) (by kernel_rfl) (by kernel_rfl) (fun _ _ _ h => h) (Or.inl ⟨by rfl, ?y22⟩) (by assumption) ?_
            case y22 => (intro w hSw; (try dsimp only at hSw); go_simp <;> with_reducible rfl)
            try simp only [Act.put, List.getElem_toArray, List.getElem_cons_zero, List.getElem_cons_succ, List.setIfInBounds_toArray, List.set_cons_zero, List.set_cons_succ]
            refine wpAnyH_take (i := 12) (v := ?v23) rfl (by kernel_rfl) (by kernel_rfl) (by kernel_rfl) (fun _ _ _ h => h) (Or.inl ⟨by rfl, ?y23⟩) (by assumption) ?_
            case y23 => (intro w hSw; (try dsimp only at hSw); go_simp <;> with_reducible rfl)
            try simp only [Act.put, List.getElem_toArray, List.getElem_cons_zero, List.getElem_cons_succ, List.setIfInBounds_toArray, List.set_cons_zero, List.set_cons_succ]
            refine wpAnyH_take (i := 13) (v := ?v24) rfl (by kernel_rfl) (by kernel_rfl) (by kernel_rfl) (fun _ _ _ h => h) (Or.inl ⟨by rfl, ?y24⟩) (by assumption) ?_
            case y24 => (intro w hSw; (try dsimp only at hSw); go_simp <;> with_reducible rfl)
            try simp only [Act.put, List.getElem_toArray, List.getElem_cons_zero, List.getElem_cons_succ, List.setIfInBounds_toArray, List.set_cons_zero, List.set_cons_succ]
            refine wpAnyH_ready (rs := [14]) (by kernel_rfl) (by simp) ?_
            refine (AllReadyH.cons rfl (fun K hK => ?_) AllReadyH.nil)
            go_simp
            have HWA : Hid (Below w2.heap.size w2 (w7.alloc (.cells #[.int .i64 0, .int .u8 0, .slice none 0 0] 27))) := HW7.out.alloc HW7.out.size _
            refine hK.out _ _ (HS5.out _ HWA.out) (fun hHeld => ?_)
            clear hK K
            try simp only [Act.put, List.getElem_toArray, List.getElem_cons_zero, List.getElem_cons_succ, List.setIfInBounds_toArray, List.set_cons_zero, List.set_cons_succ]
            refine wpAnyH_ready (rs := [15]) (by kernel_rfl) (by simp) ?_
            refine (AllReadyH.cons rfl (fun K hK => ?_) AllReadyH.nil)
            go_simp
            have HWB : Hid (Below w2.heap.size w2 (w7.alloc (.cells #[.int .i64 y.rule, .int .u8 (y.byte.toNat : Int), .slice va y.kids.length vc] 27))) := HW7.out.alloc HW7.out.size _
            refine hK.out _ _ (HS5.out _ HWB.out) (fun hHeld => ?_)
            clear hK K
            try simp only [Act.put, List.getElem_toArray, List.getElem_cons_zero, List.getElem_cons_succ, List.setIfInBounds_toArray, List.set_cons_zero, List.set_cons_succ]
            refine wpAnyH_take (i := 16) (v := ?v25) rfl (by kernel_rfl) (by kernel_rfl) (by kernel_rfl) (fun _ _ _ h => h) (Or.inl ⟨by rfl, ?y25⟩) (by assumption) ?_
            case y25 => (intro w hSw; (try dsimp only at hSw); go_simp <;> with_reducible rfl)
            try simp only [Act.put, List.getElem_toArray, List.getElem_cons_zero, List.getElem_cons_succ, List.setIfInBounds_toArray, List.set_cons_zero, List.set_cons_succ]
            refine wpAnyH_done (by kernel_rfl) ?_ _
            have HKB : Hid (KB w2 w7.heap.size y F va vc (w7.alloc (.cells #[.int .i64 y.rule, .int .u8 (y.byte.toNat : Int), .slice va y.kids.length vc] 27))) := ⟨HWB.out, HW7.out.size, by simp, cell_new 0 rfl, cell_new 1 rfl, cell_new 2 rfl, HT7.out.1, (HT7.out.2.1.keep (fun b hb q => Below.cell (B := w7.heap.size) ((Below.refl _ _).alloc (Nat.le_refl _) _) (p := ⟨b, q, none⟩) hb.2)).wide (fun b hb => ⟨hb.1, by simp; exact Nat.lt_succ_of_lt hb.2⟩)⟩
            obtain ⟨V, hV⟩ : ∃ V, w7.alloc (.cells #[.int .i64 y.rule, .int .u8 (y.byte.toNat : Int), .slice va y.kids.length vc] 27) = V := ⟨_, rfl⟩
            obtain ⟨c8, hc8⟩ : ∃ c8, w7.heap.size = c8 := ⟨_, rfl⟩
            rw [hV, hc8] at HKB
            rw [hV, hc8]
            clear hHeld HWB HWA hV hc8 HT7 HW7 HTW
            have hX := HX0.out.nx HKB.out.bel
            have HX : Hid _ := hX
            have y0 := HKB.out.y0
            have y1 := HKB.out.y1
            have y2 := HKB.out.y2
            have hyl := HKB.out.lt
            have hylo := HKB.out.lo
            have e0 := hX.d0
            have e1 := hX.d1
            have e2 := hX.d2
            have hlen := HKD.out.len
            have hltV := hX.lt
            have HPW0 : Hid _ := PW.start V d w2.heap.size (f + F)
            obtain ⟨i0, hinf, hz0, hz1, hz2⟩ := info_parts info24
            have HSL : Hid ((d.kids.set m y).length = d.kids.length) := by show _ = _; simp
            clear hX
            go_wp2
            go_loopw [11] (fun i W => ∃ (k : Nat) (lv : Value) (xs : List Value), k ≤ d.kids.length ∧ i = .int .i64 (k : Int) ∧ PW V d w2.heap.size (f + F) ((d.kids.set m y).take k) lv xs W) (fun i _ => d.kids.length - (intOf i).toNat)
            case atStart => exact ⟨0, _, _, by omega, rfl, by simpa using HPW0.out⟩
            case round =>
              obtain ⟨k, lv, xs, hk, rfl, hW⟩ := hrel
              have hbV := hW.bel
              have hX3 := HX.out.nx hbV
              have g2 := hX3.d2
              have pv := (hX3.bel.cell (p := ⟨pb, po, none⟩) HPV.out.1).trans HPV.out.2
              have z0 := (hbV.cell (p := ⟨c8, 0, none⟩) hyl).trans y0
              have z1 := (hbV.cell (p := ⟨c8, 1, none⟩) hyl).trans y1
              have z2 := (hbV.cell (p := ⟨c8, 2, none⟩) hyl).trans y2
              have o2 := hW.o2
              have hWl := hW.lt
              have hkI : (k : Int) ≤ 4000000000000 := by omega
              have HPL : Hid (((d.kids.set m y).take k).length = k) := by show _ = _; rw [List.length_take, HSL.out]; omega
              have HW : Hid _ := hW
              have HX3 : Hid _ := hX3
              clear y0 y1 y2 e0 e1 e2 hX3
              by_cases hlt : k < d.kids.length
              · obtain ⟨xk, hxk⟩ : ∃ xk, d.kids[k]? = some xk := ⟨d.kids[k], by simp⟩
                obtain ⟨W6, hW6⟩ : ∃ W6, wr.alloc (.cells #[.int .i64 y.rule, .int .u8 (y.byte.toNat : Int), .slice va y.kids.length vc] 27) = W6 := ⟨_, rfl⟩
                have hB6 : Below wr.heap.size wr W6 := by rw [← hW6]; exact (Below.refl _ _).alloc (Nat.le_refl _) _
                have s6 : W6.heap.size = wr.heap.size + 1 := by rw [← hW6]; simp
                have t0 : W6.cell? ⟨wr.heap.size, 0, none⟩ = some (.int .i64 y.rule) := by rw [← hW6]; exact cell_new 0 rfl
                have t1 : W6.cell? ⟨wr.heap.size, 1, none⟩ = some (.int .u8 (y.byte.toNat : Int)) := by rw [← hW6]; exact cell_new 1 rfl
                have t2 : W6.cell? ⟨wr.heap.size, 2, none⟩ = some (.slice va y.kids.length vc) := by rw [← hW6]; exact cell_new 2 rfl
                have o26 := (hB6.cell (p := ⟨V.heap.size, 2, none⟩) (by show V.heap.size < _; omega)).trans o2
                have g26 := (hB6.cell (p := ⟨w.heap.size, 2, none⟩) (by show w.heap.size < _; omega)).trans g2
                have pv6 := (hB6.cell (p := ⟨pb, po, none⟩) (by have := HPV.out.1; have := HX3.out.bel.size; show pb < _; omega)).trans pv
                by_cases hkm : k = m
                · have hnq : ((k : Int) != (m : Int)) = false := by rw [hkm]; simp
                  have HTKE : Hid ((d.kids.set m y).take (k + 1) = (d.kids.set m y).take k ++ [y]) := by
                    show _ = _
                    rw [List.take_add_one, hkm, List.getElem?_set_self (by omega)]; rfl
                  have hP6 := hW.below hB6
                  have HPM : Hid _ := hP6
                  have HROW : Hid _ := fun (_ : Unit) => (by have h := hP6.row; rw [HPL.out] at h; exact h : W6.ownsRow (V.heap.size + 1) 27 3 lv k xs)
                  have HBM : Hid (Below W6.heap.size W6 (W6.alloc (.cells #[.int .i64 y.rule, .int .u8 (y.byte.toNat : Int), .slice va y.kids.length vc] 27))) := (Below.refl _ _).alloc (Nat.le_refl _) _
                  have HTK : Hid (TIn W6 (fun b => w2.heap.size ≤ b ∧ b < V.heap.size) (f + F) va y.kids) := by
                    have h := (HKB.out.ty.ups f).keep (w' := W6) (fun b hb q => (hP6.bel.cell (p := ⟨b, q, none⟩) hb.2))
                    rw [Nat.add_comm] at h
                    exact h
                  have HFA : Hid (∀ b, (w2.heap.size ≤ b ∧ b < V.heap.size) → w2.heap.size ≤ b ∧ b < W6.heap.size ∧ lv.ownBlock ≠ some b ∧ b ≠ V.heap.size) := fun b hb => ⟨hb.1, by omega, fun e => by have := (hP6.row.lt b e).1; omega, by omega⟩
                  have HCE : Hid _ := fun j u hu => cell_three_new W6 (.int .i64 y.rule) (.int .u8 (y.byte.toNat : Int)) (.slice va y.kids.length vc) 27 j u hu
                  have HSZ : Hid (V.heap.size + 1 ≤ (W6.alloc (.cells #[.int .i64 y.rule, .int .u8 (y.byte.toNat : Int), .slice va y.kids.length vc] 27)).heap.size) := by show _ ≤ _; rw [World.size_alloc]; omega
                  have HTE : Hid ((W6.alloc (.cells #[.int .i64 y.rule, .int .u8 (y.byte.toNat : Int), .slice va y.kids.length vc] 27)).heap.size = W6.heap.size + 1) := by show _ = _; simp
                  clear hW hP6 hB6 s6 hxk hbV hkm
                  go_wp2_with (at_builtin; refine wpList_append_lies _ rfl _ _ 25 rfl (V.heap.size + 1) 27 i0 _ 3 40 Tryd.underlying25 hinf hz0 hz1 hz2 rfl (by decide) lv k xs rfl ((HROW.out ()).alloc _) ⟨_, 0, none⟩ 1 1 [.int .i64 y.rule, .int .u8 (y.byte.toNat : Int), .slice va y.kids.length vc] rfl rfl HCE.out (by intro u hu; simp at hu; rcases hu with rfl | rfl | rfl <;> rfl) (by decide) (by unfold maxLen; omega) (by omega) HSZ.out (W6.heap.size + 1) HTE.out ?_)
                  intro g1 cap1 w9 hown9 hgrow9 hat9 _
                  have hst := HPM.out.step (g1 := g1) (cap1 := cap1) (sc := vc) HBM.out HTK.out HFA.out HKB.out.yc hgrow9 (by rw [HPL.out]; exact hown9) (by rw [HTE.out]; exact hat9)
                  rw [HPL.out] at hst
                  have HST : Hid _ := hst
                  have n2 : lv.ownBlock ≠ some V.heap.size := fun e => by have := (HPM.out.row.lt _ e).1; omega
                  have hbg := HBM.out.size
                  have p2 : w9.cell? ⟨V.heap.size, 2, none⟩ = some lv := (hgrow9.cell_far ⟨V.heap.size, 2, none⟩ (by have := HPM.out.lt; show V.heap.size < _; omega) (fun e => n2 e.symm)).trans ((HBM.out.cell (p := ⟨V.heap.size, 2, none⟩) (by have := HPM.out.lt; show V.heap.size < _; omega)).trans HPM.out.o2)
                  have pf : w9.frozen? ⟨V.heap.size, 2, none⟩ = false := (hgrow9.frozen_far ⟨V.heap.size, 2, none⟩ (by have := HPM.out.lt; show V.heap.size < _; omega) (fun e => n2 e.symm)).trans ((HBM.out.frozen (p := ⟨V.heap.size, 2, none⟩) (by have := HPM.out.lt; show V.heap.size < _; omega)).trans HPM.out.fo)
                  clear hst hgrow9 hown9 hat9 n2 hbg
                  go_wp2
                  refine ⟨⟨k + 1, .slice (some ⟨g1, 0, none⟩) (k + 1) cap1, xs ++ [.int .i64 y.rule, .int .u8 (y.byte.toNat : Int), .slice va y.kids.length vc], by omega, by go_num, ?_⟩, by simp [intOf]; omega⟩
                  rw [HTKE.out]
                  exact HST.out
                · have hnq : ((k : Int) != (m : Int)) = true := by simp; omega
                  obtain ⟨b', o', hbo, hb', ka, kc, q0, q1, q2, hkc, hkk⟩ := HKD.out.one hxk
                  obtain ⟨hbb, hoo⟩ : b = b' ∧ o = o' := by simpa using hbo
                  subst hbb
                  subst hoo
                  have hBw6 : Below w.heap.size w W6 := HX3.out.bel.trans (hB6.mono HX3.out.bel.size)
                  have q06 := (hBw6.cell (p := ⟨b, o + k * 3, none⟩) hb').trans q0
                  have q16 := (hBw6.cell (p := ⟨b, o + k * 3 + 1, none⟩) hb').trans q1
                  have q26 := (hBw6.cell (p := ⟨b, o + k * 3 + 2, none⟩) hb').trans q2
                  have HCC : Hid _ := fun (_ : Unit) => copy_any f xk ka kc W6 ((hkk.keep hBw6).mono hBw6.size)
                  have HTKE : Hid ((d.kids.set m y).take (k + 1) = (d.kids.set m y).take k ++ [xk]) := by
                    show _ = _
                    rw [List.take_add_one, List.getElem?_set_ne (by omega), hxk]; rfl
                  have fz : ∀ q, W6.frozen? ⟨wr.heap.size, q, none⟩ = false := fun q => by rw [← hW6]; exact World.frozen?_alloc_at _ _ _ _ rfl
                  have hlkI : (k : Int) < (d.kids.length : Int) := by omega
                  have HB6 : Hid _ := hB6
                  have HS6 : Hid _ := s6
                  have HFZ : Hid _ := fz
                  have HT0 : Hid _ := And.intro t0 (And.intro t1 t2)
                  have HO2 : Hid _ := o26
                  have hnV : ¬ wr.heap.size = V.heap.size := by omega
                  have hnV2 : ¬ V.heap.size = wr.heap.size := by omega
                  clear hkk q0 q1 q2 hBw6 hxk hB6 s6 fz hbo
                  go_wp2_with (go_at_call 16; refine (HCC.out ()).mono ?_)
                  rintro e w7 ⟨⟨va7, vc7, rfl, hvc7, htin7⟩, hb7⟩
                  have k7 : ∀ b q, b < W6.heap.size → w7.cell? ⟨b, q, none⟩ = W6.cell? ⟨b, q, none⟩ := fun b q hlt => hb7.cell (p := ⟨b, q, none⟩) hlt
                  have u0 := (k7 wr.heap.size 0 (by have := HS6.out; omega)).trans HT0.out.1
                  have u1 := (k7 wr.heap.size 1 (by have := HS6.out; omega)).trans HT0.out.2.1
                  have u2 := (k7 wr.heap.size 2 (by have := HS6.out; omega)).trans HT0.out.2.2
                  have v0 := (hb7.frozen (p := ⟨wr.heap.size, 0, none⟩) (by have := HS6.out; show wr.heap.size < _; omega)).trans (HFZ.out 0)
                  have v1 := (hb7.frozen (p := ⟨wr.heap.size, 1, none⟩) (by have := HS6.out; show wr.heap.size < _; omega)).trans (HFZ.out 1)
                  have v2 := (hb7.frozen (p := ⟨wr.heap.size, 2, none⟩) (by have := HS6.out; show wr.heap.size < _; omega)).trans (HFZ.out 2)
                  have o27 := (k7 V.heap.size 2 (by have := HS6.out; omega)).trans HO2.out
                  have HB7 : Hid (Below wr.heap.size wr w7) := HB6.out.trans (hb7.mono HB6.out.size)
                  have HVC : Hid _ := hvc7
                  have HTI7 : Hid _ := fun (_ : Unit) => htin7
                  have HZ7 : Hid _ := hb7.size
                  have HB8 : Hid (Below wr.heap.size wr (((w7.setCell ⟨wr.heap.size, 0, none⟩ (.int .i64 xk.rule)).setCell ⟨wr.heap.size, 1, none⟩ (.int .u8 (xk.byte.toNat : Int))).setCell ⟨wr.heap.size, 2, none⟩ (.slice va7 xk.kids.length vc7))) := below_set3 HB7.out (Nat.le_refl _) _ _ _
                  have HPM : Hid _ := HW.out.below HB8.out
                  have HROW : Hid _ := fun (_ : Unit) => (by have h := HPM.out.row; rw [HPL.out] at h; exact h : (((w7.setCell ⟨wr.heap.size, 0, none⟩ (.int .i64 xk.rule)).setCell ⟨wr.heap.size, 1, none⟩ (.int .u8 (xk.byte.toNat : Int))).setCell ⟨wr.heap.size, 2, none⟩ (.slice va7 xk.kids.length vc7)).ownsRow (V.heap.size + 1) 27 3 lv k xs)
                  have HBM : Hid (Below (((w7.setCell ⟨wr.heap.size, 0, none⟩ (.int .i64 xk.rule)).setCell ⟨wr.heap.size, 1, none⟩ (.int .u8 (xk.byte.toNat : Int))).setCell ⟨wr.heap.size, 2, none⟩ (.slice va7 xk.kids.length vc7)).heap.size (((w7.setCell ⟨wr.heap.size, 0, none⟩ (.int .i64 xk.rule)).setCell ⟨wr.heap.size, 1, none⟩ (.int .u8 (xk.byte.toNat : Int))).setCell ⟨wr.heap.size, 2, none⟩ (.slice va7 xk.kids.length vc7)) ((((w7.setCell ⟨wr.heap.size, 0, none⟩ (.int .i64 xk.rule)).setCell ⟨wr.heap.size, 1, none⟩ (.int .u8 (xk.byte.toNat : Int))).setCell ⟨wr.heap.size, 2, none⟩ (.slice va7 xk.kids.length vc7)).alloc (.cells #[.int .i64 xk.rule, .int .u8 (xk.byte.toNat : Int), .slice va7 xk.kids.length vc7] 27))) := (Below.refl _ _).alloc (Nat.le_refl _) _
                  have HE8 : Hid ((((w7.setCell ⟨wr.heap.size, 0, none⟩ (.int .i64 xk.rule)).setCell ⟨wr.heap.size, 1, none⟩ (.int .u8 (xk.byte.toNat : Int))).setCell ⟨wr.heap.size, 2, none⟩ (.slice va7 xk.kids.length vc7)).heap.size = w7.heap.size) := (by show _ = _; simp [World.setCell])
                  have HTK : Hid (TIn (((w7.setCell ⟨wr.heap.size, 0, none⟩ (.int .i64 xk.rule)).setCell ⟨wr.heap.size, 1, none⟩ (.int .u8 (xk.byte.toNat : Int))).setCell ⟨wr.heap.size, 2, none⟩ (.slice va7 xk.kids.length vc7)) (fun b => W6.heap.size ≤ b ∧ b < w7.heap.size) (f + F) va7 xk.kids) := (((HTI7.out ()).ups F).keep (fun b hb q => far3 (by have := HS6.out; have := hb.1; omega) 0 1 2 q _ _ _))
                  have HFA : Hid (∀ b, (W6.heap.size ≤ b ∧ b < w7.heap.size) → w2.heap.size ≤ b ∧ b < (((w7.setCell ⟨wr.heap.size, 0, none⟩ (.int .i64 xk.rule)).setCell ⟨wr.heap.size, 1, none⟩ (.int .u8 (xk.byte.toNat : Int))).setCell ⟨wr.heap.size, 2, none⟩ (.slice va7 xk.kids.length vc7)).heap.size ∧ lv.ownBlock ≠ some b ∧ b ≠ V.heap.size) := fun b hb => ⟨by have := HS6.out; have := HW.out.bel.size; have := HKB.out.bel.size; omega, by rw [HE8.out]; exact hb.2, fun e => by have := (HW.out.row.lt b e).2; have := HS6.out; omega, by have := HS6.out; omega⟩
                  have HCE : Hid (∀ j u, [Value.int .i64 xk.rule, .int .u8 (xk.byte.toNat : Int), .slice va7 xk.kids.length vc7][j]? = some u → ((((w7.setCell ⟨wr.heap.size, 0, none⟩ (.int .i64 xk.rule)).setCell ⟨wr.heap.size, 1, none⟩ (.int .u8 (xk.byte.toNat : Int))).setCell ⟨wr.heap.size, 2, none⟩ (.slice va7 xk.kids.length vc7)).alloc (.cells #[.int .i64 xk.rule, .int .u8 (xk.byte.toNat : Int), .slice va7 xk.kids.length vc7] 27)).cell? ((⟨w7.heap.size, 0, none⟩ : Addr).add j) = some u) := (fun j u hu => by rw [← HE8.out]; exact cell_three_new (((w7.setCell ⟨wr.heap.size, 0, none⟩ (.int .i64 xk.rule)).setCell ⟨wr.heap.size, 1, none⟩ (.int .u8 (xk.byte.toNat : Int))).setCell ⟨wr.heap.size, 2, none⟩ (.slice va7 xk.kids.length vc7)) _ _ _ 27 j u hu)
                  have HSZ : Hid (V.heap.size + 1 ≤ ((((w7.setCell ⟨wr.heap.size, 0, none⟩ (.int .i64 xk.rule)).setCell ⟨wr.heap.size, 1, none⟩ (.int .u8 (xk.byte.toNat : Int))).setCell ⟨wr.heap.size, 2, none⟩ (.slice va7 xk.kids.length vc7)).alloc (.cells #[.int .i64 xk.rule, .int .u8 (xk.byte.toNat : Int), .slice va7 xk.kids.length vc7] 27)).heap.size) := (by show _ ≤ _; rw [World.size_alloc, HE8.out]; have := HB7.out.size; omega)
                  have HTE : Hid (((((w7.setCell ⟨wr.heap.size, 0, none⟩ (.int .i64 xk.rule)).setCell ⟨wr.heap.size, 1, none⟩ (.int .u8 (xk.byte.toNat : Int))).setCell ⟨wr.heap.size, 2, none⟩ (.slice va7 xk.kids.length vc7)).alloc (.cells #[.int .i64 xk.rule, .int .u8 (xk.byte.toNat : Int), .slice va7 xk.kids.length vc7] 27)).heap.size = w7.heap.size + 1) := (by show _ = _; rw [World.size_alloc, HE8.out])
                  clear hvc7 htin7 hb7 k7
                  go_wp2_with (at_builtin; refine wpList_append_lies _ rfl _ _ 25 rfl (V.heap.size + 1) 27 i0 _ 3 40 Tryd.underlying25 hinf hz0 hz1 hz2 rfl (by decide) lv k xs rfl ((HROW.out ()).alloc _) ⟨_, 0, none⟩ 1 1 [.int .i64 xk.rule, .int .u8 (xk.byte.toNat : Int), .slice va7 xk.kids.length vc7] rfl rfl HCE.out (by intro u hu; simp at hu; rcases hu with rfl | rfl | rfl <;> rfl) (by decide) (by unfold maxLen; omega) (by omega) HSZ.out (w7.heap.size + 1) HTE.out ?_)
                  intro g1 cap1 w9 hown9 hgrow9 hat9 _
                  have hst := HPM.out.step (g1 := g1) (cap1 := cap1) (sc := vc7) HBM.out HTK.out HFA.out HVC.out hgrow9 (by rw [HPL.out]; exact hown9) (by rw [HTE.out]; exact hat9)
                  rw [HPL.out] at hst
                  have HST : Hid _ := hst
                  have n2 : lv.ownBlock ≠ some V.heap.size := fun e => by have := (HPM.out.row.lt _ e).1; omega
                  have hbg := HBM.out.size
                  have p2 : w9.cell? ⟨V.heap.size, 2, none⟩ = some lv := (hgrow9.cell_far ⟨V.heap.size, 2, none⟩ (by have := HPM.out.lt; show V.heap.size < _; omega) (fun e => n2 e.symm)).trans ((HBM.out.cell (p := ⟨V.heap.size, 2, none⟩) (by have := HPM.out.lt; show V.heap.size < _; omega)).trans HPM.out.o2)
                  have pf : w9.frozen? ⟨V.heap.size, 2, none⟩ = false := (hgrow9.frozen_far ⟨V.heap.size, 2, none⟩ (by have := HPM.out.lt; show V.heap.size < _; omega) (fun e => n2 e.symm)).trans ((HBM.out.frozen (p := ⟨V.heap.size, 2, none⟩) (by have := HPM.out.lt; show V.heap.size < _; omega)).trans HPM.out.fo)
                  clear hst hgrow9 hown9 hat9 n2 hbg
                  go_wp2
                  refine ⟨⟨k + 1, .slice (some ⟨g1, 0, none⟩) (k + 1) cap1, xs ++ [.int .i64 xk.rule, .int .u8 (xk.byte.toNat : Int), .slice va7 xk.kids.length vc7], by omega, by go_num, ?_⟩, by simp [intOf]; omega⟩
                  rw [HTKE.out]
                  exact HST.out
              · obtain rfl : k = d.kids.length := by omega
                have hpk : (d.kids.set m y).take d.kids.length = d.kids.set m y := List.take_of_length_le (by rw [HSL.out]; exact Nat.le_refl _)
                rw [hpk] at hW
                have hrow := hW.row
                have hlw : w2.heap.size ≤ V.heap.size + 1 := by have := HKB.out.bel.size; omega
                obtain ⟨la, lc, hlv, hlc, hti⟩ := hW.cx.tin (row_base hrow hlw) (by rw [HSL.out]; exact hlen) (fun b e => by have := (hrow.lt b e).1; omega)
                subst hlv
                have p0 := hW.o0
                have p1 := hW.o1
                have r0 := HX3.out.r0
                have r1 := HX3.out.r1
                have r2 := HX3.out.r2
                have rf := HX3.out.rf
                have hltr := HX3.out.lt
                have HTI : Hid _ := fun (_ : Unit) => hti
                have HW2L : Hid _ := HX0.out.lt
                have HLC : Hid _ := hlc
                rw [HSL.out] at o2
                clear hW hrow hti hbV hpk z0 z1 z2 hlc
                go_wp2
                refine bodyPost_ret (v := .tuple #[.agg #[.int .i64 d.rule, .int .u8 (d.byte.toNat : Int), .slice la d.kids.length lc], .int .i64 0]) (by simp [results, Tryd.results31, go_sem, r0, r1, r2]) rfl ?_
                rw [HN.out]
                refine ⟨⟨f + F + 1, la, lc, by show _ = Ending.returned (.tuple #[.agg #[.int .i64 d.rule, .int .u8 (d.byte.toNat : Int), .slice la (d.kids.set m y).length lc], .int .i64 0]); rw [HSL.out], HLC.out, ?_⟩, below_set3 HX3.out.bel hsB _ _ _⟩
                refine ((HTI.out ()).keep (fun b hb q => far3 (by have := HW2L.out; have := hb.1; omega) 0 1 2 q _ _ _)).wide (fun b hb => ⟨by have := HW2L.out; have := hb.1; omega, by simp [World.setCell]; exact hb.2.1⟩)
          · go_simp
            have HTW : Below w2.heap.size w2 (w2.drew.drew.alloc (.cells #[.int .i64 0, .int .u8 0, .slice none 0 0] 27)) := HTT.out.alloc (Nat.le_refl _) _
            refine hK.out _ _ (HS5.out _ HTW) (fun hHeld => ?_)
            clear hK K
            try simp only [Act.put, List.getElem_toArray, List.getElem_cons_zero, List.getElem_cons_succ, List.setIfInBounds_toArray, List.set_cons_zero, List.set_cons_succ]
            refine wpAnyH_ready (rs := [10]) (by kernel_rfl) (by simp) ?_
            refine (AllReadyH.cons rfl (fun K hK => ?_) AllReadyH.nil)
            go_simp
            refine (HC.out _ HTW).mono ?_
            rintro e w7 ⟨⟨F, va, vc, rfl, hvc, htin⟩, hb7⟩
            have ez : (w2.drew.drew.alloc (.cells #[.int .i64 0, .int .u8 0, .slice none 0 0] 27)).heap.size = w2.heap.size + 1 := by rw [World.size_alloc]; rfl
            have z0 : w7.cell? ⟨w2.heap.size, 0, none⟩ = some (.int .i64 0) := (hb7.cell (p := ⟨w2.heap.size, 0, none⟩) (by rw [ez]; exact Nat.lt_succ_self _)).trans (cell_new (w := w2.drew.drew) 0 rfl)
            have z1 : w7.cell? ⟨w2.heap.size, 1, none⟩ = some (.int .u8 0) := (hb7.cell (p := ⟨w2.heap.size, 1, none⟩) (by rw [ez]; exact Nat.lt_succ_self _)).trans (cell_new (w := w2.drew.drew) 1 rfl)
            have z2 : w7.cell? ⟨w2.heap.size, 2, none⟩ = some (.slice none 0 0) := (hb7.cell (p := ⟨w2.heap.size, 2, none⟩) (by rw [ez]; exact Nat.lt_succ_self _)).trans (cell_new (w := w2.drew.drew) 2 rfl)
            have fz : ∀ q, w7.frozen? ⟨w2.heap.size, q, none⟩ = false := fun q => (hb7.frozen (p := ⟨w2.heap.size, q, none⟩) (by rw [ez]; exact Nat.lt_succ_self _)).trans (World.frozen?_alloc_at _ _ _ _ rfl)
            have fz0 := fz 0
            have fz1 := fz 1
            have fz2 := fz 2
            have HW7 : Hid (Below w2.heap.size w2 w7) := below_of HTW hb7
            have HKB : Hid (KB w2 w2.heap.size y F va vc (((w7.setCell ⟨w2.heap.size, 0, none⟩ (.int .i64 y.rule)).setCell ⟨w2.heap.size, 1, none⟩ (.int .u8 (y.byte.toNat : Int))).setCell ⟨w2.heap.size, 2, none⟩ (.slice va y.kids.length vc))) := KB.of_set HW7.out (Nat.le_refl _) (by have := hb7.size; omega) z0 z1 z2 hvc (htin.wide (fun b hb => ⟨by rw [← ez]; exact hb.1, hb.2⟩))
            clear hvc htin hb7 fz ez
            go_wp2_with fail
            refine hK.out _ _ (HS5.out _ HW7.out) (fun hHeld => ?_)
            clear hK K
            try simp only [Act.put, List.getElem_toArray, List.getElem_cons_zero, List.getElem_cons_succ, List.setIfInBounds_toArray, List.set_cons_zero, List.set_cons_succ]
            refine wpAnyH_take (i := 11) (v := ?v26) rfl (by kernel_rfl) (by kernel_rfl) (by kernel_rfl) (fun _ _ _ h => h) (Or.inl ⟨by rfl, ?y26⟩) (by assumption) ?_
            case y26 => (intro w hSw; (try dsimp only at hSw); go_simp <;> with_reducible rfl)
            try simp only [Act.put, List.getElem_toArray, List.getElem_cons_zero, List.getElem_cons_succ, List.setIfInBounds_toArray, List.set_cons_zero, List.set_cons_succ]
            refine wpAnyH_take (i := 12) (v := ?v27) rfl (by kernel_rfl) (by kernel_rfl) (by kernel_rfl) (fun _ _ _ h => h) (Or.inl ⟨by rfl, ?y27⟩) (by assumption) ?_
            case y27 => (intro w hSw; (try dsimp only at hSw); go_simp <;> with_reducible rfl)
            try simp only [Act.put, List.getElem_toArray, List.getElem_cons_zero, List.getElem_cons_succ, List.setIfInBounds_toArray, List.set_cons_zero, List.set_cons_succ]
            refine wpAnyH_take (i := 13) (v := ?v28) rfl (by kernel_rfl) (by kernel_rfl) (by kernel_rfl) (fun _ _ _ h => h) (Or.inl ⟨by rfl, ?y28⟩) (by assumption) ?_
            case y28 => (intro w hSw; (try dsimp only at hSw); go_simp <;> with_reducible rfl)
            try simp only [Act.put, List.getElem_toArray, List.getElem_cons_zero, List.getElem_cons_succ, List.setIfInBounds_toArray, List.set_cons_zero, List.set_cons_succ]
            refine wpAnyH_ready (rs := [15]) (by kernel_rfl) (by simp) ?_
            refine (AllReadyH.cons rfl (fun K hK => ?_) AllReadyH.nil)
            go_simp
            refine hK.out _ _ (HS5.out _ HKB.out.bel) (fun hHeld => ?_)
            clear hK K
            try simp only [Act.put, List.getElem_toArray, List.getElem_cons_zero, List.getElem_cons_succ, List.setIfInBounds_toArray, List.set_cons_zero, List.set_cons_succ]
            refine wpAnyH_take (i := 16) (v := ?v29) rfl (by kernel_rfl) (by kernel_rfl) (by kernel_rfl) (fun _ _ _ h => h) (Or.inl ⟨by rfl, ?y29⟩) (by assumption) ?_
            case y29 => (intro w hSw; (try dsimp only at hSw); go_simp <;> with_reducible rfl)
            try simp only [Act.put, List.getElem_toArray, List.getElem_cons_zero, List.getElem_cons_succ, List.setIfInBounds_toArray, List.set_cons_zero, List.set_cons_succ]
            refine wpAnyH_done (by kernel_rfl) ?_ _
            obtain ⟨V, hV⟩ : ∃ V, (((w7.setCell ⟨w2.heap.size, 0, none⟩ (.int .i64 y.rule)).setCell ⟨w2.heap.size, 1, none⟩ (.int .u8 (y.byte.toNat : Int))).setCell ⟨w2.heap.size, 2, none⟩ (.slice va y.kids.length vc)) = V := ⟨_, rfl⟩
            obtain ⟨c8, hc8⟩ : ∃ c8, c8 = w2.heap.size := ⟨_, rfl⟩
            have HKC : Hid (KB w2 c8 y F va vc V) := by show KB _ _ _ _ _ _ _; rw [hc8, ← hV]; exact HKB.out
            clear HKB
            have HKB : Hid _ := HKC.out
            rw [hV, ← hc8]
            clear hHeld hV hc8 HKC HW7 HTW z0 z1 z2 fz0 fz1 fz2
            have hX := HX0.out.nx HKB.out.bel
            have HX : Hid _ := hX
            have y0 := HKB.out.y0
            have y1 := HKB.out.y1
            have y2 := HKB.out.y2
            have hyl := HKB.out.lt
            have hylo := HKB.out.lo
            have e0 := hX.d0
            have e1 := hX.d1
            have e2 := hX.d2
            have hlen := HKD.out.len
            have hltV := hX.lt
            have HPW0 : Hid _ := PW.start V d w2.heap.size (f + F)
            obtain ⟨i0, hinf, hz0, hz1, hz2⟩ := info_parts info24
            have HSL : Hid ((d.kids.set m y).length = d.kids.length) := by show _ = _; simp
            clear hX
            go_wp2
            go_loopw [11] (fun i W => ∃ (k : Nat) (lv : Value) (xs : List Value), k ≤ d.kids.length ∧ i = .int .i64 (k : Int) ∧ PW V d w2.heap.size (f + F) ((d.kids.set m y).take k) lv xs W) (fun i _ => d.kids.length - (intOf i).toNat)
            case atStart => exact ⟨0, _, _, by omega, rfl, by simpa using HPW0.out⟩
            case round =>
              obtain ⟨k, lv, xs, hk, rfl, hW⟩ := hrel
              have hbV := hW.bel
              have hX3 := HX.out.nx hbV
              have g2 := hX3.d2
              have pv := (hX3.bel.cell (p := ⟨pb, po, none⟩) HPV.out.1).trans HPV.out.2
              have z0 := (hbV.cell (p := ⟨c8, 0, none⟩) hyl).trans y0
              have z1 := (hbV.cell (p := ⟨c8, 1, none⟩) hyl).trans y1
              have z2 := (hbV.cell (p := ⟨c8, 2, none⟩) hyl).trans y2
              have o2 := hW.o2
              have hWl := hW.lt
              have hkI : (k : Int) ≤ 4000000000000 := by omega
              have HPL : Hid (((d.kids.set m y).take k).length = k) := by show _ = _; rw [List.length_take, HSL.out]; omega
              have HW : Hid _ := hW
              have HX3 : Hid _ := hX3
              clear y0 y1 y2 e0 e1 e2 hX3
              by_cases hlt : k < d.kids.length
              · obtain ⟨xk, hxk⟩ : ∃ xk, d.kids[k]? = some xk := ⟨d.kids[k], by simp⟩
                obtain ⟨W6, hW6⟩ : ∃ W6, wr.alloc (.cells #[.int .i64 y.rule, .int .u8 (y.byte.toNat : Int), .slice va y.kids.length vc] 27) = W6 := ⟨_, rfl⟩
                have hB6 : Below wr.heap.size wr W6 := by rw [← hW6]; exact (Below.refl _ _).alloc (Nat.le_refl _) _
                have s6 : W6.heap.size = wr.heap.size + 1 := by rw [← hW6]; simp
                have t0 : W6.cell? ⟨wr.heap.size, 0, none⟩ = some (.int .i64 y.rule) := by rw [← hW6]; exact cell_new 0 rfl
                have t1 : W6.cell? ⟨wr.heap.size, 1, none⟩ = some (.int .u8 (y.byte.toNat : Int)) := by rw [← hW6]; exact cell_new 1 rfl
                have t2 : W6.cell? ⟨wr.heap.size, 2, none⟩ = some (.slice va y.kids.length vc) := by rw [← hW6]; exact cell_new 2 rfl
                have o26 := (hB6.cell (p := ⟨V.heap.size, 2, none⟩) (by show V.heap.size < _; omega)).trans o2
                have g26 := (hB6.cell (p := ⟨w.heap.size, 2, none⟩) (by show w.heap.size < _; omega)).trans g2
                have pv6 := (hB6.cell (p := ⟨pb, po, none⟩) (by have := HPV.out.1; have := HX3.out.bel.size; show pb < _; omega)).trans pv
                by_cases hkm : k = m
                · have hnq : ((k : Int) != (m : Int)) = false := by rw [hkm]; simp
                  have HTKE : Hid ((d.kids.set m y).take (k + 1) = (d.kids.set m y).take k ++ [y]) := by
                    show _ = _
                    rw [List.take_add_one, hkm, List.getElem?_set_self (by omega)]; rfl
                  have hP6 := hW.below hB6
                  have HPM : Hid _ := hP6
                  have HROW : Hid _ := fun (_ : Unit) => (by have h := hP6.row; rw [HPL.out] at h; exact h : W6.ownsRow (V.heap.size + 1) 27 3 lv k xs)
                  have HBM : Hid (Below W6.heap.size W6 (W6.alloc (.cells #[.int .i64 y.rule, .int .u8 (y.byte.toNat : Int), .slice va y.kids.length vc] 27))) := (Below.refl _ _).alloc (Nat.le_refl _) _
                  have HTK : Hid (TIn W6 (fun b => w2.heap.size ≤ b ∧ b < V.heap.size) (f + F) va y.kids) := by
                    have h := (HKB.out.ty.ups f).keep (w' := W6) (fun b hb q => (hP6.bel.cell (p := ⟨b, q, none⟩) hb.2))
                    rw [Nat.add_comm] at h
                    exact h
                  have HFA : Hid (∀ b, (w2.heap.size ≤ b ∧ b < V.heap.size) → w2.heap.size ≤ b ∧ b < W6.heap.size ∧ lv.ownBlock ≠ some b ∧ b ≠ V.heap.size) := fun b hb => ⟨hb.1, by omega, fun e => by have := (hP6.row.lt b e).1; omega, by omega⟩
                  have HCE : Hid _ := fun j u hu => cell_three_new W6 (.int .i64 y.rule) (.int .u8 (y.byte.toNat : Int)) (.slice va y.kids.length vc) 27 j u hu
                  have HSZ : Hid (V.heap.size + 1 ≤ (W6.alloc (.cells #[.int .i64 y.rule, .int .u8 (y.byte.toNat : Int), .slice va y.kids.length vc] 27)).heap.size) := by show _ ≤ _; rw [World.size_alloc]; omega
                  have HTE : Hid ((W6.alloc (.cells #[.int .i64 y.rule, .int .u8 (y.byte.toNat : Int), .slice va y.kids.length vc] 27)).heap.size = W6.heap.size + 1) := by show _ = _; simp
                  clear hW hP6 hB6 s6 hxk hbV hkm
                  go_wp2_with (at_builtin; refine wpList_append_lies _ rfl _ _ 25 rfl (V.heap.size + 1) 27 i0 _ 3 40 Tryd.underlying25 hinf hz0 hz1 hz2 rfl (by decide) lv k xs rfl ((HROW.out ()).alloc _) ⟨_, 0, none⟩ 1 1 [.int .i64 y.rule, .int .u8 (y.byte.toNat : Int), .slice va y.kids.length vc] rfl rfl HCE.out (by intro u hu; simp at hu; rcases hu with rfl | rfl | rfl <;> rfl) (by decide) (by unfold maxLen; omega) (by omega) HSZ.out (W6.heap.size + 1) HTE.out ?_)
                  intro g1 cap1 w9 hown9 hgrow9 hat9 _
                  have hst := HPM.out.step (g1 := g1) (cap1 := cap1) (sc := vc) HBM.out HTK.out HFA.out HKB.out.yc hgrow9 (by rw [HPL.out]; exact hown9) (by rw [HTE.out]; exact hat9)
                  rw [HPL.out] at hst
                  have HST : Hid _ := hst
                  have n2 : lv.ownBlock ≠ some V.heap.size := fun e => by have := (HPM.out.row.lt _ e).1; omega
                  have hbg := HBM.out.size
                  have p2 : w9.cell? ⟨V.heap.size, 2, none⟩ = some lv := (hgrow9.cell_far ⟨V.heap.size, 2, none⟩ (by have := HPM.out.lt; show V.heap.size < _; omega) (fun e => n2 e.symm)).trans ((HBM.out.cell (p := ⟨V.heap.size, 2, none⟩) (by have := HPM.out.lt; show V.heap.size < _; omega)).trans HPM.out.o2)
                  have pf : w9.frozen? ⟨V.heap.size, 2, none⟩ = false := (hgrow9.frozen_far ⟨V.heap.size, 2, none⟩ (by have := HPM.out.lt; show V.heap.size < _; omega) (fun e => n2 e.symm)).trans ((HBM.out.frozen (p := ⟨V.heap.size, 2, none⟩) (by have := HPM.out.lt; show V.heap.size < _; omega)).trans HPM.out.fo)
                  clear hst hgrow9 hown9 hat9 n2 hbg
                  go_wp2
                  refine ⟨⟨k + 1, .slice (some ⟨g1, 0, none⟩) (k + 1) cap1, xs ++ [.int .i64 y.rule, .int .u8 (y.byte.toNat : Int), .slice va y.kids.length vc], by omega, by go_num, ?_⟩, by simp [intOf]; omega⟩
                  rw [HTKE.out]
                  exact HST.out
                · have hnq : ((k : Int) != (m : Int)) = true := by simp; omega
                  obtain ⟨b', o', hbo, hb', ka, kc, q0, q1, q2, hkc, hkk⟩ := HKD.out.one hxk
                  obtain ⟨hbb, hoo⟩ : b = b' ∧ o = o' := by simpa using hbo
                  subst hbb
                  subst hoo
                  have hBw6 : Below w.heap.size w W6 := HX3.out.bel.trans (hB6.mono HX3.out.bel.size)
                  have q06 := (hBw6.cell (p := ⟨b, o + k * 3, none⟩) hb').trans q0
                  have q16 := (hBw6.cell (p := ⟨b, o + k * 3 + 1, none⟩) hb').trans q1
                  have q26 := (hBw6.cell (p := ⟨b, o + k * 3 + 2, none⟩) hb').trans q2
                  have HCC : Hid _ := fun (_ : Unit) => copy_any f xk ka kc W6 ((hkk.keep hBw6).mono hBw6.size)
                  have HTKE : Hid ((d.kids.set m y).take (k + 1) = (d.kids.set m y).take k ++ [xk]) := by
                    show _ = _
                    rw [List.take_add_one, List.getElem?_set_ne (by omega), hxk]; rfl
                  have fz : ∀ q, W6.frozen? ⟨wr.heap.size, q, none⟩ = false := fun q => by rw [← hW6]; exact World.frozen?_alloc_at _ _ _ _ rfl
                  have hlkI : (k : Int) < (d.kids.length : Int) := by omega
                  have HB6 : Hid _ := hB6
                  have HS6 : Hid _ := s6
                  have HFZ : Hid _ := fz
                  have HT0 : Hid _ := And.intro t0 (And.intro t1 t2)
                  have HO2 : Hid _ := o26
                  have hnV : ¬ wr.heap.size = V.heap.size := by omega
                  have hnV2 : ¬ V.heap.size = wr.heap.size := by omega
                  clear hkk q0 q1 q2 hBw6 hxk hB6 s6 fz hbo
                  go_wp2_with (go_at_call 16; refine (HCC.out ()).mono ?_)
                  rintro e w7 ⟨⟨va7, vc7, rfl, hvc7, htin7⟩, hb7⟩
                  have k7 : ∀ b q, b < W6.heap.size → w7.cell? ⟨b, q, none⟩ = W6.cell? ⟨b, q, none⟩ := fun b q hlt => hb7.cell (p := ⟨b, q, none⟩) hlt
                  have u0 := (k7 wr.heap.size 0 (by have := HS6.out; omega)).trans HT0.out.1
                  have u1 := (k7 wr.heap.size 1 (by have := HS6.out; omega)).trans HT0.out.2.1
                  have u2 := (k7 wr.heap.size 2 (by have := HS6.out; omega)).trans HT0.out.2.2
                  have v0 := (hb7.frozen (p := ⟨wr.heap.size, 0, none⟩) (by have := HS6.out; show wr.heap.size < _; omega)).trans (HFZ.out 0)
                  have v1 := (hb7.frozen (p := ⟨wr.heap.size, 1, none⟩) (by have := HS6.out; show wr.heap.size < _; omega)).trans (HFZ.out 1)
                  have v2 := (hb7.frozen (p := ⟨wr.heap.size, 2, none⟩) (by have := HS6.out; show wr.heap.size < _; omega)).trans (HFZ.out 2)
                  have o27 := (k7 V.heap.size 2 (by have := HS6.out; omega)).trans HO2.out
                  have HB7 : Hid (Below wr.heap.size wr w7) := HB6.out.trans (hb7.mono HB6.out.size)
                  have HVC : Hid _ := hvc7
                  have HTI7 : Hid _ := fun (_ : Unit) => htin7
                  have HZ7 : Hid _ := hb7.size
                  have HB8 : Hid (Below wr.heap.size wr (((w7.setCell ⟨wr.heap.size, 0, none⟩ (.int .i64 xk.rule)).setCell ⟨wr.heap.size, 1, none⟩ (.int .u8 (xk.byte.toNat : Int))).setCell ⟨wr.heap.size, 2, none⟩ (.slice va7 xk.kids.length vc7))) := below_set3 HB7.out (Nat.le_refl _) _ _ _
                  have HPM : Hid _ := HW.out.below HB8.out
                  have HROW : Hid _ := fun (_ : Unit) => (by have h := HPM.out.row; rw [HPL.out] at h; exact h : (((w7.setCell ⟨wr.heap.size, 0, none⟩ (.int .i64 xk.rule)).setCell ⟨wr.heap.size, 1, none⟩ (.int .u8 (xk.byte.toNat : Int))).setCell ⟨wr.heap.size, 2, none⟩ (.slice va7 xk.kids.length vc7)).ownsRow (V.heap.size + 1) 27 3 lv k xs)
                  have HBM : Hid (Below (((w7.setCell ⟨wr.heap.size, 0, none⟩ (.int .i64 xk.rule)).setCell ⟨wr.heap.size, 1, none⟩ (.int .u8 (xk.byte.toNat : Int))).setCell ⟨wr.heap.size, 2, none⟩ (.slice va7 xk.kids.length vc7)).heap.size (((w7.setCell ⟨wr.heap.size, 0, none⟩ (.int .i64 xk.rule)).setCell ⟨wr.heap.size, 1, none⟩ (.int .u8 (xk.byte.toNat : Int))).setCell ⟨wr.heap.size, 2, none⟩ (.slice va7 xk.kids.length vc7)) ((((w7.setCell ⟨wr.heap.size, 0, none⟩ (.int .i64 xk.rule)).setCell ⟨wr.heap.size, 1, none⟩ (.int .u8 (xk.byte.toNat : Int))).setCell ⟨wr.heap.size, 2, none⟩ (.slice va7 xk.kids.length vc7)).alloc (.cells #[.int .i64 xk.rule, .int .u8 (xk.byte.toNat : Int), .slice va7 xk.kids.length vc7] 27))) := (Below.refl _ _).alloc (Nat.le_refl _) _
                  have HE8 : Hid ((((w7.setCell ⟨wr.heap.size, 0, none⟩ (.int .i64 xk.rule)).setCell ⟨wr.heap.size, 1, none⟩ (.int .u8 (xk.byte.toNat : Int))).setCell ⟨wr.heap.size, 2, none⟩ (.slice va7 xk.kids.length vc7)).heap.size = w7.heap.size) := (by show _ = _; simp [World.setCell])
                  have HTK : Hid (TIn (((w7.setCell ⟨wr.heap.size, 0, none⟩ (.int .i64 xk.rule)).setCell ⟨wr.heap.size, 1, none⟩ (.int .u8 (xk.byte.toNat : Int))).setCell ⟨wr.heap.size, 2, none⟩ (.slice va7 xk.kids.length vc7)) (fun b => W6.heap.size ≤ b ∧ b < w7.heap.size) (f + F) va7 xk.kids) := (((HTI7.out ()).ups F).keep (fun b hb q => far3 (by have := HS6.out; have := hb.1; omega) 0 1 2 q _ _ _))
                  have HFA : Hid (∀ b, (W6.heap.size ≤ b ∧ b < w7.heap.size) → w2.heap.size ≤ b ∧ b < (((w7.setCell ⟨wr.heap.size, 0, none⟩ (.int .i64 xk.rule)).setCell ⟨wr.heap.size, 1, none⟩ (.int .u8 (xk.byte.toNat : Int))).setCell ⟨wr.heap.size, 2, none⟩ (.slice va7 xk.kids.length vc7)).heap.size ∧ lv.ownBlock ≠ some b ∧ b ≠ V.heap.size) := fun b hb => ⟨by have := HS6.out; have := HW.out.bel.size; have := HKB.out.bel.size; omega, by rw [HE8.out]; exact hb.2, fun e => by have := (HW.out.row.lt b e).2; have := HS6.out; omega, by have := HS6.out; omega⟩
                  have HCE : Hid (∀ j u, [Value.int .i64 xk.rule, .int .u8 (xk.byte.toNat : Int), .slice va7 xk.kids.length vc7][j]? = some u → ((((w7.setCell ⟨wr.heap.size, 0, none⟩ (.int .i64 xk.rule)).setCell ⟨wr.heap.size, 1, none⟩ (.int .u8 (xk.byte.toNat : Int))).setCell ⟨wr.heap.size, 2, none⟩ (.slice va7 xk.kids.length vc7)).alloc (.cells #[.int .i64 xk.rule, .int .u8 (xk.byte.toNat : Int), .slice va7 xk.kids.length vc7] 27)).cell? ((⟨w7.heap.size, 0, none⟩ : Addr).add j) = some u) := (fun j u hu => by rw [← HE8.out]; exact cell_three_new (((w7.setCell ⟨wr.heap.size, 0, none⟩ (.int .i64 xk.rule)).setCell ⟨wr.heap.size, 1, none⟩ (.int .u8 (xk.byte.toNat : Int))).setCell ⟨wr.heap.size, 2, none⟩ (.slice va7 xk.kids.length vc7)) _ _ _ 27 j u hu)
                  have HSZ : Hid (V.heap.size + 1 ≤ ((((w7.setCell ⟨wr.heap.size, 0, none⟩ (.int .i64 xk.rule)).setCell ⟨wr.heap.size, 1, none⟩ (.int .u8 (xk.byte.toNat : Int))).setCell ⟨wr.heap.size, 2, none⟩ (.slice va7 xk.kids.length vc7)).alloc (.cells #[.int .i64 xk.rule, .int .u8 (xk.byte.toNat : Int), .slice va7 xk.kids.length vc7] 27)).heap.size) := (by show _ ≤ _; rw [World.size_alloc, HE8.out]; have := HB7.out.size; omega)
                  have HTE : Hid (((((w7.setCell ⟨wr.heap.size, 0, none⟩ (.int .i64 xk.rule)).setCell ⟨wr.heap.size, 1, none⟩ (.int .u8 (xk.byte.toNat : Int))).setCell ⟨wr.heap.size, 2, none⟩ (.slice va7 xk.kids.length vc7)).alloc (.cells #[.int .i64 xk.rule, .int .u8 (xk.byte.toNat : Int), .slice va7 xk.kids.length vc7] 27)).heap.size = w7.heap.size + 1) := (by show _ = _; rw [World.size_alloc, HE8.out])
                  clear hvc7 htin7 hb7 k7
                  go_wp2_with (at_builtin; refine wpList_append_lies _ rfl _ _ 25 rfl (V.heap.size + 1) 27 i0 _ 3 40 Tryd.underlying25 hinf hz0 hz1 hz2 rfl (by decide) lv k xs rfl ((HROW.out ()).alloc _) ⟨_, 0, none⟩ 1 1 [.int .i64 xk.rule, .int .u8 (xk.byte.toNat : Int), .slice va7 xk.kids.length vc7] rfl rfl HCE.out (by intro u hu; simp at hu; rcases hu with rfl | rfl | rfl <;> rfl) (by decide) (by unfold maxLen; omega) (by omega) HSZ.out (w7.heap.size + 1) HTE.out ?_)
                  intro g1 cap1 w9 hown9 hgrow9 hat9 _
                  have hst := HPM.out.step (g1 := g1) (cap1 := cap1) (sc := vc7) HBM.out HTK.out HFA.out HVC.out hgrow9 (by rw [HPL.out]; exact hown9) (by rw [HTE.out]; exact hat9)
                  rw [HPL.out] at hst
                  have HST : Hid _ := hst
                  have n2 : lv.ownBlock ≠ some V.heap.size := fun e => by have := (HPM.out.row.lt _ e).1; omega
                  have hbg := HBM.out.size
                  have p2 : w9.cell? ⟨V.heap.size, 2, none⟩ = some lv := (hgrow9.cell_far ⟨V.heap.size, 2, none⟩ (by have := HPM.out.lt; show V.heap.size < _; omega) (fun e => n2 e.symm)).trans ((HBM.out.cell (p := ⟨V.heap.size, 2, none⟩) (by have := HPM.out.lt; show V.heap.size < _; omega)).trans HPM.out.o2)
                  have pf : w9.frozen? ⟨V.heap.size, 2, none⟩ = false := (hgrow9.frozen_far ⟨V.heap.size, 2, none⟩ (by have := HPM.out.lt; show V.heap.size < _; omega) (fun e => n2 e.symm)).trans ((HBM.out.frozen (p := ⟨V.heap.size, 2, none⟩) (by have := HPM.out.lt; show V.heap.size < _; omega)).trans HPM.out.fo)
                  clear hst hgrow9 hown9 hat9 n2 hbg
                  go_wp2
                  refine ⟨⟨k + 1, .slice (some ⟨g1, 0, none⟩) (k + 1) cap1, xs ++ [.int .i64 xk.rule, .int .u8 (xk.byte.toNat : Int), .slice va7 xk.kids.length vc7], by omega, by go_num, ?_⟩, by simp [intOf]; omega⟩
                  rw [HTKE.out]
                  exact HST.out
              · obtain rfl : k = d.kids.length := by omega
                have hpk : (d.kids.set m y).take d.kids.length = d.kids.set m y := List.take_of_length_le (by rw [HSL.out]; exact Nat.le_refl _)
                rw [hpk] at hW
                have hrow := hW.row
                have hlw : w2.heap.size ≤ V.heap.size + 1 := by have := HKB.out.bel.size; omega
                obtain ⟨la, lc, hlv, hlc, hti⟩ := hW.cx.tin (row_base hrow hlw) (by rw [HSL.out]; exact hlen) (fun b e => by have := (hrow.lt b e).1; omega)
                subst hlv
                have p0 := hW.o0
                have p1 := hW.o1
                have r0 := HX3.out.r0
                have r1 := HX3.out.r1
                have r2 := HX3.out.r2
                have rf := HX3.out.rf
                have hltr := HX3.out.lt
                have HTI : Hid _ := fun (_ : Unit) => hti
                have HW2L : Hid _ := HX0.out.lt
                have HLC : Hid _ := hlc
                rw [HSL.out] at o2
                clear hW hrow hti hbV hpk z0 z1 z2 hlc
                go_wp2
                refine bodyPost_ret (v := .tuple #[.agg #[.int .i64 d.rule, .int .u8 (d.byte.toNat : Int), .slice la d.kids.length lc], .int .i64 0]) (by simp [results, Tryd.results31, go_sem, r0, r1, r2]) rfl ?_
                rw [HN.out]
                refine ⟨⟨f + F + 1, la, lc, by show _ = Ending.returned (.tuple #[.agg #[.int .i64 d.rule, .int .u8 (d.byte.toNat : Int), .slice la (d.kids.set m y).length lc], .int .i64 0]); rw [HSL.out], HLC.out, ?_⟩, below_set3 HX3.out.bel hsB _ _ _⟩
                refine ((HTI.out ()).keep (fun b hb q => far3 (by have := HW2L.out; have := hb.1; omega) 0 1 2 q _ _ _)).wide (fun b hb => ⟨by have := HW2L.out; have := hb.1; omega, by simp [World.setCell]; exact hb.2.1⟩)
end Go.Proofs.YtlnlkbkmnkjbhaaDoor
