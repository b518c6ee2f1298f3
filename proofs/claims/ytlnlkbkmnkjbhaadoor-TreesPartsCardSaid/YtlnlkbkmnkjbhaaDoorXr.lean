/- The document's At. -/
import Derived.Test.YtlnlkbkmnkjbhaaDoorKk
import Derived.Test.YtlnlkbkmnkjbhaaDoorR0
namespace Go.Proofs.YtlnlkbkmnkjbhaaDoor
open Go.RowKit Go.Shelf

/-- What was told within a call, laid into the call's own result. -/
theorem apost_lift {w W w7 : World} {c : Nat} {q : Option Tr} {e : Ending} (hB : Below w.heap.size w W) (hc : w.heap.size ≤ c) (hlt : c < W.heap.size) (r0 : W.cell? ⟨c, 0, none⟩ = some (.int .i64 0)) (r1 : W.cell? ⟨c, 1, none⟩ = some (.int .u8 0)) (r2 : W.cell? ⟨c, 2, none⟩ = some (.slice none 0 0)) (rf : ∀ q, W.frozen? ⟨c, q, none⟩ = false) (h : APost W q e w7) :
    ∃ r u va vn vc er, e = .returned (.tuple #[.agg #[.int .i64 r, .int .u8 u, .slice va vn vc], .int .i64 er]) ∧ (w7.cell? ⟨c, 0, none⟩ = some (.int .i64 0) ∧ w7.cell? ⟨c, 1, none⟩ = some (.int .u8 0) ∧ w7.cell? ⟨c, 2, none⟩ = some (.slice none 0 0) ∧ ∀ q, w7.frozen? ⟨c, q, none⟩ = false) ∧ Below W.heap.size W w7 ∧
      APost w q (.returned (.tuple #[.agg #[.int .i64 r, .int .u8 u, .slice va vn vc], .int .i64 er])) (((w7.setCell ⟨c, 0, none⟩ (.int .i64 r)).setCell ⟨c, 1, none⟩ (.int .u8 u)).setCell ⟨c, 2, none⟩ (.slice va vn vc)) := by
  cases q with
  | none =>
    obtain ⟨rfl, hb7⟩ := h
    have k7 : ∀ q, w7.cell? ⟨c, q, none⟩ = _ := fun q => hb7.cell (p := ⟨c, q, none⟩) hlt
    have hbb : Below w.heap.size w w7 := hB.trans (hb7.mono hB.size)
    exact ⟨_, _, _, _, _, _, rfl, ⟨(k7 0).trans r0, (k7 1).trans r1, (k7 2).trans r2, fun q => (hb7.frozen (p := ⟨c, q, none⟩) hlt).trans (rf q)⟩, hb7, rfl, ((hbb.setCell hc _).setCell hc _).setCell hc _⟩
  | some x =>
    obtain ⟨⟨F, va, vc, rfl, hvc, htin⟩, hb7⟩ := h
    have k7 : ∀ q, w7.cell? ⟨c, q, none⟩ = _ := fun q => hb7.cell (p := ⟨c, q, none⟩) hlt
    have hbb : Below w.heap.size w w7 := hB.trans (hb7.mono hB.size)
    refine ⟨_, _, _, _, _, _, rfl, ⟨(k7 0).trans r0, (k7 1).trans r1, (k7 2).trans r2, fun q => (hb7.frozen (p := ⟨c, q, none⟩) hlt).trans (rf q)⟩, hb7, ⟨F, va, vc, rfl, hvc, ?_⟩, ((hbb.setCell hc _).setCell hc _).setCell hc _⟩
    refine (htin.keep (fun b hb q => ?_)).wide (fun b hb => ⟨Nat.le_trans hB.size hb.1, by simp [World.setCell]; exact hb.2⟩)
    have hne : c ≠ b := by omega
    rw [World.cell?_setCell_far _ _ _ _ hne, World.cell?_setCell_far _ _ _ _ hne, World.cell?_setCell_far _ _ _ _ hne]
theorem below_set3 {n c : Nat} {w W : World} (h : Below n w W) (hc : n ≤ c) (u v x : Value) : Below n w (((W.setCell ⟨c, 0, none⟩ u).setCell ⟨c, 1, none⟩ v).setCell ⟨c, 2, none⟩ x) := ((h.setCell (p := ⟨c, 0, none⟩) hc _).setCell (p := ⟨c, 1, none⟩) hc _).setCell (p := ⟨c, 2, none⟩) hc _
theorem far3 {W : World} {c b : Nat} (h : c ≠ b) (i j k q : Nat) (u v x : Value) : (((W.setCell ⟨c, i, none⟩ u).setCell ⟨c, j, none⟩ v).setCell ⟨c, k, none⟩ x).cell? ⟨b, q, none⟩ = W.cell? ⟨b, q, none⟩ := by
  rw [World.cell?_setCell_far _ _ _ _ h, World.cell?_setCell_far _ _ _ _ h, World.cell?_setCell_far _ _ _ _ h]
theorem IAt.tail {w : World} {B pb po : Nat} {v : Int} {ps : List Int} (h : IAt w B (some ⟨pb, po, none⟩) (v :: ps)) : IAt w B (some ⟨pb, po + 1, none⟩) ps := fun j u hj => by
  obtain ⟨b, o, e, hlt, hc⟩ := h (j + 1) u (by simpa using hj)
  cases e
  exact ⟨pb, po + 1, rfl, hlt, by rw [show po + 1 + j = po + (j + 1) by omega]; exact hc⟩
set_option maxRecDepth 100000 in
set_option maxHeartbeats 8000000 in
theorem refAt_any : ∀ (ps : List Int) (d : Tr) (sa : Option Addr) (sc f : Nat) (pa : Option Addr) (pc : Nat) (w : World), TAt w w.heap.size f sa d.kids → d.kids.length ≤ sc → sz d ≤ 1000000000000 → IAt w w.heap.size pa ps → ps.length ≤ pc → ps.length ≤ 1000000000000 →
    Calls Tryd.prog 29 #[.agg #[.int .i64 d.rule, .int .u8 (d.byte.toNat : Int), .slice sa d.kids.length sc], .slice pa ps.length pc] w fun e w' => APost w (atP d ps) e w' := by
  intro ps
  induction ps with
  | nil =>
    intro d sa sc f pa pc w hk hsc hz _ _ _
    have hX0 := AI.start w d [] sa sc f hk hsc hz
    obtain ⟨w2, hw2⟩ : ∃ w2, (w.alloc (.cells #[.int .i64 d.rule, .int .u8 (d.byte.toNat : Int), .slice sa d.kids.length sc] 27)).alloc (.cells #[.int .i64 0, .int .u8 0, .slice none 0 0] 27) = w2 := ⟨_, rfl⟩
    rw [hw2] at hX0
    have hB := hX0.bel
    have HC : Hid _ := fun (_ : Unit) => copy_any f d sa sc w2 ((hk.keep hB).mono hB.size)
    have r0 := hX0.r0
    have r1 := hX0.r1
    have r2 := hX0.r2
    have rf := hX0.rf
    have hlt2 := hX0.lt
    have HB : Hid _ := hB
    have hsB : w.heap.size ≤ w.heap.size + 1 := by omega
    have HF : Hid (∀ va vc w7, d.kids.length ≤ vc → TIn w7 (fun b => w2.heap.size ≤ b ∧ b < w7.heap.size) f va d.kids → Below w2.heap.size w2 w7 → APost w2 (some d) (.returned (.tuple #[.agg #[.int .i64 d.rule, .int .u8 (d.byte.toNat : Int), .slice va d.kids.length vc], .int .i64 0])) w7) := fun va vc w7 h1 h2 h3 => ⟨⟨f, va, vc, rfl, h1, h2⟩, h3⟩
    have HL : Hid (∀ e w7, APost w2 (some d) e w7 → _) := fun e w7 h => apost_lift hB hsB hlt2 r0 r1 r2 rf h
    clear hX0 hk hB
    subst hw2
    go_enter Tryd.func29, Tryd.ntmps29
    go_wp2_with (go_at_call 16; refine (HC.out ()).mono ?_; rintro e w7 ⟨⟨va, vc, rfl, hvc, htin⟩, hb7⟩; obtain ⟨r, u, va', vn', vc', er, he, ⟨r0, r1, r2, rf⟩, _, hp7⟩ := HL.out _ _ (HF.out va vc w7 hvc htin hb7); injection he with he; injection he with he; have HP7 : Hid _ := And.intro he hp7; clear he hp7 hvc htin hb7)
    refine bodyPost_ret (v := .tuple #[.agg #[.int .i64 d.rule, .int .u8 (d.byte.toNat : Int), .slice va d.kids.length vc], .int .i64 0]) (by simp [results, Tryd.results29, go_sem, r0, r1, r2]) rfl ?_
    obtain ⟨he, hp7⟩ := HP7.out
    simp at he
    obtain ⟨⟨rfl, rfl, rfl, rfl, rfl⟩, rfl⟩ := he
    exact hp7
  | cons v ps ih =>
    intro d sa sc f pa pc w hk hsc hz hp hpc hpl
    obtain ⟨pb, po, rfl, hpb, hpv⟩ := hp 0 v rfl
    rw [Nat.add_zero] at hpv
    have hX0 := AI.start w d [] sa sc f hk hsc hz
    obtain ⟨w2, hw2⟩ : ∃ w2, (w.alloc (.cells #[.int .i64 d.rule, .int .u8 (d.byte.toNat : Int), .slice sa d.kids.length sc] 27)).alloc (.cells #[.int .i64 0, .int .u8 0, .slice none 0 0] 27) = w2 := ⟨_, rfl⟩
    rw [hw2] at hX0
    have hB := hX0.bel
    have r0 := hX0.r0
    have r1 := hX0.r1
    have r2 := hX0.r2
    have rf := hX0.rf
    have hlt2 := hX0.lt
    have hsB : w.heap.size ≤ w.heap.size + 1 := by omega
    have hpv2 := (hB.cell (p := ⟨pb, po, none⟩) hpb).trans hpv
    have x2 := hX0.x2
    have HS3 : Hid (w2.drew.cell? ⟨w.heap.size, 2, none⟩ = some (.slice sa d.kids.length sc) ∧ w2.drew.cell? ⟨pb, po, none⟩ = some (.int .i64 v)) := ⟨x2, hpv2⟩
    have HBD : Hid (Below w.heap.size w w2.drew) := ⟨hB.os, hB.tape, hB.output, hB.size, hB.block⟩
    have hln : ((ps.length : Int) + 1 == 0) = false := by simp; omega
    have hl0 : (0 : Int) < (ps.length : Int) + 1 := by omega
    have hlN : 0 < ps.length + 1 := by omega
    obtain ⟨n, hn⟩ : ∃ n, ps.length = n := ⟨_, rfl⟩
    have HN0 : Hid _ := hn
    rw [List.length_cons] at hpc hpl ⊢
    rw [hn] at hln hl0 hlN hpc hpl ⊢
    have HW2 : Hid _ := hw2
    by_cases hv0 : v < 0
    · have HN : Hid (atP d (v :: ps) = none) := by show _ = _; rw [atP]; unfold kidAt; rw [if_neg (by omega)]; rfl
      have hd0 : decide (v < 0) = true := by simpa using hv0
      clear hX0 hk hB ih hp hpv hn hw2
      subst_vars
      go_enter Tryd.func29, Tryd.ntmps29
      go_wp2
      refine wp_region_held_drew (S := (fun W => W.cell? ⟨w.heap.size, 2, none⟩ = some (.slice sa d.kids.length sc) ∧ W.cell? ⟨pb, po, none⟩ = some (.int .i64 v))) (by kernel_rfl) HS3.out (fun hHeld => ?_)
      refine wpAnyH_take (i := 0) (v := ?v39) rfl (by kernel_rfl) (by kernel_rfl) (by kernel_rfl) (fun _ _ _ h => h) (Or.inl ⟨by rfl, ?y39⟩) (by assumption) ?_
      case y39 => (intro w hSw; (try dsimp only at hSw); go_simp <;> with_reducible rfl)
      try simp only [Act.put, List.getElem_toArray, List.getElem_cons_zero, List.setIfInBounds_toArray, List.set_cons_zero, List.set_cons_succ]
      refine wpAnyH_take (i := 1) (v := ?v40) rfl (by kernel_rfl) (by kernel_rfl) (by kernel_rfl) (fun _ _ _ h => h) (Or.inl ⟨by rfl, ?y40⟩) (by assumption) ?_
      case y40 => (intro w hSw; (try dsimp only at hSw); go_simp <;> with_reducible rfl)
      try simp only [Act.put, List.getElem_toArray, List.getElem_cons_zero, List.getElem_cons_succ, List.setIfInBounds_toArray, List.set_cons_zero, List.set_cons_succ]
      refine wpAnyH_take (i := 2) (v := ?v41) rfl (by kernel_rfl) (by kernel_rfl) (by kernel_rfl) (fun _ _ _ h => h) (Or.inl ⟨by rfl, ?y41⟩) (by assumption) ?_
      case y41 => (intro w hSw; (try dsimp only at hSw); go_simp <;> with_reducible rfl)
      try simp only [Act.put, List.getElem_toArray, List.getElem_cons_zero, List.getElem_cons_succ, List.setIfInBounds_toArray, List.set_cons_zero, List.set_cons_succ]
      refine wpAnyH_take (i := 3) (v := ?v42) rfl (by kernel_rfl) (by kernel_rfl) (by kernel_rfl) (fun _ _ _ h => h) (Or.inl ⟨by rfl, ?y42⟩) (by assumption) ?_
      case y42 => (intro w hSw; (try dsimp only at hSw); go_simp <;> with_reducible rfl)
      try simp only [Act.put, List.getElem_toArray, List.getElem_cons_zero, List.getElem_cons_succ, List.setIfInBounds_toArray, List.set_cons_zero, List.set_cons_succ]
      refine wpAnyH_take (i := 4) (v := ?v43) rfl (by kernel_rfl) (by kernel_rfl) (by kernel_rfl) (fun _ _ _ h => h) (Or.inl ⟨by rfl, ?y43⟩) (by assumption) ?_
      case y43 => (intro w hSw; (try dsimp only at hSw); go_simp <;> with_reducible rfl)
      try simp only [Act.put, List.getElem_toArray, List.getElem_cons_zero, List.getElem_cons_succ, List.setIfInBounds_toArray, List.set_cons_zero, List.set_cons_succ]
      refine wpAnyH_take (i := 5) (v := undef) rfl (by kernel_rfl) (by kernel_rfl) (by kernel_rfl) (fun _ _ _ h => h) (Or.inr ⟨by rfl, rfl⟩) (by assumption) ?_
      try simp only [Act.put, List.getElem_toArray, List.getElem_cons_zero, List.getElem_cons_succ, List.setIfInBounds_toArray, List.set_cons_zero, List.set_cons_succ]
      refine wpAnyH_take (i := 6) (v := undef) rfl (by kernel_rfl) (by kernel_rfl) (by kernel_rfl) (fun _ _ _ h => h) (Or.inr ⟨by rfl, rfl⟩) (by assumption) ?_
      try simp only [Act.put, List.getElem_toArray, List.getElem_cons_zero, List.getElem_cons_succ, List.setIfInBounds_toArray, List.set_cons_zero, List.set_cons_succ]
      refine wpAnyH_take (i := 7) (v := undef) rfl (by kernel_rfl) (by kernel_rfl) (by kernel_rfl) (fun _ _ _ h => h) (Or.inr ⟨by rfl, rfl⟩) (by assumption) ?_
      try simp only [Act.put, List.getElem_toArray, List.getElem_cons_zero, List.getElem_cons_succ, List.setIfInBounds_toArray, List.set_cons_zero, List.set_cons_succ]
      refine wpAnyH_take (i := 8) (v := undef) rfl (by kernel_rfl) (by kernel_rfl) (by kernel_rfl) (fun _ _ _ h => h) (Or.inr ⟨by rfl, rfl⟩) (by assumption) ?_
      try simp only [Act.put, List.getElem_toArray, List.getElem_cons_zero, List.getElem_cons_succ, List.setIfInBounds_toArray, List.set_cons_zero, List.set_cons_succ]
      refine wpAnyH_take (i := 9) (v := undef) rfl (by kernel_rfl) (by kernel_rfl) (by kernel_rfl) (fun _ _ _ h => h) (Or.inr ⟨by rfl, rfl⟩) (by assumption) ?_
      try simp only [Act.put, List.getElem_toArray, List.getElem_cons_zero, List.getElem_cons_succ, List.setIfInBounds_toArray, List.set_cons_zero, List.set_cons_succ]
      refine wpAnyH_take (i := 10) (v := undef) rfl (by kernel_rfl) (by kernel_rfl) (by kernel_rfl) (fun _ _ _ h => h) (Or.inr ⟨by rfl, rfl⟩) (by assumption) ?_
      try simp only [Act.put, List.getElem_toArray, List.getElem_cons_zero, List.getElem_cons_succ, List.setIfInBounds_toArray, List.set_cons_zero, List.set_cons_succ]
      refine wpAnyH_take (i := 11) (v := undef) rfl (by kernel_rfl) (by kernel_rfl) (by kernel_rfl) (fun _ _ _ h => h) (Or.inr ⟨by rfl, rfl⟩) (by assumption) ?_
      try simp only [Act.put, List.getElem_toArray, List.getElem_cons_zero, List.getElem_cons_succ, List.setIfInBounds_toArray, List.set_cons_zero, List.set_cons_succ]
      refine wpAnyH_take (i := 12) (v := ?v44) rfl (by kernel_rfl) (by kernel_rfl) (by kernel_rfl) (fun _ _ _ h => h) (Or.inl ⟨by rfl, ?y44⟩) (by assumption) ?_
      case y44 => (intro w hSw; (try dsimp only at hSw); go_simp <;> with_reducible rfl)
      try simp only [Act.put, List.getElem_toArray, List.getElem_cons_zero, List.getElem_cons_succ, List.setIfInBounds_toArray, List.set_cons_zero, List.set_cons_succ]
      refine wpAnyH_done (by kernel_rfl) ?_ _
      clear hHeld
      go_wp2
      refine bodyPost_ret (v := .tuple #[.agg #[.int .i64 0, .int .u8 0, .slice none 0 0], .int .i64 4]) (by simp [results, Tryd.results29, go_sem, r0, r1, r2]) rfl ?_
      rw [HN.out]
      exact ⟨rfl, HBD.out⟩
    · by_cases hv1 : (d.kids.length : Int) ≤ v
      · have HN : Hid (atP d (v :: ps) = none) := by
          show _ = _
          rw [atP]
          unfold kidAt
          rw [if_pos (by omega), List.getElem?_eq_none (by omega)]
          rfl
        have hd0 : decide (v < 0) = false := by simpa using hv0
        have hd1 : decide ((d.kids.length : Int) ≤ v) = true := by simpa using hv1
        clear hX0 hk hB ih hp hpv hn hw2
        subst_vars
        go_enter Tryd.func29, Tryd.ntmps29
        go_wp2
        refine wp_region_held_drew (S := (fun W => W.cell? ⟨w.heap.size, 2, none⟩ = some (.slice sa d.kids.length sc) ∧ W.cell? ⟨pb, po, none⟩ = some (.int .i64 v))) (by kernel_rfl) HS3.out (fun hHeld => ?_)
        refine wpAnyH_take (i := 0) (v := ?v17) rfl (by kernel_rfl) (by kernel_rfl) (by kernel_rfl) (fun _ _ _ h => h) (Or.inl ⟨by rfl, ?y17⟩) (by assumption) ?_
        case y17 => (intro w hSw; (try dsimp only at hSw); go_simp <;> with_reducible rfl)
        try simp only [Act.put, List.getElem_toArray, List.getElem_cons_zero, List.setIfInBounds_toArray, List.set_cons_zero, List.set_cons_succ]
        refine wpAnyH_take (i := 1) (v := ?v18) rfl (by kernel_rfl) (by kernel_rfl) (by kernel_rfl) (fun _ _ _ h => h) (Or.inl ⟨by rfl, ?y18⟩) (by assumption) ?_
        case y18 => (intro w hSw; (try dsimp only at hSw); go_simp <;> with_reducible rfl)
        try simp only [Act.put, List.getElem_toArray, List.getElem_cons_zero, List.getElem_cons_succ, List.setIfInBounds_toArray, List.set_cons_zero, List.set_cons_succ]
        refine wpAnyH_take (i := 2) (v := ?v19) rfl (by kernel_rfl) (by kernel_rfl) (by kernel_rfl) (fun _ _ _ h => h) (Or.inl ⟨by rfl, ?y19⟩) (by assumption) ?_
        case y19 => (intro w hSw; (try dsimp only at hSw); go_simp <;> with_reducible rfl)
        try simp only [Act.put, List.getElem_toArray, List.getElem_cons_zero, List.getElem_cons_succ, List.setIfInBounds_toArray, List.set_cons_zero, List.set_cons_succ]
        refine wpAnyH_take (i := 3) (v := ?v20) rfl (by kernel_rfl) (by kernel_rfl) (by kernel_rfl) (fun _ _ _ h => h) (Or.inl ⟨by rfl, ?y20⟩) (by assumption) ?_
        case y20 => (intro w hSw; (try dsimp only at hSw); go_simp <;> with_reducible rfl)
        try simp only [Act.put, List.getElem_toArray, List.getElem_cons_zero, List.getElem_cons_succ, List.setIfInBounds_toArray, List.set_cons_zero, List.set_cons_succ]
        refine wpAnyH_take (i := 4) (v := ?v21) rfl (by kernel_rfl) (by kernel_rfl) (by kernel_rfl) (fun _ _ _ h => h) (Or.inl ⟨by rfl, ?y21⟩) (by assumption) ?_
        case y21 => (intro w hSw; (try dsimp only at hSw); go_simp <;> with_reducible rfl)
        try simp only [Act.put, List.getElem_toArray, List.getElem_cons_zero, List.getElem_cons_succ, List.setIfInBounds_toArray, List.set_cons_zero, List.set_cons_succ]
        refine wpAnyH_take (i := 5) (v := ?v22) rfl (by kernel_rfl) (by kernel_rfl) (by kernel_rfl) (fun _ _ _ h => h) (Or.inl ⟨by rfl, ?y22⟩) (by assumption) ?_
        case y22 => (intro w hSw; (try dsimp only at hSw); go_simp <;> with_reducible rfl)
        try simp only [Act.put, List.getElem_toArray, List.getElem_cons_zero, List.getElem_cons_succ, List.setIfInBounds_toArray, List.set_cons_zero, List.set_cons_succ]
        refine wpAnyH_take (i := 6) (v := ?v23) rfl (by kernel_rfl) (by kernel_rfl) (by kernel_rfl) (fun _ _ _ h => h) (Or.inl ⟨by rfl, ?y23⟩) (by assumption) ?_
        case y23 => (intro w hSw; (try dsimp only at hSw); go_simp <;> with_reducible rfl)
        try simp only [Act.put, List.getElem_toArray, List.getElem_cons_zero, List.getElem_cons_succ, List.setIfInBounds_toArray, List.set_cons_zero, List.set_cons_succ]
        refine wpAnyH_take (i := 7) (v := ?v24) rfl (by kernel_rfl) (by kernel_rfl) (by kernel_rfl) (fun _ _ _ h => h) (Or.inl ⟨by rfl, ?y24⟩) (by assumption) ?_
        case y24 => (intro w hSw; (try dsimp only at hSw); go_simp <;> with_reducible rfl)
        try simp only [Act.put, List.getElem_toArray, List.getElem_cons_zero, List.getElem_cons_succ, List.setIfInBounds_toArray, List.set_cons_zero, List.set_cons_succ]
        refine wpAnyH_take (i := 8) (v := ?v25) rfl (by kernel_rfl) (by kernel_rfl) (by kernel_rfl) (fun _ _ _ h => h) (Or.inl ⟨by rfl, ?y25⟩) (by assumption) ?_
        case y25 => (intro w hSw; (try dsimp only at hSw); go_simp <;> with_reducible rfl)
        try simp only [Act.put, List.getElem_toArray, List.getElem_cons_zero, List.getElem_cons_succ, List.setIfInBounds_toArray, List.set_cons_zero, List.set_cons_succ]
        refine wpAnyH_take (i := 9) (v := ?v26) rfl (by kernel_rfl) (by kernel_rfl) (by kernel_rfl) (fun _ _ _ h => h) (Or.inl ⟨by rfl, ?y26⟩) (by assumption) ?_
        case y26 => (intro w hSw; (try dsimp only at hSw); go_simp <;> with_reducible rfl)
        try simp only [Act.put, List.getElem_toArray, List.getElem_cons_zero, List.getElem_cons_succ, List.setIfInBounds_toArray, List.set_cons_zero, List.set_cons_succ]
        refine wpAnyH_take (i := 10) (v := ?v27) rfl (by kernel_rfl) (by kernel_rfl) (by kernel_rfl) (fun _ _ _ h => h) (Or.inl ⟨by rfl, ?y27⟩) (by assumption) ?_
        case y27 => (intro w hSw; (try dsimp only at hSw); go_simp <;> with_reducible rfl)
        try simp only [Act.put, List.getElem_toArray, List.getElem_cons_zero, List.getElem_cons_succ, List.setIfInBounds_toArray, List.set_cons_zero, List.set_cons_succ]
        refine wpAnyH_take (i := 11) (v := ?v28) rfl (by kernel_rfl) (by kernel_rfl) (by kernel_rfl) (fun _ _ _ h => h) (Or.inl ⟨by rfl, ?y28⟩) (by assumption) ?_
        case y28 => (intro w hSw; (try dsimp only at hSw); go_simp <;> with_reducible rfl)
        try simp only [Act.put, List.getElem_toArray, List.getElem_cons_zero, List.getElem_cons_succ, List.setIfInBounds_toArray, List.set_cons_zero, List.set_cons_succ]
        refine wpAnyH_take (i := 12) (v := ?v29) rfl (by kernel_rfl) (by kernel_rfl) (by kernel_rfl) (fun _ _ _ h => h) (Or.inl ⟨by rfl, ?y29⟩) (by assumption) ?_
        case y29 => (intro w hSw; (try dsimp only at hSw); go_simp <;> with_reducible rfl)
        try simp only [Act.put, List.getElem_toArray, List.getElem_cons_zero, List.getElem_cons_succ, List.setIfInBounds_toArray, List.set_cons_zero, List.set_cons_succ]
        refine wpAnyH_done (by kernel_rfl) ?_ _
        clear hHeld
        go_wp2
        refine bodyPost_ret (v := .tuple #[.agg #[.int .i64 0, .int .u8 0, .slice none 0 0], .int .i64 4]) (by simp [results, Tryd.results29, go_sem, r0, r1, r2]) rfl ?_
        rw [HN.out]
        exact ⟨rfl, HBD.out⟩
      · obtain ⟨m, rfl⟩ : ∃ m : Nat, v = (m : Int) := ⟨v.toNat, by omega⟩
        have hmN : m < d.kids.length := by omega
        obtain ⟨x, hx⟩ : ∃ x, d.kids[m]? = some x := ⟨d.kids[m], by simp⟩
        have HN : Hid (atP d ((m : Int) :: ps) = atP x ps) := by
          show _ = _
          rw [atP]
          unfold kidAt
          rw [if_pos (by omega), Int.toNat_natCast, hx]
          rfl
        obtain ⟨b, o, rfl, hb, xa, xc, c0, c1, c2, hxc, hxk⟩ := hk.one hx
        have hd0 : decide ((m : Int) < 0) = false := by simp
        have hd1 : decide (d.kids.length ≤ m) = false := by simp; omega
        have hd2 : ¬ d.kids.length ≤ m := by omega
        have hzx : sz x ≤ 1000000000000 := by have := szL_mem hx; have := sz_eq d; omega
        have HS5 : Hid (∀ W, Below w2.heap.size w2 W → W.cell? ⟨w.heap.size, 2, none⟩ = some (.slice (some ⟨b, o, none⟩) d.kids.length sc) ∧ W.cell? ⟨pb, po, none⟩ = some (.int .i64 (m : Int)) ∧ W.cell? ⟨b, o + m * 3, none⟩ = some (.int .i64 x.rule) ∧ W.cell? ⟨b, o + m * 3 + 1, none⟩ = some (.int .u8 (x.byte.toNat : Int)) ∧ W.cell? ⟨b, o + m * 3 + 2, none⟩ = some (.slice xa x.kids.length xc)) := fun W hW => by
          have hs := hB.size
          have k : ∀ b q, b < w2.heap.size → W.cell? ⟨b, q, none⟩ = w2.cell? ⟨b, q, none⟩ := fun b q hb => hW.cell (p := ⟨b, q, none⟩) hb
          have k' : ∀ b q, b < w.heap.size → W.cell? ⟨b, q, none⟩ = w.cell? ⟨b, q, none⟩ := fun b q hb => (k b q (by omega)).trans (hB.cell (p := ⟨b, q, none⟩) hb)
          exact ⟨(k _ _ (by omega)).trans x2, (k' _ _ hpb).trans hpv, (k' _ _ hb).trans c0, (k' _ _ hb).trans c1, (k' _ _ hb).trans c2⟩
        have HC : Hid (∀ W, Below w2.heap.size w2 W → Calls Tryd.prog 29 #[.agg #[.int .i64 x.rule, .int .u8 (x.byte.toNat : Int), .slice xa x.kids.length xc], .slice (if pc = 1 then some ⟨pb, po, none⟩ else some ⟨pb, po + 1, none⟩) n (pc - 1)] W fun e w' => APost W (atP x ps) e w') := fun W hW => by
          have hBW := below_of hB hW
          have hI : IAt W W.heap.size (if pc = 1 then some ⟨pb, po, none⟩ else some ⟨pb, po + 1, none⟩) ps := by
            split
            · have h0 : ps = [] := List.length_eq_zero_iff.1 (by omega)
              rw [h0]
              exact fun j u hj => by cases hj
            · exact (hp.tail.keep hBW).mono hBW.size
          have h' := ih x xa xc f (if pc = 1 then some ⟨pb, po, none⟩ else some ⟨pb, po + 1, none⟩) (pc - 1) W ((hxk.keep hBW).mono hBW.size) hxc hzx hI (by omega) (by omega)
          rw [hn] at h'
          exact h'
        have HL : Hid (∀ W e w7, Below w2.heap.size w2 W → APost W (atP x ps) e w7 → _) := fun W e w7 hW h => apost_lift (w := w) (below_of hB hW) hsB (Nat.lt_of_lt_of_le hlt2 hW.size) ((hW.cell (p := ⟨w.heap.size + 1, 0, none⟩) hlt2).trans r0) ((hW.cell (p := ⟨w.heap.size + 1, 1, none⟩) hlt2).trans r1) ((hW.cell (p := ⟨w.heap.size + 1, 2, none⟩) hlt2).trans r2) (fun q => (hW.frozen (p := ⟨w.heap.size + 1, q, none⟩) hlt2).trans (rf q)) h
        have TT : Below w2.heap.size w2 w2.drew.drew := ⟨rfl, rfl, rfl, Nat.le_refl _, fun _ _ => rfl⟩
        have HTT : Hid _ := TT
        have hm0 : (0 : Int) ≤ (m : Int) := by omega
        have hmI : (m : Int) < (d.kids.length : Int) := by omega
        have hp1 : (1 : Int) ≤ (n : Int) + 1 := by omega
        have hp2 : (n : Int) + 1 ≤ (pc : Int) := by omega
        have hp3 : n + 1 ≤ pc := hpc
        have HNB : Hid (w.heap.size + 1 ≠ b ∧ w.heap.size + 1 ≠ pb ∧ w.heap.size + 1 ≠ w.heap.size) := ⟨by omega, by omega, by omega⟩
        clear hX0 hk hB ih hp hpv hn hxk c0 c1 c2 hx hv0 hv1 TT r0 r1 r2 rf
        obtain ⟨V, hV⟩ : ∃ V, V = w2.drew.drew := ⟨_, rfl⟩
        go_enter Tryd.func29, Tryd.ntmps29
        go_wp2
        refine wp_region_held_drew (S := (fun W => W.cell? ⟨w.heap.size, 2, none⟩ = some (.slice (some ⟨b, o, none⟩) d.kids.length sc) ∧ W.cell? ⟨pb, po, none⟩ = some (.int .i64 (m : Int)))) (by kernel_rfl) HS3.out (fun hHeld => ?_)
        refine wpAnyH_take (i := 0) (v := ?v4) rfl (by kernel_rfl) (by kernel_rfl) (by kernel_rfl) (fun _ _ _ h => h) (Or.inl ⟨by rfl, ?y4⟩) (by assumption) ?_
        case y4 => (intro w hSw; (try dsimp only at hSw); go_simp <;> with_reducible rfl)
        try simp only [Act.put, List.getElem_toArray, List.getElem_cons_zero, List.setIfInBounds_toArray, List.set_cons_zero, List.set_cons_succ]
        refine wpAnyH_take (i := 1) (v := ?v5) rfl (by kernel_rfl) (by kernel_rfl) (by kernel_rfl) (fun _ _ _ h => h) (Or.inl ⟨by rfl, ?y5⟩) (by assumption) ?_
        case y5 => (intro w hSw; (try dsimp only at hSw); go_simp <;> with_reducible rfl)
        try simp only [Act.put, List.getElem_toArray, List.getElem_cons_zero, List.getElem_cons_succ, List.setIfInBounds_toArray, List.set_cons_zero, List.set_cons_succ]
        refine wpAnyH_take (i := 2) (v := ?v6) rfl (by kernel_rfl) (by kernel_rfl) (by kernel_rfl) (fun _ _ _ h => h) (Or.inl ⟨by rfl, ?y6⟩) (by assumption) ?_
        case y6 => (intro w hSw; (try dsimp only at hSw); go_simp <;> with_reducible rfl)
        try simp only [Act.put, List.getElem_toArray, List.getElem_cons_zero, List.getElem_cons_succ, List.setIfInBounds_toArray, List.set_cons_zero, List.set_cons_succ]
        refine wpAnyH_take (i := 3) (v := ?v7) rfl (by kernel_rfl) (by kernel_rfl) (by kernel_rfl) (fun _ _ _ h => h) (Or.inl ⟨by rfl, ?y7⟩) (by assumption) ?_
        case y7 => (intro w hSw; (try dsimp only at hSw); go_simp <;> with_reducible rfl)
        try simp only [Act.put, List.getElem_toArray, List.getElem_cons_zero, List.getElem_cons_succ, List.setIfInBounds_toArray, List.set_cons_zero, List.set_cons_succ]
        refine wpAnyH_take (i := 4) (v := ?v8) rfl (by kernel_rfl) (by kernel_rfl) (by kernel_rfl) (fun _ _ _ h => h) (Or.inl ⟨by rfl, ?y8⟩) (by assumption) ?_
        case y8 => (intro w hSw; (try dsimp only at hSw); go_simp <;> with_reducible rfl)
        try simp only [Act.put, List.getElem_toArray, List.getElem_cons_zero, List.getElem_cons_succ, List.setIfInBounds_toArray, List.set_cons_zero, List.set_cons_succ]
        refine wpAnyH_take (i := 5) (v := ?v9) rfl (by kernel_rfl) (by kernel_rfl) (by kernel_rfl) (fun _ _ _ h => h) (Or.inl ⟨by rfl, ?y9⟩) (by assumption) ?_
        case y9 => (intro w hSw; (try dsimp only at hSw); go_simp <;> with_reducible rfl)
        try simp only [Act.put, List.getElem_toArray, List.getElem_cons_zero, List.getElem_cons_succ, List.setIfInBounds_toArray, List.set_cons_zero, List.set_cons_succ]
        refine wpAnyH_take (i := 6) (v := ?v10) rfl (by kernel_rfl) (by kernel_rfl) (by kernel_rfl) (fun _ _ _ h => h) (Or.inl ⟨by rfl, ?y10⟩) (by assumption) ?_
        case y10 => (intro w hSw; (try dsimp only at hSw); go_simp <;> with_reducible rfl)
        try simp only [Act.put, List.getElem_toArray, List.getElem_cons_zero, List.getElem_cons_succ, List.setIfInBounds_toArray, List.set_cons_zero, List.set_cons_succ]
        refine wpAnyH_take (i := 7) (v := ?v11) rfl (by kernel_rfl) (by kernel_rfl) (by kernel_rfl) (fun _ _ _ h => h) (Or.inl ⟨by rfl, ?y11⟩) (by assumption) ?_
        case y11 => (intro w hSw; (try dsimp only at hSw); go_simp <;> with_reducible rfl)
        try simp only [Act.put, List.getElem_toArray, List.getElem_cons_zero, List.getElem_cons_succ, List.setIfInBounds_toArray, List.set_cons_zero, List.set_cons_succ]
        refine wpAnyH_take (i := 8) (v := ?v12) rfl (by kernel_rfl) (by kernel_rfl) (by kernel_rfl) (fun _ _ _ h => h) (Or.inl ⟨by rfl, ?y12⟩) (by assumption) ?_
        case y12 => (intro w hSw; (try dsimp only at hSw); go_simp <;> with_reducible rfl)
        try simp only [Act.put, List.getElem_toArray, List.getElem_cons_zero, List.getElem_cons_succ, List.setIfInBounds_toArray, List.set_cons_zero, List.set_cons_succ]
        refine wpAnyH_take (i := 9) (v := ?v13) rfl (by kernel_rfl) (by kernel_rfl) (by kernel_rfl) (fun _ _ _ h => h) (Or.inl ⟨by rfl, ?y13⟩) (by assumption) ?_
        case y13 => (intro w hSw; (try dsimp only at hSw); go_simp <;> with_reducible rfl)
        try simp only [Act.put, List.getElem_toArray, List.getElem_cons_zero, List.getElem_cons_succ, List.setIfInBounds_toArray, List.set_cons_zero, List.set_cons_succ]
        refine wpAnyH_take (i := 10) (v := ?v14) rfl (by kernel_rfl) (by kernel_rfl) (by kernel_rfl) (fun _ _ _ h => h) (Or.inl ⟨by rfl, ?y14⟩) (by assumption) ?_
        case y14 => (intro w hSw; (try dsimp only at hSw); go_simp <;> with_reducible rfl)
        try simp only [Act.put, List.getElem_toArray, List.getElem_cons_zero, List.getElem_cons_succ, List.setIfInBounds_toArray, List.set_cons_zero, List.set_cons_succ]
        refine wpAnyH_take (i := 11) (v := ?v15) rfl (by kernel_rfl) (by kernel_rfl) (by kernel_rfl) (fun _ _ _ h => h) (Or.inl ⟨by rfl, ?y15⟩) (by assumption) ?_
        case y15 => (intro w hSw; (try dsimp only at hSw); go_simp <;> with_reducible rfl)
        try simp only [Act.put, List.getElem_toArray, List.getElem_cons_zero, List.getElem_cons_succ, List.setIfInBounds_toArray, List.set_cons_zero, List.set_cons_succ]
        refine wpAnyH_take (i := 12) (v := ?v16) rfl (by kernel_rfl) (by kernel_rfl) (by kernel_rfl) (fun _ _ _ h => h) (Or.inl ⟨by rfl, ?y16⟩) (by assumption) ?_
        case y16 => (intro w hSw; (try dsimp only at hSw); go_simp <;> with_reducible rfl)
        try simp only [Act.put, List.getElem_toArray, List.getElem_cons_zero, List.getElem_cons_succ, List.setIfInBounds_toArray, List.set_cons_zero, List.set_cons_succ]
        refine wpAnyH_done (by kernel_rfl) ?_ _
        clear hHeld
        go_wp2
        refine wp_region_held_drew (S := (fun W => W.cell? ⟨w.heap.size, 2, none⟩ = some (.slice (some ⟨b, o, none⟩) d.kids.length sc) ∧ W.cell? ⟨pb, po, none⟩ = some (.int .i64 (m : Int)) ∧ W.cell? ⟨b, o + m * 3, none⟩ = some (.int .i64 x.rule) ∧ W.cell? ⟨b, o + m * 3 + 1, none⟩ = some (.int .u8 (x.byte.toNat : Int)) ∧ W.cell? ⟨b, o + m * 3 + 2, none⟩ = some (.slice xa x.kids.length xc))) (by kernel_rfl) (HS5.out _ HTT.out) (fun hHeld => ?_)
        refine wpAnyH_take (i := 0) (v := ?v30) rfl (by kernel_rfl) (by kernel_rfl) (by kernel_rfl) (fun _ _ _ h => h) (Or.inl ⟨by rfl, ?y30⟩) (by assumption) ?_
        case y30 => (intro w hSw; (try dsimp only at hSw); go_simp <;> with_reducible rfl)
        try simp only [Act.put, List.getElem_toArray, List.getElem_cons_zero, List.setIfInBounds_toArray, List.set_cons_zero, List.set_cons_succ]
        refine wpAnyH_take (i := 1) (v := ?v31) rfl (by kernel_rfl) (by kernel_rfl) (by kernel_rfl) (fun _ _ _ h => h) (Or.inl ⟨by rfl, ?y31⟩) (by assumption) ?_
        case y31 => (intro w hSw; (try dsimp only at hSw); go_simp <;> with_reducible rfl)
        try simp only [Act.put, List.getElem_toArray, List.getElem_cons_zero, List.getElem_cons_succ, List.setIfInBounds_toArray, List.set_cons_zero, List.set_cons_succ]
        refine wpAnyH_take (i := 2) (v := ?v32) rfl (by kernel_rfl) (by kernel_rfl) (by kernel_rfl) (fun _ _ _ h => h) (Or.inl ⟨by rfl, ?y32⟩) (by assumption) ?_
        case y32 => (intro w hSw; (try dsimp only at hSw); go_simp <;> with_reducible rfl)
        try simp only [Act.put, List.getElem_toArray, List.getElem_cons_zero, List.getElem_cons_succ, List.setIfInBounds_toArray, List.set_cons_zero, List.set_cons_succ]
        refine wpAnyH_take (i := 3) (v := ?v33) rfl (by kernel_rfl) (by kernel_rfl) (by kernel_rfl) (fun _ _ _ h => h) (Or.inl ⟨by rfl, ?y33⟩) (by assumption) ?_
        case y33 => (intro w hSw; (try dsimp only at hSw); go_simp <;> with_reducible rfl)
        try simp only [Act.put, List.getElem_toArray, List.getElem_cons_zero, List.getElem_cons_succ, List.setIfInBounds_toArray, List.set_cons_zero, List.set_cons_succ]
        refine wpAnyH_take (i := 4) (v := ?v34) rfl (by kernel_rfl) (by kernel_rfl) (by kernel_rfl) (fun _ _ _ h => h) (Or.inl ⟨by rfl, ?y34⟩) (by assumption) ?_
        case y34 => (intro w hSw; (try dsimp only at hSw); go_simp <;> with_reducible rfl)
        try simp only [Act.put, List.getElem_toArray, List.getElem_cons_zero, List.getElem_cons_succ, List.setIfInBounds_toArray, List.set_cons_zero, List.set_cons_succ]
        refine wpAnyH_take (i := 5) (v := ?v35) rfl (by kernel_rfl) (by kernel_rfl) (by kernel_rfl) (fun _ _ _ h => h) (Or.inl ⟨by rfl, ?y35⟩) (by assumption) ?_
        case y35 => (intro w hSw; (try dsimp only at hSw); go_simp <;> with_reducible rfl)
        try simp only [Act.put, List.getElem_toArray, List.getElem_cons_zero, List.getElem_cons_succ, List.setIfInBounds_toArray, List.set_cons_zero, List.set_cons_succ]
        refine wpAnyH_take (i := 6) (v := ?v36) rfl (by kernel_rfl) (by kernel_rfl) (by kernel_rfl) (fun _ _ _ h => h) (Or.inl ⟨by rfl, ?y36⟩) (by assumption) ?_
        case y36 => (intro w hSw; (try dsimp only at hSw); go_simp <;> with_reducible rfl)
        try simp only [Act.put, List.getElem_toArray, List.getElem_cons_zero, List.getElem_cons_succ, List.setIfInBounds_toArray, List.set_cons_zero, List.set_cons_succ]
        refine wpAnyH_take (i := 7) (v := ?v37) rfl (by kernel_rfl) (by kernel_rfl) (by kernel_rfl) (fun _ _ _ h => h) (Or.inl ⟨by rfl, ?y37⟩) (by assumption) ?_
        case y37 => (intro w hSw; (try dsimp only at hSw); go_simp <;> with_reducible rfl)
        try simp only [Act.put, List.getElem_toArray, List.getElem_cons_zero, List.getElem_cons_succ, List.setIfInBounds_toArray, List.set_cons_zero, List.set_cons_succ]
        refine wpAnyH_take (i := 8) (v := ?v38) rfl (by kernel_rfl) (by kernel_rfl) (by kernel_rfl) (fun _ _ _ h => h) (Or.inl ⟨by rfl, ?y38⟩) (by assumption) ?_
        case y38 => (intro w hSw; (try dsimp only at hSw); go_simp <;> with_reducible rfl)
        try simp only [Act.put, List.getElem_toArray, List.getElem_cons_zero, List.getElem_cons_succ, List.setIfInBounds_toArray, List.set_cons_zero, List.set_cons_succ]
        generalize (if pc = 1 then (some ⟨pb, po, none⟩ : Option Addr) else some ⟨pb, po + 1, none⟩) = qa at HC ⊢
        refine wpAnyH_ready (rs := [9]) (by kernel_rfl) (by simp) ?_
        refine (AllReadyH.cons rfl (fun K hK => ?_) AllReadyH.nil)
        go_simp
        refine (HC.out _ HTT.out).mono ?_
        intro e w7 h7
        obtain ⟨r, u, va, vn, vc, er, rfl, ⟨r0, r1, r2, rf⟩, hb7, hp7⟩ := HL.out _ e w7 HTT.out h7
        have hS7 := HS5.out w7 (below_of HTT.out hb7)
        have HP7 : Hid _ := hp7
        have HS7 : Hid _ := hS7
        have HSS : Hid (_ ∧ _ ∧ _ ∧ _ ∧ _) := ⟨(far3 HNB.out.2.2 0 1 2 2 (.int .i64 r) (.int .u8 u) (.slice va vn vc)).trans hS7.1, (far3 HNB.out.2.1 0 1 2 po (.int .i64 r) (.int .u8 u) (.slice va vn vc)).trans hS7.2.1, (far3 HNB.out.1 0 1 2 (o + m * 3) (.int .i64 r) (.int .u8 u) (.slice va vn vc)).trans hS7.2.2.1, (far3 HNB.out.1 0 1 2 (o + m * 3 + 1) (.int .i64 r) (.int .u8 u) (.slice va vn vc)).trans hS7.2.2.2.1, (far3 HNB.out.1 0 1 2 (o + m * 3 + 2) (.int .i64 r) (.int .u8 u) (.slice va vn vc)).trans hS7.2.2.2.2⟩
        clear h7 hp7 hb7 hS7
        go_wp2_with fail
        refine hK.out _ _ HS7.out (fun hHeld => ?_)
        clear hK K
        try simp only [Act.put, List.getElem_toArray, List.getElem_cons_zero, List.getElem_cons_succ, List.setIfInBounds_toArray, List.set_cons_zero, List.set_cons_succ]
        refine wpAnyH_take (i := 10) (v := ?v1) rfl (by kernel_rfl) (by kernel_rfl) (by kernel_rfl) (fun _ _ _ h => h) (Or.inl ⟨by rfl, ?y1⟩) (by assumption) ?_
        case y1 => (intro w hSw; (try dsimp only at hSw); go_simp <;> with_reducible rfl)
        try simp only [Act.put, List.getElem_toArray, List.getElem_cons_zero, List.getElem_cons_succ, List.setIfInBounds_toArray, List.set_cons_zero, List.set_cons_succ]
        refine wpAnyH_take (i := 11) (v := ?v2) rfl (by kernel_rfl) (by kernel_rfl) (by kernel_rfl) (fun _ _ _ h => h) (Or.inl ⟨by rfl, ?y2⟩) (by assumption) ?_
        case y2 => (intro w hSw; (try dsimp only at hSw); go_simp <;> with_reducible rfl)
        try simp only [Act.put, List.getElem_toArray, List.getElem_cons_zero, List.getElem_cons_succ, List.setIfInBounds_toArray, List.set_cons_zero, List.set_cons_succ]
        refine wpAnyH_ready (rs := [12]) (by kernel_rfl) (by simp) ?_
        refine (AllReadyH.cons rfl (fun K hK => ?_) AllReadyH.nil)
        go_simp
        refine hK.out _ _ HSS.out (fun hHeld => ?_)
        clear hK K
        try simp only [Act.put, List.getElem_toArray, List.getElem_cons_zero, List.getElem_cons_succ, List.setIfInBounds_toArray, List.set_cons_zero, List.set_cons_succ]
        refine wpAnyH_take (i := 13) (v := ?v3) rfl (by kernel_rfl) (by kernel_rfl) (by kernel_rfl) (fun _ _ _ h => h) (Or.inl ⟨by rfl, ?y3⟩) (by assumption) ?_
        case y3 => (intro w hSw; (try dsimp only at hSw); go_simp <;> with_reducible rfl)
        try simp only [Act.put, List.getElem_toArray, List.getElem_cons_zero, List.getElem_cons_succ, List.setIfInBounds_toArray, List.set_cons_zero, List.set_cons_succ]
        refine wpAnyH_done (by kernel_rfl) ?_ _
        clear hHeld
        trace_state
        go_wp2
        refine bodyPost_ret (v := .tuple #[.agg #[.int .i64 r, .int .u8 u, .slice va vn vc], .int .i64 er]) (by simp [results, Tryd.results29, go_sem, r0, r1, r2]) rfl ?_
        rw [HN.out]
        exact HP7.out
end Go.Proofs.YtlnlkbkmnkjbhaaDoor
