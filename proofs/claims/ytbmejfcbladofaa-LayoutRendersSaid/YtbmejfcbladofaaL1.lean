/- The leaves of a document: the walk. -/
import Derived.Test.YtbmejfcbladofaaL0
namespace Go.Proofs.Ytbmejfcbladofaa
open Go.RowKit Go.Shelf

attribute [local go_sem] Oper.semAt_some

set_option maxRecDepth 100000 in
set_option maxHeartbeats 4000000 in
theorem leaves_any (d : Dc) (sa : Option Addr) (sc f : Nat) (w : World) (hk : DAt w w.heap.size f sa d.kids) (hsc : d.kids.length ≤ sc) (hlen : (pre d 1).length ≤ 1000000000000) :
    Calls Try.prog 16 #[.agg #[.int .i64 d.kind, .string d.text, .int .i64 d.n, .slice sa d.kids.length sc]] w fun e w' => (∃ v, e = .returned v ∧ w'.ownsRow w.heap.size 24 4 v (leavesD d).length (lfV (leavesD d))) ∧ Below w.heap.size w w' := by
  obtain ⟨i0, hinf, hz0, hz1, hz2⟩ := info_parts info24
  refine (callsIn_wide (n := 3)).1 ?_
  refine callsIn_of_wp_marks Try.func16 rfl trivial ?_ rfl
  simp only [Try.ntmps16, List.size_toArray, List.length_cons, List.length_nil, Nat.reduceAdd, Nat.reduceSub, Array.replicate_succ, Array.replicate_zero, List.push_toArray, List.append_toArray, List.nil_append, List.cons_append]
  obtain ⟨w1, hw1⟩ : ∃ w1, w.alloc (.cells #[.int .i64 d.kind, .string d.text, .int .i64 d.n, .slice sa d.kids.length sc] 24) = w1 := ⟨_, rfl⟩
  have s1 : w1.heap.size = w.heap.size + 1 := by rw [← hw1]; simp
  have hB1 : Below w.heap.size w w1 := by rw [← hw1]; exact (Below.refl _ _).alloc (Nat.le_refl _) _
  have hd1 : DocAt w1 (w.heap.size + 1) f w.heap.size 0 d := ⟨by omega, sa, sc, by rw [← hw1]; exact cell_new 0 rfl, by rw [← hw1]; exact cell_new 1 rfl, by rw [← hw1]; exact cell_new 2 rfl, by rw [← hw1]; exact cell_new 3 rfl, hsc, (hk.keep hB1).mono (by omega)⟩
  gi_wp2_with (refine ⟨trivial, ?_⟩; gi_at_call 29; refine (callsIn_wide.2 (parts_any _ _)).mono ?_; rintro e w' ⟨rfl, rfl⟩)
  have bL := ((Boxed.new w1 22 (.slice none 0 0)).alloc (.cells #[.pointer (some ⟨w.heap.size, 0, none⟩)] 60)).alloc (.cells #[.func (.func 30) #[] #[]] 76)
  have b1 := (Boxed.new (w1.alloc (.cells #[.slice none 0 0] 22)) 60 (.pointer (some ⟨w.heap.size, 0, none⟩))).alloc (.cells #[.func (.func 30) #[] #[]] 76)
  have b2 := Boxed.new ((w1.alloc (.cells #[.slice none 0 0] 22)).alloc (.cells #[.pointer (some ⟨w.heap.size, 0, none⟩)] 60)) 76 (.func (.func 30) #[] #[])
  obtain ⟨w5, hw5⟩ : ∃ w5, ((w1.alloc (.cells #[.slice none 0 0] 22)).alloc (.cells #[.pointer (some ⟨w.heap.size, 0, none⟩)] 60)).alloc (.cells #[.func (.func 30) #[] #[]] 76) = w5 := ⟨_, rfl⟩
  have s5 : w5.heap.size = w.heap.size + 4 := by rw [← hw5]; simp [s1]
  have hB5 : Below w1.heap.size w1 w5 := by rw [← hw5]; exact (((Below.refl _ _).alloc (Nat.le_refl _) _).alloc (by simp) _).alloc (by simp; omega) _
  simp only [World.size_alloc, s1] at bL b1 b2
  rw [hw5] at bL b1 b2
  rw [hw5]
  have hd5 : DocAt w5 (w.heap.size + 1) f w.heap.size 0 d := hd1.keep (by rw [← s1]; exact hB5)
  have hBw : Below w.heap.size w w5 := hB1.trans (hB5.mono (by omega))
  clear hw5 hd1 hB5 hB1 hw1
  refine range_law (F := Fence.wide) rfl (by omega) (gf := 42) (lb := #[.pointer (some ⟨w.heap.size + 1 + 1, 0, none⟩), .pointer (some ⟨w.heap.size + 1 + 1 + 1, 0, none⟩)]) rfl trivial (enters_of Try.func42 (by kernel_rfl) rfl)
    (parts_seq (3 - 1) (by omega) (w.heap.size + 1 + 1) (w.heap.size + 1 + 1 + 1) (w.heap.size + 1) f w.heap.size 0 d w5 (by omega) hd5 hlen (by omega) (by omega) b1.cell b2.cell) (by omega) (fun b hb => by rcases hb with rfl | rfl <;> omega) (Below.refl _ _) (fun _ => rfl)
    (LI w w5) (fun _ _ _ _ => False) (LI.stays w w5) (LI.noMind w w5 (by omega)) (fun c _ _ _ _ _ h _ _ => h) (fun c _ _ _ _ _ _ h _ _ _ => h)
    ⟨⟨.slice none 0 0, bL, World.ownsRow_nil _ _ _ _, fun b hb => by simp [Value.ownBlock] at hb⟩, fun b hb => (by rcases hb with rfl | rfl <;> omega), Below.refl _ _⟩
    (fun x => { tmps := #[.agg #[.int .i64 d.kind, .string d.text, .int .i64 d.n, .slice sa d.kids.length sc], .pointer (some ⟨w.heap.size, 0, none⟩), .slice none 0 0, .pointer (some ⟨w.heap.size + 1, 0, none⟩), .pointer (some ⟨x.b, x.o, none⟩), .func (.func 42) #[] #[.pointer (some ⟨w.heap.size + 1 + 1, 0, none⟩), .pointer (some ⟨w.heap.size + 1 + 1 + 1, 0, none⟩)], .pointer (some ⟨x.b, x.o, none⟩), .int .i64 (x.deep : Int), undef, undef, undef, undef, undef, undef, undef, undef, undef, undef, undef, undef, undef, undef, undef, undef, undef, undef, undef, undef, undef], defers := [] }) ?assign ?body ?done ?stop
  case assign =>
    intro l x W K hK
    unfold Px.enc
    gi_wp2
    exact hK
  case body =>
    intro ly A xs x W hI hlt hx hA
    have hdx : DocAt W (w.heap.size + 1) f x.b x.o x.doc := hx.keep hI.bel
    have HC : Hid _ := fun (_ : Unit) => isLeaf_any x.doc (w.heap.size + 1) f x.b x.o W hdx
    cases hlf : isLf x.doc with
    | false =>
      rw [hlf] at HC
      have HE : Hid (KeepsFrom w5.heap.size W W ∧ Keep (w.heap.size + 1) A W W ∧ LI w w5 A (xs ++ [x]) W) := by
        refine ⟨KeepsFrom.refl _ _, ⟨Below.refl _ _, fun _ _ _ => rfl⟩, ?_, hI.ab, hI.bel⟩
        have := hI.ex
        rw [List.map_append, List.map_cons, List.map_nil, lfs_snoc_no hlf]
        exact this
      clear hI hx hdx hlf
      gi_wp2_with (refine ⟨trivial, ?_⟩; gi_at_call 32; refine (CallsIn.inRound ly (callsIn_wide.2 (HC.out ()))).mono ?_; rintro e w' ⟨rfl, rfl⟩)
      exact HE.out
    | true =>
      rw [hlf] at HC
      obtain ⟨hltd, xa, xc, c0, c1, c2, c3, _, _⟩ := hdx
      obtain ⟨v, hbox, hrow, hnA⟩ := hI.ex
      obtain ⟨va, vc, rfl⟩ := row_slice hrow
      have cL := hbox.cell
      have fL := hbox.frozen
      have HI : Hid _ := hI
      have HBX : Hid _ := hbox
      have HRW : Hid _ := hrow
      have HNA : Hid _ := hnA
      have HLF : Hid _ := hlf
      clear hI hbox hrow hnA hlf hx
      gi_wp2_with (refine ⟨trivial, ?_⟩; gi_at_call 32; refine (CallsIn.inRound ly (callsIn_wide.2 (HC.out ()))).mono ?_; rintro e w' ⟨rfl, rfl⟩)
      obtain ⟨W0, hW0⟩ : ∃ W0, W0 = w' := ⟨_, rfl⟩
      subst hW0
      obtain ⟨ls, hls⟩ : ∃ ls, lfs (xs.map Px.doc) = ls := ⟨_, rfl⟩
      have hlsl : ls.length ≤ xs.length := by rw [← hls]; unfold lfs; exact Nat.le_trans (List.length_filter_le _ _) (by simp)
      have HLS : Hid _ := hls
      rw [hls] at HRW cL HNA HBX
      have hsz0 : w.heap.size + 4 ≤ W0.heap.size := by have := HI.out.bel.size; omega
      have HLT : Hid (∀ b, (Value.slice va ls.length vc).ownBlock = some b → w.heap.size + 2 ≤ b ∧ b < W0.heap.size) := fun b e => World.ownsRow.lt (w := W0) HRW.out b e
      have HFIN : Hid (∀ (g cap : Nat) (w9 : World), w9.ownsRow (w.heap.size + 2) 24 4 (.slice (some ⟨g, 0, none⟩) (ls.length + 1) cap) (ls.length + 1) (lfV ls ++ [.int .i64 0, .string ⟨#[]⟩, .int .i64 0, .slice none 0 0]) → (W0.alloc zDoc).drew.grownBy w9 (Value.slice va ls.length vc).ownBlock → ((Value.slice va ls.length vc).ownBlock = some g ∨ g = W0.heap.size + 1) → ∀ W' : World, (W' = (set4 w9 g ls.length x.doc).setCell ⟨w.heap.size + 1, 0, none⟩ (.slice (some ⟨g, 0, none⟩) (ls.length + 1) cap) ∨ W' = set4 (w9.setCell ⟨w.heap.size + 1, 0, none⟩ (.slice (some ⟨g, 0, none⟩) (ls.length + 1) cap)) g ls.length x.doc) → KeepsFrom w5.heap.size W0 W' ∧ Keep (w.heap.size + 1) A W0 W' ∧ LI w w5 A (xs ++ [x]) W') := fun g cap w9 h1 h2 h3 W' h4 => LI.next HBX.out (by rw [HLS.out]; exact HRW.out) HNA.out HI.out.ab HI.out.bel HLF.out (by rw [HLS.out]; exact h1) h2 h3 (by rw [HLS.out]; exact h4)
      have HS : Hid (∀ W' : World, (∀ b, b < w.heap.size + 1 → W'.heap[b]? = W0.heap[b]?) → W'.cell? ⟨x.b, x.o, none⟩ = some (.int .i64 x.doc.kind) ∧ W'.cell? ⟨x.b, x.o + 1, none⟩ = some (.string x.doc.text) ∧ W'.cell? ⟨x.b, x.o + 2, none⟩ = some (.int .i64 x.doc.n)) := fun W' h => by
        have e : ∀ q, W'.cell? ⟨x.b, q, none⟩ = W0.cell? ⟨x.b, q, none⟩ := fun q => World.cell?_of_block (a := ⟨x.b, q, none⟩) (h x.b hltd)
        exact ⟨(e _).trans c0, (e _).trans c1, (e _).trans c2⟩
      have hX : ∀ b, b < W0.heap.size → (W0.alloc zDoc).drew.heap[b]? = W0.heap[b]? := fun b hb => Below.heap_alloc W0 zDoc b hb
      have h9 : ∀ w9 : World, (W0.alloc zDoc).drew.grownBy w9 (Value.slice va ls.length vc).ownBlock → ∀ b, b < w.heap.size + 2 → w9.heap[b]? = W0.heap[b]? := fun w9 hg b hb => (hg.block b (by show b < (W0.alloc zDoc).heap.size; simp; omega) (fun e => by have := (HLT.out b e.symm).1; omega)).trans (hX b (by omega))
      have HS7 : Hid (_ ∧ _ ∧ _) := HS.out (W0.alloc zDoc).drew (fun b hb => hX b (by omega))
      have HS8 : Hid (∀ w9 : World, (W0.alloc zDoc).drew.grownBy w9 (Value.slice va ls.length vc).ownBlock → _) := fun w9 hg => HS.out w9 (fun b hb => h9 w9 hg b (by omega))
      have HGN : Hid (∀ g, ((Value.slice va ls.length vc).ownBlock = some g ∨ g = W0.heap.size + 1) → w.heap.size + 2 ≤ g) := fun g h => by
        rcases h with h | h
        · exact (HLT.out g h).1
        · omega
      have HS9 : Hid (∀ (g cap : Nat) (w9 : World), (W0.alloc zDoc).drew.grownBy w9 (Value.slice va ls.length vc).ownBlock → ((Value.slice va ls.length vc).ownBlock = some g ∨ g = W0.heap.size + 1) → ∀ W' : World, (W' = set4 w9 g ls.length x.doc ∨ W' = (set4 w9 g ls.length x.doc).setCell ⟨w.heap.size + 1, 0, none⟩ (.slice (some ⟨g, 0, none⟩) (ls.length + 1) cap) ∨ W' = w9.setCell ⟨w.heap.size + 1, 0, none⟩ (.slice (some ⟨g, 0, none⟩) (ls.length + 1) cap) ∨ W' = set4 (w9.setCell ⟨w.heap.size + 1, 0, none⟩ (.slice (some ⟨g, 0, none⟩) (ls.length + 1) cap)) g ls.length x.doc) → _) := fun g cap w9 hg hat W' hW' => HS.out W' (fun b hb => by
        have hgl := HGN.out g hat
        have e1 := h9 w9 hg b (by omega)
        rcases hW' with rfl | rfl | rfl | rfl
        · exact (set4_other _ _ _ _ (by omega)).trans e1
        · exact (Below.heap_setCell _ ⟨w.heap.size + 1, 0, none⟩ _ b (by show b ≠ w.heap.size + 1; omega)).trans ((set4_other _ _ _ _ (by omega)).trans e1)
        · exact (Below.heap_setCell _ ⟨w.heap.size + 1, 0, none⟩ _ b (by show b ≠ w.heap.size + 1; omega)).trans e1
        · exact (set4_other _ _ _ _ (by omega)).trans ((Below.heap_setCell _ ⟨w.heap.size + 1, 0, none⟩ _ b (by show b ≠ w.heap.size + 1; omega)).trans e1))
      have HCL : Hid (∀ w9 : World, (W0.alloc zDoc).drew.grownBy w9 (Value.slice va ls.length vc).ownBlock → w9.cell? ⟨w.heap.size + 1, 0, none⟩ = some (.slice va ls.length vc) ∧ w9.frozen? ⟨w.heap.size + 1, 0, none⟩ = false) := fun w9 hg => by
        have hb : Boxed w9 (w.heap.size + 1) 22 (.slice va ls.length vc) := (h9 w9 hg _ (by omega)).trans HBX.out
        exact ⟨hb.cell, hb.frozen⟩
      have HR2 : Hid ((W0.alloc zDoc).drew.ownsRow (w.heap.size + 2) 24 4 (.slice va ls.length vc) ls.length (lfV ls)) := World.ownsRow.drew (World.ownsRow.alloc (w := W0) HRW.out zDoc)
      have HNW : Hid (∀ (j : Nat) u, ([.int .i64 0, .string ⟨#[]⟩, .int .i64 0, .slice none 0 0] : List Value)[j]? = some u → (W0.alloc zDoc).drew.cell? ((⟨W0.heap.size, 0, none⟩ : Addr).add j) = some u) := fun j u hu => by
        have e : (⟨W0.heap.size, 0, none⟩ : Addr).add j = ⟨W0.heap.size, j, none⟩ := by simp [Addr.add]; omega
        rw [e]
        exact cell_new (w := W0) (t := 24) j (by rw [List.getElem?_toArray]; exact hu)
      have HOC : Hid (∀ u ∈ ([.int .i64 0, .string ⟨#[]⟩, .int .i64 0, .slice none 0 0] : List Value), u.oneCell' = true) := by show ∀ u ∈ _, _; simp [Value.oneCell']
      have HN1 : Hid (ls.length + 1 ≤ maxLen) := by show _ ≤ _; unfold maxLen; omega
      have HN2 : Hid ((ls.length + 1) * 56 ≤ 140737488355328) := by show _ ≤ _; omega
      have HN3 : Hid (w.heap.size + 2 ≤ (W0.alloc zDoc).drew.heap.size) := by show _ ≤ (W0.alloc zDoc).heap.size; simp; omega
      have HN4 : Hid ((W0.alloc zDoc).drew.heap.size = W0.heap.size + 1) := by show (W0.alloc zDoc).heap.size = _; simp
      have hlI : (ls.length : Int) < (ls.length : Int) + 1 := by omega
      have hLB : w.heap.size + 1 < W0.heap.size := by omega
      clear hX h9 hls hlsl hA hlt
      refine region_held ly _ (by kernel_rfl) (noDefer_spec (by kernel_rfl)) (S := fun W' => W'.cell? ⟨x.b, x.o, none⟩ = some (.int .i64 x.doc.kind) ∧ W'.cell? ⟨x.b, x.o + 1, none⟩ = some (.string x.doc.text) ∧ W'.cell? ⟨x.b, x.o + 2, none⟩ = some (.int .i64 x.doc.n)) (fun ⟨_, _, h⟩ => h) ⟨c0, c1, c2⟩ (fun hHeld => ?_)
      refine wpAnyH_take (i := 1) (v := ?v1) rfl (by kernel_rfl) (by kernel_rfl) (by kernel_rfl) (fun _ _ _ h => h) (Or.inl ⟨by rfl, ?y1⟩) (by assumption) ?_
      case y1 => (intro w hSw; (try dsimp only at hSw); go_simp <;> with_reducible rfl)
      try simp only [Act.put, List.getElem_toArray, List.getElem_cons_zero, List.getElem_cons_succ, List.setIfInBounds_toArray, List.set_cons_zero, List.set_cons_succ]
      refine wpAnyH_take (i := 2) (v := ?v2) rfl (by kernel_rfl) (by kernel_rfl) (by kernel_rfl) (fun _ _ _ h => h) (Or.inl ⟨by rfl, ?y2⟩) (by assumption) ?_
      case y2 => (intro w hSw; (try dsimp only at hSw); go_simp <;> with_reducible rfl)
      try simp only [Act.put, List.getElem_toArray, List.getElem_cons_zero, List.getElem_cons_succ, List.setIfInBounds_toArray, List.set_cons_zero, List.set_cons_succ]
      refine wpAnyH_take (i := 3) (v := ?v3) rfl (by kernel_rfl) (by kernel_rfl) (by kernel_rfl) (fun _ _ _ h => h) (Or.inl ⟨by rfl, ?y3⟩) (by assumption) ?_
      case y3 => (intro w hSw; (try dsimp only at hSw); go_simp <;> with_reducible rfl)
      try simp only [Act.put, List.getElem_toArray, List.getElem_cons_zero, List.getElem_cons_succ, List.setIfInBounds_toArray, List.set_cons_zero, List.set_cons_succ]
      refine wpAnyH_take (i := 4) (v := ?v4) rfl (by kernel_rfl) (by kernel_rfl) (by kernel_rfl) (fun _ _ _ h => h) (Or.inl ⟨by rfl, ?y4⟩) (by assumption) ?_
      case y4 => (intro w hSw; (try dsimp only at hSw); go_simp <;> with_reducible rfl)
      try simp only [Act.put, List.getElem_toArray, List.getElem_cons_zero, List.getElem_cons_succ, List.setIfInBounds_toArray, List.set_cons_zero, List.set_cons_succ]
      refine wpAnyH_take (i := 5) (v := ?v5) rfl (by kernel_rfl) (by kernel_rfl) (by kernel_rfl) (fun _ _ _ h => h) (Or.inl ⟨by rfl, ?y5⟩) (by assumption) ?_
      case y5 => (intro w hSw; (try dsimp only at hSw); go_simp <;> with_reducible rfl)
      try simp only [Act.put, List.getElem_toArray, List.getElem_cons_zero, List.getElem_cons_succ, List.setIfInBounds_toArray, List.set_cons_zero, List.set_cons_succ]
      refine wpAnyH_take (i := 6) (v := ?v6) rfl (by kernel_rfl) (by kernel_rfl) (by kernel_rfl) (fun _ _ _ h => h) (Or.inl ⟨by rfl, ?y6⟩) (by assumption) ?_
      case y6 => (intro w hSw; (try dsimp only at hSw); go_simp <;> with_reducible rfl)
      try simp only [Act.put, List.getElem_toArray, List.getElem_cons_zero, List.getElem_cons_succ, List.setIfInBounds_toArray, List.set_cons_zero, List.set_cons_succ]
      refine wpAnyH_take (i := 7) (v := ?v7) rfl (by kernel_rfl) (by kernel_rfl) (by kernel_rfl) (fun _ _ _ h => h) (Or.inl ⟨by rfl, ?y7⟩) (by assumption) ?_
      case y7 => (intro w hSw; (try dsimp only at hSw); go_simp <;> with_reducible rfl)
      try simp only [Act.put, List.getElem_toArray, List.getElem_cons_zero, List.getElem_cons_succ, List.setIfInBounds_toArray, List.set_cons_zero, List.set_cons_succ]
      refine wpAnyH_take (i := 8) (v := ?v8) rfl (by kernel_rfl) (by kernel_rfl) (by kernel_rfl) (fun _ _ _ h => h) (Or.inl ⟨by rfl, ?y8⟩) (by assumption) ?_
      case y8 => (intro w hSw; (try dsimp only at hSw); go_simp <;> with_reducible rfl)
      try simp only [Act.put, List.getElem_toArray, List.getElem_cons_zero, List.getElem_cons_succ, List.setIfInBounds_toArray, List.set_cons_zero, List.set_cons_succ]
      refine wpAnyH_take (i := 9) (v := ?v9) rfl (by kernel_rfl) (by kernel_rfl) (by kernel_rfl) (fun _ _ _ h => h) (Or.inl ⟨by rfl, ?y9⟩) (by assumption) ?_
      case y9 => (intro w hSw; (try dsimp only at hSw); go_simp <;> with_reducible rfl)
      try simp only [Act.put, List.getElem_toArray, List.getElem_cons_zero, List.getElem_cons_succ, List.setIfInBounds_toArray, List.set_cons_zero, List.set_cons_succ]
      refine wpAnyH_take (i := 10) (v := ?v10) rfl (by kernel_rfl) (by kernel_rfl) (by kernel_rfl) (fun _ _ _ h => h) (Or.inl ⟨by rfl, ?y10⟩) (by assumption) ?_
      case y10 => (intro w hSw; (try dsimp only at hSw); go_simp <;> with_reducible rfl)
      try simp only [Act.put, List.getElem_toArray, List.getElem_cons_zero, List.getElem_cons_succ, List.setIfInBounds_toArray, List.set_cons_zero, List.set_cons_succ]
      refine wpAnyH_take (i := 11) (v := ?v11) rfl (by kernel_rfl) (by kernel_rfl) (by kernel_rfl) (fun _ _ _ h => h) (Or.inl ⟨by rfl, ?y11⟩) (by assumption) ?_
      case y11 => (intro w hSw; (try dsimp only at hSw); go_simp <;> with_reducible rfl)
      try simp only [Act.put, List.getElem_toArray, List.getElem_cons_zero, List.getElem_cons_succ, List.setIfInBounds_toArray, List.set_cons_zero, List.set_cons_succ]
      refine wpAnyH_take (i := 12) (v := ?v12) rfl (by kernel_rfl) (by kernel_rfl) (by kernel_rfl) (fun _ _ _ h => h) (Or.inl ⟨by rfl, ?y12⟩) (by assumption) ?_
      case y12 => (intro w hSw; (try dsimp only at hSw); go_simp <;> with_reducible rfl)
      try simp only [Act.put, List.getElem_toArray, List.getElem_cons_zero, List.getElem_cons_succ, List.setIfInBounds_toArray, List.set_cons_zero, List.set_cons_succ]
      refine wpAnyH_take (i := 13) (v := ?v13) rfl (by kernel_rfl) (by kernel_rfl) (by kernel_rfl) (fun _ _ _ h => h) (Or.inl ⟨by rfl, ?y13⟩) (by assumption) ?_
      case y13 => (intro w hSw; (try dsimp only at hSw); go_simp <;> with_reducible rfl)
      try simp only [Act.put, List.getElem_toArray, List.getElem_cons_zero, List.getElem_cons_succ, List.setIfInBounds_toArray, List.set_cons_zero, List.set_cons_succ]
      refine wpAnyH_ready (rs := [0, 15]) (by kernel_rfl) (by simp) ?_
      refine (AllReadyH.cons rfl (fun K hK => ?_) (AllReadyH.cons rfl (fun K hK => ?_) AllReadyH.nil))
      · go_simp
        refine hK.out _ _ (by assumption) (fun hHeld => ?_)
        clear hK K
        try simp only [Act.put, List.getElem_toArray, List.getElem_cons_zero, List.getElem_cons_succ, List.setIfInBounds_toArray, List.set_cons_zero, List.set_cons_succ]
        refine wpAnyH_take (i := 14) (v := ?v14) rfl (by kernel_rfl) (by kernel_rfl) (by kernel_rfl) (fun _ _ _ h => h) (Or.inl ⟨by rfl, ?y14⟩) (by assumption) ?_
        case y14 => (intro w hSw; (try dsimp only at hSw); go_simp <;> with_reducible rfl)
        try simp only [Act.put, List.getElem_toArray, List.getElem_cons_zero, List.getElem_cons_succ, List.setIfInBounds_toArray, List.set_cons_zero, List.set_cons_succ]
        refine wpAnyH_ready (rs := [15]) (by kernel_rfl) (by simp) ?_
        refine (AllReadyH.cons rfl (fun K hK => ?_) AllReadyH.nil)
        · go_simp
          refine hK.out _ _ HS7.out (fun hHeld => ?_)
          clear hK K
          try simp only [Act.put, List.getElem_toArray, List.getElem_cons_zero, List.getElem_cons_succ, List.setIfInBounds_toArray, List.set_cons_zero, List.set_cons_succ]
          refine wpAnyH_ready (rs := [16]) (by kernel_rfl) (by simp) ?_
          refine (AllReadyH.cons rfl (fun K hK => ?_) AllReadyH.nil)
          · rw [if_pos (by rfl)]
            refine wp_append_lies _ _ _ 22 rfl (w.heap.size + 2) 24 i0 _ 4 56 Try.underlying22 hinf hz0 hz1 hz2 rfl (by omega) _ _ _ rfl HR2.out ⟨W0.heap.size, 0, none⟩ 1 1 [.int .i64 0, .string ⟨#[]⟩, .int .i64 0, .slice none 0 0] rfl rfl HNW.out HOC.out (by omega) HN1.out HN2.out HN3.out (W0.heap.size + 1) HN4.out ?_
            intro g cap w9 hown9 hgrow9 hat9 hlt9
            have hgn := HGN.out g hat9
            have hg1 : g ≠ w.heap.size + 1 := by omega
            have hg2 : w.heap.size + 1 ≠ g := by omega
            obtain ⟨z0, y0⟩ := own_cell hown9 (j := ls.length * 4) (u := .int .i64 0) (by rw [List.getElem?_append_right (by rw [lfV_len]; omega), lfV_len]; simp)
            obtain ⟨z1, y1⟩ := own_cell hown9 (j := ls.length * 4 + 1) (u := .string ⟨#[]⟩) (by rw [List.getElem?_append_right (by rw [lfV_len]; omega), lfV_len]; simp)
            obtain ⟨z2, y2⟩ := own_cell hown9 (j := ls.length * 4 + 2) (u := .int .i64 0) (by rw [List.getElem?_append_right (by rw [lfV_len]; omega), lfV_len]; simp)
            obtain ⟨z3, y3⟩ := own_cell hown9 (j := ls.length * 4 + 3) (u := .slice none 0 0) (by rw [List.getElem?_append_right (by rw [lfV_len]; omega), lfV_len]; simp)
            obtain ⟨cL9, fL9⟩ := HCL.out w9 hgrow9
            refine hK.out _ _ (HS8.out w9 hgrow9) (fun hHeld => ?_)
            clear hK K
            try simp only [Act.put, List.getElem_toArray, List.getElem_cons_zero, List.getElem_cons_succ, List.setIfInBounds_toArray, List.set_cons_zero, List.set_cons_succ]
            refine wpAnyH_take (i := 17) (v := ?v15) rfl (by kernel_rfl) (by kernel_rfl) (by kernel_rfl) (fun _ _ _ h => h) (Or.inl ⟨by rfl, ?y15⟩) (by assumption) ?_
            case y15 => (intro w hSw; (try dsimp only at hSw); go_simp <;> with_reducible rfl)
            try simp only [Act.put, List.getElem_toArray, List.getElem_cons_zero, List.getElem_cons_succ, List.setIfInBounds_toArray, List.set_cons_zero, List.set_cons_succ]
            refine wpAnyH_ready (rs := [18, 19]) (by kernel_rfl) (by simp) ?_
            refine (AllReadyH.cons rfl (fun K hK => ?_) (AllReadyH.cons rfl (fun K hK => ?_) AllReadyH.nil))
            · go_simp
              refine hK.out _ _ (HS9.out g cap w9 hgrow9 hat9 _ (.inl rfl)) (fun hHeld => ?_)
              clear hK K
              try simp only [Act.put, List.getElem_toArray, List.getElem_cons_zero, List.getElem_cons_succ, List.setIfInBounds_toArray, List.set_cons_zero, List.set_cons_succ]
              refine wpAnyH_ready (rs := [19]) (by kernel_rfl) (by simp) ?_
              refine (AllReadyH.cons rfl (fun K hK => ?_) AllReadyH.nil)
              · go_simp
                refine hK.out _ _ (HS9.out g cap w9 hgrow9 hat9 _ (.inr (.inl rfl))) (fun hHeld => ?_)
                clear hK K
                try simp only [Act.put, List.getElem_toArray, List.getElem_cons_zero, List.getElem_cons_succ, List.setIfInBounds_toArray, List.set_cons_zero, List.set_cons_succ]
                refine wpAnyH_done (by kernel_rfl) ?_ _
                exact HFIN.out g cap w9 hown9 hgrow9 hat9 _ (.inl rfl)
            · go_simp
              refine hK.out _ _ (HS9.out g cap w9 hgrow9 hat9 _ (.inr (.inr (.inl rfl)))) (fun hHeld => ?_)
              clear hK K
              try simp only [Act.put, List.getElem_toArray, List.getElem_cons_zero, List.getElem_cons_succ, List.setIfInBounds_toArray, List.set_cons_zero, List.set_cons_succ]
              refine wpAnyH_ready (rs := [18]) (by kernel_rfl) (by simp) ?_
              refine (AllReadyH.cons rfl (fun K hK => ?_) AllReadyH.nil)
              · go_simp
                refine hK.out _ _ (HS9.out g cap w9 hgrow9 hat9 _ (.inr (.inr (.inr rfl)))) (fun hHeld => ?_)
                clear hK K
                try simp only [Act.put, List.getElem_toArray, List.getElem_cons_zero, List.getElem_cons_succ, List.setIfInBounds_toArray, List.set_cons_zero, List.set_cons_succ]
                refine wpAnyH_done (by kernel_rfl) ?_ _
                exact HFIN.out g cap w9 hown9 hgrow9 hat9 _ (.inr rfl)
      · go_simp
        refine hK.out _ _ HS7.out (fun hHeld => ?_)
        clear hK K
        try simp only [Act.put, List.getElem_toArray, List.getElem_cons_zero, List.getElem_cons_succ, List.setIfInBounds_toArray, List.set_cons_zero, List.set_cons_succ]
        refine wpAnyH_ready (rs := [0]) (by kernel_rfl) (by simp) ?_
        refine (AllReadyH.cons rfl (fun K hK => ?_) AllReadyH.nil)
        · go_simp
          refine hK.out _ _ HS7.out (fun hHeld => ?_)
          clear hK K
          try simp only [Act.put, List.getElem_toArray, List.getElem_cons_zero, List.getElem_cons_succ, List.setIfInBounds_toArray, List.set_cons_zero, List.set_cons_succ]
          refine wpAnyH_take (i := 14) (v := ?v16) rfl (by kernel_rfl) (by kernel_rfl) (by kernel_rfl) (fun _ _ _ h => h) (Or.inl ⟨by rfl, ?y16⟩) (by assumption) ?_
          case y16 => (intro w hSw; (try dsimp only at hSw); go_simp <;> with_reducible rfl)
          try simp only [Act.put, List.getElem_toArray, List.getElem_cons_zero, List.getElem_cons_succ, List.setIfInBounds_toArray, List.set_cons_zero, List.set_cons_succ]
          refine wpAnyH_ready (rs := [16]) (by kernel_rfl) (by simp) ?_
          refine (AllReadyH.cons rfl (fun K hK => ?_) AllReadyH.nil)
          · rw [if_pos (by rfl)]
            refine wp_append_lies _ _ _ 22 rfl (w.heap.size + 2) 24 i0 _ 4 56 Try.underlying22 hinf hz0 hz1 hz2 rfl (by omega) _ _ _ rfl HR2.out ⟨W0.heap.size, 0, none⟩ 1 1 [.int .i64 0, .string ⟨#[]⟩, .int .i64 0, .slice none 0 0] rfl rfl HNW.out HOC.out (by omega) HN1.out HN2.out HN3.out (W0.heap.size + 1) HN4.out ?_
            intro g cap w9 hown9 hgrow9 hat9 hlt9
            have hgn := HGN.out g hat9
            have hg1 : g ≠ w.heap.size + 1 := by omega
            have hg2 : w.heap.size + 1 ≠ g := by omega
            obtain ⟨z0, y0⟩ := own_cell hown9 (j := ls.length * 4) (u := .int .i64 0) (by rw [List.getElem?_append_right (by rw [lfV_len]; omega), lfV_len]; simp)
            obtain ⟨z1, y1⟩ := own_cell hown9 (j := ls.length * 4 + 1) (u := .string ⟨#[]⟩) (by rw [List.getElem?_append_right (by rw [lfV_len]; omega), lfV_len]; simp)
            obtain ⟨z2, y2⟩ := own_cell hown9 (j := ls.length * 4 + 2) (u := .int .i64 0) (by rw [List.getElem?_append_right (by rw [lfV_len]; omega), lfV_len]; simp)
            obtain ⟨z3, y3⟩ := own_cell hown9 (j := ls.length * 4 + 3) (u := .slice none 0 0) (by rw [List.getElem?_append_right (by rw [lfV_len]; omega), lfV_len]; simp)
            obtain ⟨cL9, fL9⟩ := HCL.out w9 hgrow9
            refine hK.out _ _ (HS8.out w9 hgrow9) (fun hHeld => ?_)
            clear hK K
            try simp only [Act.put, List.getElem_toArray, List.getElem_cons_zero, List.getElem_cons_succ, List.setIfInBounds_toArray, List.set_cons_zero, List.set_cons_succ]
            refine wpAnyH_take (i := 17) (v := ?v17) rfl (by kernel_rfl) (by kernel_rfl) (by kernel_rfl) (fun _ _ _ h => h) (Or.inl ⟨by rfl, ?y17⟩) (by assumption) ?_
            case y17 => (intro w hSw; (try dsimp only at hSw); go_simp <;> with_reducible rfl)
            try simp only [Act.put, List.getElem_toArray, List.getElem_cons_zero, List.getElem_cons_succ, List.setIfInBounds_toArray, List.set_cons_zero, List.set_cons_succ]
            refine wpAnyH_ready (rs := [18, 19]) (by kernel_rfl) (by simp) ?_
            refine (AllReadyH.cons rfl (fun K hK => ?_) (AllReadyH.cons rfl (fun K hK => ?_) AllReadyH.nil))
            · go_simp
              refine hK.out _ _ (HS9.out g cap w9 hgrow9 hat9 _ (.inl rfl)) (fun hHeld => ?_)
              clear hK K
              try simp only [Act.put, List.getElem_toArray, List.getElem_cons_zero, List.getElem_cons_succ, List.setIfInBounds_toArray, List.set_cons_zero, List.set_cons_succ]
              refine wpAnyH_ready (rs := [19]) (by kernel_rfl) (by simp) ?_
              refine (AllReadyH.cons rfl (fun K hK => ?_) AllReadyH.nil)
              · go_simp
                refine hK.out _ _ (HS9.out g cap w9 hgrow9 hat9 _ (.inr (.inl rfl))) (fun hHeld => ?_)
                clear hK K
                try simp only [Act.put, List.getElem_toArray, List.getElem_cons_zero, List.getElem_cons_succ, List.setIfInBounds_toArray, List.set_cons_zero, List.set_cons_succ]
                refine wpAnyH_done (by kernel_rfl) ?_ _
                exact HFIN.out g cap w9 hown9 hgrow9 hat9 _ (.inl rfl)
            · go_simp
              refine hK.out _ _ (HS9.out g cap w9 hgrow9 hat9 _ (.inr (.inr (.inl rfl)))) (fun hHeld => ?_)
              clear hK K
              try simp only [Act.put, List.getElem_toArray, List.getElem_cons_zero, List.getElem_cons_succ, List.setIfInBounds_toArray, List.set_cons_zero, List.set_cons_succ]
              refine wpAnyH_ready (rs := [18]) (by kernel_rfl) (by simp) ?_
              refine (AllReadyH.cons rfl (fun K hK => ?_) AllReadyH.nil)
              · go_simp
                refine hK.out _ _ (HS9.out g cap w9 hgrow9 hat9 _ (.inr (.inr (.inr rfl)))) (fun hHeld => ?_)
                clear hK K
                try simp only [Act.put, List.getElem_toArray, List.getElem_cons_zero, List.getElem_cons_succ, List.setIfInBounds_toArray, List.set_cons_zero, List.set_cons_succ]
                refine wpAnyH_done (by kernel_rfl) ?_ _
                exact HFIN.out g cap w9 hown9 hgrow9 hat9 _ (.inr rfl)
  case done =>
    rintro D A xs W hD ⟨hS, _⟩ hI hK
    obtain ⟨v, hbox, hrow, _⟩ := hI.ex
    have hls : lfs (xs.map Px.doc) = leavesD d := by
      unfold leavesD
      rw [← hS, List.map_map]
      rfl
    rw [hls] at hrow
    have cr := hbox.cell
    have hBf : Below w.heap.size w (W.putObj D (.deferred none)) := by
      have h1 := hBw.trans (hI.bel.mono (by omega))
      exact ⟨h1.os, h1.tape, h1.output, by simpa using h1.size, fun b hb => (World.putObj_heap_other (by omega)).trans (h1.block b hb)⟩
    have hrf : (W.putObj D (.deferred none)).ownsRow w.heap.size 24 4 v (leavesD d).length (lfV (leavesD d)) := by
      refine row_keep (row_base (by omega) hrow) (fun b e => World.putObj_heap_other (fun el => ?_))
      subst el
      rcases hrow.2 with ⟨h0, _⟩ | ⟨g, cap, cur, hv, _, hg, _⟩
      · rw [h0] at e; simp [Value.ownBlock] at e
      · rw [hv] at e
        have : g = b := by simpa [Value.ownBlock] using e
        rw [this, hK] at hg
        cases hg
    have HB : Hid _ := hBf
    have HR : Hid _ := fun (_ : Unit) => hrf
    obtain ⟨va, vc, rfl⟩ := row_slice hrow
    clear hI hS bL b1 b2 hd5 hBf hrf hrow hbox
    gi_wp2
    refine ⟨by simp, .inl ⟨_, _, rfl, run_takeDeferred hK, ?_⟩⟩
    exact ⟨_, by simp [results, Try.results16, go_sem], ⟨_, rfl, HR.out ()⟩, HB.out⟩
  case stop =>
    rintro D c A xs W hD ⟨hS, _⟩ hX hK
    exact hX.elim
end Go.Proofs.Ytbmejfcbladofaa
