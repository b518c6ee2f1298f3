/- What trees.Spans tells. -/
import Derived.Test.YtlnlkbkmnkjbhaaDoorSc
namespace Go.Proofs.YtlnlkbkmnkjbhaaDoor
open Go.RowKit Go.Shelf

attribute [local go_sem] Oper.semAt_some

/-- The machine's state behind parts. -/
def stQ (xs : List Qx) : Sm := (Sm.mk [] [] 0).run (xs.map Qx.say)
theorem stQ_snoc (xs : List Qx) (x : Qx) : stQ (xs ++ [x]) = (stQ xs).step x.deep x.bytes := by
  unfold stQ; rw [List.map_append, Sm.run_append]; rfl
def KA (s : Nat) (A : Nat → Prop) : Nat → Prop := fun b => b ≤ s ∨ (s + 4 ≤ b ∧ b < s + 7) ∨ A b
/-- While one goes through the parts. -/
structure SI (w wd : World) (U : Nat → Prop) (A : Nat → Prop) (xs : List Qx) (X : World) : Prop where
  ex : ∃ v u, SB w.heap.size (KA w.heap.size A) (stQ xs).L (stQ xs).O (stQ xs).p v u X
  ab : ∀ b, A b → w.heap.size + 5 ≤ b
  keep : Ab U wd X
  bel : Below w.heap.size w X
section
variable {w wd : World} {U : Nat → Prop}
theorem SI.move {A A' : Nat → Prop} {xs : List Qx} {X Y : World} (h : SI w wd U A xs X) (hU : ∀ b, U b → b < w.heap.size + 5) (hi : Iter A X Y) (ha : Adds A A' X Y) : SI w wd U A' xs Y := by
  obtain ⟨v, u, hb⟩ := h.ex
  have hs := hb.sz
  have hk : ∀ b, b < w.heap.size + 5 → Y.heap[b]? = X.heap[b]? := fun b hb' => hi.keep b (by omega) (fun hA => by have := h.ab b hA; omega)
  have hab : ∀ b, A' b → w.heap.size + 5 ≤ b := fun b hb' => by
    rcases ha b hb' with h' | h'
    · exact h.ab b h'
    · omega
  have row : ∀ b, w.heap.size + 7 ≤ b → b < X.heap.size → ¬ KA w.heap.size A b → Y.heap[b]? = X.heap[b]? ∧ ¬ KA w.heap.size A' b := fun b h7 hlt hn => by
    have hnA : ¬ A b := fun h' => hn (.inr (.inr h'))
    refine ⟨hi.keep b hlt hnA, fun hK => ?_⟩
    rcases hK with h' | h' | h'
    · omega
    · omega
    · rcases ha b h' with h' | h'
      · exact hnA h'
      · omega
  refine ⟨⟨v, u, hb.kept hi.size (fun b _ h2 => hk b (by omega)) (fun b hb' => row b (hb.rl.lt b hb').1 (hb.rl.lt b hb').2 (hb.nl b hb')) (fun b hb' => row b (hb.ro.lt b hb').1 (hb.ro.lt b hb').2 (hb.no b hb')) ?_ ?_ ?_ ?_⟩, hab, ⟨hi.os.trans h.keep.os, hi.tape.trans h.keep.tape, hi.output.trans h.keep.output, Nat.le_trans h.keep.size hi.size, fun b hb' => (hk b (hU b hb')).trans (h.keep.block b hb')⟩, ⟨hi.os.trans h.bel.os, hi.tape.trans h.bel.tape, hi.output.trans h.bel.output, Nat.le_trans h.bel.size hi.size, fun b hb' => (hk b (by omega)).trans (h.bel.block b hb')⟩⟩
  · rintro (h' | h' | h')
    · omega
    · omega
    · have := hab _ h'; omega
  · rintro (h' | h' | h')
    · omega
    · omega
    · have := hab _ h'; omega
  · rintro (h' | h' | h')
    · omega
    · omega
    · have := hab _ h'; omega
  · rintro b (h' | h' | h')
    · have := hi.size; omega
    · have := hi.size; omega
    · rcases ha b h' with h' | h'
      · have := hb.kl b (.inr (.inr h')); have := hi.size; omega
      · omega
theorem SI.stays (hU : ∀ b, U b → b < w.heap.size + 5) : Stays (SI w wd U) := fun _ _ _ _ _ h hi ha => h.move hU hi ha
theorem SI.noMind (hU : ∀ b, U b → b < w.heap.size + 5) {A0 : Nat → Prop} : NoMindAt (w.heap.size + 5) A0 (SI w wd U) := by
  intro A xs X o' h hA hlt
  obtain ⟨v, u, hb⟩ := h.ex
  have hk : ∀ b, b ≠ w.heap.size + 5 + 1 → (X.putObj (w.heap.size + 5 + 1) o').heap[b]? = X.heap[b]? := fun b hb => World.putObj_heap_other hb
  have hs : (X.putObj (w.heap.size + 5 + 1) o').heap.size = X.heap.size := by simp
  exact ⟨⟨v, u, hb.kept (by omega) (fun b _ h2 => hk b (by omega)) (fun b hb' => ⟨hk b (by have := (hb.rl.lt b hb').1; omega), hb.nl b hb'⟩) (fun b hb' => ⟨hk b (by have := (hb.ro.lt b hb').1; omega), hb.no b hb'⟩) hb.k1 hb.k2 hb.k3 (fun b hb' => by have := hb.kl b hb'; omega)⟩, h.ab, ⟨h.keep.os, h.keep.tape, h.keep.output, by simpa using h.keep.size, fun b hb' => (hk b (by have := hU b hb'; omega)).trans (h.keep.block b hb')⟩, ⟨h.bel.os, h.bel.tape, h.bel.output, by simpa using h.bel.size, fun b hb' => (hk b (by omega)).trans (h.bel.block b hb')⟩⟩
end
mutual
theorem pre_low : ∀ (d : Tr) (m : Nat), ∀ p ∈ pre d m, m ≤ p.2
  | .mk r b l, m => by
    intro p hp
    rw [pre] at hp
    rcases List.mem_cons.1 hp with rfl | hp
    · exact Nat.le_refl _
    · have := preL_low l (m + 1) p hp; omega
theorem preL_low : ∀ (l : List Tr) (m : Nat), ∀ p ∈ preL l m, m ≤ p.2
  | [], m => by intro p hp; simp [preL] at hp
  | d :: l, m => by
    intro p hp
    rw [preL] at hp
    rcases List.mem_append.1 hp with hp | hp
    · exact pre_low d m p hp
    · exact preL_low l m p hp
end
theorem marks_mem : ∀ (k : Nat) (l : List (Tr × Nat)), ∀ q ∈ marks k l, (q.1, q.2.1) ∈ l
  | k, [], q, hq => by cases hq
  | k, p :: l, q, hq => by
    rcases List.mem_cons.1 hq with rfl | hq
    · exact List.mem_cons_self ..
    · exact List.mem_cons_of_mem _ (marks_mem _ l q hq)
/-- How long the slice in a box is. -/
def lenAt (W : World) (b : Nat) : Nat := match W.cell? ⟨b, 0, none⟩ with | some (.slice _ n _) => n | _ => 0
theorem lenAt_box {W : World} {b : Nat} {t : TypeId} {a : Option Addr} {n c : Nat} (h : Boxed W b t (.slice a n c)) : lenAt W b = n := by unfold lenAt; rw [h.cell]
set_option maxRecDepth 100000 in
set_option maxHeartbeats 8000000 in
theorem spans_any (d : Tr) (sa : Option Addr) (sc f : Nat) (w : World) (hk : TAt w w.heap.size f sa d.kids) (hsc : d.kids.length ≤ sc) (hlen : sz d ≤ 1000000000000) :
    Calls Tryd.prog 22 #[.agg #[.int .i64 d.rule, .int .u8 (d.byte.toNat : Int), .slice sa d.kids.length sc]] w fun e w' => (∃ v, e = .returned v ∧ w'.ownsRow w.heap.size 58 2 v (spn d 0 false).length (rcs (spn d 0 false))) ∧ Below w.heap.size w w' := by
  obtain ⟨i0, hinf, hz0, hz1, hz2⟩ := info_parts info58
  obtain ⟨j0, jinf, jz0, jz1, jz2⟩ := info_parts info3
  refine (callsIn_wide (n := 9)).1 ?_
  refine callsIn_of_wp_marks Tryd.func22 rfl trivial ?_ rfl
  simp only [Tryd.ntmps22, List.size_toArray, List.length_cons, List.length_nil, Nat.reduceAdd, Nat.reduceSub, Array.replicate_succ, Array.replicate_zero, List.push_toArray, List.append_toArray, List.nil_append, List.cons_append]
  gi_wp2_with (refine ⟨trivial, ?_⟩; gi_at_call 46; refine (callsIn_wide.2 (tparts_any d _ _)).mono ?_; rintro e w' ⟨rfl, rfl⟩)
  obtain ⟨w5, hw5⟩ : ∃ w5, ((((w.alloc (.cells #[.int .i64 d.rule, .int .u8 (d.byte.toNat : Int), .slice sa d.kids.length sc] 27)).alloc (.cells #[.slice none 0 0] 38)).alloc (.cells #[.slice none 0 0] 43)).alloc (.cells #[.int .i64 0] 3)).alloc (.cells #[.int .i64 d.rule, .int .u8 (d.byte.toNat : Int), .slice sa d.kids.length sc] 27) = w5 := ⟨_, rfl⟩
  have b1 := (((Boxed.new (w.alloc (.cells #[.int .i64 d.rule, .int .u8 (d.byte.toNat : Int), .slice sa d.kids.length sc] 27)) 38 (.slice none 0 0)).alloc (.cells #[.slice none 0 0] 43)).alloc (.cells #[.int .i64 0] 3)).alloc (.cells #[.int .i64 d.rule, .int .u8 (d.byte.toNat : Int), .slice sa d.kids.length sc] 27)
  have b2 := ((Boxed.new ((w.alloc (.cells #[.int .i64 d.rule, .int .u8 (d.byte.toNat : Int), .slice sa d.kids.length sc] 27)).alloc (.cells #[.slice none 0 0] 38)) 43 (.slice none 0 0)).alloc (.cells #[.int .i64 0] 3)).alloc (.cells #[.int .i64 d.rule, .int .u8 (d.byte.toNat : Int), .slice sa d.kids.length sc] 27)
  have b3 := (Boxed.new (((w.alloc (.cells #[.int .i64 d.rule, .int .u8 (d.byte.toNat : Int), .slice sa d.kids.length sc] 27)).alloc (.cells #[.slice none 0 0] 38)).alloc (.cells #[.slice none 0 0] 43)) 3 (.int .i64 0)).alloc (.cells #[.int .i64 d.rule, .int .u8 (d.byte.toNat : Int), .slice sa d.kids.length sc] 27)
  have s5 : w5.heap.size = w.heap.size + 5 := by rw [← hw5]; simp
  have hB5 : Below w.heap.size w w5 := by rw [← hw5]; exact ((((((Below.refl _ _).alloc (Nat.le_refl _) _).alloc (by simp) _).alloc (by simp; omega) _).alloc (by simp; omega) _).alloc (by simp; omega) _)
  simp only [World.size_alloc] at b1 b2 b3
  have t0 : ∀ j v, (#[.int .i64 d.rule, .int .u8 (d.byte.toNat : Int), .slice sa d.kids.length sc] : Array Value)[j]? = some v → w5.cell? ⟨w.heap.size + 1 + 1 + 1 + 1, j, none⟩ = some v := fun j v hv => by
    have := cell_new (w := (((w.alloc (.cells #[.int .i64 d.rule, .int .u8 (d.byte.toNat : Int), .slice sa d.kids.length sc] 27)).alloc (.cells #[.slice none 0 0] 38)).alloc (.cells #[.slice none 0 0] 43)).alloc (.cells #[.int .i64 0] 3)) (t := 27) j hv
    rw [hw5] at this; simpa using this
  rw [hw5] at b1 b2 b3
  rw [hw5]
  clear hw5
  obtain ⟨U, hUd⟩ : ∃ U : Nat → Prop, U = fun b => b < w.heap.size ∨ b = w.heap.size + 1 + 1 + 1 + 1 := ⟨_, rfl⟩
  have hU : ∀ b, U b → b < w.heap.size ∨ b = w.heap.size + 1 + 1 + 1 + 1 := fun b hb => by rw [hUd] at hb; exact hb
  have hU5 : ∀ b, U b → b < w.heap.size + 5 := fun b hb => by rcases hU b hb with h | h <;> omega
  have hd5 : TreeIn w5 U f (w.heap.size + 1 + 1 + 1 + 1) 0 d := ⟨by rw [hUd]; exact .inr rfl, sa, sc, t0 0 _ rfl, t0 1 _ rfl, t0 2 _ rfl, hsc, (hk.keep hB5).tin (fun b hb => by rw [hUd]; exact .inl hb)⟩
  clear t0
  refine range_law_h (kx := True) (F := Fence.wide) rfl (fun _ => by omega) (gf := 68) (lb := #[.pointer (some ⟨w.heap.size + 1 + 1 + 1 + 1, 0, none⟩)]) rfl trivial (enters_of Tryd.func68 (by kernel_rfl) rfl)
    (tparts_seq (9 - 1) (by omega) (w.heap.size + 1 + 1 + 1 + 1) U f d w5 (fun b hb => by have := hU5 b hb; omega) hd5 (by rw [pre_len]; exact hlen)) (fun b hb => by have := hU5 b hb; omega) (fun b hb => hb.elim) (Below.refl _ _) (fun _ => rfl)
    (SI w w5 U) YX (SI.stays hU5) (by rw [s5]; exact SI.noMind hU5) (fun _ _ _ _ _ _ h => h.elim) (fun _ _ _ _ _ h => h.elim)
    (fun W1 hb1 hs1 => ?start)
    (fun x a' X => ∃ Pb, X.heap[Pb]? = some (.cells #[.pointer (some ⟨x.b, x.o, none⟩), .int .i64 (x.deep : Int), .int .i64 (x.bytes : Int)] 79) ∧ X.cell? ⟨Pb, 1, none⟩ = some (.int .i64 (x.deep : Int)) ∧ X.cell? ⟨Pb, 2, none⟩ = some (.int .i64 (x.bytes : Int)) ∧ w.heap.size + 7 ≤ Pb ∧ Pb < X.heap.size ∧ a' = { tmps := #[.agg #[.int .i64 d.rule, .int .u8 (d.byte.toNat : Int), .slice sa d.kids.length sc], .pointer (some ⟨w.heap.size, 0, none⟩), .slice none 0 0, .pointer (some ⟨w.heap.size + 1, 0, none⟩), .pointer (some ⟨w.heap.size + 1 + 1, 0, none⟩), .pointer (some ⟨w.heap.size + 1 + 1 + 1, 0, none⟩), .pointer (some ⟨Pb, 0, none⟩), undef, undef, .agg #[.int .i64 d.rule, .int .u8 (d.byte.toNat : Int), .slice sa d.kids.length sc], .func (.func 68) #[] #[.pointer (some ⟨w.heap.size + 1 + 1 + 1 + 1, 0, none⟩)], .agg #[.pointer (some ⟨x.b, x.o, none⟩), .int .i64 (x.deep : Int), .int .i64 (x.bytes : Int)], undef, undef, undef, undef, undef, undef, undef, undef, undef, undef, undef, undef, undef, undef, undef, undef, undef, undef, undef, undef, undef, undef, undef, undef, undef, undef, undef, undef, undef, undef, undef, undef, undef, undef, undef, undef, undef, undef, undef, undef, undef, undef, undef, undef, undef, undef, undef], defers := [] }) ?ax ?assign ?body ?done ?stop
  case start =>
    have h1 : ∀ b, b < w.heap.size + 5 → W1.heap[b]? = w5.heap[b]? := fun b hb => hb1.block b (by omega)
    refine ⟨⟨.slice none 0 0, .slice none 0 0, ⟨(h1 _ (by omega)).trans b1, (h1 _ (by omega)).trans b2, (h1 _ (by omega)).trans b3, World.ownsRow_nil _ _ _ _, World.ownsRow_nil _ _ _ _, fun b hb => (by cases hb), fun b hb => (by cases hb), ?_, ?_, ?_, ?_, by omega⟩⟩, fun b hb => hb.elim, Ab.of_below hb1 (fun b hb => by have := hU5 b hb; omega), hB5.trans (hb1.mono (by omega))⟩
    · rintro (h' | h' | h') <;> first | omega | exact h'
    · rintro (h' | h' | h') <;> first | omega | exact h'
    · rintro (h' | h' | h') <;> first | omega | exact h'
    · rintro b (h' | h' | h') <;> first | omega | exact h'.elim
  case ax =>
    rintro x a' X o' ⟨Pb, hPb, c1, c2, h1, h2, rfl⟩ hlt
    have hk : ∀ q, (X.putObj (w5.heap.size + 1) o').cell? ⟨Pb, q, none⟩ = X.cell? ⟨Pb, q, none⟩ := fun q => World.cell?_of_block (a := ⟨Pb, q, none⟩) (World.putObj_heap_other (by show Pb ≠ _; omega))
    exact ⟨Pb, (World.putObj_heap_other (by show Pb ≠ _; omega)).trans hPb, (hk 1).trans c1, (hk 2).trans c2, h1, by simpa using h2, rfl⟩
  case assign =>
    intro l' A xs x X K hI hlt hx hA hK
    obtain ⟨v0, u0, hsb⟩ := hI.ex
    have hsz := hsb.sz
    have HK : Hid (∀ a', a' = _ → K a' (X.alloc (.cells #[.pointer (some ⟨x.b, x.o, none⟩), .int .i64 (x.deep : Int), .int .i64 (x.bytes : Int)] 79))) := fun a' ha' => by
      have hb : Below X.heap.size X (X.alloc (.cells #[.pointer (some ⟨x.b, x.o, none⟩), .int .i64 (x.deep : Int), .int .i64 (x.bytes : Int)] 79)) := (Below.refl _ _).alloc (Nat.le_refl _) _
      exact hK a' _ ⟨hb.block _ (by omega), hb.block _ (by omega)⟩ ⟨Ab.of_below hb (fun b hb => by have := hU5 b hb; omega), fun b hA' hlt' => hb.block b hlt'⟩ (hI.move hU5 (Iter.of_below hb) adds_same) ⟨X.heap.size, World.alloc_heap_new _ _, cell_new 1 rfl, cell_new 2 rfl, by omega, by simp, ha'⟩
    unfold Qx.enc
    clear hK hI hx hsb
    gi_wp2
    exact HK.out _ rfl
  case body =>
    rintro l' A xs x a' X hI ⟨Pb, hPb, p1, p2, hP1, hP2, rfl⟩ hlt hx hA
    have hbt := marks_bytes 0 _ _ hx.2.mem
    have hbt' : x.bytes ≤ 1 := by have h' : x.bytes = 0 ∨ x.bytes = 1 := hbt; omega
    have hdm := marks_mem 0 _ _ hx.2.mem
    have hd1 : 1 ≤ x.deep := pre_low d 1 _ hdm
    have hd2 : x.deep ≤ 1000000000000 := by have h' := pre_deep hdm; rw [pre_len] at h'; exact Nat.le_trans h' hlen
    have hlt' : xs.length ≤ 1000000000000 := by omega
    have hok : Sok (stQ xs) xs.length := by
      have h' := Sok.zero.run (l := xs.map Qx.say) (fun q hq => by
        obtain ⟨r, hr⟩ := hx.2
        have : q ∈ marks 0 (pre d 1) := by rw [← hr]; exact List.mem_append_left _ hq
        have := marks_bytes 0 _ _ this
        omega)
      simpa [stQ] using h'
    obtain ⟨v, u, hsb⟩ := hI.ex
    have hsz := hsb.sz
    obtain ⟨K, hKd⟩ : ∃ K : Nat → Prop, K = fun b => KA w.heap.size A b ∨ b = Pb := ⟨_, rfl⟩
    have hKP : K Pb := by rw [hKd]; exact .inr rfl
    have hsK : SB w.heap.size K (stQ xs).L (stQ xs).O (stQ xs).p v u X := by
      have nP : ∀ (e : TypeId) (k n : Nat) (y : Value) (ys : List Value), e ≠ 79 → X.ownsRow (w.heap.size + 7) e k y n ys → ∀ b, y.ownBlock = some b → b ≠ Pb := fun e k n y ys he hr b hb hbp => by
        obtain ⟨cur, hg⟩ := row_type hr hb
        rw [hbp, hPb] at hg
        simp at hg
        exact he hg.2.symm
      subst hKd
      refine hsb.kept (Nat.le_refl _) (fun _ _ _ => rfl) (fun b hb => ⟨rfl, ?_⟩) (fun b hb => ⟨rfl, ?_⟩) ?_ ?_ ?_ ?_
      · rintro (h' | h')
        · exact hsb.nl b hb h'
        · exact nP 58 2 _ _ _ (by decide) hsb.rl b hb h'
      · rintro (h' | h')
        · exact hsb.no b hb h'
        · exact nP 3 1 _ _ _ (by decide) hsb.ro b hb h'
      · rintro (h' | h')
        · exact hsb.k1 h'
        · omega
      · rintro (h' | h')
        · exact hsb.k2 h'
        · omega
      · rintro (h' | h')
        · exact hsb.k3 h'
        · omega
      · rintro b (h' | h')
        · exact hsb.kl b h'
        · omega
    have HFIN : Hid (∀ Y v' u', SB w.heap.size K ((stQ xs).step x.deep x.bytes).L ((stQ xs).step x.deep x.bytes).O ((stQ xs).step x.deep x.bytes).p v' u' Y → Kp K X Y → Two (w.heap.size + 5) X Y ∧ KeepU U A X Y ∧ SI w w5 U A (xs ++ [x]) Y) := fun Y v' u' h1 h2 => by
      have kb : ∀ b, b < X.heap.size → KA w.heap.size A b → Y.heap[b]? = X.heap[b]? := fun b hb hK => h2.blk b hb (by rw [hKd]; exact .inl hK)
      have hab : Ab U X Y := ⟨h2.os, h2.tape, h2.output, h2.size, fun b hb => kb b (by have := hU5 b hb; omega) (by rcases hU b hb with h | h <;> unfold KA <;> omega)⟩
      refine ⟨⟨kb _ (by omega) (.inr (.inl (by omega))), kb _ (by omega) (.inr (.inl (by omega)))⟩, ⟨hab, fun b hb hlt => kb b hlt (.inr (.inr hb))⟩, ⟨⟨v', u', ?_⟩, hI.ab, hI.keep.trans hab, hI.bel.trans ⟨h2.os, h2.tape, h2.output, h2.size, fun b hb => kb b (by omega) (.inl (by omega))⟩⟩⟩
      rw [stQ_snoc]
      subst hKd
      exact h1.kept (Nat.le_refl _) (fun _ _ _ => rfl) (fun b hb => ⟨rfl, fun h => h1.nl b hb (.inl h)⟩) (fun b hb => ⟨rfl, fun h => h1.no b hb (.inl h)⟩) (fun h => h1.k1 (.inl h)) (fun h => h1.k2 (.inl h)) (fun h => h1.k3 (.inl h)) (fun b hb => h1.kl b (.inl hb))
    clear hsb hI hKd hx hbt hdm hPb
    unfold Sm.step at HFIN
    have hLb : (stQ xs).L.length ≤ 1000000000000 := by rw [hok.len]; exact hlt'
    have hOl := hok.ol
    have hOm := hok.o
    have hpl := hok.p
    clear hok
    generalize (stQ xs).L = L at *
    generalize (stQ xs).O = O at *
    generalize (stQ xs).p = p at *
    gi_wp2
    gi_loopw [] (fun W => ∃ (j : Nat) (u' : Value), j ≤ O.length ∧ (j = O.length ∨ x.deep - 1 ≤ j) ∧ SB w.heap.size K (hiAll p L (O.drop j)) (O.take j) p v u' W ∧ Kp K X W) (fun W => lenAt W (w.heap.size + 1 + 1))
    case atStart => exact ⟨O.length, u, Nat.le_refl _, .inl rfl, by rw [List.drop_length, List.take_length]; exact hsK, Kp.refl _ _⟩
    case round =>
      obtain ⟨j, u', hj, hjd, hS, hKp⟩ := hrel
      have q1 := (hKp.cell hP2 hKP 1).trans p1
      have q2 := (hKp.cell hP2 hKP 2).trans p2
      clear hsK
      have hjl : (O.take j).length = j := by simp; omega
      by_cases hge : x.deep ≤ j
      · obtain ⟨m, rfl⟩ : ∃ m, j = m + 1 := ⟨j - 1, by omega⟩
        obtain ⟨o, ho⟩ : ∃ o, O[m]? = some o := ⟨O[m], by simp⟩
        have hoL := hOm o (List.mem_of_getElem? ho)
        have htk : O.take (m + 1) = O.take m ++ [o] := by rw [List.take_add_one, ho]; rfl
        have hdr : hiAll p L (O.drop m) = hi1 p (hiAll p L (O.drop (m + 1))) o := by
          have hlt := (List.getElem?_eq_some_iff.1 ho).1
          rw [List.drop_eq_getElem_cons hlt, (List.getElem?_eq_some_iff.1 ho).2, hiAll_cons]
        have hml : (O.take m).length = m := by simp; omega
        rw [htk] at hS
        have HD : Hid _ := hdr
        clear hdr htk hjl hOm ho
        obtain ⟨gu, cu, hu', hgu, hgus, hcu, ho1, hpop⟩ := hS.pop
        have HPOP : Hid _ := fun (L' : List (Nat × Nat)) (Y : World) (h : SB w.heap.size K L' (O.take m ++ [o]) p v u' Y) => hpop h
        obtain ⟨gl, cl, hv', hgl, hgls, ⟨old, hold⟩, hfr, hS2, hK2⟩ := hS.drew.hi (o := o) (by rw [hiAll_len]; exact hoL)
        have c1 := hS.bl.cell
        have c2 := hS.bo.cell
        have c3 := hS.bp.cell
        subst hu'
        subst hv'
        rw [hiAll_len] at *
        rw [hml] at *
        have hge' : (x.deep : Int) ≤ ((m + 1 : Nat) : Int) := by omega
        have hsb : IntKind.i64.wrap (((m + 1 : Nat) : Int) - 1) = (m : Int) := by rw [IntKind.wrap_i64]; omega
        have hmm : (m : Int) < (m : Int) + 1 := by omega
        have hm0 : (0 : Int) ≤ (m : Int) := by omega
        have hw0 : IntKind.i64.wrap (m : Int) = (m : Int) := by rw [IntKind.wrap_i64]; omega
        have hoo : (o : Int) < (L.length : Int) := by omega
        have hne : gl ≠ gu := hS.apart rfl rfl
        have hre : (wr.drew.setCell ⟨gl, o * 2 + 1, none⟩ (.int .i64 (p : Int))).cell? ⟨gu, m, none⟩ = some (.int .i64 (o : Int)) := (World.cell?_setCell_far _ _ _ _ hne).trans ho1
        have HRE : Hid (_ ∧ _ ∧ _ ∧ _) := ⟨hS2.bl.cell, hS2.bo.cell, hS2.bp.cell, hre⟩
        have HCON : Hid (wr.drew.cell? ⟨w.heap.size + 1, 0, none⟩ = _ ∧ wr.drew.cell? ⟨w.heap.size + 1 + 1, 0, none⟩ = _ ∧ wr.drew.cell? ⟨w.heap.size + 1 + 1 + 1, 0, none⟩ = _ ∧ wr.drew.cell? ⟨gu, m, none⟩ = _) := ⟨c1, c2, c3, ho1⟩
        have HS : Hid _ := hS
        have HS2 : Hid _ := hS2
        have HK2 : Hid _ := hK2
        clear hS hS2 hK2 hpop hre hne
        gi_wp2
        refine region_held l' _ (by kernel_rfl) (noDefer_spec (by kernel_rfl)) (S := fun W' => W'.cell? ⟨w.heap.size + 1, 0, none⟩ = some (.slice (some ⟨gl, 0, none⟩) L.length cl) ∧ W'.cell? ⟨w.heap.size + 1 + 1, 0, none⟩ = some (.slice (some ⟨gu, 0, none⟩) (m + 1) cu) ∧ W'.cell? ⟨w.heap.size + 1 + 1 + 1, 0, none⟩ = some (.int .i64 (p : Int)) ∧ W'.cell? ⟨gu, m, none⟩ = some (.int .i64 (o : Int))) (fun ⟨_, _, h⟩ => h) HCON.out (fun hHeld => ?_)
        refine wpAnyH_take (i := 0) (v := ?v1) rfl (by kernel_rfl) (by kernel_rfl) (by kernel_rfl) (fun _ _ _ h => h) (Or.inl ⟨by rfl, ?y1⟩) (by assumption) ?_
        case y1 => (intro w hSw; (try dsimp only at hSw); go_simp <;> with_reducible rfl)
        try simp only [Act.put, List.getElem_toArray, List.getElem_cons_zero, List.setIfInBounds_toArray, List.set_cons_zero, List.set_cons_succ]
        refine wpAnyH_take (i := 1) (v := ?v2) rfl (by kernel_rfl) (by kernel_rfl) (by kernel_rfl) (fun _ _ _ h => h) (Or.inl ⟨by rfl, ?y2⟩) (by assumption) ?_
        case y2 => (intro w hSw; (try dsimp only at hSw); go_simp <;> with_reducible rfl)
        try simp only [Act.put, List.getElem_toArray, List.getElem_cons_zero, List.getElem_cons_succ, List.setIfInBounds_toArray, List.set_cons_zero, List.set_cons_succ]
        refine wpAnyH_take (i := 2) (v := ?v3) rfl (by kernel_rfl) (by kernel_rfl) (by kernel_rfl) (fun _ _ _ h => h) (Or.inl ⟨by rfl, ?y3⟩) (by assumption) ?_
        case y3 => (intro w hSw; (try dsimp only at hSw); go_simp <;> with_reducible rfl)
        try simp only [Act.put, List.getElem_toArray, List.getElem_cons_zero, List.getElem_cons_succ, List.setIfInBounds_toArray, List.set_cons_zero, List.set_cons_succ]
        refine wpAnyH_take (i := 3) (v := ?v4) rfl (by kernel_rfl) (by kernel_rfl) (by kernel_rfl) (fun _ _ _ h => h) (Or.inl ⟨by rfl, ?y4⟩) (by assumption) ?_
        case y4 => (intro w hSw; (try dsimp only at hSw); go_simp <;> with_reducible rfl)
        try simp only [Act.put, List.getElem_toArray, List.getElem_cons_zero, List.getElem_cons_succ, List.setIfInBounds_toArray, List.set_cons_zero, List.set_cons_succ]
        refine wpAnyH_take (i := 4) (v := ?v5) rfl (by kernel_rfl) (by kernel_rfl) (by kernel_rfl) (fun _ _ _ h => h) (Or.inl ⟨by rfl, ?y5⟩) (by assumption) ?_
        case y5 => (intro w hSw; (try dsimp only at hSw); go_simp <;> with_reducible rfl)
        try simp only [Act.put, List.getElem_toArray, List.getElem_cons_zero, List.getElem_cons_succ, List.setIfInBounds_toArray, List.set_cons_zero, List.set_cons_succ]
        refine wpAnyH_take (i := 5) (v := ?v6) rfl (by kernel_rfl) (by kernel_rfl) (by kernel_rfl) (fun _ _ _ h => h) (Or.inl ⟨by rfl, ?y6⟩) (by assumption) ?_
        case y6 => (intro w hSw; (try dsimp only at hSw); go_simp <;> with_reducible rfl)
        try simp only [Act.put, List.getElem_toArray, List.getElem_cons_zero, List.getElem_cons_succ, List.setIfInBounds_toArray, List.set_cons_zero, List.set_cons_succ]
        refine wpAnyH_take (i := 6) (v := ?v7) rfl (by kernel_rfl) (by kernel_rfl) (by kernel_rfl) (fun _ _ _ h => h) (Or.inl ⟨by rfl, ?y7⟩) (by assumption) ?_
        case y7 => (intro w hSw; (try dsimp only at hSw); go_simp <;> with_reducible rfl)
        try simp only [Act.put, List.getElem_toArray, List.getElem_cons_zero, List.getElem_cons_succ, List.setIfInBounds_toArray, List.set_cons_zero, List.set_cons_succ]
        refine wpAnyH_take (i := 7) (v := ?v8) rfl (by kernel_rfl) (by kernel_rfl) (by kernel_rfl) (fun _ _ _ h => h) (Or.inl ⟨by rfl, ?y8⟩) (by assumption) ?_
        case y8 => (intro w hSw; (try dsimp only at hSw); go_simp <;> with_reducible rfl)
        try simp only [Act.put, List.getElem_toArray, List.getElem_cons_zero, List.getElem_cons_succ, List.setIfInBounds_toArray, List.set_cons_zero, List.set_cons_succ]
        refine wpAnyH_take (i := 8) (v := ?v9) rfl (by kernel_rfl) (by kernel_rfl) (by kernel_rfl) (fun _ _ _ h => h) (Or.inl ⟨by rfl, ?y9⟩) (by assumption) ?_
        case y9 => (intro w hSw; (try dsimp only at hSw); go_simp <;> with_reducible rfl)
        try simp only [Act.put, List.getElem_toArray, List.getElem_cons_zero, List.getElem_cons_succ, List.setIfInBounds_toArray, List.set_cons_zero, List.set_cons_succ]
        refine wpAnyH_take (i := 9) (v := ?v10) rfl (by kernel_rfl) (by kernel_rfl) (by kernel_rfl) (fun _ _ _ h => h) (Or.inl ⟨by rfl, ?y10⟩) (by assumption) ?_
        case y10 => (intro w hSw; (try dsimp only at hSw); go_simp <;> with_reducible rfl)
        try simp only [Act.put, List.getElem_toArray, List.getElem_cons_zero, List.getElem_cons_succ, List.setIfInBounds_toArray, List.set_cons_zero, List.set_cons_succ]
        refine wpAnyH_ready (rs := [10]) (by kernel_rfl) (by simp) ?_
        refine (AllReadyH.cons rfl (fun K hK => ?_) AllReadyH.nil)
        go_simp
        refine hK.out _ _ HRE.out (fun hHeld2 => ?_)
        clear hK K hHeld2 hHeld
        refine wpAnyH_done (by kernel_rfl) ?_ _
        obtain ⟨W7, hW7⟩ : ∃ W7, (wr.setCell ⟨gl, o * 2 + 1, none⟩ (.int .i64 (p : Int))).drew = W7 := ⟨_, rfl⟩
        rw [hW7]
        have HS7 : Hid (SB w.heap.size K (hi1 p (hiAll p L (O.drop (m + 1))) o) (O.take m ++ [o]) p (.slice (some ⟨gl, 0, none⟩) L.length cl) (.slice (some ⟨gu, 0, none⟩) (m + 1) cu) W7) := by show SB _ _ _ _ _ _ _ _; rw [← hW7]; exact HS2.out
        have HK7 : Hid (Kp K X W7) := by show Kp _ _ _; rw [← hW7]; exact hKp.trans ((Kp.drew _ _).trans HK2.out)
        rename_i aN
        refine aN _ _ ?_
        have c27 := HS7.out.bo.cell
        have f27 := HS7.out.bo.frozen
        have hmc : (m : Int) ≤ (cu : Int) := by omega
        clear hW7 hold hfr c1 c2 c3 q1 q2 ho1
        gi_wp2
        have hp8 := HPOP.out _ _ HS7.out
        have l1 := lenAt_box hp8.bo
        have l2 := lenAt_box HS.out.bo
        refine ⟨⟨m, _, by omega, .inr (by omega), by rw [HD.out]; exact hp8, HK7.out.trans (Kp.set W7 _ _ HS7.out.k2)⟩, ?_⟩
        rw [l1, l2]; omega
      · have e1 : O.drop j = O.drop (x.deep - 1) := by
          rcases hjd with h | h
          · rw [List.drop_eq_nil_of_le (by omega), List.drop_eq_nil_of_le (by omega)]
          · rw [show x.deep - 1 = j by omega]
        have e2 : O.take j = O.take (x.deep - 1) := by
          rcases hjd with h | h
          · rw [List.take_of_length_le (by omega), List.take_of_length_le (by omega)]
          · rw [show x.deep - 1 = j by omega]
        have hO2 : (O.take j).length < x.deep := by omega
        rw [e1, e2] at hS
        rw [e2] at hO2
        have hL2 : (hiAll p L (O.drop (x.deep - 1))).length = L.length := hiAll_len _ _ _
        have HL2 : Hid _ := hL2
        clear e1 e2 hjl hjd hL2 hOm hj
        rw [← HL2.out] at hLb
        rw [← HL2.out] at HFIN
        generalize hiAll p L (O.drop (x.deep - 1)) = L2 at *
        generalize O.take (x.deep - 1) = O2 at *
        have hO2' : O2.length ≤ 1000000000000 := by omega
        have hp' : p ≤ 1000000000000 := by omega
        obtain ⟨ua, uc, hu⟩ := row_slice hS.ro
        obtain ⟨va, vc, hv⟩ := row_slice hS.rl
        subst hu
        subst hv
        have c1 := hS.bl.cell
        have c2 := hS.bo.cell
        have hlti : (O2.length : Int) < (x.deep : Int) := by omega
        have HS : Hid _ := hS
        have HRO := hS.ro
        have hsz2 := hS.sz
        have hcO : Hid (∀ (q : Nat) (w : World) j u, [Value.int .i64 (q : Int)][j]? = some u → (w.alloc (.cells #[.int .i64 (q : Int)] 3)).cell? ((⟨w.heap.size, 0, none⟩ : Addr).add j) = some u) := fun q w j u hu => by
          have hadd : (⟨w.heap.size, 0, none⟩ : Addr).add j = ⟨w.heap.size, j, none⟩ := by unfold Addr.add; split <;> simp_all
          rw [hadd, World.cell?_alloc_at _ _ _ _ rfl]; simpa using hu
        have hcL : Hid (∀ (q : Nat) (w : World) j u, [Value.int .i64 (q : Int), .int .i64 0][j]? = some u → (w.alloc (.cells #[.int .i64 (q : Int), .int .i64 0] 58)).cell? ((⟨w.heap.size, 0, none⟩ : Addr).add j) = some u) := fun q w j u hu => by
          have hadd : (⟨w.heap.size, 0, none⟩ : Addr).add j = ⟨w.heap.size, j, none⟩ := by unfold Addr.add; split <;> simp_all
          rw [hadd, World.cell?_alloc_at _ _ _ _ rfl]; simpa using hu
        clear hS
        gi_wp2_with (gi_at_builtin; refine wpListIn_append_own_at _ rfl _ _ 43 rfl (w.heap.size + 7) 3 j0 _ 1 8 Tryd.underlying43 jinf jz0 jz1 jz2 rfl (by decide) _ _ _ rfl (HRO.alloc _) ⟨_, 0, none⟩ 1 1 [.int .i64 (L2.length : Int)] rfl rfl (hcO.out _ _) (by intro u hu; simp at hu; rw [hu]; rfl) (by unfold maxLen; omega) (by omega) (by simp; omega) ?_)
        intro u2 w6 hown6 hg6 _ hat6
        have hat6' : u2.ownBlock = (Value.slice ua O2.length uc).ownBlock ∨ u2.ownBlock = some (wr.alloc (.cells #[.int .i64 (L2.length : Int)] 3)).heap.size := by rw [World.size_alloc]; exact hat6
        obtain ⟨hb6, hS6, hK6⟩ := HS.out.pushO (tmp := .cells #[.int .i64 (L2.length : Int)] 3) hown6 hg6 hat6'
        obtain ⟨ua2, uc2, hu2⟩ := row_slice hown6
        subst hu2
        obtain ⟨W6, hW6⟩ : ∃ W6, w6.setCell ⟨w.heap.size + 1 + 1, 0, none⟩ (.slice ua2 (O2.length + 1) uc2) = W6 := ⟨_, rfl⟩
        have c6 := hb6.cell
        have f6 := hb6.frozen
        rw [hW6] at hS6 hK6
        have HK6 : Hid _ := hKp.trans hK6
        have HRL := hS6.rl
        have hsz6 := hS6.sz
        have c61 := hS6.bl.cell
        have c63 := hS6.bp.cell
        have HS6 : Hid _ := hS6
        subst hW6
        have hcL6 : Hid (∀ j u, [Value.int .i64 (p : Int), .int .i64 0][j]? = some u → ((w6.setCell ⟨w.heap.size + 1 + 1, 0, none⟩ (.slice ua2 (O2.length + 1) uc2)).alloc (.cells #[.int .i64 (p : Int), .int .i64 0] 58)).cell? ((⟨w6.heap.size, 0, none⟩ : Addr).add j) = some u) := fun j u hu => by
          have h' := hcL.out p (w6.setCell ⟨w.heap.size + 1 + 1, 0, none⟩ (.slice ua2 (O2.length + 1) uc2)) j u hu
          have e : (w6.setCell ⟨w.heap.size + 1 + 1, 0, none⟩ (.slice ua2 (O2.length + 1) uc2)).heap.size = w6.heap.size := by simp [World.setCell]
          rw [e] at h'
          exact h'
        clear hS6 hK6 hg6 hat6 hat6' hown6 hb6 hKp c1 c2
        gi_wp2_with (gi_at_builtin; refine wpListIn_append_own_at _ rfl _ _ 38 rfl (w.heap.size + 7) 58 i0 _ 2 16 Tryd.underlying38 hinf hz0 hz1 hz2 rfl (by decide) _ _ _ rfl (HRL.alloc _) ⟨_, 0, none⟩ 1 1 [.int .i64 (p : Int), .int .i64 0] rfl rfl hcL6.out (by intro u hu; simp at hu; rcases hu with rfl | rfl <;> rfl) (by unfold maxLen; omega) (by omega) (by rw [World.size_alloc]; omega) ?_)
        intro v2 w7 hown7 hg7 _ hat7
        have hat7' : v2.ownBlock = (Value.slice va L2.length vc).ownBlock ∨ v2.ownBlock = some ((w6.setCell ⟨w.heap.size + 1 + 1, 0, none⟩ (.slice ua2 (O2.length + 1) uc2)).alloc (.cells #[.int .i64 (p : Int), .int .i64 0] 58)).heap.size := by rw [World.size_alloc]; simpa [World.setCell] using hat7
        obtain ⟨hb7, hS7, hK7⟩ := HS6.out.pushL (r := (p, 0)) (tmp := .cells #[.int .i64 (p : Int), .int .i64 0] 58) hown7 hg7 hat7'
        obtain ⟨va2, vc2, hv2⟩ := row_slice hown7
        subst hv2
        have c7 := hb7.cell
        have f7 := hb7.frozen
        have HK7 : Hid _ := HK6.out.trans hK7
        have q2' := (HK7.out.cell hP2 hKP 2).trans p2
        have c73 := hS7.bp.cell
        have f73 := hS7.bp.frozen
        have hwp : IntKind.i64.wrap ((p : Int) + (x.bytes : Int)) = ((p + x.bytes : Nat) : Int) := by rw [IntKind.wrap_i64]; omega
        have HS7 : Hid _ := hS7
        clear hS7 hK7 hg7 hat7 hat7' hown7 hb7 c6 f6 c61 c63
        gi_wp2
        rw [s5]
        exact HFIN.out _ _ _ (HS7.out.setP _).1 (HK7.out.trans (HS7.out.setP _).2)
  case done =>
    rintro D A xs X hD ⟨hS, hT⟩ hI hK
    obtain ⟨v, u, hsb⟩ := hI.ex
    have hall : hiAll (stQ xs).p (stQ xs).L (stQ xs).O = spn d 0 false := by unfold stQ; rw [hS]; exact run_all d
    have hxl : xs.length ≤ 1000000000000 := by
      have h' := congrArg List.length hS
      rw [List.length_map, marks_len, pre_len] at h'
      omega
    have hok : Sok (stQ xs) xs.length := by
      have h' := Sok.zero.run (l := xs.map Qx.say) (fun q hq => by
        rw [hS] at hq
        have := marks_bytes 0 _ _ hq
        omega)
      simpa [stQ] using h'
    have hLb : (stQ xs).L.length ≤ 1000000000000 := by rw [hok.len]; exact hxl
    have hOb : (stQ xs).O.length ≤ 1000000000000 := by have := hok.ol; omega
    have hOm := hok.o
    have hD5 : D = w.heap.size + 5 := by omega
    have HEND : Hid (∀ Y, Kp (KA w.heap.size A) X Y → Y.heap[D]? = some (.deferred (some [])) ∧ Below w.heap.size w (Y.putObj D (.deferred none)) ∧ ∀ (v' : Value) (n : Nat) (zs : List Value), Y.ownsRow (w.heap.size + 7) 58 2 v' n zs → (Y.putObj D (.deferred none)).ownsRow w.heap.size 58 2 v' n zs) := fun Y hY => by
      have hsz := hsb.sz
      have kD : ∀ b, b ≠ D → (Y.putObj D (.deferred none)).heap[b]? = Y.heap[b]? := fun b hb => World.putObj_heap_other hb
      refine ⟨(hY.blk D (by omega) (.inr (.inl (by omega)))).trans hK, ⟨hY.os.trans hI.bel.os, hY.tape.trans hI.bel.tape, hY.output.trans hI.bel.output, by simpa using Nat.le_trans hI.bel.size hY.size, fun b hb => (kD b (by omega)).trans ((hY.blk b (by omega) (.inl (by omega))).trans (hI.bel.block b hb))⟩, fun v' n zs hr => row_base (row_ab hr (fun g hg => kD g (by have := (hr.lt g hg).1; omega))) (by omega)⟩
    clear hok hI hS hT hd5 b1 b2 b3 hK hD
    generalize (stQ xs).L = L at *
    generalize (stQ xs).O = O at *
    generalize (stQ xs).p = p at *
    obtain ⟨ua, uc, hu⟩ := row_slice hsb.ro
    obtain ⟨va, vc, hv⟩ := row_slice hsb.rl
    subst hu
    subst hv
    have c2 := hsb.bo.cell
    have HALL : Hid _ := hall
    have HD5 : Hid _ := hD5
    clear hall hD5
    gi_wp2
    gi_loopw [48] (fun i W => ∃ k : Nat, k ≤ O.length ∧ i = .int .i64 (k : Int) ∧ SB w.heap.size (KA w.heap.size A) (hiAll p L (O.take k)) O p (.slice va L.length vc) (.slice ua O.length uc) W ∧ Kp (KA w.heap.size A) X W) (fun i _ => O.length - (intOf i).toNat)
    case atStart => exact ⟨0, by omega, rfl, hsb, Kp.refl _ _⟩
    case round =>
      obtain ⟨k, hk, rfl, hS, hKp⟩ := hrel
      clear hsb c2
      by_cases hlt : k < O.length
      · obtain ⟨o, ho⟩ : ∃ o, O[k]? = some o := ⟨O[k], by simp⟩
        have hoL := hOm o (List.mem_of_getElem? ho)
        obtain ⟨gu, cu, hu, _⟩ := row_at hS.ro (by omega)
        have hou := own_cell (hu ▸ hS.ro) (ics_get ho)
        injection hu with hu1 hu2 hu3
        subst hu1
        obtain ⟨gl, cl, hv, hgl, hgls, ⟨old, hold⟩, hfr, hS2, hK2⟩ := hS.hi (o := o) (by rw [hiAll_len]; exact hoL)
        rw [hiAll_len] at hv
        injection hv with hv1 hv2 hv3
        subst hv1
        have c1 := hS.bl.cell
        have c3 := hS.bp.cell
        have co := hou.1
        have hnx : hi1 p (hiAll p L (O.take k)) o = hiAll p L (O.take (k + 1)) := by
          rw [List.take_add_one, ho]
          show _ = hiAll p L (O.take k ++ [o])
          rw [hiAll_append]
          show _ = hiAll p (hi1 p L o) (O.take k)
          rw [hiAll_hi1]
        rw [hnx] at hS2
        have hki : (k : Int) < (O.length : Int) := by omega
        have hkI : (k : Int) ≤ 1000000000000 := by omega
        have HS2 : Hid _ := hS2
        have HK2 : Hid _ := hKp.trans hK2
        clear hS hS2 hK2 hKp hnx hou hOm ho
        gi_wp2
        exact ⟨⟨k + 1, by omega, by go_num, HS2.out, HK2.out⟩, by simp [intOf]; omega⟩
      · obtain rfl : k = O.length := by omega
        rw [List.take_length, HALL.out] at hS
        have c1 := hS.bl.cell
        obtain ⟨h1, h2, h3⟩ := HEND.out _ hKp
        have HF : Hid ((∃ v', Ending.returned (.slice va L.length vc) = .returned v' ∧ (wr.putObj D (.deferred none)).ownsRow w.heap.size 58 2 v' (spn d 0 false).length (rcs (spn d 0 false))) ∧ Below w.heap.size w (wr.putObj D (.deferred none))) := ⟨⟨_, rfl, h3 _ _ _ hS.rl⟩, h2⟩
        clear hS hKp h2 h3
        gi_wp2
        refine ⟨by simp, .inl ⟨_, _, rfl, run_takeDeferred h1, ?_⟩⟩
        exact ⟨_, by simp [results, Tryd.results22, go_sem], HF.out⟩
  case stop =>
    rintro D c A xs X hD ⟨hS, hT⟩ hX hK
    exact hX.elim
end Go.Proofs.YtlnlkbkmnkjbhaaDoor
