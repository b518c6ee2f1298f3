/- The texts of a term's parts, in memory of their own. -/
import Derived.Test.YtlkcadibjmfmcaaDoorYa
import Derived.Test.YtlkcadibjmfmcaaDoorNf
namespace Go.Proofs.YtlkcadibjmfmcaaDoor.Y
open Go.RowKit Go.Shelf

attribute [local go_sem] Oper.semAt_some

theorem txx_keepT {X Y : World} {S S' : Nat → Prop} {v : Value} {t : List UInt8} (h : Txx X S v t) (hk : ∀ b, S b → Tag X b 5 → Y.heap[b]? = X.heap[b]? ∧ S' b) : Txx Y S' v t := by
  obtain ⟨ta, tc, e, h1, h2, h3⟩ := h
  refine ⟨ta, tc, e, h1, h2, fun i c hi => ?_⟩
  obtain ⟨b, o, e, hb, ⟨hg, hf⟩, hc⟩ := h3 i c hi
  obtain ⟨hh, hs⟩ := hk b hb hg
  exact ⟨b, o, e, hs, ⟨hg.keep hh, fun q => (frozen_of_block hh q).trans (hf q)⟩, (World.cell?_of_block (a := ⟨b, o + i, none⟩) hh).trans hc⟩
/-- What is done to the texts of parts, and to nothing else. -/
structure Ot (w wd : World) (xs : List Px) (X : World) : Prop where
  os : X.os = wd.os
  tape : X.tape = wd.tape
  output : X.output = wd.output
  size : wd.heap.size ≤ X.heap.size
  blk : ∀ b, b < w.heap.size → (∀ x ∈ xs, x.b ≠ b) → X.heap[b]? = wd.heap[b]?
  cel : ∀ b q, b < w.heap.size → (∀ x ∈ xs, ¬ (b = x.b ∧ q = x.o + 2)) → X.cell? ⟨b, q, none⟩ = wd.cell? ⟨b, q, none⟩
  fz : ∀ b q, b < w.heap.size → X.frozen? ⟨b, q, none⟩ = wd.frozen? ⟨b, q, none⟩
  tg : ∀ b t, b < w.heap.size → Tag wd b t → Tag X b t
/-- A part's text lies in new memory. -/
def Dn (X : World) (S : Nat → Prop) (x : Px) : Prop := ∃ ua uc, X.cell? ⟨x.b, x.o + 2, none⟩ = some (.slice ua x.doc.text.length uc) ∧ Txx X S (.slice ua x.doc.text.length uc) x.doc.text
structure OI (w wd : World) (A : Nat → Prop) (xs : List Px) (X : World) : Prop where
  ot : Ot w wd xs X
  don : ∀ x ∈ xs, Dn X (fun b => w.heap.size ≤ b ∧ b < X.heap.size ∧ ¬ A b) x
  inn : ∀ x ∈ xs, x.b < w.heap.size
  ab : ∀ b, A b → w.heap.size ≤ b
  lt : ∀ b, A b → b < X.heap.size
  ws : w.heap.size ≤ X.heap.size
theorem Ot.keep {w wd : World} {xs : List Px} {X Y : World} (h : Ot w wd xs X) (ho : Y.os = X.os) (ht : Y.tape = X.tape) (hu : Y.output = X.output) (hs : X.heap.size ≤ Y.heap.size) (hk : ∀ b, b < w.heap.size → Y.heap[b]? = X.heap[b]?) : Ot w wd xs Y :=
  ⟨ho.trans h.os, ht.trans h.tape, hu.trans h.output, Nat.le_trans h.size hs, fun b hb hx => (hk b hb).trans (h.blk b hb hx), fun b q hb hx => (World.cell?_of_block (a := ⟨b, q, none⟩) (hk b hb)).trans (h.cel b q hb hx), fun b q hb => (frozen_of_block (hk b hb) q).trans (h.fz b q hb), fun b t hb ht => (h.tg b t hb ht).keep (hk b hb)⟩
theorem OI.stays (w wd : World) : Stays (OI w wd) := by
  intro A A' xs X Y h hi ha
  have hws := h.ws
  have hk : ∀ b, b < w.heap.size → Y.heap[b]? = X.heap[b]? := fun b hb => hi.keep b (by omega) (fun hA => by have := h.ab b hA; omega)
  refine ⟨h.ot.keep hi.os hi.tape hi.output hi.size hk, fun x hx => ?_, h.inn, fun b hb => ?_, fun b hb => ?_, Nat.le_trans hws hi.size⟩
  · obtain ⟨ua, uc, c1, g4⟩ := h.don x hx
    refine ⟨ua, uc, (World.cell?_of_block (a := ⟨x.b, x.o + 2, none⟩) (hk x.b (h.inn x hx))).trans c1, txx_keepT g4 (fun b hb _ => ⟨hi.keep b hb.2.1 hb.2.2, hb.1, Nat.lt_of_lt_of_le hb.2.1 hi.size, fun hA => ?_⟩)⟩
    rcases ha b hA with h' | h'
    · exact hb.2.2 h'
    · have := hb.2.1; omega
  · rcases ha b hb with h' | h'
    · exact h.ab b h'
    · omega
  · rcases ha b hb with h' | h'
    · exact Nat.lt_of_lt_of_le (h.lt b h') hi.size
    · exact h'.2
theorem OI.noMind (w wd : World) {B : Nat} (hB : w.heap.size ≤ B) : NoMind B (OI w wd) := by
  intro A xs X l ob o' h hl hob hoc
  have hk : ∀ b, b ≠ l → (X.putObj l o').heap[b]? = X.heap[b]? := fun b hb => World.putObj_heap_other hb
  refine ⟨h.ot.keep rfl rfl rfl (by simp) (fun b hb => hk b (by omega)), fun x hx => ?_, h.inn, h.ab, fun b hb => by have := h.lt b hb; simpa using this, by simpa using h.ws⟩
  obtain ⟨ua, uc, c1, g4⟩ := h.don x hx
  refine ⟨ua, uc, (World.cell?_of_block (a := ⟨x.b, x.o + 2, none⟩) (hk x.b (by have := h.inn x hx; omega))).trans c1, txx_keepT g4 (fun b hb ht => ⟨hk b (fun e => ?_), hb.1, by simpa using hb.2.1, hb.2.2⟩)⟩
  obtain ⟨c, fz, ht⟩ := ht
  rw [e, hob] at ht
  cases ht
  cases hoc
mutual
theorem preA_told {w : World} {n f : Nat} : ∀ (d : Tm) {b o : Nat}, TermAt w n f b o d → ∀ m, ∀ x ∈ preA w d b o m, TermAt w n f x.b x.o x.doc
  | .mk k c t l, b, o, h, m, x, hx => by
    rw [preA] at hx
    rcases List.mem_cons.1 hx with rfl | hx
    · exact h
    · obtain ⟨_, sa, sc, _, _, _, c3, _, hd⟩ := h
      have e1 : kidsAt w b o = sa := by unfold kidsAt; rw [c3]
      rw [e1] at hx
      exact preLA_told l hd (m + 1) x hx
theorem preLA_told {w : World} {n f : Nat} : ∀ (l : List Tm) {a : Option Addr}, MAt w n f a l → ∀ m, ∀ x ∈ preLA w l a m, TermAt w n f x.b x.o x.doc
  | [], a, h, m, x, hx => by rw [preLA] at hx; cases hx
  | d :: l, a, h, m, x, hx => by
    obtain ⟨b, o, rfl, hT⟩ := h.one (j := 0) (d := d) rfl
    have e : o + 0 * 4 = o := by omega
    rw [e] at hT
    rw [preLA] at hx
    rcases List.mem_append.1 hx with hx | hx
    · exact preA_told d hT m x hx
    · exact preLA_told l h.tail m x hx
end
def ONo : Code → (Nat → Prop) → List Px → World → Prop := fun _ _ _ _ => False
/-- The same place holds the same text. -/
theorem text_eq {w : World} {n f b o : Nat} {d d' : Tm} (h : TermAt w n f b o d) (h' : TermAt w n f b o d') : d.text = d'.text := by
  obtain ⟨_, _, _, _, _, ⟨ta, tc, e, _, _, hb⟩, _⟩ := h
  obtain ⟨_, _, _, _, _, ⟨ta', tc', e', _, _, hb'⟩, _⟩ := h'
  rw [e] at e'
  injection e' with e'
  injection e' with e1 e2 e3
  subst e1
  refine List.ext_getElem? (fun i => ?_)
  rcases Nat.lt_or_ge i d.text.length with hi | hi
  · obtain ⟨b1, o1, ea, _, c1⟩ := hb i _ (List.getElem?_eq_getElem hi)
    obtain ⟨b2, o2, eb, _, c2⟩ := hb' i _ (List.getElem?_eq_getElem (show i < d'.text.length by omega))
    rw [ea] at eb
    cases eb
    rw [c1] at c2
    injection c2 with c2
    injection c2 with _ c3
    rw [List.getElem?_eq_getElem hi, List.getElem?_eq_getElem (show i < d'.text.length by omega)]
    congr 1
    apply UInt8.toNat_inj.1
    omega
  · rw [List.getElem?_eq_none hi, List.getElem?_eq_none (by omega)]
/-- A part's text, wherever it lies by now. -/
theorem OI.text {w wd : World} {A : Nat → Prop} {xs : List Px} {X : World} {n₀ f : Nat} {x : Px} (h : OI w wd A xs X) (hn : n₀ ≤ w.heap.size) (hx : TermAt wd n₀ f x.b x.o x.doc) (hxs : ∀ y ∈ xs, TermAt wd n₀ f y.b y.o y.doc) :
    ∃ ta tc, X.cell? ⟨x.b, x.o + 2, none⟩ = some (.slice ta x.doc.text.length tc) ∧ x.doc.text.length ≤ 140737488355328 ∧ BAt X X.heap.size ta x.doc.text := by
  have hws := h.ws
  by_cases hd : ∃ y ∈ xs, x.b = y.b ∧ x.o + 2 = y.o + 2
  · obtain ⟨y, hy, e1, e2⟩ := hd
    have e3 : x.o = y.o := by omega
    have he : x.doc.text = y.doc.text := by
      have := hxs y hy
      rw [← e1, ← e3] at this
      exact text_eq hx this
    obtain ⟨ua, uc, c1, ht⟩ := h.don y hy
    obtain ⟨ua', uc', e, _, h2, h3⟩ := ht.txt (B := X.heap.size) (fun b hb => hb.2.1)
    cases e
    rw [he, e1, e3]
    exact ⟨ua, uc, c1, h2, h3⟩
  · obtain ⟨hlt, _, _, _, _, ⟨ta, tc, e, _, h2, hb⟩, _⟩ := hx
    refine ⟨ta, tc, (h.ot.cel _ _ (by omega) (fun y hy hyy => hd ⟨y, hy, hyy.1, hyy.2⟩)).trans e, h2, fun i c hi => ?_⟩
    obtain ⟨b, o, ea, hb1, hc⟩ := hb i c hi
    refine ⟨b, o, ea, by omega, (h.ot.cel _ _ (by omega) (fun y hy hyy => ?_)).trans hc⟩
    obtain ⟨_, _, _, _, _, ⟨ta', tc', e', _⟩, _⟩ := hxs y hy
    rw [hyy.1, hyy.2, e'] at hc
    cases hc
set_option maxRecDepth 100000 in
set_option maxHeartbeats 4000000 in
theorem ownTexts_any (d : Tm) (n₀ f pb po : Nat) (w : World) (hn₀ : n₀ ≤ w.heap.size) (hd : TermAt w n₀ f pb po d) (hlen : sz d ≤ 1000000000000) (hfz : ∀ x ∈ preA w d pb po 1, w.frozen? ⟨x.b, x.o + 2, none⟩ = false) :
    Calls Tryd.prog 45 #[.pointer (some ⟨pb, po, none⟩)] w fun e w' => e = .returned (.tuple #[]) ∧ Ot w w (preA w d pb po 1) w' ∧ ∀ x ∈ preA w d pb po 1, Dn w' (fun b => w.heap.size ≤ b ∧ b < w'.heap.size) x := by
  have hlen' : (pre d 1).length ≤ 1000000000000 := by rw [pre_len]; exact hlen
  refine (callsIn_wide (n := 3)).1 ?_
  refine callsIn_of_wp_marks Tryd.func45 rfl trivial ?_ rfl
  simp only [Tryd.ntmps45, List.size_toArray, List.length_cons, List.length_nil, Nat.reduceAdd, Nat.reduceSub, Array.replicate_succ, Array.replicate_zero, List.push_toArray, List.append_toArray, List.nil_append, List.cons_append]
  gi_wp2_with (refine ⟨trivial, ?_⟩; gi_at_call 37; refine (callsIn_wide.2 (parts_any _ _)).mono ?_; rintro e w' ⟨rfl, rfl⟩)
  have b1 := (Boxed.new w 62 (.pointer (some ⟨pb, po, none⟩))).alloc (.cells #[.func (.func 36) #[] #[]] 81)
  have b2 := Boxed.new (w.alloc (.cells #[.pointer (some ⟨pb, po, none⟩)] 62)) 81 (.func (.func 36) #[] #[])
  obtain ⟨w5, hw5⟩ : ∃ w5, (w.alloc (.cells #[.pointer (some ⟨pb, po, none⟩)] 62)).alloc (.cells #[.func (.func 36) #[] #[]] 81) = w5 := ⟨_, rfl⟩
  have s5 : w5.heap.size = w.heap.size + 2 := by rw [← hw5]; simp
  have hB5 : Below w.heap.size w w5 := by rw [← hw5]; exact ((Below.refl _ _).alloc (Nat.le_refl _) _).alloc (by simp) _
  simp only [World.size_alloc] at b1 b2
  rw [hw5] at b1 b2
  rw [hw5]
  have hd5 : TermAt w5 n₀ f pb po d := hd.keep (hB5.mono hn₀)
  have hpa : preA w5 d pb po 1 = preA w d pb po 1 := preA_cong hB5 hn₀ hd 1
  have HPA : Hid _ := hpa
  have HF0 : Hid (∀ b q, b < w.heap.size → w5.frozen? ⟨b, q, none⟩ = w.frozen? ⟨b, q, none⟩) := fun b q hb => hB5.frozen (p := ⟨b, q, none⟩) hb
  have HFZ : Hid _ := hfz
  have HB5 : Hid _ := hB5
  have HN0 : Hid _ := hn₀
  clear hw5 hB5 hpa hfz
  refine range_law_t (F := Fence.wide) rfl (by omega) (gf := 56) (lb := #[.pointer (some ⟨w.heap.size, 0, none⟩), .pointer (some ⟨w.heap.size + 1, 0, none⟩)]) rfl trivial (enters_of Tryd.func56 (by kernel_rfl) rfl)
    (parts_seq_t (3 - 1) (by omega) w.heap.size (w.heap.size + 1) n₀ f pb po d w5 (by omega) hd5 hlen' (by omega) (by omega) b1.cell b2.cell) (by omega) (fun b hb => by rcases hb with rfl | rfl <;> omega) (Below.refl _ _) (fun _ => rfl)
    (OI w w5) ONo (OI.stays w w5) (OI.noMind w w5 (by omega)) (fun _ _ _ _ _ _ h => h.elim) (fun _ _ _ _ _ _ _ h => h.elim)
    ⟨⟨rfl, rfl, rfl, Nat.le_refl _, fun _ _ _ => rfl, fun _ _ _ _ => rfl, fun _ _ _ => rfl, fun _ _ _ h => h⟩, fun x hx => (by cases hx), fun x hx => (by cases hx), fun b hb => (by rcases hb with rfl | rfl <;> omega), fun b hb => (by rcases hb with rfl | rfl <;> omega), by omega⟩
    (fun x => { tmps := #[.pointer (some ⟨pb, po, none⟩), undef, .pointer (some ⟨x.b, x.o, none⟩), .pointer (some ⟨pb, po, none⟩), .func (.func 56) #[] #[.pointer (some ⟨w.heap.size, 0, none⟩), .pointer (some ⟨w.heap.size + 1, 0, none⟩)], .pointer (some ⟨x.b, x.o, none⟩), .int .i64 (x.deep : Int), undef, undef, undef, undef, undef, undef, undef, undef], defers := [] })
    ?assign ?body ?done ?stop
  case assign =>
    intro l x W K hK
    unfold Px.enc
    gi_wp2
    exact hK
  case body =>
    rintro l A xs x X hI hlt ⟨hx, hr, hra⟩ hA
    have hws := hI.ws
    have hn := HN0.out
    have hmem : ∀ y ∈ xs, TermAt w5 n₀ f y.b y.o y.doc := fun y hy => by
      obtain ⟨r, hr⟩ := hra
      exact preA_told d hd5 1 y (by rw [← hr]; exact List.mem_append.2 (.inl hy))
    have hfx : X.frozen? ⟨x.b, x.o + 2, none⟩ = false := by
      have hb : x.b < w.heap.size := by have := hx.1.1; omega
      rw [hI.ot.fz _ _ hb, HF0.out _ _ hb]
      obtain ⟨r, hr⟩ := hra
      exact HFZ.out x (by rw [← HPA.out, ← hr]; simp)
    obtain ⟨ta, tc, c2, h2, hbt⟩ := hI.text hn hx hmem
    have hxb := hx.1.1
    have hxo := hx.1.2
    have HC : Hid (Calls Tryd.prog 38 #[.slice ta x.doc.text.length tc] X fun e w' => (∃ uv, e = .returned uv ∧ Txx w' (fun b => X.heap.size ≤ b ∧ b < w'.heap.size) uv x.doc.text) ∧ Below X.heap.size X w') := bclone_any x.doc.text ta tc X hbt h2
    have HFIN : Hid (∀ w2 ua uc, Below X.heap.size X w2 → Txx w2 (fun b => X.heap.size ≤ b ∧ b < w2.heap.size) (.slice ua x.doc.text.length uc) x.doc.text → KeepsFrom w5.heap.size X (w2.setCell ⟨x.b, x.o + 2, none⟩ (.slice ua x.doc.text.length uc)) ∧ Keep n₀ A X (w2.setCell ⟨x.b, x.o + 2, none⟩ (.slice ua x.doc.text.length uc)) ∧ OI w w5 A (xs ++ [x]) (w2.setCell ⟨x.b, x.o + 2, none⟩ (.slice ua x.doc.text.length uc))) := fun w2 ua uc hb htx => by
      obtain ⟨Y, hY⟩ : ∃ Y, w2.setCell ⟨x.b, x.o + 2, none⟩ (.slice ua x.doc.text.length uc) = Y := ⟨_, rfl⟩
      have hs2 := hb.size
      have hsY : Y.heap.size = w2.heap.size := by rw [← hY]; simp [World.setCell]
      have kY : ∀ b, b ≠ x.b → Y.heap[b]? = w2.heap[b]? := fun b hne => by rw [← hY]; exact Below.heap_setCell w2 ⟨x.b, x.o + 2, none⟩ _ b hne
      have cY : ∀ b q, ¬ (b = x.b ∧ q = x.o + 2) → Y.cell? ⟨b, q, none⟩ = w2.cell? ⟨b, q, none⟩ := fun b q hne => by
        rw [← hY]
        exact World.cell?_setCell_other _ _ _ _ (fun e => by cases e; exact hne ⟨rfl, rfl⟩)
      have c2' : w2.cell? ⟨x.b, x.o + 2, none⟩ = some (.slice ta x.doc.text.length tc) := (hb.cell (p := ⟨x.b, x.o + 2, none⟩) (by show x.b < _; omega)).trans c2
      have sY : Y.cell? ⟨x.b, x.o + 2, none⟩ = some (.slice ua x.doc.text.length uc) := by
        rw [← hY]
        exact World.cell?_setCell_same' _ _ _ (by rw [c2']; rfl)
      have fY : ∀ b q, Y.frozen? ⟨b, q, none⟩ = w2.frozen? ⟨b, q, none⟩ := fun b q => by rw [← hY]; simp
      have tY : ∀ b t, Tag w2 b t → Tag Y b t := fun b t ht => by
        by_cases hbb : b = x.b
        · subst hbb
          obtain ⟨cs, fz, ht⟩ := ht
          refine ⟨cs.setIfInBounds (x.o + 2) (.slice ua x.doc.text.length uc), fz, ?_⟩
          obtain ⟨hlt, hk⟩ := Array.getElem?_eq_some_iff.1 ht
          rw [← hY]
          show (w2.heap.modify x.b _)[x.b]? = _
          rw [Array.getElem?_eq_getElem (by rw [Array.size_modify]; exact hlt), Array.getElem_modify_self, hk]
          rfl
        · exact ht.keep (kY b hbb)
      have oY : Y.os = w2.os ∧ Y.tape = w2.tape ∧ Y.output = w2.output := by rw [← hY]; exact ⟨rfl, rfl, rfl⟩
      have hg : w2.grownBy Y (some x.b) := by rw [← hY]; exact grown_set w2 x.b _ _
      rw [hY]
      refine ⟨(KeepsFrom.of_grownBy (below_grown hb) (fun j hj => by cases hj)).trans (KeepsFrom.of_grownBy hg (fun j hj => by cases hj; omega)), ⟨⟨oY.1.trans hb.os, oY.2.1.trans hb.tape, oY.2.2.trans hb.output, by omega, fun b q hb' hq => (cY b q (fun e => by omega)).trans (hb.cell (p := ⟨b, q, none⟩) (by show b < _; omega))⟩, fun b hA' hlt' => (kY b (by have := hI.ab b hA'; omega)).trans (hb.block b hlt')⟩, ?_⟩
      have ho := hI.ot
      refine ⟨⟨(oY.1.trans hb.os).trans ho.os, (oY.2.1.trans hb.tape).trans ho.tape, (oY.2.2.trans hb.output).trans ho.output, by have := ho.size; omega, fun b hb' hxs => ?_, fun b q hb' hxs => ?_, fun b q hb' => ?_, fun b t hb' ht => ?_⟩, fun y hy => ?_, fun y hy => ?_, hI.ab, fun b hb' => by have := hI.lt b hb'; omega, by omega⟩
      · exact (kY b (fun e => hxs x (by simp) e.symm)).trans ((hb.block b (by omega)).trans (ho.blk b hb' (fun y hy => hxs y (by simp [hy]))))
      · exact (cY b q (hxs x (by simp))).trans ((hb.cell (p := ⟨b, q, none⟩) (by show b < _; omega)).trans (ho.cel b q hb' (fun y hy => hxs y (by simp [hy]))))
      · exact (fY b q).trans ((hb.frozen (p := ⟨b, q, none⟩) (by show b < _; omega)).trans (ho.fz b q hb'))
      · exact tY b t ((ho.tg b t hb' ht).keep (hb.block b (by omega)))
      · rcases List.mem_append.1 hy with hy | hy
        · by_cases hsame : y.b = x.b ∧ y.o + 2 = x.o + 2
          · have he : y.doc.text = x.doc.text := by
              have e3 : y.o = x.o := by omega
              have := hmem y hy
              rw [hsame.1, e3] at this
              exact text_eq this hx
            refine ⟨ua, uc, ?_, ?_⟩
            · rw [hsame.1, hsame.2, he]; exact sY
            · rw [he]
              exact txx_keepT htx (fun b hb' _ => ⟨kY b (by omega), by omega, by omega, fun hA' => by have := hI.lt b hA'; omega⟩)
          · obtain ⟨va, vc, c1, g4⟩ := hI.don y hy
            refine ⟨va, vc, (cY _ _ (fun e => hsame e)).trans ((hb.cell (p := ⟨y.b, y.o + 2, none⟩) (by have := hI.inn y hy; show y.b < _; omega)).trans c1), txx_keepT g4 (fun b hb' _ => ⟨(kY b (by omega)).trans (hb.block b hb'.2.1), hb'.1, by omega, hb'.2.2⟩)⟩
        · simp at hy
          subst hy
          exact ⟨ua, uc, sY, txx_keepT htx (fun b hb' _ => ⟨kY b (by omega), by omega, by omega, fun hA' => by have := hI.lt b hA'; omega⟩)⟩
      · rcases List.mem_append.1 hy with hy | hy
        · exact hI.inn y hy
        · simp at hy
          subst hy
          omega
    have HW : Hid (∀ w2, Below X.heap.size X w2 → w2.cell? ⟨x.b, x.o + 2, none⟩ = some (.slice ta x.doc.text.length tc) ∧ w2.frozen? ⟨x.b, x.o + 2, none⟩ = false) := fun w2 hb => ⟨(hb.cell (p := ⟨x.b, x.o + 2, none⟩) (by show x.b < _; omega)).trans c2, (hb.frozen (p := ⟨x.b, x.o + 2, none⟩) (by show x.b < _; omega)).trans hfx⟩
    clear hI hmem hbt h2 hx hr hra hA
    gi_wp2_with (refine ⟨trivial, ?_⟩; gi_at_call 38; refine (callsIn_wide.2 HC.out).mono ?_; rintro e w2 ⟨⟨uv, rfl, htx⟩, hb2⟩; obtain ⟨ua, uc, rfl, hx1, hx2, hx3⟩ := htx; obtain ⟨q1, q2⟩ := HW.out w2 hb2)
    exact HFIN.out w2 ua uc hb2 ⟨ua, uc, rfl, hx1, hx2, hx3⟩
  case done =>
    rintro D A xs X hD ⟨hS, hT, hxs⟩ hI hK
    have hkD : ∀ b, b ≠ D → (X.putObj D (.deferred none)).heap[b]? = X.heap[b]? := fun b hb => World.putObj_heap_other hb
    rw [HPA.out] at hxs
    have HF : Hid (Ot w w (preA w d pb po 1) (X.putObj D (.deferred none)) ∧ ∀ x ∈ preA w d pb po 1, Dn (X.putObj D (.deferred none)) (fun b => w.heap.size ≤ b ∧ b < (X.putObj D (.deferred none)).heap.size) x) := by
      rw [← hxs]
      have h1 := hI.ot.keep (Y := X.putObj D (.deferred none)) rfl rfl rfl (by simp) (fun b hb => hkD b (by omega))
      have h5 := HB5.out
      refine ⟨⟨h1.os.trans h5.os, h1.tape.trans h5.tape, h1.output.trans h5.output, Nat.le_trans h5.size h1.size, fun b hb hx => (h1.blk b hb hx).trans (h5.block b hb), fun b q hb hx => (h1.cel b q hb hx).trans (h5.cell (p := ⟨b, q, none⟩) hb), fun b q hb => (h1.fz b q hb).trans (HF0.out b q hb), fun b t hb ht => h1.tg b t hb (ht.keep (h5.block b hb))⟩, fun x hx => ?_⟩
      obtain ⟨ua, uc, c1, g4⟩ := hI.don x hx
      refine ⟨ua, uc, (World.cell?_of_block (a := ⟨x.b, x.o + 2, none⟩) (hkD x.b (by have := hI.inn x hx; omega))).trans c1, txx_keepT g4 (fun b hb ht => ⟨hkD b (fun e => ?_), hb.1, by simpa using hb.2.1⟩)⟩
      obtain ⟨c, fz, ht⟩ := ht
      rw [e, hK] at ht
      cases ht
    clear hI hS hT hkD hd5 b1 b2
    gi_wp2
    refine ⟨by simp, .inl ⟨_, _, rfl, run_takeDeferred hK, ?_⟩⟩
    exact ⟨_, by simp [results, Tryd.results45, go_sem], rfl, HF.out⟩
  case stop =>
    rintro D c A xs X hD _ hX hK
    exact hX.elim
end Go.Proofs.YtlkcadibjmfmcaaDoor.Y
