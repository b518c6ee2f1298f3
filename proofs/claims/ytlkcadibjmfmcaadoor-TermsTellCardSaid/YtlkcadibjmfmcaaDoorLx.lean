/- The lexemes of a term, in new memory. -/
import Derived.Test.YtlkcadibjmfmcaaDoorWd
import Derived.Test.YtlkcadibjmfmcaaDoorBf
import Derived.Test.YtlkcadibjmfmcaaDoorNf
namespace Go.Proofs.YtlkcadibjmfmcaaDoor
open Go.RowKit Go.Shelf

attribute [local go_sem] Oper.semAt_some

/-- Texts as cells, each in a block of its own that may be written. -/
def LX (X : World) (P : Nat → Prop) : Nat → Nat → List (List UInt8) → List Value → Prop
  | lo, hi, [], cs => cs = [] ∧ lo ≤ hi
  | lo, hi, t :: ts, cs => ∃ v ys g, cs = v :: ys ∧ lo ≤ g ∧ g < hi ∧ P g ∧ Txx X (fun b => b = g) v t ∧ LX X P (g + 1) hi ts ys
theorem Txx.keep5 {X Y : World} {g : Nat} {v : Value} {t : List UInt8} (h : Txx X (fun b => b = g) v t) (hk : Tag X g 5 → Y.heap[g]? = X.heap[g]?) : Txx Y (fun b => b = g) v t := by
  obtain ⟨ta, tc, e, h1, h2, h3⟩ := h
  refine ⟨ta, tc, e, h1, h2, fun i c hi => ?_⟩
  obtain ⟨b, o, e, hb, ⟨hg, hf⟩, hc⟩ := h3 i c hi
  have hb' : b = g := hb
  subst hb'
  have hh := hk hg
  exact ⟨b, o, e, rfl, ⟨hg.keep hh, fun q => (frozen_of_block hh q).trans (hf q)⟩, (World.cell?_of_block (a := ⟨b, o + i, none⟩) hh).trans hc⟩
theorem LX.keep {X Y : World} {P Q : Nat → Prop} {hi hi' : Nat} (hh : hi ≤ hi') : ∀ {ts : List (List UInt8)} {lo : Nat} {cs : List Value}, LX X P lo hi ts cs → (∀ g, lo ≤ g → g < hi → P g → Q g ∧ (Tag X g 5 → Y.heap[g]? = X.heap[g]?)) → LX Y Q lo hi' ts cs
  | [], lo, cs, h, _ => ⟨h.1, Nat.le_trans h.2 hh⟩
  | t :: ts, lo, cs, h, hk => by
    obtain ⟨v, ys, g, e, h1, h2, h3, h4, h5⟩ := h
    exact ⟨v, ys, g, e, h1, by omega, (hk g h1 h2 h3).1, h4.keep5 (hk g h1 h2 h3).2, h5.keep hh (fun g' a b c => hk g' (by omega) b c)⟩
theorem LX.snoc {X : World} {P : Nat → Prop} {hi hi' g : Nat} {v : Value} {t : List UInt8} (h1 : hi ≤ g) (h2 : g < hi') (hP : P g) (ht : Txx X (fun b => b = g) v t) : ∀ {ts : List (List UInt8)} {lo : Nat} {cs : List Value}, LX X P lo hi ts cs → LX X P lo hi' (ts ++ [t]) (cs ++ [v])
  | [], lo, cs, h => by
    obtain ⟨h, hlo⟩ := h
    subst h
    exact ⟨v, [], g, rfl, by omega, h2, hP, ht, rfl, by omega⟩
  | s :: ts, lo, cs, h => by
    obtain ⟨v', ys, g', rfl, k1, k2, k3, k4, k5⟩ := h
    exact ⟨v', ys ++ [v], g', rfl, k1, by omega, k3, k4, k5.snoc h1 h2 hP ht⟩
theorem LX.hi {X : World} {P : Nat → Prop} {hi : Nat} : ∀ {ts : List (List UInt8)} {lo : Nat} {cs : List Value}, LX X P lo hi ts cs → lo ≤ hi
  | [], _, _, h => h.2
  | _ :: _, _, _, h => by obtain ⟨_, _, g, _, h1, h2, _⟩ := h; omega
theorem LX.low {X : World} {P : Nat → Prop} {hi lo lo' : Nat} (h : lo' ≤ lo) : ∀ {ts : List (List UInt8)} {cs : List Value}, LX X P lo hi ts cs → LX X P lo' hi ts cs
  | [], _, k => ⟨k.1, Nat.le_trans h k.2⟩
  | _ :: _, _, k => by
    obtain ⟨v, ys, g, e, h1, h2⟩ := k
    exact ⟨v, ys, g, e, by omega, h2⟩
theorem txx_block {X : World} {lo hi : Nat} {v : Value} {t : List UInt8} (h : Txx X (fun b => lo ≤ b ∧ b < hi) v t) (hlo : lo ≤ hi) : ∃ g, lo ≤ g ∧ g ≤ hi ∧ Txx X (fun b => b = g) v t := by
  obtain ⟨ta, tc, e, h1, h2, h3⟩ := h
  cases t with
  | nil => exact ⟨hi, hlo, Nat.le_refl _, ta, tc, e, h1, h2, fun i c hi => (by cases hi)⟩
  | cons c0 t =>
    obtain ⟨b, o, ea, hb, _, _⟩ := h3 0 c0 rfl
    refine ⟨b, hb.1, Nat.le_of_lt hb.2, ta, tc, e, h1, h2, fun i c hi => ?_⟩
    obtain ⟨b', o', ea', hb', hg', hc'⟩ := h3 i c hi
    rw [ea] at ea'
    cases ea'
    exact ⟨b, o, ea, rfl, hg', hc'⟩
/-- While one goes through: the lexemes that have come. -/
structure LI (w wd : World) (A : Nat → Prop) (xs : List Px) (X : World) : Prop where
  ex : ∃ v cs, Boxed X (w.heap.size + 1) 31 v ∧ X.ownsRow (w.heap.size + 4) 22 1 v (lexs (xs.map Px.doc)).length cs ∧ LX X (fun b => ¬ A b) (w.heap.size + 4) X.heap.size (lexs (xs.map Px.doc)) cs ∧ ∀ b, v.ownBlock = some b → ¬ A b
  ab : ∀ b, A b → w.heap.size + 2 ≤ b
  bel : Below (w.heap.size + 1) wd X
  lt : ∀ b, A b → b < X.heap.size
  sz : w.heap.size + 4 ≤ X.heap.size
theorem LI.stays (w wd : World) : Stays (LI w wd) := by
  intro A A' xs X Y h hi ha
  obtain ⟨v, cs, hb, hr, hl, hn⟩ := h.ex
  have hs := h.sz
  have hk : ∀ b, b < w.heap.size + 2 → Y.heap[b]? = X.heap[b]? := fun b hb => hi.keep b (by omega) (fun hA => by have := h.ab b hA; omega)
  refine ⟨⟨v, cs, (hk _ (by omega)).trans hb, row_ab' hr (fun g hg => hi.keep g (hr.lt g hg).2 (hn g hg)), hl.keep hi.size (fun g h1 h2 h3 => ⟨fun hA => ?_, fun _ => hi.keep g h2 h3⟩), fun b hb' hA => ?_⟩, fun b hb' => ?_, ⟨hi.os.trans h.bel.os, hi.tape.trans h.bel.tape, hi.output.trans h.bel.output, Nat.le_trans h.bel.size hi.size, fun b hb' => (hk b (by omega)).trans (h.bel.block b hb')⟩, fun b hb' => ?_, Nat.le_trans hs hi.size⟩
  · rcases ha g hA with h' | h'
    · exact h3 h'
    · omega
  · rcases ha b hA with h' | h'
    · exact hn b hb' h'
    · have := (hr.lt b hb').2; omega
  · rcases ha b hb' with h' | h'
    · exact h.ab b h'
    · omega
  · rcases ha b hb' with h' | h'
    · have := h.lt b h'; have := hi.size; omega
    · exact h'.2
theorem row_cells' {X : World} {B : Nat} {e : TypeId} {k : Nat} {v : Value} {n : Nat} {xs : List Value} (h : X.ownsRow B e k v n xs) {b : Nat} (hb : v.ownBlock = some b) : ∃ cur, X.heap[b]? = some (.cells cur e) := by
  rcases h.2 with ⟨rfl, _⟩ | ⟨g, cap, cur, rfl, hbg, hg, rest⟩
  · cases hb
  · simp [Value.ownBlock] at hb; subst hb; exact ⟨_, hg⟩
theorem LI.noMind (w wd : World) {B : Nat} (hB : w.heap.size + 4 ≤ B) : NoMind B (LI w wd) := by
  intro A xs X l ob o' h hl hob hoc
  obtain ⟨v, cs, hb, hr, hlx, hn⟩ := h.ex
  have hk : ∀ b, b ≠ l → (X.putObj l o').heap[b]? = X.heap[b]? := fun b hb => World.putObj_heap_other hb
  have hnr : ∀ g, v.ownBlock = some g → g ≠ l := fun g hg e => by
    obtain ⟨cur, hc⟩ := row_cells' hr hg
    rw [e, hob] at hc
    cases hc
    cases hoc
  refine ⟨⟨v, cs, (hk _ (by omega)).trans hb, row_ab' hr (fun g hg => hk g (hnr g hg)), hlx.keep (by simp) (fun g h1 h2 h3 => ⟨h3, fun ht => hk g (fun e => ?_)⟩), hn⟩, h.ab, ⟨h.bel.os, h.bel.tape, h.bel.output, by simpa using h.bel.size, fun b hb' => (hk b (by omega)).trans (h.bel.block b hb')⟩, fun b hb' => by have := h.lt b hb'; simpa using this, by simpa using h.sz⟩
  obtain ⟨c, fz, ht⟩ := ht
  rw [e, hob] at ht
  cases ht
  cases hoc
/-- No round ends before its time. -/
def LNo : Code → (Nat → Prop) → List Px → World → Prop := fun _ _ _ _ => False
theorem say_doc (xs : List Px) : (xs.map Px.say).map Prod.fst = xs.map Px.doc := by
  rw [List.map_map]; rfl
set_option maxRecDepth 100000 in
set_option maxHeartbeats 4000000 in
theorem lexemes_any (d : Tm) (ta : Option Addr) (tc : Nat) (sa : Option Addr) (sc : Nat) (w : World) (hTA : TA w d ta tc sa sc) (hlen : sz d ≤ 1000000) :
    Calls Tryd.prog 17 #[.agg #[.int .i64 d.kind, .string d.cons, .slice ta d.text.length tc, .slice sa d.kids.length sc]] w fun e w' => (∃ v cs, e = .returned v ∧ w'.ownsRow w.heap.size 22 1 v (lexs (pts d)).length cs ∧ LX w' (fun _ => True) w.heap.size w'.heap.size (lexs (pts d)) cs) ∧ Below w.heap.size w w' := by
  obtain ⟨i0, hinf, hz0, hz1, hz2⟩ := info_parts info22
  obtain ⟨f, hk⟩ := hTA.mat
  have htv := hTA.txt
  have hsc := hTA.sc'
  have hlen' : (pre d 1).length ≤ 1000000000000 := by rw [pre_len]; omega
  refine (callsIn_wide (n := 3)).1 ?_
  refine callsIn_of_wp_marks Tryd.func17 rfl trivial ?_ rfl
  simp only [Tryd.ntmps17, List.size_toArray, List.length_cons, List.length_nil, Nat.reduceAdd, Nat.reduceSub, Array.replicate_succ, Array.replicate_zero, List.push_toArray, List.append_toArray, List.nil_append, List.cons_append]
  obtain ⟨w1, hw1⟩ : ∃ w1, w.alloc (.cells #[.int .i64 d.kind, .string d.cons, .slice ta d.text.length tc, .slice sa d.kids.length sc] 25) = w1 := ⟨_, rfl⟩
  have s1 : w1.heap.size = w.heap.size + 1 := by rw [← hw1]; simp
  have hB1 : Below w.heap.size w w1 := by rw [← hw1]; exact (Below.refl _ _).alloc (Nat.le_refl _) _
  have hd1 : TermAt w1 (w.heap.size + 1) f w.heap.size 0 d := ⟨by omega, sa, sc, by rw [← hw1]; exact cell_new 0 rfl, by rw [← hw1]; exact cell_new 1 rfl, (htv.keep hB1).cell (by omega) (by rw [← hw1]; exact cell_new 2 rfl), by rw [← hw1]; exact cell_new 3 rfl, hsc, (hk.keep hB1).mono (by omega)⟩
  gi_wp2_with (refine ⟨trivial, ?_⟩; gi_at_call 37; refine (callsIn_wide.2 (parts_any _ _)).mono ?_; rintro e w' ⟨rfl, rfl⟩)
  have bL := ((Boxed.new w1 31 (.slice none 0 0)).alloc (.cells #[.pointer (some ⟨w.heap.size, 0, none⟩)] 62)).alloc (.cells #[.func (.func 36) #[] #[]] 81)
  have b1 := (Boxed.new (w1.alloc (.cells #[.slice none 0 0] 31)) 62 (.pointer (some ⟨w.heap.size, 0, none⟩))).alloc (.cells #[.func (.func 36) #[] #[]] 81)
  have b2 := Boxed.new ((w1.alloc (.cells #[.slice none 0 0] 31)).alloc (.cells #[.pointer (some ⟨w.heap.size, 0, none⟩)] 62)) 81 (.func (.func 36) #[] #[])
  obtain ⟨w5, hw5⟩ : ∃ w5, ((w1.alloc (.cells #[.slice none 0 0] 31)).alloc (.cells #[.pointer (some ⟨w.heap.size, 0, none⟩)] 62)).alloc (.cells #[.func (.func 36) #[] #[]] 81) = w5 := ⟨_, rfl⟩
  have s5 : w5.heap.size = w.heap.size + 4 := by rw [← hw5]; simp [s1]
  have hB5 : Below w1.heap.size w1 w5 := by rw [← hw5]; exact (((Below.refl _ _).alloc (Nat.le_refl _) _).alloc (by simp) _).alloc (by simp; omega) _
  simp only [World.size_alloc, s1] at bL b1 b2
  rw [hw5] at bL b1 b2
  rw [hw5]
  have hd5 : TermAt w5 (w.heap.size + 1) f w.heap.size 0 d := hd1.keep (by rw [← s1]; exact hB5)
  have hBw : Below w.heap.size w w5 := hB1.trans (hB5.mono (by omega))
  clear hw5 hd1 hB5 hB1 hw1
  refine range_law_t (F := Fence.wide) rfl (by omega) (gf := 56) (lb := #[.pointer (some ⟨w.heap.size + 1 + 1, 0, none⟩), .pointer (some ⟨w.heap.size + 1 + 1 + 1, 0, none⟩)]) rfl trivial (enters_of Tryd.func56 (by kernel_rfl) rfl)
    (parts_seq_t (3 - 1) (by omega) (w.heap.size + 1 + 1) (w.heap.size + 1 + 1 + 1) (w.heap.size + 1) f w.heap.size 0 d w5 (by omega) hd5 hlen' (by omega) (by omega) b1.cell b2.cell) (by omega) (fun b hb => by rcases hb with rfl | rfl <;> omega) (Below.refl _ _) (fun _ => rfl)
    (LI w w5) LNo (LI.stays w w5) (LI.noMind w w5 (by omega)) (fun _ _ _ _ _ _ h => h.elim) (fun _ _ _ _ _ _ _ h => h.elim)
    ⟨⟨.slice none 0 0, [], bL, World.ownsRow_nil _ _ _ _, ⟨rfl, by omega⟩, fun b hb => (by cases hb)⟩, fun b hb => (by rcases hb with rfl | rfl <;> omega), Below.refl _ _, fun b hb => (by rcases hb with rfl | rfl <;> omega), by omega⟩
    (fun x => { tmps := #[.agg #[.int .i64 d.kind, .string d.cons, .slice ta d.text.length tc, .slice sa d.kids.length sc], .pointer (some ⟨w.heap.size, 0, none⟩), .slice none 0 0, .pointer (some ⟨w.heap.size + 1, 0, none⟩), .pointer (some ⟨x.b, x.o, none⟩), .func (.func 56) #[] #[.pointer (some ⟨w.heap.size + 1 + 1, 0, none⟩), .pointer (some ⟨w.heap.size + 1 + 1 + 1, 0, none⟩)], .pointer (some ⟨x.b, x.o, none⟩), .int .i64 (x.deep : Int), undef, undef, undef, undef, undef, undef, undef, undef, undef, undef, undef, undef, undef, undef], defers := [] })
    ?assign ?body ?done ?stop
  case assign =>
    intro l x W K hK
    unfold Px.enc
    gi_wp2
    exact hK
  case body =>
    rintro l A xs x X hI hlt ⟨hx, hr⟩ hA
    have hsz := hI.sz
    obtain ⟨v, cs, hbox, hrow, hlx, hnA⟩ := hI.ex
    have hd2 := hx.keep hI.bel
    obtain ⟨hxlt, ka, kc, c0, c1, ⟨xa, xc, c2, hxc, hxl, hxb⟩, c3, _, _⟩ := hd2
    have hxb' : x.b < X.heap.size := by omega
    have hdoc : (xs ++ [x]).map Px.doc = xs.map Px.doc ++ [x.doc] := by simp
    have hmem : xs.length < sz d := by
      obtain ⟨r, hr⟩ := hr
      have := congrArg List.length hr
      rw [pre_len] at this
      simp at this
      omega
    have hn : (lexs (xs.map Px.doc)).length ≤ 1000000 := by
      have := lexs_le (xs.map Px.doc)
      rw [List.length_map] at this
      omega
    by_cases h2 : x.doc.kind = 2
    · have hk2 : (x.doc.kind == 2) = true := by rw [h2]; rfl
      rw [h2] at c0
      have hsay : lexs ((xs ++ [x]).map Px.doc) = lexs (xs.map Px.doc) ++ [x.doc.text] := by rw [hdoc, lexs_app, lexs_yes h2]
      obtain ⟨va, vc, rfl⟩ := row_slice hrow
      generalize lexs (xs.map Px.doc) = ls at *
      have HLT : Hid (∀ b, (Value.slice va ls.length vc).ownBlock = some b → w.heap.size + 4 ≤ b ∧ b < X.heap.size) := fun b e => hrow.lt b e
      have HQ : Hid (∀ W', Below X.heap.size X W' → W'.cell? ⟨w.heap.size + 1, 0, none⟩ = some (.slice va ls.length vc) ∧ W'.frozen? ⟨w.heap.size + 1, 0, none⟩ = false ∧ W'.cell? ⟨x.b, x.o + 2, none⟩ = some (.slice xa x.doc.text.length xc)) := fun W' hb => by
        have b1 : Boxed W' (w.heap.size + 1) 31 (.slice va ls.length vc) := (hb.block _ (by omega)).trans hbox
        exact ⟨b1.cell, b1.frozen, (hb.cell (p := ⟨x.b, x.o + 2, none⟩) hxb').trans c2⟩
      have HC : Hid (∀ W', Below X.heap.size X W' → Calls Tryd.prog 38 #[.slice xa x.doc.text.length xc] W' fun e w' => (∃ uv, e = .returned uv ∧ Txx w' (fun b => X.heap.size ≤ b ∧ b < w'.heap.size) uv x.doc.text) ∧ Below X.heap.size X w') := fun W' hb => by
        refine (bclone_any x.doc.text xa xc W' ((hxb.keep (fun b q hlt => hb.cell (p := ⟨b, q, none⟩) (by show b < _; omega))).mono (by have := hb.size; omega)) hxl).mono ?_
        rintro e w' ⟨⟨uv, rfl, h⟩, hb'⟩
        exact ⟨⟨uv, rfl, h.wide (fun b hb2 => ⟨Nat.le_trans hb.size hb2.1, hb2.2⟩)⟩, hb.trans (hb'.mono hb.size)⟩
      have HR2 : Hid (∀ w2, Below X.heap.size X w2 → ∀ ua uc, (w2.alloc (.cells #[.slice ua x.doc.text.length uc] 22)).ownsRow (w.heap.size + 4) 22 1 (.slice va ls.length vc) ls.length cs) := fun w2 hb ua uc => (row_ab' hrow (fun g hg => hb.block g (hrow.lt g hg).2)).alloc _
      have HNW : Hid (∀ (w2 : World) ua uc (j : Nat) u, ([.slice ua x.doc.text.length uc] : List Value)[j]? = some u → (w2.alloc (.cells #[.slice ua x.doc.text.length uc] 22)).cell? ((⟨w2.heap.size, 0, none⟩ : Addr).add j) = some u) := fun w2 ua uc => cells_new w2 [.slice ua x.doc.text.length uc] 22
      have HOC : Hid (∀ (ua : Option Addr) (uc : Nat), ∀ u ∈ ([.slice ua x.doc.text.length uc] : List Value), u.oneCell' = true) := fun ua uc u hu => by simp at hu; subst hu; rfl
      have HN1 : Hid (ls.length + 1 ≤ maxLen) := by show _ ≤ _; unfold maxLen; omega
      have HN2 : Hid ((ls.length + 1) * 24 ≤ 140737488355328) := by show _ ≤ _; omega
      have HN3 : Hid (∀ w2, Below X.heap.size X w2 → ∀ ua uc, w.heap.size + 4 ≤ (w2.alloc (.cells #[.slice ua x.doc.text.length uc] 22)).heap.size) := fun w2 hb ua uc => by have := hb.size; simp; omega
      have HN4 : Hid (∀ (w2 : World) ua uc, (w2.alloc (.cells #[.slice ua x.doc.text.length uc] 22)).heap.size = w2.heap.size + 1) := fun w2 ua uc => by simp
      have h9 : ∀ w2, Below X.heap.size X w2 → ∀ ua uc (w9 : World), (w2.alloc (.cells #[.slice ua x.doc.text.length uc] 22)).grownBy w9 (Value.slice va ls.length vc).ownBlock → ∀ b, b < X.heap.size → (Value.slice va ls.length vc).ownBlock ≠ some b → w9.heap[b]? = X.heap[b]? := fun w2 hb ua uc w9 hg b hb' hne => (hg.block b (by have := hb.size; simp; omega) (fun e => hne e.symm)).trans ((Below.heap_alloc w2 _ b (by have := hb.size; omega)).trans (hb.block b hb'))
      have low : ∀ b, b < w.heap.size + 4 → (Value.slice va ls.length vc).ownBlock ≠ some b := fun b hb e => by have := (HLT.out b e).1; omega
      have HCL : Hid (∀ w2, Below X.heap.size X w2 → ∀ ua uc (w9 : World), (w2.alloc (.cells #[.slice ua x.doc.text.length uc] 22)).grownBy w9 (Value.slice va ls.length vc).ownBlock → w9.cell? ⟨w.heap.size + 1, 0, none⟩ = some (.slice va ls.length vc) ∧ w9.frozen? ⟨w.heap.size + 1, 0, none⟩ = false) := fun w2 hb ua uc w9 hg => by
        have hb' : Boxed w9 (w.heap.size + 1) 31 (.slice va ls.length vc) := (h9 w2 hb ua uc w9 hg _ (by omega) (low _ (by omega))).trans hbox
        exact ⟨hb'.cell, hb'.frozen⟩
      have HS8 : Hid (∀ w2, Below X.heap.size X w2 → ∀ ua uc (w9 : World), (w2.alloc (.cells #[.slice ua x.doc.text.length uc] 22)).grownBy w9 (Value.slice va ls.length vc).ownBlock → w9.cell? ⟨x.b, x.o + 2, none⟩ = some (.slice xa x.doc.text.length xc)) := fun w2 hb ua uc w9 hg => (World.cell?_of_block (a := ⟨x.b, x.o + 2, none⟩) (h9 w2 hb ua uc w9 hg x.b hxb' (low x.b (by omega)))).trans c2
      have HS9 : Hid (∀ w2, Below X.heap.size X w2 → ∀ ua uc (w9 : World), (w2.alloc (.cells #[.slice ua x.doc.text.length uc] 22)).grownBy w9 (Value.slice va ls.length vc).ownBlock → ∀ g cap, (w9.setCell ⟨w.heap.size + 1, 0, none⟩ (.slice (some ⟨g, 0, none⟩) (ls.length + 1) cap)).cell? ⟨x.b, x.o + 2, none⟩ = some (.slice xa x.doc.text.length xc)) := fun w2 hb ua uc w9 hg g cap => (World.cell?_of_block (a := ⟨x.b, x.o + 2, none⟩) (Below.heap_setCell w9 ⟨w.heap.size + 1, 0, none⟩ _ x.b (by show x.b ≠ w.heap.size + 1; omega))).trans (HS8.out w2 hb ua uc w9 hg)
      have HFIN : Hid (∀ w2, Below X.heap.size X w2 → ∀ ua uc, Txx w2 (fun b => X.heap.size ≤ b ∧ b < w2.heap.size) (.slice ua x.doc.text.length uc) x.doc.text → ∀ (g cap : Nat) (w9 : World), w9.ownsRow (w.heap.size + 4) 22 1 (.slice (some ⟨g, 0, none⟩) (ls.length + 1) cap) (ls.length + 1) (cs ++ [.slice ua x.doc.text.length uc]) → (w2.alloc (.cells #[.slice ua x.doc.text.length uc] 22)).grownBy w9 (Value.slice va ls.length vc).ownBlock → ((Value.slice va ls.length vc).ownBlock = some g ∨ g = w2.heap.size + 1) →
          KeepsFrom w5.heap.size X (w9.setCell ⟨w.heap.size + 1, 0, none⟩ (.slice (some ⟨g, 0, none⟩) (ls.length + 1) cap)) ∧ Keep (w.heap.size + 1) A X (w9.setCell ⟨w.heap.size + 1, 0, none⟩ (.slice (some ⟨g, 0, none⟩) (ls.length + 1) cap)) ∧ LI w w5 A (xs ++ [x]) (w9.setCell ⟨w.heap.size + 1, 0, none⟩ (.slice (some ⟨g, 0, none⟩) (ls.length + 1) cap))) := fun w2 hb ua uc htx g cap w9 hown hg hat => by
        obtain ⟨Y, hY⟩ : ∃ Y, w9.setCell ⟨w.heap.size + 1, 0, none⟩ (.slice (some ⟨g, 0, none⟩) (ls.length + 1) cap) = Y := ⟨_, rfl⟩
        rw [hY]
        have hs2 := hb.size
        have hs9 : w2.heap.size + 1 ≤ w9.heap.size := by have := hg.size; simpa using this
        have hsY : Y.heap.size = w9.heap.size := by rw [← hY]; simp [World.setCell]
        have kY : ∀ b, b ≠ w.heap.size + 1 → Y.heap[b]? = w9.heap[b]? := fun b hne => by rw [← hY]; exact Below.heap_setCell w9 ⟨w.heap.size + 1, 0, none⟩ _ b hne
        have k9 : ∀ b, b < X.heap.size → (Value.slice va ls.length vc).ownBlock ≠ some b → b ≠ w.heap.size + 1 → Y.heap[b]? = X.heap[b]? := fun b h1 h2 h3 => (kY b h3).trans (h9 w2 hb ua uc w9 hg b h1 h2)
        have hos : Y.os = X.os ∧ Y.tape = X.tape ∧ Y.output = X.output := by
          rw [← hY]
          exact ⟨(show w9.os = _ from hg.os).trans hb.os, (show w9.tape = _ from hg.tape).trans hb.tape, (show w9.output = _ from hg.output).trans hb.output⟩
        have hbel : Below (w.heap.size + 1) X Y := ⟨hos.1, hos.2.1, hos.2.2, by omega, fun b hb' => k9 b (by omega) (low b (by omega)) (by omega)⟩
        obtain ⟨g0, j1, j2, j3⟩ := txx_block htx (by omega)
        refine ⟨⟨by omega, fun k o' hk' hko hoc => ?_⟩, ⟨hbel, fun b hb' hlt' => k9 b hlt' (fun e => hnA b e hb') (by have := hI.ab b hb'; omega)⟩, ⟨⟨.slice (some ⟨g, 0, none⟩) (ls.length + 1) cap, cs ++ [.slice ua x.doc.text.length uc], ?_, ?_, ?_, ?_⟩, hI.ab, hI.bel.trans hbel, fun b hb' => by have := hI.lt b hb'; omega, by omega⟩⟩
        · have hkl := (Array.getElem?_eq_some_iff.1 hko).1
          refine (k9 k hkl (fun e => ?_) (fun e => ?_)).trans hko
          · obtain ⟨cur, hc⟩ := row_cells' hrow e
            rw [hko] at hc
            cases hc
            cases hoc
          · rw [e, show X.heap[w.heap.size + 1]? = _ from hbox] at hko
            cases hko
            cases hoc
        · rw [← hY]
          exact box_set ((h9 w2 hb ua uc w9 hg _ (by omega) (low _ (by omega))).trans hbox) _
        · rw [hsay, List.length_append, ← hY]
          exact row_put hown (by omega) _
        · rw [hsay]
          have ho : LX Y (fun b => ¬ A b) (w.heap.size + 4) X.heap.size ls cs := hlx.keep (Nat.le_refl _) (fun g' e1 e2 e3 => ⟨e3, fun ht => k9 g' e2 (fun e => by
            obtain ⟨cur, hc⟩ := row_cells' hrow e
            obtain ⟨c', fz, ht⟩ := ht
            rw [ht] at hc
            cases hc) (by omega)⟩)
          refine ho.snoc (g := g0) j1 (by omega) (fun hA' => by have := hI.lt g0 hA'; omega) ?_
          refine j3.keep5 (fun ht => ?_)
          have hg0 : g0 < w2.heap.size := by
            obtain ⟨c', fz, ht⟩ := ht
            exact (Array.getElem?_eq_some_iff.1 ht).1
          refine (kY g0 (by omega)).trans ((hg.block g0 (by simp; omega) (fun e => ?_)).trans (Below.heap_alloc w2 _ g0 hg0))
          have := (HLT.out g0 e.symm).2
          omega
        · intro b hb'
          simp [Value.ownBlock] at hb'
          subst hb'
          rcases hat with h | h
          · exact hnA g h
          · intro hA'
            have := hI.lt g hA'
            omega
      obtain ⟨W0, hW0⟩ : ∃ W0, X.drew = W0 := ⟨_, rfl⟩
      have hB0 : Below X.heap.size X W0 := by rw [← hW0]; exact (Below.refl _ _).drew
      obtain ⟨p1, p2, p3⟩ := HQ.out W0 hB0
      clear hdoc hsay hI hbox hrow hlx hnA h2 hmem hn hx hr hA h9 low hxb hxl hxc hd5 bL b1 b2
      gi_wp2
      refine region_held l _ (by kernel_rfl) (noDefer_spec (by kernel_rfl)) (S := fun W' => W'.cell? ⟨x.b, x.o + 2, none⟩ = some (.slice xa x.doc.text.length xc)) (fun ⟨_, _, h⟩ => h) (by rw [hW0]; exact p3) (fun hHeld => ?_)
      rw [hW0]
      refine wpAnyH_take (i := 1) (v := ?v1) rfl (by kernel_rfl) (by kernel_rfl) (by kernel_rfl) (fun _ _ _ h => h) (Or.inl ⟨by rfl, ?y1⟩) (by assumption) ?_
      case y1 => (intro w hSw; (try dsimp only at hSw); go_simp <;> with_reducible rfl)
      try simp only [Act.put, List.getElem_toArray, List.getElem_cons_zero, List.getElem_cons_succ, List.setIfInBounds_toArray, List.set_cons_zero, List.set_cons_succ]
      refine wpAnyH_take (i := 2) (v := ?v2) rfl (by kernel_rfl) (by kernel_rfl) (by kernel_rfl) (fun _ _ _ h => h) (Or.inl ⟨by rfl, ?y2⟩) (by assumption) ?_
      case y2 => (intro w hSw; (try dsimp only at hSw); go_simp <;> with_reducible rfl)
      try simp only [Act.put, List.getElem_toArray, List.getElem_cons_zero, List.getElem_cons_succ, List.setIfInBounds_toArray, List.set_cons_zero, List.set_cons_succ]
      refine wpAnyH_take (i := 3) (v := ?v3) rfl (by kernel_rfl) (by kernel_rfl) (by kernel_rfl) (fun _ _ _ h => h) (Or.inl ⟨by rfl, ?y3⟩) (by assumption) ?_
      case y3 => (intro w hSw; (try dsimp only at hSw); go_simp <;> with_reducible rfl)
      try simp only [Act.put, List.getElem_toArray, List.getElem_cons_zero, List.getElem_cons_succ, List.setIfInBounds_toArray, List.set_cons_zero, List.set_cons_succ]
      refine wpAnyH_take (i := 4) (v := ?v4) rfl (by kernel_rfl) (by kernel_rfl) (by kernel_rfl) (fun _ _ _ h => h) (Or.inl ⟨by rfl, ?y4⟩) (by assumption) ?_
      case y4 => (intro w hSw; (try dsimp only at hSw); go_simp <;> with_reducible rfl)
      try simp only [Act.put, List.getElem_toArray, List.getElem_cons_zero, List.getElem_cons_succ, List.setIfInBounds_toArray, List.set_cons_zero, List.set_cons_succ]
      refine wpAnyH_ready (rs := [0, 5]) (by kernel_rfl) (by simp) ?_
      refine (AllReadyH.cons rfl (fun K hK => ?_) (AllReadyH.cons rfl (fun K hK => ?_) AllReadyH.nil))
      · go_simp
        refine hK.out _ _ (by assumption) (fun hHeld => ?_)
        clear hK K
        try simp only [Act.put, List.getElem_toArray, List.getElem_cons_zero, List.getElem_cons_succ, List.setIfInBounds_toArray, List.set_cons_zero, List.set_cons_succ]
        refine wpAnyH_ready (rs := [5]) (by kernel_rfl) (by simp) ?_
        refine (AllReadyH.cons rfl (fun K hK => ?_) AllReadyH.nil)
        go_simp
        go_at_call 38
        refine (HC.out _ (by assumption)).mono ?_
        rintro e w2 ⟨⟨uv, rfl, htx⟩, hb2⟩
        obtain ⟨ua, uc, rfl, hx1, hx2, hx3⟩ := htx
        have htx2 : Unit → Txx w2 (fun b => X.heap.size ≤ b ∧ b < w2.heap.size) (.slice ua x.doc.text.length uc) x.doc.text := fun _ => ⟨ua, uc, rfl, hx1, hx2, hx3⟩
        clear hx1 hx2 hx3
        obtain ⟨q1, q2, q3⟩ := HQ.out w2 hb2
        go_wp2_with fail
        refine hK.out _ _ q3 (fun hHeld => ?_)
        clear hK K
        try simp only [Act.put, List.getElem_toArray, List.getElem_cons_zero, List.getElem_cons_succ, List.setIfInBounds_toArray, List.set_cons_zero, List.set_cons_succ]
        refine wpAnyH_ready (rs := [6]) (by kernel_rfl) (by simp) ?_
        refine (AllReadyH.cons rfl (fun K hK => ?_) AllReadyH.nil)
        go_simp
        obtain ⟨q4, q5, q6⟩ := HQ.out (w2.alloc (.cells #[.slice ua x.doc.text.length uc] 22)) (hb2.alloc hb2.size _)
        refine hK.out _ _ q6 (fun hHeld => ?_)
        clear hK K
        try simp only [Act.put, List.getElem_toArray, List.getElem_cons_zero, List.getElem_cons_succ, List.setIfInBounds_toArray, List.set_cons_zero, List.set_cons_succ]
        refine wpAnyH_ready (rs := [7]) (by kernel_rfl) (by simp) ?_
        refine (AllReadyH.cons rfl (fun K hK => ?_) AllReadyH.nil)
        rw [if_pos (by rfl)]
        refine wp_append_lies _ _ _ 31 rfl (w.heap.size + 4) 22 i0 _ 1 24 Tryd.underlying31 hinf hz0 hz1 hz2 rfl (by omega) _ _ _ rfl (HR2.out w2 hb2 ua uc) ⟨w2.heap.size, 0, none⟩ 1 1 [.slice ua x.doc.text.length uc] rfl rfl (HNW.out w2 ua uc) (HOC.out ua uc) (by omega) HN1.out HN2.out (HN3.out w2 hb2 ua uc) (w2.heap.size + 1) (HN4.out w2 ua uc) ?_
        intro g cap w9 hown9 hgrow9 hat9 hlt9
        obtain ⟨cL9, fL9⟩ := HCL.out w2 hb2 ua uc w9 hgrow9
        refine hK.out _ _ (HS8.out w2 hb2 ua uc w9 hgrow9) (fun hHeld => ?_)
        clear hK K
        try simp only [Act.put, List.getElem_toArray, List.getElem_cons_zero, List.getElem_cons_succ, List.setIfInBounds_toArray, List.set_cons_zero, List.set_cons_succ]
        refine wpAnyH_ready (rs := [8]) (by kernel_rfl) (by simp) ?_
        refine (AllReadyH.cons rfl (fun K hK => ?_) AllReadyH.nil)
        go_simp
        refine hK.out _ _ (HS9.out w2 hb2 ua uc w9 hgrow9 g cap) (fun hHeld => ?_)
        clear hK K
        try simp only [Act.put, List.getElem_toArray, List.getElem_cons_zero, List.getElem_cons_succ, List.setIfInBounds_toArray, List.set_cons_zero, List.set_cons_succ]
        refine wpAnyH_done (by kernel_rfl) ?_ _
        try gi_wp2
        exact HFIN.out w2 hb2 ua uc (htx2 ()) g cap w9 hown9 hgrow9 hat9
      · go_simp
        go_at_call 38
        refine (HC.out _ (by assumption)).mono ?_
        rintro e w2 ⟨⟨uv, rfl, htx⟩, hb2⟩
        obtain ⟨ua, uc, rfl, hx1, hx2, hx3⟩ := htx
        have htx2 : Unit → Txx w2 (fun b => X.heap.size ≤ b ∧ b < w2.heap.size) (.slice ua x.doc.text.length uc) x.doc.text := fun _ => ⟨ua, uc, rfl, hx1, hx2, hx3⟩
        clear hx1 hx2 hx3
        obtain ⟨q1, q2, q3⟩ := HQ.out w2 hb2
        go_wp2_with fail
        refine hK.out _ _ q3 (fun hHeld => ?_)
        clear hK K
        try simp only [Act.put, List.getElem_toArray, List.getElem_cons_zero, List.getElem_cons_succ, List.setIfInBounds_toArray, List.set_cons_zero, List.set_cons_succ]
        refine wpAnyH_ready (rs := [0, 6]) (by kernel_rfl) (by simp) ?_
        refine (AllReadyH.cons rfl (fun K hK => ?_) (AllReadyH.cons rfl (fun K hK => ?_) AllReadyH.nil))
        · go_simp
          refine hK.out _ _ (by assumption) (fun hHeld => ?_)
          clear hK K
          try simp only [Act.put, List.getElem_toArray, List.getElem_cons_zero, List.getElem_cons_succ, List.setIfInBounds_toArray, List.set_cons_zero, List.set_cons_succ]
          refine wpAnyH_ready (rs := [6]) (by kernel_rfl) (by simp) ?_
          refine (AllReadyH.cons rfl (fun K hK => ?_) AllReadyH.nil)
          go_simp
          obtain ⟨q4, q5, q6⟩ := HQ.out (w2.alloc (.cells #[.slice ua x.doc.text.length uc] 22)) (hb2.alloc hb2.size _)
          refine hK.out _ _ q6 (fun hHeld => ?_)
          clear hK K
          try simp only [Act.put, List.getElem_toArray, List.getElem_cons_zero, List.getElem_cons_succ, List.setIfInBounds_toArray, List.set_cons_zero, List.set_cons_succ]
          refine wpAnyH_ready (rs := [7]) (by kernel_rfl) (by simp) ?_
          refine (AllReadyH.cons rfl (fun K hK => ?_) AllReadyH.nil)
          rw [if_pos (by rfl)]
          refine wp_append_lies _ _ _ 31 rfl (w.heap.size + 4) 22 i0 _ 1 24 Tryd.underlying31 hinf hz0 hz1 hz2 rfl (by omega) _ _ _ rfl (HR2.out w2 hb2 ua uc) ⟨w2.heap.size, 0, none⟩ 1 1 [.slice ua x.doc.text.length uc] rfl rfl (HNW.out w2 ua uc) (HOC.out ua uc) (by omega) HN1.out HN2.out (HN3.out w2 hb2 ua uc) (w2.heap.size + 1) (HN4.out w2 ua uc) ?_
          intro g cap w9 hown9 hgrow9 hat9 hlt9
          obtain ⟨cL9, fL9⟩ := HCL.out w2 hb2 ua uc w9 hgrow9
          refine hK.out _ _ (HS8.out w2 hb2 ua uc w9 hgrow9) (fun hHeld => ?_)
          clear hK K
          try simp only [Act.put, List.getElem_toArray, List.getElem_cons_zero, List.getElem_cons_succ, List.setIfInBounds_toArray, List.set_cons_zero, List.set_cons_succ]
          refine wpAnyH_ready (rs := [8]) (by kernel_rfl) (by simp) ?_
          refine (AllReadyH.cons rfl (fun K hK => ?_) AllReadyH.nil)
          go_simp
          refine hK.out _ _ (HS9.out w2 hb2 ua uc w9 hgrow9 g cap) (fun hHeld => ?_)
          clear hK K
          try simp only [Act.put, List.getElem_toArray, List.getElem_cons_zero, List.getElem_cons_succ, List.setIfInBounds_toArray, List.set_cons_zero, List.set_cons_succ]
          refine wpAnyH_done (by kernel_rfl) ?_ _
          try gi_wp2
          exact HFIN.out w2 hb2 ua uc (htx2 ()) g cap w9 hown9 hgrow9 hat9
        · go_simp
          obtain ⟨q4, q5, q6⟩ := HQ.out (w2.alloc (.cells #[.slice ua x.doc.text.length uc] 22)) (hb2.alloc hb2.size _)
          refine hK.out _ _ q6 (fun hHeld => ?_)
          clear hK K
          try simp only [Act.put, List.getElem_toArray, List.getElem_cons_zero, List.getElem_cons_succ, List.setIfInBounds_toArray, List.set_cons_zero, List.set_cons_succ]
          refine wpAnyH_ready (rs := [0]) (by kernel_rfl) (by simp) ?_
          refine (AllReadyH.cons rfl (fun K hK => ?_) AllReadyH.nil)
          go_simp
          refine hK.out _ _ (by assumption) (fun hHeld => ?_)
          clear hK K
          try simp only [Act.put, List.getElem_toArray, List.getElem_cons_zero, List.getElem_cons_succ, List.setIfInBounds_toArray, List.set_cons_zero, List.set_cons_succ]
          refine wpAnyH_ready (rs := [7]) (by kernel_rfl) (by simp) ?_
          refine (AllReadyH.cons rfl (fun K hK => ?_) AllReadyH.nil)
          rw [if_pos (by rfl)]
          refine wp_append_lies _ _ _ 31 rfl (w.heap.size + 4) 22 i0 _ 1 24 Tryd.underlying31 hinf hz0 hz1 hz2 rfl (by omega) _ _ _ rfl (HR2.out w2 hb2 ua uc) ⟨w2.heap.size, 0, none⟩ 1 1 [.slice ua x.doc.text.length uc] rfl rfl (HNW.out w2 ua uc) (HOC.out ua uc) (by omega) HN1.out HN2.out (HN3.out w2 hb2 ua uc) (w2.heap.size + 1) (HN4.out w2 ua uc) ?_
          intro g cap w9 hown9 hgrow9 hat9 hlt9
          obtain ⟨cL9, fL9⟩ := HCL.out w2 hb2 ua uc w9 hgrow9
          refine hK.out _ _ (HS8.out w2 hb2 ua uc w9 hgrow9) (fun hHeld => ?_)
          clear hK K
          try simp only [Act.put, List.getElem_toArray, List.getElem_cons_zero, List.getElem_cons_succ, List.setIfInBounds_toArray, List.set_cons_zero, List.set_cons_succ]
          refine wpAnyH_ready (rs := [8]) (by kernel_rfl) (by simp) ?_
          refine (AllReadyH.cons rfl (fun K hK => ?_) AllReadyH.nil)
          go_simp
          refine hK.out _ _ (HS9.out w2 hb2 ua uc w9 hgrow9 g cap) (fun hHeld => ?_)
          clear hK K
          try simp only [Act.put, List.getElem_toArray, List.getElem_cons_zero, List.getElem_cons_succ, List.setIfInBounds_toArray, List.set_cons_zero, List.set_cons_succ]
          refine wpAnyH_done (by kernel_rfl) ?_ _
          try gi_wp2
          exact HFIN.out w2 hb2 ua uc (htx2 ()) g cap w9 hown9 hgrow9 hat9
    · have hk2 : (x.doc.kind == 2) = false := by simpa using h2
      have hsay : lexs ((xs ++ [x]).map Px.doc) = lexs (xs.map Px.doc) := by rw [hdoc, lexs_app, lexs_no h2, List.append_nil]
      have HH : Hid (KeepsFrom w5.heap.size X X ∧ Keep (w.heap.size + 1) A X X ∧ LI w w5 A (xs ++ [x]) X) := ⟨KeepsFrom.refl _ _, ⟨Below.refl _ _, fun _ _ _ => rfl⟩, ⟨⟨v, cs, hbox, by rw [hsay]; exact hrow, by rw [hsay]; exact hlx, hnA⟩, hI.ab, hI.bel, hI.lt, hI.sz⟩⟩
      clear hdoc hsay hI hbox hrow hlx hnA h2 hmem hn hx hr hA hxb hxl hxc hd5 bL b1 b2
      gi_wp2
      exact HH.out
  case done =>
    rintro D A xs X hD ⟨hS, hT⟩ hI hK
    obtain ⟨v, cs, hbox, hrow, hlx, hnA⟩ := hI.ex
    have hdd : xs.map Px.doc = pts d := by rw [← say_doc, hS, pre_pts]
    rw [hdd] at hrow hlx
    have hsz := hI.sz
    have cL := hbox.cell
    have hkD : ∀ b, b ≠ D → (X.putObj D (.deferred none)).heap[b]? = X.heap[b]? := fun b hb => World.putObj_heap_other hb
    have HF : Hid ((∃ v' cs', Ending.returned v = .returned v' ∧ (X.putObj D (.deferred none)).ownsRow w.heap.size 22 1 v' (lexs (pts d)).length cs' ∧ LX (X.putObj D (.deferred none)) (fun _ => True) w.heap.size (X.putObj D (.deferred none)).heap.size (lexs (pts d)) cs') ∧ Below w.heap.size w (X.putObj D (.deferred none))) := by
      refine ⟨⟨v, cs, rfl, row_mono (row_ab' hrow (fun g hg => hkD g (fun e => ?_))) (by omega), ?_⟩, ?_⟩
      · obtain ⟨cur, hc⟩ := row_cells' hrow hg
        rw [e, hK] at hc
        cases hc
      · have := hlx.keep (Y := X.putObj D (.deferred none)) (Q := fun _ => True) (hi' := (X.putObj D (.deferred none)).heap.size) (by simp) (fun g h1 h2 h3 => ⟨trivial, fun ht => hkD g (fun e => by
          obtain ⟨c', fz, ht⟩ := ht
          rw [e, hK] at ht
          cases ht)⟩)
        exact this.low (by omega)
      · have h1 := hBw.trans (hI.bel.mono (by omega))
        exact ⟨h1.os, h1.tape, h1.output, by simpa using h1.size, fun b hb => (hkD b (by omega)).trans (h1.block b hb)⟩
    obtain ⟨va, vc, rfl⟩ := row_slice hrow
    clear hI hS hT hbox hrow hnA hkD hd5 bL b1 b2 hlx hdd
    gi_wp2
    refine ⟨by simp, .inl ⟨_, _, rfl, run_takeDeferred hK, ?_⟩⟩
    exact ⟨_, by simp [results, Tryd.results17, go_sem], HF.out⟩
  case stop =>
    rintro D c A xs X hD ⟨hS, hT⟩ hX hK
    exact hX.elim
end Go.Proofs.YtlkcadibjmfmcaaDoor
