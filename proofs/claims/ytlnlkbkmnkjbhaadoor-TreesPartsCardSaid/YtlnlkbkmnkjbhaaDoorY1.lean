/- What trees.Yield tells. -/
import Derived.Test.YtlnlkbkmnkjbhaaDoorY0
import Derived.Test.YtlnlkbkmnkjbhaaDoorV2
import Derived.Test.YtlnlkbkmnkjbhaaDoorU1
import Derived.Test.YtlnlkbkmnkjbhaaDoorR0
namespace Go.Proofs.YtlnlkbkmnkjbhaaDoor
open Go.RowKit Go.Shelf

attribute [local go_sem] Oper.semAt_some

/-- Bytes as values. -/
def bvs (l : List UInt8) : List Value := l.map fun c => .int .u8 (c.toNat : Int)
theorem bvs_append (a b : List UInt8) : bvs (a ++ b) = bvs a ++ bvs b := by simp [bvs]
theorem bvs_len (l : List UInt8) : (bvs l).length = l.length := by simp [bvs]
theorem row_ab {X Y : World} {B : Nat} {e : TypeId} {k : Nat} {v : Value} {n : Nat} {xs : List Value} (h : X.ownsRow B e k v n xs) (hk : ∀ g, v.ownBlock = some g → Y.heap[g]? = X.heap[g]?) : Y.ownsRow B e k v n xs := by
  refine ⟨h.1, ?_⟩
  rcases h.2 with h0 | ⟨g, cap, cur, rfl, hbg, hg, rest⟩
  · exact .inl h0
  · exact .inr ⟨g, cap, cur, rfl, hbg, (hk g rfl).trans hg, rest⟩
theorem row_base {X : World} {B B' : Nat} {e : TypeId} {k : Nat} {v : Value} {n : Nat} {xs : List Value} (h : X.ownsRow B e k v n xs) (hB : B' ≤ B) : X.ownsRow B' e k v n xs := by
  refine ⟨h.1, ?_⟩
  rcases h.2 with h0 | ⟨g, cap, cur, rfl, hbg, rest⟩
  · exact .inl h0
  · exact .inr ⟨g, cap, cur, rfl, Nat.le_trans hB hbg, rest⟩
theorem row_type {X : World} {B : Nat} {e : TypeId} {k : Nat} {v : Value} {n : Nat} {xs : List Value} (h : X.ownsRow B e k v n xs) {b : Nat} (hb : v.ownBlock = some b) : ∃ cur, X.heap[b]? = some (.cells cur e) := by
  rcases h.2 with ⟨rfl, _⟩ | ⟨g, cap, cur, rfl, hbg, hg, rest⟩
  · cases hb
  · simp [Value.ownBlock] at hb; subst hb; exact ⟨_, hg⟩
theorem row_cells {X : World} {B : Nat} {e : TypeId} {k : Nat} {v : Value} {n : Nat} {xs : List Value} (h : X.ownsRow B e k v n xs) {b : Nat} (hb : v.ownBlock = some b) : ∃ cur t, X.heap[b]? = some (.cells cur t) := by
  rcases h.2 with ⟨rfl, _⟩ | ⟨g, cap, cur, rfl, hbg, hg, rest⟩
  · cases hb
  · simp [Value.ownBlock] at hb; subst hb; exact ⟨_, _, hg⟩
/-- While one goes through the parts: the bytes that have come. -/
structure YI (w wd : World) (U : Nat → Prop) (A : Nat → Prop) (xs : List Qx) (X : World) : Prop where
  ex : ∃ v, Boxed X (w.heap.size + 1) 40 v ∧ X.ownsRow (w.heap.size + 5) 5 1 v (ybs (xs.map Qx.say)).length (bvs (ybs (xs.map Qx.say))) ∧ ∀ b, v.ownBlock = some b → ¬ A b
  ab : ∀ b, A b → w.heap.size + 3 ≤ b
  keep : Ab U wd X
  bel : Below w.heap.size w X
  sz : w.heap.size + 5 ≤ X.heap.size
  lt : ∀ b, A b → b < X.heap.size
section
variable {w wd : World} {U : Nat → Prop}
theorem YI.move {A A' : Nat → Prop} {xs : List Qx} {X Y : World} (h : YI w wd U A xs X) (hU : ∀ b, U b → b < w.heap.size + 3) (hi : Iter A X Y) (ha : Adds A A' X Y) : YI w wd U A' xs Y := by
  obtain ⟨v, hb, hr, hn⟩ := h.ex
  have hs := h.sz
  have hk : ∀ b, b < w.heap.size + 3 → Y.heap[b]? = X.heap[b]? := fun b hb => hi.keep b (by omega) (fun hA => by have := h.ab b hA; omega)
  refine ⟨⟨v, (hk _ (by omega)).trans hb, row_ab hr (fun g hg => hi.keep g (hr.lt g hg).2 (hn g hg)), fun b hb' hA => ?_⟩, fun b hb' => ?_, ⟨hi.os.trans h.keep.os, hi.tape.trans h.keep.tape, hi.output.trans h.keep.output, Nat.le_trans h.keep.size hi.size, fun b hb' => (hk b (hU b hb')).trans (h.keep.block b hb')⟩, ⟨hi.os.trans h.bel.os, hi.tape.trans h.bel.tape, hi.output.trans h.bel.output, Nat.le_trans h.bel.size hi.size, fun b hb' => (hk b (by omega)).trans (h.bel.block b hb')⟩, Nat.le_trans hs hi.size, fun b hb' => ?_⟩
  · rcases ha b hA with h' | h'
    · exact hn b hb' h'
    · have := (hr.lt b hb').2; omega
  · rcases ha b hb' with h' | h'
    · exact h.ab b h'
    · omega
  · rcases ha b hb' with h' | h'
    · have := h.lt b h'; have := hi.size; omega
    · exact h'.2
theorem YI.stays (hU : ∀ b, U b → b < w.heap.size + 3) : Stays (YI w wd U) := fun _ _ _ _ _ h hi ha => h.move hU hi ha
theorem YI.noMind (hU : ∀ b, U b → b < w.heap.size + 3) {A0 : Nat → Prop} : NoMindAt (w.heap.size + 3) A0 (YI w wd U) := by
  intro A xs X o' h hA hlt
  obtain ⟨v, hb, hr, hn⟩ := h.ex
  have hk : ∀ b, b ≠ w.heap.size + 3 + 1 → (X.putObj (w.heap.size + 3 + 1) o').heap[b]? = X.heap[b]? := fun b hb => World.putObj_heap_other hb
  exact ⟨⟨v, (hk _ (by omega)).trans hb, row_ab hr (fun g hg => hk g (by have := (hr.lt g hg).1; omega)), hn⟩, h.ab, ⟨h.keep.os, h.keep.tape, h.keep.output, by simpa using h.keep.size, fun b hb' => (hk b (by have := hU b hb'; omega)).trans (h.keep.block b hb')⟩, ⟨h.bel.os, h.bel.tape, h.bel.output, by simpa using h.bel.size, fun b hb' => (hk b (by omega)).trans (h.bel.block b hb')⟩, by simpa using h.sz, fun b hb' => by have := h.lt b hb'; simpa using this⟩
end
/-- No round ends before its time. -/
def YX : Code → (Nat → Prop) → List Qx → World → Prop := fun _ _ _ _ => False
theorem info5 : (Tryd.prog.info? 5).map (fun i => (i.zero, i.size, i.bytes)) = some (some (.int .u8 0), 1, 1) := by kernel_rfl
theorem marks_bytes : ∀ (k : Nat) (l : List (Tr × Nat)), ∀ q ∈ marks k l, q.2.2 = 0 ∨ q.2.2 = 1
  | k, [], q, hq => by cases hq
  | k, p :: l, q, hq => by
    rcases List.mem_cons.1 hq with rfl | hq
    · show lown k p = 0 ∨ lown k p = 1
      unfold lown; split
      · exact .inr rfl
      · exact .inl rfl
    · exact marks_bytes _ l q hq
theorem QFirsts.mem {d : Tr} {l : List Qx} {x : Qx} (h : QFirsts d l x) : x.say ∈ marks 0 (pre d 1) := by
  obtain ⟨r, hr⟩ := h
  rw [← hr]; simp
theorem marks_len : ∀ (k : Nat) (l : List (Tr × Nat)), (marks k l).length = l.length
  | k, [] => rfl
  | k, p :: l => by simp [marks, marks_len (lstp k p) l]
theorem ybs_le (l : List (Tr × Nat × Nat)) : (ybs l).length ≤ l.length := List.length_filterMap_le _ _
set_option maxRecDepth 100000 in
set_option maxHeartbeats 4000000 in
theorem yield_any (d : Tr) (sa : Option Addr) (sc f : Nat) (w : World) (hk : TAt w w.heap.size f sa d.kids) (hsc : d.kids.length ≤ sc) (hlen : sz d ≤ 1000000000000) :
    Calls Tryd.prog 23 #[.agg #[.int .i64 d.rule, .int .u8 (d.byte.toNat : Int), .slice sa d.kids.length sc]] w fun e w' => (∃ v, e = .returned v ∧ w'.ownsRow w.heap.size 5 1 v (yl d).length (bvs (yl d))) ∧ Below w.heap.size w w' := by
  obtain ⟨i0, hinf, hz0, hz1, hz2⟩ := info_parts info5
  refine (callsIn_wide (n := 9)).1 ?_
  refine callsIn_of_wp_marks Tryd.func23 rfl trivial ?_ rfl
  simp only [Tryd.ntmps23, List.size_toArray, List.length_cons, List.length_nil, Nat.reduceAdd, Nat.reduceSub, Array.replicate_succ, Array.replicate_zero, List.push_toArray, List.append_toArray, List.nil_append, List.cons_append]
  gi_wp2_with (refine ⟨trivial, ?_⟩; gi_at_call 46; refine (callsIn_wide.2 (tparts_any d _ _)).mono ?_; rintro e w' ⟨rfl, rfl⟩)
  obtain ⟨w3, hw3⟩ : ∃ w3, ((w.alloc (.cells #[.int .i64 d.rule, .int .u8 (d.byte.toNat : Int), .slice sa d.kids.length sc] 27)).alloc (.cells #[.slice none 0 0] 40)).alloc (.cells #[.int .i64 d.rule, .int .u8 (d.byte.toNat : Int), .slice sa d.kids.length sc] 27) = w3 := ⟨_, rfl⟩
  have bL := (Boxed.new (w.alloc (.cells #[.int .i64 d.rule, .int .u8 (d.byte.toNat : Int), .slice sa d.kids.length sc] 27)) 40 (.slice none 0 0)).alloc (.cells #[.int .i64 d.rule, .int .u8 (d.byte.toNat : Int), .slice sa d.kids.length sc] 27)
  have s3 : w3.heap.size = w.heap.size + 3 := by rw [← hw3]; simp
  have hB3 : Below w.heap.size w w3 := by rw [← hw3]; exact ((((Below.refl _ _).alloc (Nat.le_refl _) _).alloc (by simp) _).alloc (by simp; omega) _)
  simp only [World.size_alloc] at bL
  have t0 : ∀ j v, (#[.int .i64 d.rule, .int .u8 (d.byte.toNat : Int), .slice sa d.kids.length sc] : Array Value)[j]? = some v → w3.cell? ⟨w.heap.size + 1 + 1, j, none⟩ = some v := fun j v hv => by
    have := cell_new (w := (w.alloc (.cells #[.int .i64 d.rule, .int .u8 (d.byte.toNat : Int), .slice sa d.kids.length sc] 27)).alloc (.cells #[.slice none 0 0] 40)) (t := 27) j hv
    rw [hw3] at this; simpa using this
  rw [hw3] at bL
  rw [hw3]
  clear hw3
  obtain ⟨U, hUd⟩ : ∃ U : Nat → Prop, U = fun b => b < w.heap.size ∨ b = w.heap.size + 1 + 1 := ⟨_, rfl⟩
  have hU : ∀ b, U b → b < w.heap.size ∨ b = w.heap.size + 1 + 1 := fun b hb => by rw [hUd] at hb; exact hb
  have hU3 : ∀ b, U b → b < w.heap.size + 3 := fun b hb => by rcases hU b hb with h | h <;> omega
  have hd3 : TreeIn w3 U f (w.heap.size + 1 + 1) 0 d := ⟨by rw [hUd]; exact .inr rfl, sa, sc, t0 0 _ rfl, t0 1 _ rfl, t0 2 _ rfl, hsc, (hk.keep hB3).tin (fun b hb => by rw [hUd]; exact .inl hb)⟩
  clear t0
  refine range_law_h (kx := True) (F := Fence.wide) rfl (fun _ => by omega) (gf := 68) (lb := #[.pointer (some ⟨w.heap.size + 1 + 1, 0, none⟩)]) rfl trivial (enters_of Tryd.func68 (by kernel_rfl) rfl)
    (tparts_seq (9 - 1) (by omega) (w.heap.size + 1 + 1) U f d w3 (fun b hb => by have := hU3 b hb; omega) hd3 (by rw [pre_len]; exact hlen)) (fun b hb => by have := hU3 b hb; omega) (fun b hb => hb.elim) (Below.refl _ _) (fun _ => rfl)
    (YI w w3 U) YX (YI.stays hU3) (by rw [s3]; exact YI.noMind hU3) (fun _ _ _ _ _ _ h => h.elim) (fun _ _ _ _ _ h => h.elim)
    (fun W1 hb1 hs1 => ?start)
    (fun x a' X => ∃ Pb, X.heap[Pb]? = some (.cells #[.pointer (some ⟨x.b, x.o, none⟩), .int .i64 (x.deep : Int), .int .i64 (x.bytes : Int)] 79) ∧ X.cell? ⟨Pb, 0, none⟩ = some (.pointer (some ⟨x.b, x.o, none⟩)) ∧ X.cell? ⟨Pb, 2, none⟩ = some (.int .i64 (x.bytes : Int)) ∧ w.heap.size + 5 ≤ Pb ∧ Pb < X.heap.size ∧ a' = { tmps := #[.agg #[.int .i64 d.rule, .int .u8 (d.byte.toNat : Int), .slice sa d.kids.length sc], .pointer (some ⟨w.heap.size, 0, none⟩), .slice none 0 0, .pointer (some ⟨w.heap.size + 1, 0, none⟩), .pointer (some ⟨Pb, 0, none⟩), .agg #[.int .i64 d.rule, .int .u8 (d.byte.toNat : Int), .slice sa d.kids.length sc], .func (.func 68) #[] #[.pointer (some ⟨w.heap.size + 1 + 1, 0, none⟩)], .agg #[.pointer (some ⟨x.b, x.o, none⟩), .int .i64 (x.deep : Int), .int .i64 (x.bytes : Int)], undef, undef, undef, undef, undef, undef, undef, undef, undef, undef, undef, undef], defers := [] }) ?ax ?assign ?body ?done ?stop
  case start =>
    exact ⟨⟨.slice none 0 0, (hb1.block _ (by omega)).trans bL, World.ownsRow_nil _ _ _ _, fun b hb => by cases hb⟩, fun b hb => hb.elim, Ab.of_below hb1 (fun b hb => by have := hU3 b hb; omega), hB3.trans (hb1.mono (by omega)), by omega, fun b hb => hb.elim⟩
  case ax =>
    rintro x a' X o' ⟨Pb, hPb, c0, c2, h1, h2, rfl⟩ hlt
    have hk : ∀ q, (X.putObj (w3.heap.size + 1) o').cell? ⟨Pb, q, none⟩ = X.cell? ⟨Pb, q, none⟩ := fun q => World.cell?_of_block (a := ⟨Pb, q, none⟩) (World.putObj_heap_other (by show Pb ≠ _; omega))
    exact ⟨Pb, (World.putObj_heap_other (by show Pb ≠ _; omega)).trans hPb, (hk 0).trans c0, (hk 2).trans c2, h1, by simpa using h2, rfl⟩
  case assign =>
    intro l' A xs x X K hI hlt hx hA hK
    have hsz := hI.sz
    have HK : Hid (∀ a', a' = _ → K a' (X.alloc (.cells #[.pointer (some ⟨x.b, x.o, none⟩), .int .i64 (x.deep : Int), .int .i64 (x.bytes : Int)] 79))) := fun a' ha' => by
      have hb : Below X.heap.size X (X.alloc (.cells #[.pointer (some ⟨x.b, x.o, none⟩), .int .i64 (x.deep : Int), .int .i64 (x.bytes : Int)] 79)) := (Below.refl _ _).alloc (Nat.le_refl _) _
      exact hK a' _ ⟨hb.block _ (by omega), hb.block _ (by omega)⟩ ⟨Ab.of_below hb (fun b hb => by have := hU3 b hb; omega), fun b hA' hlt' => hb.block b hlt'⟩ (hI.move hU3 (Iter.of_below hb) adds_same) ⟨X.heap.size, World.alloc_heap_new _ _, cell_new 0 rfl, cell_new 2 rfl, by omega, by simp, ha'⟩
    unfold Qx.enc
    clear hK hI hx
    gi_wp2
    exact HK.out _ rfl
  case body =>
    rintro l' A xs x a' X hI ⟨Pb, hPb, p0, p2, hP1, hP2, rfl⟩ hlt hx hA
    have hsz := hI.sz
    have hbt := marks_bytes 0 _ _ hx.2.mem
    have hbt' : x.bytes = 0 ∨ x.bytes = 1 := hbt
    have hxX := hx.1.keep hI.keep
    obtain ⟨hub, sa', sc', c0, c1, c2, hsc', hkk⟩ := hxX
    have hubU := hU _ hub
    obtain ⟨v, hbox, hrow, hnA⟩ := hI.ex
    have hls : (ybs (xs.map Qx.say)).length ≤ 1000000000000 := by
      have := ybs_le (xs.map Qx.say); simp at this; omega
    have hlA : Hid (∀ b, A b → b < X.heap.size) := hI.lt
    have HPR : Hid (v.ownBlock ≠ some Pb) := fun e => by
      obtain ⟨cur, hg⟩ := row_type hrow e
      rw [hPb] at hg; simp at hg
    rcases hbt' with hb0 | hb1
    · have hz : ((x.bytes : Int) == 1) = false := by rw [hb0]; rfl
      have hsay : ybs ((xs ++ [x]).map Qx.say) = ybs (xs.map Qx.say) := by rw [List.map_append, ybs_append]; simp [ybs, Qx.say, hb0]
      have HH : Hid (Two (w.heap.size + 3) X X ∧ KeepU U A X X ∧ YI w w3 U A (xs ++ [x]) X) := ⟨Two.refl _ _, ⟨Ab.refl _ _, fun _ _ _ => rfl⟩, ⟨⟨v, hbox, by rw [hsay]; exact hrow, hnA⟩, hI.ab, hI.keep, hI.bel, hI.sz, hI.lt⟩⟩
      have HZ : Hid _ := hb0
      clear hI hbox hrow hnA hsay hb0 hbt c0 c1 c2
      gi_wp2
      rw [s3]; exact HH.out
    · have hz : ((x.bytes : Int) == 1) = true := by rw [hb1]; rfl
      have hsay : ybs ((xs ++ [x]).map Qx.say) = ybs (xs.map Qx.say) ++ [x.doc.byte] := by rw [List.map_append, ybs_append]; simp [ybs, Qx.say, hb1]
      have hal := hI.ab
      have hkp := hI.keep
      have hbl := hI.bel
      generalize ybs (xs.map Qx.say) = ls at hrow hls hsay
      obtain ⟨va, vc, rfl⟩ := row_slice hrow
      have cL := hbox.cell
      have fL := hbox.frozen
      have HLT : Hid (∀ b, (Value.slice va ls.length vc).ownBlock = some b → w.heap.size + 5 ≤ b ∧ b < X.heap.size) := fun b e => hrow.lt b e
      have hX : ∀ b, b < X.heap.size → (X.alloc (.cells #[.int .u8 (x.doc.byte.toNat : Int)] 5)).drew.heap[b]? = X.heap[b]? := fun b hb => Below.heap_alloc X _ b hb
      have h9 : ∀ w9 : World, (X.alloc (.cells #[.int .u8 (x.doc.byte.toNat : Int)] 5)).drew.grownBy w9 (Value.slice va ls.length vc).ownBlock → ∀ b, b < X.heap.size → (Value.slice va ls.length vc).ownBlock ≠ some b → w9.heap[b]? = X.heap[b]? := fun w9 hg b hb hne => (hg.block b (by show b < (X.alloc _).heap.size; simp; omega) (fun e => hne e.symm)).trans (hX b (by omega))
      have hcon : ∀ W' : World, W'.heap[Pb]? = X.heap[Pb]? → W'.heap[x.b]? = X.heap[x.b]? → W'.cell? ⟨Pb, 0, none⟩ = some (.pointer (some ⟨x.b, x.o, none⟩)) ∧ W'.cell? ⟨x.b, x.o + 1, none⟩ = some (.int .u8 (x.doc.byte.toNat : Int)) := fun W' h1 h2 => ⟨(World.cell?_of_block (a := ⟨Pb, 0, none⟩) h1).trans p0, (World.cell?_of_block (a := ⟨x.b, x.o + 1, none⟩) h2).trans c1⟩
      have hPne : ∀ b, (Value.slice va ls.length vc).ownBlock = some b → b ≠ x.b := fun b e => by have := (HLT.out b e).1; rcases hubU with h | h <;> omega
      have hxb : x.b < X.heap.size := by rcases hubU with h | h <;> omega
      have hPr : (Value.slice va ls.length vc).ownBlock ≠ some Pb := HPR.out
      have HS7 : Hid (_ ∧ _) := hcon (X.alloc (.cells #[.int .u8 (x.doc.byte.toNat : Int)] 5)).drew (hX _ hP2) (hX _ hxb)
      have HS8 : Hid (∀ w9 : World, (X.alloc (.cells #[.int .u8 (x.doc.byte.toNat : Int)] 5)).drew.grownBy w9 (Value.slice va ls.length vc).ownBlock → _) := fun w9 hg => hcon w9 (h9 w9 hg _ hP2 hPr) (h9 w9 hg _ hxb (fun e => hPne _ e rfl))
      have hset : ∀ (w9 : World) (u : Value) b, b ≠ w.heap.size + 1 → (w9.setCell ⟨w.heap.size + 1, 0, none⟩ u).heap[b]? = w9.heap[b]? := fun w9 u b hne => Below.heap_setCell w9 ⟨w.heap.size + 1, 0, none⟩ u b hne
      have HS9 : Hid (∀ (g cap : Nat) (w9 : World), (X.alloc (.cells #[.int .u8 (x.doc.byte.toNat : Int)] 5)).drew.grownBy w9 (Value.slice va ls.length vc).ownBlock → ((Value.slice va ls.length vc).ownBlock = some g ∨ g = X.heap.size + 1) → _) := fun g cap w9 hg _ => hcon (w9.setCell ⟨w.heap.size + 1, 0, none⟩ (.slice (some ⟨g, 0, none⟩) (ls.length + 1) cap)) ((hset _ _ _ (by omega)).trans (h9 w9 hg _ hP2 hPr)) ((hset _ _ _ (by rcases hubU with h | h <;> omega)).trans (h9 w9 hg _ hxb (fun e => hPne _ e rfl)))
      have HCL : Hid (∀ w9 : World, (X.alloc (.cells #[.int .u8 (x.doc.byte.toNat : Int)] 5)).drew.grownBy w9 (Value.slice va ls.length vc).ownBlock → w9.cell? ⟨w.heap.size + 1, 0, none⟩ = some (.slice va ls.length vc) ∧ w9.frozen? ⟨w.heap.size + 1, 0, none⟩ = false) := fun w9 hg => by
        have hb : Boxed w9 (w.heap.size + 1) 40 (.slice va ls.length vc) := (h9 w9 hg _ (by omega) (fun e => by have := (HLT.out _ e).1; omega)).trans hbox
        exact ⟨hb.cell, hb.frozen⟩
      have HFIN : Hid (∀ (g cap : Nat) (w9 : World), w9.ownsRow (w.heap.size + 5) 5 1 (.slice (some ⟨g, 0, none⟩) (ls.length + 1) cap) (ls.length + 1) (bvs ls ++ [.int .u8 (x.doc.byte.toNat : Int)]) → (X.alloc (.cells #[.int .u8 (x.doc.byte.toNat : Int)] 5)).drew.grownBy w9 (Value.slice va ls.length vc).ownBlock → ((Value.slice va ls.length vc).ownBlock = some g ∨ g = X.heap.size + 1) →
          Two (w.heap.size + 3) X (w9.setCell ⟨w.heap.size + 1, 0, none⟩ (.slice (some ⟨g, 0, none⟩) (ls.length + 1) cap)) ∧ KeepU U A X (w9.setCell ⟨w.heap.size + 1, 0, none⟩ (.slice (some ⟨g, 0, none⟩) (ls.length + 1) cap)) ∧ YI w w3 U A (xs ++ [x]) (w9.setCell ⟨w.heap.size + 1, 0, none⟩ (.slice (some ⟨g, 0, none⟩) (ls.length + 1) cap))) := fun g cap w9 hown hg hat => by
        have hs9 : X.heap.size + 1 ≤ w9.heap.size := by have := hg.size; have e : (X.alloc (.cells #[.int .u8 (x.doc.byte.toNat : Int)] 5)).drew.heap.size = X.heap.size + 1 := by show (X.alloc _).heap.size = _; simp
                                                        omega
        have k9 : ∀ b, b < X.heap.size → (Value.slice va ls.length vc).ownBlock ≠ some b → b ≠ w.heap.size + 1 → (w9.setCell ⟨w.heap.size + 1, 0, none⟩ (.slice (some ⟨g, 0, none⟩) (ls.length + 1) cap)).heap[b]? = X.heap[b]? := fun b h1 h2 h3 => (hset _ _ _ h3).trans (h9 w9 hg b h1 h2)
        have low : ∀ b, b < w.heap.size + 5 → (Value.slice va ls.length vc).ownBlock ≠ some b := fun b hb e => by have := (HLT.out b e).1; omega
        have hsz9 : (w9.setCell ⟨w.heap.size + 1, 0, none⟩ (.slice (some ⟨g, 0, none⟩) (ls.length + 1) cap)).heap.size = w9.heap.size := by simp [World.setCell]
        have hab : Ab U X (w9.setCell ⟨w.heap.size + 1, 0, none⟩ (.slice (some ⟨g, 0, none⟩) (ls.length + 1) cap)) := ⟨hg.os, hg.tape, hg.output, by omega, fun b hb => k9 b (by have := hU3 b hb; omega) (low b (by have := hU3 b hb; omega)) (by rcases hU b hb with h | h <;> omega)⟩
        refine ⟨⟨k9 _ (by omega) (low _ (by omega)) (by omega), k9 _ (by omega) (low _ (by omega)) (by omega)⟩, ⟨hab, fun b hb hlt' => k9 b hlt' (fun e => hnA b e hb) (by have := hal b hb; omega)⟩, ⟨⟨.slice (some ⟨g, 0, none⟩) (ls.length + 1) cap, ?_, ?_, ?_⟩, hal, hkp.trans hab, hbl.trans ⟨hg.os, hg.tape, hg.output, by omega, fun b hb => k9 b (by omega) (low b (by omega)) (by omega)⟩, by omega, fun b hb => by have := hlA.out b hb; omega⟩⟩
        · exact box_set ((h9 w9 hg _ (by omega) (low _ (by omega))).trans hbox) _
        · rw [hsay, List.length_append, bvs_append]
          exact row_set hown (by show w.heap.size + 1 < _; omega) _
        · intro b hb
          simp [Value.ownBlock] at hb
          subst hb
          rcases hat with h | h
          · exact hnA g h
          · intro hA'
            have := hlA.out g hA'
            omega
      have HR2 : Hid ((X.alloc (.cells #[.int .u8 (x.doc.byte.toNat : Int)] 5)).drew.ownsRow (w.heap.size + 5) 5 1 (.slice va ls.length vc) ls.length (bvs ls)) := World.ownsRow.drew (World.ownsRow.alloc (w := X) hrow _)
      have HNW : Hid (∀ (j : Nat) u, ([.int .u8 (x.doc.byte.toNat : Int)] : List Value)[j]? = some u → (X.alloc (.cells #[.int .u8 (x.doc.byte.toNat : Int)] 5)).drew.cell? ((⟨X.heap.size, 0, none⟩ : Addr).add j) = some u) := fun j u hu => by
        have e : (⟨X.heap.size, 0, none⟩ : Addr).add j = ⟨X.heap.size, j, none⟩ := by simp [Addr.add]; omega
        rw [e]
        exact cell_new (w := X) (t := 5) j (by rw [List.getElem?_toArray]; exact hu)
      have HOC : Hid (∀ u ∈ ([.int .u8 (x.doc.byte.toNat : Int)] : List Value), u.oneCell' = true) := by show ∀ u ∈ _, _; simp [Value.oneCell']
      have HN1 : Hid (ls.length + 1 ≤ maxLen) := by show _ ≤ _; unfold maxLen; omega
      have HN2 : Hid ((ls.length + 1) * 1 ≤ 140737488355328) := by show _ ≤ _; omega
      have HN3 : Hid (w.heap.size + 5 ≤ (X.alloc (.cells #[.int .u8 (x.doc.byte.toNat : Int)] 5)).drew.heap.size) := by show _ ≤ (X.alloc _).heap.size; simp; omega
      have HN4 : Hid ((X.alloc (.cells #[.int .u8 (x.doc.byte.toNat : Int)] 5)).drew.heap.size = X.heap.size + 1) := by show (X.alloc _).heap.size = _; simp
      have HCON : Hid _ := hcon X.drew rfl rfl
      have HZ : Hid _ := hb1
      have hLB : w.heap.size + 1 < X.heap.size := by omega
      clear hX h9 hcon hPne hset hsay hI hbox hrow hnA hb1 hbt c0 c1 c2 hal hkp hbl hkk hx
      gi_wp2
      refine region_held l' _ (by kernel_rfl) (noDefer_spec (by kernel_rfl)) (S := fun W' => W'.cell? ⟨Pb, 0, none⟩ = some (.pointer (some ⟨x.b, x.o, none⟩)) ∧ W'.cell? ⟨x.b, x.o + 1, none⟩ = some (.int .u8 (x.doc.byte.toNat : Int))) (fun ⟨_, _, h⟩ => h) HCON.out (fun hHeld => ?_)
      refine wpAnyH_take (i := 1) (v := ?v1) rfl (by kernel_rfl) (by kernel_rfl) (by kernel_rfl) (fun _ _ _ h => h) (Or.inl ⟨by rfl, ?y1⟩) (by assumption) ?_
      case y1 => (intro w hSw; (try dsimp only at hSw); go_simp <;> with_reducible rfl)
      try simp only [Act.put, List.getElem_toArray, List.getElem_cons_zero, List.getElem_cons_succ, List.setIfInBounds_toArray, List.set_cons_zero, List.set_cons_succ]
      refine wpAnyH_take (i := 2) (v := ?v2) rfl (by kernel_rfl) (by kernel_rfl) (by kernel_rfl) (fun _ _ _ h => h) (Or.inl ⟨by rfl, ?y2⟩) (by assumption) ?_
      case y2 => (intro w hSw; (try dsimp only at hSw); go_simp <;> with_reducible rfl)
      try simp only [Act.put, List.getElem_toArray, List.getElem_cons_zero, List.getElem_cons_succ, List.setIfInBounds_toArray, List.set_cons_zero, List.set_cons_succ]
      refine wpAnyH_take (i := 3) (v := ?v3) rfl (by kernel_rfl) (by kernel_rfl) (by kernel_rfl) (fun _ _ _ h => h) (Or.inl ⟨by rfl, ?y3⟩) (by assumption) ?_
      case y3 => (intro w hSw; (try dsimp only at hSw); go_simp <;> with_reducible rfl)
      try simp only [Act.put, List.getElem_toArray, List.getElem_cons_zero, List.getElem_cons_succ, List.setIfInBounds_toArray, List.set_cons_zero, List.set_cons_succ]
      refine wpAnyH_take (i := 4) (v := ?v4) rfl (by kernel_rfl) (by kernel_rfl) (by kernel_rfl) (fun _ _ _ h => h) (Or.inl ⟨by rfl, ?y4⟩) (by assumption) ?_
      case y4 => (intro w hSw; (try dsimp only at hSw); go_simp <;> with_reducible rfl)
      try simp only [Act.put, List.getElem_toArray, List.getElem_cons_zero, List.getElem_cons_succ, List.setIfInBounds_toArray, List.set_cons_zero, List.set_cons_succ]
      refine wpAnyH_take (i := 5) (v := ?v5) rfl (by kernel_rfl) (by kernel_rfl) (by kernel_rfl) (fun _ _ _ h => h) (Or.inl ⟨by rfl, ?y5⟩) (by assumption) ?_
      case y5 => (intro w hSw; (try dsimp only at hSw); go_simp <;> with_reducible rfl)
      try simp only [Act.put, List.getElem_toArray, List.getElem_cons_zero, List.getElem_cons_succ, List.setIfInBounds_toArray, List.set_cons_zero, List.set_cons_succ]
      refine wpAnyH_ready (rs := [0, 6]) (by kernel_rfl) (by simp) ?_
      refine (AllReadyH.cons rfl (fun K hK => ?_) (AllReadyH.cons rfl (fun K hK => ?_) AllReadyH.nil))
      · go_simp
        refine hK.out _ _ (by assumption) (fun hHeld => ?_)
        clear hK K
        try simp only [Act.put, List.getElem_toArray, List.getElem_cons_zero, List.getElem_cons_succ, List.setIfInBounds_toArray, List.set_cons_zero, List.set_cons_succ]
        refine wpAnyH_ready (rs := [6]) (by kernel_rfl) (by simp) ?_
        refine (AllReadyH.cons rfl (fun K hK => ?_) AllReadyH.nil)
        · go_simp
          refine hK.out _ _ HS7.out (fun hHeld => ?_)
          clear hK K
          try simp only [Act.put, List.getElem_toArray, List.getElem_cons_zero, List.getElem_cons_succ, List.setIfInBounds_toArray, List.set_cons_zero, List.set_cons_succ]
          refine wpAnyH_ready (rs := [7]) (by kernel_rfl) (by simp) ?_
          refine (AllReadyH.cons rfl (fun K hK => ?_) AllReadyH.nil)
          · rw [if_pos (by rfl)]
            refine wp_append_lies _ _ _ 40 rfl (w.heap.size + 5) 5 i0 _ 1 1 Tryd.underlying40 hinf hz0 hz1 hz2 rfl (by omega) _ _ _ rfl HR2.out ⟨X.heap.size, 0, none⟩ 1 1 [.int .u8 (x.doc.byte.toNat : Int)] rfl rfl HNW.out HOC.out (by omega) HN1.out HN2.out HN3.out (X.heap.size + 1) HN4.out ?_
            intro g cap w9 hown9 hgrow9 hat9 hlt9
            obtain ⟨cL9, fL9⟩ := HCL.out w9 hgrow9
            refine hK.out _ _ (HS8.out w9 hgrow9) (fun hHeld => ?_)
            clear hK K
            try simp only [Act.put, List.getElem_toArray, List.getElem_cons_zero, List.getElem_cons_succ, List.setIfInBounds_toArray, List.set_cons_zero, List.set_cons_succ]
            refine wpAnyH_ready (rs := [8]) (by kernel_rfl) (by simp) ?_
            refine (AllReadyH.cons rfl (fun K hK => ?_) AllReadyH.nil)
            · go_simp
              refine hK.out _ _ (HS9.out g cap w9 hgrow9 hat9) (fun hHeld => ?_)
              clear hK K
              try simp only [Act.put, List.getElem_toArray, List.getElem_cons_zero, List.getElem_cons_succ, List.setIfInBounds_toArray, List.set_cons_zero, List.set_cons_succ]
              refine wpAnyH_done (by kernel_rfl) ?_ _
              rw [s3]; exact HFIN.out g cap w9 hown9 hgrow9 hat9
      · go_simp
        refine hK.out _ _ HS7.out (fun hHeld => ?_)
        clear hK K
        try simp only [Act.put, List.getElem_toArray, List.getElem_cons_zero, List.getElem_cons_succ, List.setIfInBounds_toArray, List.set_cons_zero, List.set_cons_succ]
        refine wpAnyH_ready (rs := [0]) (by kernel_rfl) (by simp) ?_
        refine (AllReadyH.cons rfl (fun K hK => ?_) AllReadyH.nil)
        · go_simp
          refine hK.out _ _ HS7.out (fun hHeld => ?_)
          clear hK K
          try simp only [Act.put, List.getElem_toArray, List.getElem_cons_zero, List.getElem_cons_succ, List.setIfInBounds_toArray, List.set_cons_zero, List.set_cons_succ]
          refine wpAnyH_ready (rs := [7]) (by kernel_rfl) (by simp) ?_
          refine (AllReadyH.cons rfl (fun K hK => ?_) AllReadyH.nil)
          · rw [if_pos (by rfl)]
            refine wp_append_lies _ _ _ 40 rfl (w.heap.size + 5) 5 i0 _ 1 1 Tryd.underlying40 hinf hz0 hz1 hz2 rfl (by omega) _ _ _ rfl HR2.out ⟨X.heap.size, 0, none⟩ 1 1 [.int .u8 (x.doc.byte.toNat : Int)] rfl rfl HNW.out HOC.out (by omega) HN1.out HN2.out HN3.out (X.heap.size + 1) HN4.out ?_
            intro g cap w9 hown9 hgrow9 hat9 hlt9
            obtain ⟨cL9, fL9⟩ := HCL.out w9 hgrow9
            refine hK.out _ _ (HS8.out w9 hgrow9) (fun hHeld => ?_)
            clear hK K
            try simp only [Act.put, List.getElem_toArray, List.getElem_cons_zero, List.getElem_cons_succ, List.setIfInBounds_toArray, List.set_cons_zero, List.set_cons_succ]
            refine wpAnyH_ready (rs := [8]) (by kernel_rfl) (by simp) ?_
            refine (AllReadyH.cons rfl (fun K hK => ?_) AllReadyH.nil)
            · go_simp
              refine hK.out _ _ (HS9.out g cap w9 hgrow9 hat9) (fun hHeld => ?_)
              clear hK K
              try simp only [Act.put, List.getElem_toArray, List.getElem_cons_zero, List.getElem_cons_succ, List.setIfInBounds_toArray, List.set_cons_zero, List.set_cons_succ]
              refine wpAnyH_done (by kernel_rfl) ?_ _
              rw [s3]; exact HFIN.out g cap w9 hown9 hgrow9 hat9
  case done =>
    rintro D A xs X hD ⟨hS, hT⟩ hI hK
    obtain ⟨v, hbox, hrow, hnA⟩ := hI.ex
    rw [hS, yl_all] at hrow
    have cL := hbox.cell
    have hkD : ∀ b, b ≠ D → (X.putObj D (.deferred none)).heap[b]? = X.heap[b]? := fun b hb => World.putObj_heap_other hb
    have HF : Hid ((∃ v', Ending.returned v = .returned v' ∧ (X.putObj D (.deferred none)).ownsRow w.heap.size 5 1 v' (yl d).length (bvs (yl d))) ∧ Below w.heap.size w (X.putObj D (.deferred none))) :=
      ⟨⟨v, rfl, row_base (row_ab hrow (fun g hg => hkD g (by have := (hrow.lt g hg).1; omega))) (by omega)⟩, ⟨hI.bel.os, hI.bel.tape, hI.bel.output, by simpa using hI.bel.size, fun b hb => (hkD b (by omega)).trans (hI.bel.block b hb)⟩⟩
    obtain ⟨va, vc, rfl⟩ := row_slice hrow
    clear hI hS hT hbox hrow hnA hkD hd3 bL
    gi_wp2
    refine ⟨by simp, .inl ⟨_, _, rfl, run_takeDeferred hK, ?_⟩⟩
    exact ⟨_, by simp [results, Tryd.results23, go_sem], HF.out⟩
  case stop =>
    rintro D c A xs X hD ⟨hS, hT⟩ hX hK
    exact hX.elim
end Go.Proofs.YtlnlkbkmnkjbhaaDoor
