/- How long a plain tree's text is: textSize. -/
import Derived.Test.YtlnlkbkmnkjbhaaDoorT2
import Derived.Test.YtlnlkbkmnkjbhaaDoorShelf
namespace Go.Proofs.YtlnlkbkmnkjbhaaDoor
open Go.RowKit Go.Shelf

attribute [local go_sem] Oper.semAt_some

/-- The library's table of powers of ten lies as its text lays it, and stays so. -/
def Tab (B : Nat) (w : World) : Prop := Lib.TabBelow Tryd.prog B w "internal/strconv.uint64pow10" .u64 Lib.pow10Tab
theorem Tab.on {B : Nat} {w w' : World} (h : Tab B w) (hb : Below B w w') : Tab B w' := Lib.TabBelow.on h hb
theorem Tab.mono {B B' : Nat} {w : World} (h : Tab B w) (hB : B ≤ B') : Tab B' w := fun w' hb => h w' (hb.mono hB)
theorem Tab.nx {w w' : World} (h : Tab w.heap.size w) (hb : Below w.heap.size w w') : Tab w'.heap.size w' := (h.on hb).mono hb.size
theorem Below.of_grow {w : World} (k : Nat) (os : Array Obj) : Below w.heap.size w (Sort.grow (w.drewN k) os) := by
  refine ⟨rfl, rfl, rfl, by simp [Sort.grow, World.drewN], fun b hb => ?_⟩
  show (w.heap ++ os)[b]? = w.heap[b]?
  rw [Array.getElem?_append_left hb]
theorem itoa_tab (n : Int) (h0 : 0 ≤ n) (h1 : n ≤ 999999) (w : World) (h : Tab w.heap.size w) : Calls Tryd.prog 74 #[.int .i64 n] w fun e w' => e = .returned (.string ⟨(Lib.itoa n).toArray⟩) ∧ Below w.heap.size w w' := by
  refine (itoa_any n (by omega) (by omega) w h.here).mono ?_
  rintro e w' ⟨rfl, k, os, rfl⟩
  exact ⟨rfl, Below.of_grow k os⟩
theorem wr64 {x : Int} (h0 : -100000000000000 ≤ x) (h1 : x ≤ 100000000000000) : IntKind.i64.wrap x = x := by rw [IntKind.wrap_i64]; omega
/-- How long the texts are, of parts that have come. -/
def qsum (xs : List Qx) : Nat := (xs.map fun q => tsz q.doc).sum
theorem qsum_snoc (xs : List Qx) (x : Qx) : qsum (xs ++ [x]) = qsum xs + tsz x.doc := by simp [qsum]
theorem qsum_all {d : Tr} {xs : List Qx} (h : xs.map Qx.say = marks 0 (pre d 1)) : qsum xs = tsum (pre d 1) := by
  rw [← marks_fst 0 (pre d 1), ← h]
  simp [qsum, tsum, Qx.say, Function.comp_def]
theorem qsum_le {d : Tr} {xs : List Qx} {x : Qx} (h : QFirsts d xs x) : qsum xs + tsz x.doc ≤ tsum (pre d 1) := by
  obtain ⟨r, hr⟩ := h
  rw [← marks_fst 0 (pre d 1), ← hr]
  simp [qsum, tsum, Qx.say, Function.comp_def]
set_option maxRecDepth 100000 in
set_option maxHeartbeats 4000000 in
theorem textSize_any (d : Tr) (sa : Option Addr) (sc f : Nat) (w : World) (hk : TAt w w.heap.size f sa d.kids) (hsc : d.kids.length ≤ sc) (hlen : sz d ≤ 1000000000000) (hpl : pl d = true) (hTab : Tab w.heap.size w) :
    Calls Tryd.prog 53 #[.agg #[.int .i64 d.rule, .int .u8 (d.byte.toNat : Int), .slice sa d.kids.length sc]] w fun e w' => e = .returned (.int .i64 ((txt d).length : Int)) ∧ Below w.heap.size w w' := by
  have hlim : tsum (pre d 1) ≤ 10000000000000 := by rw [tsum_pre d 1 hpl]; have := txt_le d hpl; omega
  have hall : ∀ p ∈ pre d 1, isPl p.1 = true := fun p hp => ((pl_pre d 1 (dp d) (Nat.le_refl _)).2 ⟨hpl, by omega⟩ p hp).2
  refine (callsIn_wide (n := 9)).1 ?_
  refine callsIn_of_wp_marks Tryd.func53 rfl trivial ?_ rfl
  simp only [Tryd.ntmps53, List.size_toArray, List.length_cons, List.length_nil, Nat.reduceAdd, Nat.reduceSub, Array.replicate_succ, Array.replicate_zero, List.push_toArray, List.append_toArray, List.nil_append, List.cons_append]
  gi_wp2_with (refine ⟨trivial, ?_⟩; gi_at_call 46; refine (callsIn_wide.2 (tparts_any d _ _)).mono ?_; rintro e w' ⟨rfl, rfl⟩)
  obtain ⟨w3, hw3⟩ : ∃ w3, ((w.alloc (.cells #[.int .i64 d.rule, .int .u8 (d.byte.toNat : Int), .slice sa d.kids.length sc] 27)).alloc (.cells #[.int .i64 0] 3)).alloc (.cells #[.int .i64 d.rule, .int .u8 (d.byte.toNat : Int), .slice sa d.kids.length sc] 27) = w3 := ⟨_, rfl⟩
  have bL := (Boxed.new (w.alloc (.cells #[.int .i64 d.rule, .int .u8 (d.byte.toNat : Int), .slice sa d.kids.length sc] 27)) 3 (.int .i64 0)).alloc (.cells #[.int .i64 d.rule, .int .u8 (d.byte.toNat : Int), .slice sa d.kids.length sc] 27)
  have s3 : w3.heap.size = w.heap.size + 3 := by rw [← hw3]; simp
  have hB3 : Below w.heap.size w w3 := by rw [← hw3]; exact ((((Below.refl _ _).alloc (Nat.le_refl _) _).alloc (by simp) _).alloc (by simp; omega) _)
  simp only [World.size_alloc] at bL
  have t0 : ∀ j v, (#[.int .i64 d.rule, .int .u8 (d.byte.toNat : Int), .slice sa d.kids.length sc] : Array Value)[j]? = some v → w3.cell? ⟨w.heap.size + 1 + 1, j, none⟩ = some v := fun j v hv => by
    have := cell_new (w := (w.alloc (.cells #[.int .i64 d.rule, .int .u8 (d.byte.toNat : Int), .slice sa d.kids.length sc] 27)).alloc (.cells #[.int .i64 0] 3)) (t := 27) j hv
    rw [hw3] at this; simpa using this
  rw [hw3] at bL
  rw [hw3]
  clear hw3
  obtain ⟨U, hUd⟩ : ∃ U : Nat → Prop, U = fun b => b < w.heap.size ∨ b = w.heap.size + 1 + 1 := ⟨_, rfl⟩
  have hU : ∀ b, U b → b < w.heap.size ∨ b = w.heap.size + 1 + 1 := fun b hb => by rw [hUd] at hb; exact hb
  have hU3 : ∀ b, U b → b < w.heap.size + 3 := fun b hb => by rcases hU b hb with h | h <;> omega
  have hd3 : TreeIn w3 U f (w.heap.size + 1 + 1) 0 d := ⟨by rw [hUd]; exact .inr rfl, sa, sc, t0 0 _ rfl, t0 1 _ rfl, t0 2 _ rfl, hsc, (hk.keep hB3).tin (fun b hb => by rw [hUd]; exact .inl hb)⟩
  clear t0
  refine range_law_h (kx := True) (F := Fence.wide) rfl (fun _ => by omega) (gf := 68) (lb := #[.pointer (some ⟨w.heap.size + 1 + 1, 0, none⟩)]) rfl trivial (enters_of Tryd.func68 (by kernel_rfl) rfl)
    (tparts_seq (9 - 1) (by omega) (w.heap.size + 1 + 1) U f d w3 (fun b hb => by have := hU3 b hb; omega) hd3 (by rw [pre_len]; exact hlen)) (fun b hb => by have := hU3 b hb; omega) (fun b hb => hb.elim) (Below.refl _ _) (fun _ => rfl)
    (BI w w3 U 3 (fun xs => .int .i64 (qsum xs : Int)) (fun _ => True)) (fun _ _ _ _ => False) (BI.stays hU3) (by rw [s3]; exact BI.noMind hU3) (fun _ _ _ _ _ _ h => h.elim) (fun _ _ _ _ _ h => h.elim)
    (fun W1 hb1 hs1 => ?start)
    (fun x a' X => ∃ Pb, X.cell? ⟨Pb, 0, none⟩ = some (.pointer (some ⟨x.b, x.o, none⟩)) ∧ X.cell? ⟨Pb, 1, none⟩ = some (.int .i64 (x.deep : Int)) ∧ w.heap.size + 5 ≤ Pb ∧ Pb < X.heap.size ∧ a' = { tmps := #[.agg #[.int .i64 d.rule, .int .u8 (d.byte.toNat : Int), .slice sa d.kids.length sc], .pointer (some ⟨w.heap.size, 0, none⟩), .int .i64 0, .pointer (some ⟨w.heap.size + 1, 0, none⟩), .pointer (some ⟨Pb, 0, none⟩), undef, .agg #[.int .i64 d.rule, .int .u8 (d.byte.toNat : Int), .slice sa d.kids.length sc], .func (.func 68) #[] #[.pointer (some ⟨w.heap.size + 1 + 1, 0, none⟩)], .agg #[.pointer (some ⟨x.b, x.o, none⟩), .int .i64 (x.deep : Int), .int .i64 (x.bytes : Int)], undef, undef, undef, undef, undef, undef, undef, undef, undef, undef, undef, undef, undef, undef, undef, undef, undef, undef, undef, undef, undef, undef, undef, undef, undef, undef, undef, undef], defers := [] }) ?ax ?assign ?body ?done ?stop
  case start =>
    exact ⟨(hb1.block _ (by omega)).trans bL, trivial, fun b hb => hb.elim, Ab.of_below hb1 (fun b hb => by have := hU3 b hb; omega), hB3.trans (hb1.mono (by omega)), by omega⟩
  case ax =>
    rintro x a' X o' ⟨Pb, c0, c2, h1, h2, rfl⟩ hlt
    have hk : ∀ q, (X.putObj (w3.heap.size + 1) o').cell? ⟨Pb, q, none⟩ = X.cell? ⟨Pb, q, none⟩ := fun q => World.cell?_of_block (a := ⟨Pb, q, none⟩) (World.putObj_heap_other (by show Pb ≠ _; omega))
    exact ⟨Pb, (hk 0).trans c0, (hk 1).trans c2, h1, by simpa using h2, rfl⟩
  case assign =>
    intro l' A xs x X K hI hlt hx hA hK
    have hsz := hI.sz
    have HK : Hid (∀ a', a' = _ → K a' (X.alloc (.cells #[.pointer (some ⟨x.b, x.o, none⟩), .int .i64 (x.deep : Int), .int .i64 (x.bytes : Int)] 79))) := fun a' ha' => by
      have hb : Below X.heap.size X (X.alloc (.cells #[.pointer (some ⟨x.b, x.o, none⟩), .int .i64 (x.deep : Int), .int .i64 (x.bytes : Int)] 79)) := (Below.refl _ _).alloc (Nat.le_refl _) _
      exact hK a' _ ⟨hb.block _ (by omega), hb.block _ (by omega)⟩ ⟨Ab.of_below hb (fun b hb => by have := hU3 b hb; omega), fun b hA' hlt' => hb.block b hlt'⟩ (hI.move hU3 (Iter.of_below hb) adds_same) ⟨X.heap.size, cell_new 0 rfl, cell_new 1 rfl, by omega, by simp, ha'⟩
    unfold Qx.enc
    clear hK hI hx
    gi_wp2
    exact HK.out _ rfl
  case body =>
    rintro l' A xs x a' X hI ⟨Pb, p0, p1, hP1, hP2, rfl⟩ hlt hx hA
    have hsz := hI.sz
    have hxX := hx.1.keep hI.keep
    obtain ⟨hub, sa', sc', c0, c1, c2, hsc', hkk⟩ := hxX
    have hubU := hU _ hub
    have hkl := hkk.len
    have cL := hI.box.cell
    have fL := hI.box.frozen
    have hq := qsum_le hx.2
    have hq2 : qsum xs ≤ 10000000000000 := by omega
    have hpx := hall _ (marks_back hx.2.mem)
    have HI : Hid _ := hI
    have HU : Hid (∀ b, U b → b < w.heap.size ∨ b = w.heap.size + 2) := hU
    have HGO : Hid (∀ Y, X.grownBy Y (some (w.heap.size + 1)) → Boxed Y (w.heap.size + 1) 3 (.int .i64 ((qsum xs + tsz x.doc : Nat) : Int)) → Two (w.heap.size + 3) X Y ∧ KeepU U A X Y ∧ BI w w3 U 3 (fun xs => .int .i64 (qsum xs : Int)) (fun _ => True) A (xs ++ [x]) Y) := fun Y hg hb => HI.out.step HU.out hg x (fun xs => .int .i64 (qsum xs : Int)) (fun _ => True) (by rw [qsum_snoc]; exact hb) trivial
    have HBX : Hid _ := hI.box
    have HLF : Hid _ := fun (_ : Unit) => isLeaf_any x.doc (.slice sa' x.doc.kids.length sc') X
    have HTX : Hid (Tab X.heap.size X) := hTab.nx hI.bel
    clear hI hx
    by_cases hr : x.doc.rule = -1
    · have hre : (x.doc.rule == -1) = true := by simpa using hr
      have HTS : Hid (tsz x.doc = 3) := by show _ = _; unfold tsz; rw [if_pos hr]
      rw [hre] at HLF
      clear hr hre hpx hq
      gi_wp2_with (refine ⟨trivial, ?_⟩; gi_at_call 69; refine (CallsIn.inRound l' (callsIn_wide.2 (HLF.out ()))).mono ?_)
      first | rintro e w5 rfl hb5 | rintro e w5 ⟨rfl, hb5⟩
      have hB5 : Boxed w5 (w.heap.size + 1) 3 (.int .i64 (qsum xs : Int)) := (hb5.block _ (by omega)).trans HBX.out
      have cL5 := hB5.cell
      have fL5 := hB5.frozen
      have HH : Hid _ := HGO.out (w5.setCell ⟨w.heap.size + 1, 0, none⟩ (.int .i64 ((qsum xs : Int) + 3))) (grown_tr (grown_of_below hb5 _) (grown_set _ _ _ _)) (by have := box_set hB5 (.int .i64 ((qsum xs : Int) + 3)); rw [HTS.out]; push_cast; exact this)
      clear hb5 hB5 cL fL
      gi_wp2
      rw [s3]; exact HH.out
    · have hre : (x.doc.rule == -1) = false := by simpa using hr
      have hrr : 0 ≤ x.doc.rule ∧ x.doc.rule ≤ 999999 := by
        unfold isPl at hpx; rw [if_neg hr] at hpx
        simp only [Bool.and_eq_true, decide_eq_true_eq] at hpx
        exact ⟨hpx.1.2, hpx.2⟩
      have htz : tsz x.doc = (Lib.itoa x.doc.rule).length + 2 + (x.doc.kids.length - 1) := by unfold tsz; rw [if_neg hr]
      have hil := itoa_len hrr.1 hrr.2
      have HTS : Hid _ := htz
      rw [hre] at HLF
      clear hr hre hpx htz
      gi_wp2_with (refine ⟨trivial, ?_⟩; gi_at_call 69; refine (CallsIn.inRound l' (callsIn_wide.2 (HLF.out ()))).mono ?_)
      first | rintro e w5 rfl hb5 | rintro e w5 ⟨rfl, hb5⟩
      have hs5 := hb5.size
      have hB5 : Boxed w5 (w.heap.size + 1) 3 (.int .i64 (qsum xs : Int)) := (hb5.block _ (by omega)).trans HBX.out
      have cL5 := hB5.cell
      have fL5 := hB5.frozen
      have p05 := (hb5.cell (p := ⟨Pb, 0, none⟩) hP2).trans p0
      have hxb : x.b < X.heap.size := by rcases hubU with h | h <;> omega
      have c05 := (hb5.cell (p := ⟨x.b, x.o, none⟩) hxb).trans c0
      have c25 := (hb5.cell (p := ⟨x.b, x.o + 2, none⟩) hxb).trans c2
      have HG5 : Hid (X.grownBy w5 (some (w.heap.size + 1))) := grown_of_below hb5 _
      have HTB : Hid (Tab w5.drew.heap.size w5.drew) := HTX.out.nx (hb5.trans ⟨rfl, rfl, rfl, Nat.le_refl _, fun _ _ => rfl⟩)
      have HIT : Hid (∀ W, Tab W.heap.size W → _) := fun W h => itoa_tab x.doc.rule hrr.1 hrr.2 W h
      have HAFT : Hid (∀ W6, Below w5.drew.heap.size w5.drew W6 → (W6.cell? ⟨Pb, 0, none⟩ = some (.pointer (some ⟨x.b, x.o, none⟩)) ∧ W6.cell? ⟨x.b, x.o, none⟩ = some (.int .i64 x.doc.rule)) ∧ W6.cell? ⟨w.heap.size + 1, 0, none⟩ = some (.int .i64 (qsum xs : Int)) ∧ W6.frozen? ⟨w.heap.size + 1, 0, none⟩ = false ∧ Boxed W6 (w.heap.size + 1) 3 (.int .i64 (qsum xs : Int))) := fun W6 hb6 => by
        have k : ∀ b q, b < w5.heap.size → W6.cell? ⟨b, q, none⟩ = w5.cell? ⟨b, q, none⟩ := fun b q h => hb6.cell (p := ⟨b, q, none⟩) h
        have hbx : Boxed W6 (w.heap.size + 1) 3 (.int .i64 (qsum xs : Int)) := (hb6.block _ (by show _ < w5.heap.size; omega)).trans hB5
        exact ⟨⟨(k _ _ (by omega)).trans p05, (k _ _ (by omega)).trans c05⟩, hbx.cell, hbx.frozen, hbx⟩
      have HS9 : Hid (∀ W6, Below w5.drew.heap.size w5.drew W6 → ∀ u, (W6.setCell ⟨w.heap.size + 1, 0, none⟩ u).cell? ⟨Pb, 0, none⟩ = some (.pointer (some ⟨x.b, x.o, none⟩)) ∧ (W6.setCell ⟨w.heap.size + 1, 0, none⟩ u).cell? ⟨x.b, x.o, none⟩ = some (.int .i64 x.doc.rule)) := fun W6 hb6 u => by
        obtain ⟨⟨h1, h2⟩, _⟩ := HAFT.out W6 hb6
        exact ⟨(World.cell?_setCell_far _ _ _ _ (by show w.heap.size + 1 ≠ Pb; omega)).trans h1, (World.cell?_setCell_far _ _ _ _ (by show w.heap.size + 1 ≠ x.b; rcases hubU with h | h <;> omega)).trans h2⟩
      have HFIN : Hid (∀ W6, Below w5.drew.heap.size w5.drew W6 → ∀ v : Int, v = ((qsum xs + tsz x.doc : Nat) : Int) → Two (w.heap.size + 3) X (W6.setCell ⟨w.heap.size + 1, 0, none⟩ (.int .i64 v)) ∧ KeepU U A X (W6.setCell ⟨w.heap.size + 1, 0, none⟩ (.int .i64 v)) ∧ BI w w3 U 3 (fun xs => .int .i64 (qsum xs : Int)) (fun _ => True) A (xs ++ [x]) (W6.setCell ⟨w.heap.size + 1, 0, none⟩ (.int .i64 v))) := fun W6 hb6 v hv => by
        subst hv
        have hg6 : w5.grownBy W6 (some (w.heap.size + 1)) := ⟨hb6.os, hb6.tape, hb6.output, hb6.size, fun b hb _ => hb6.block b hb⟩
        exact HGO.out _ (grown_tr (grown_tr HG5.out hg6) (grown_set _ _ _ _)) (box_set (HAFT.out W6 hb6).2.2.2 _)
      have HCON : Hid (_ ∧ _) := And.intro p05 c05
      clear hB5 cL fL hb5 p0 c0 c1 c2 hkk
      obtain ⟨bl, hbl⟩ : ∃ bl, x.doc.kids.length - 1 = bl := ⟨_, rfl⟩
      have HBL : Hid _ := hbl
      gi_wp2
      have hmx : max ((x.doc.kids.length : Int) - 1) 0 = (bl : Int) := by omega
      rw [hmx]
      have hbll : bl ≤ 10000000000000 := by omega
      obtain ⟨il, hill⟩ : ∃ il, (Lib.itoa x.doc.rule).length = il := ⟨_, rfl⟩
      have hill6 : il ≤ 6 := by omega
      have HIL : Hid _ := hill
      have hsl : (⟨(Lib.itoa x.doc.rule).toArray⟩ : ByteArray).size = il := by rw [← hill]; simp [ByteArray.size]
      clear hill hbl hmx hkl hil hq c25 hrr
      refine region_held l' _ (by kernel_rfl) (noDefer_spec (by kernel_rfl)) (S := fun W' => W'.cell? ⟨Pb, 0, none⟩ = some (.pointer (some ⟨x.b, x.o, none⟩)) ∧ W'.cell? ⟨x.b, x.o, none⟩ = some (.int .i64 x.doc.rule)) (fun ⟨_, _, h⟩ => h) HCON.out (fun hHeld => ?_)
      refine wpAnyH_take (i := 1) (v := ?v1) rfl (by kernel_rfl) (by kernel_rfl) (by kernel_rfl) (fun _ _ _ h => h) (Or.inl ⟨by rfl, ?y1⟩) (by assumption) ?_
      case y1 => (intro w hSw; (try dsimp only at hSw); go_simp <;> with_reducible rfl)
      try simp only [Act.put, List.getElem_toArray, List.getElem_cons_zero, List.getElem_cons_succ, List.setIfInBounds_toArray, List.set_cons_zero, List.set_cons_succ]
      refine wpAnyH_take (i := 2) (v := ?v2) rfl (by kernel_rfl) (by kernel_rfl) (by kernel_rfl) (fun _ _ _ h => h) (Or.inl ⟨by rfl, ?y2⟩) (by assumption) ?_
      case y2 => (intro w hSw; (try dsimp only at hSw); go_simp <;> with_reducible rfl)
      try simp only [Act.put, List.getElem_toArray, List.getElem_cons_zero, List.getElem_cons_succ, List.setIfInBounds_toArray, List.set_cons_zero, List.set_cons_succ]
      refine wpAnyH_take (i := 3) (v := ?v3) rfl (by kernel_rfl) (by kernel_rfl) (by kernel_rfl) (fun _ _ _ h => h) (Or.inl ⟨by rfl, ?y3⟩) (by assumption) ?_
      case y3 => (intro w hSw; (try dsimp only at hSw); go_simp <;> with_reducible rfl)
      try simp only [Act.put, List.getElem_toArray, List.getElem_cons_zero, List.getElem_cons_succ, List.setIfInBounds_toArray, List.set_cons_zero, List.set_cons_succ]
      refine wpAnyH_take (i := 4) (v := ?v4) rfl (by kernel_rfl) (by kernel_rfl) (by kernel_rfl) (fun _ _ _ h => h) (Or.inl ⟨by rfl, ?y4⟩) (by assumption) ?_
      case y4 => (intro w hSw; (try dsimp only at hSw); go_simp <;> with_reducible rfl)
      try simp only [Act.put, List.getElem_toArray, List.getElem_cons_zero, List.getElem_cons_succ, List.setIfInBounds_toArray, List.set_cons_zero, List.set_cons_succ]
      refine wpAnyH_take (i := 5) (v := ?v5) rfl (by kernel_rfl) (by kernel_rfl) (by kernel_rfl) (fun _ _ _ h => h) (Or.inl ⟨by rfl, ?y5⟩) (by assumption) ?_
      case y5 => (intro w hSw; (try dsimp only at hSw); go_simp <;> with_reducible rfl)
      try simp only [Act.put, List.getElem_toArray, List.getElem_cons_zero, List.getElem_cons_succ, List.setIfInBounds_toArray, List.set_cons_zero, List.set_cons_succ]
      refine wpAnyH_take (i := 9) (v := ?v6) rfl (by kernel_rfl) (by kernel_rfl) (by kernel_rfl) (fun _ _ _ h => h) (Or.inl ⟨by rfl, ?y6⟩) (by assumption) ?_
      case y6 => (intro w hSw; (try dsimp only at hSw); go_simp <;> with_reducible rfl)
      try simp only [Act.put, List.getElem_toArray, List.getElem_cons_zero, List.getElem_cons_succ, List.setIfInBounds_toArray, List.set_cons_zero, List.set_cons_succ]
      refine wpAnyH_ready (rs := [0, 6]) (by kernel_rfl) (by simp) ?_
      refine (AllReadyH.cons rfl (fun K hK => ?_) (AllReadyH.cons rfl (fun K hK => ?_) AllReadyH.nil))
      · go_simp
        refine hK.out _ _ (by assumption) (fun hHeld => ?_)
        clear hK K
        try simp only [Act.put, List.getElem_toArray, List.getElem_cons_zero, List.getElem_cons_succ, List.setIfInBounds_toArray, List.set_cons_zero, List.set_cons_succ]
        refine wpAnyH_ready (rs := [6]) (by kernel_rfl) (by simp) ?_
        refine (AllReadyH.cons rfl (fun K hK => ?_) AllReadyH.nil)
        · go_simp
          refine (HIT.out _ HTB.out).mono ?_
          rintro e W6 ⟨rfl, hb6⟩
          obtain ⟨g0, g1, g2, g3⟩ := HAFT.out W6 hb6
          refine hK.out _ _ g0 (fun hHeld => ?_)
          clear hK K
          try simp only [Act.put, List.getElem_toArray, List.getElem_cons_zero, List.getElem_cons_succ, List.setIfInBounds_toArray, List.set_cons_zero, List.set_cons_succ]
          refine wpAnyH_take (i := 7) (v := ?v7) rfl (by kernel_rfl) (by kernel_rfl) (by kernel_rfl) (fun _ _ _ h => h) (Or.inl ⟨by rfl, ?y7⟩) (by assumption) ?_
          case y7 => (intro w hSw; (try dsimp only at hSw); go_simp <;> with_reducible rfl)
          try simp only [Act.put, List.getElem_toArray, List.getElem_cons_zero, List.getElem_cons_succ, List.setIfInBounds_toArray, List.set_cons_zero, List.set_cons_succ]
          refine wpAnyH_take (i := 8) (v := ?v8) rfl (by kernel_rfl) (by kernel_rfl) (by kernel_rfl) (fun _ _ _ h => h) (Or.inl ⟨by rfl, ?y8⟩) (by assumption) ?_
          case y8 => (intro w hSw; (try dsimp only at hSw); go_simp <;> with_reducible rfl)
          try simp only [Act.put, List.getElem_toArray, List.getElem_cons_zero, List.getElem_cons_succ, List.setIfInBounds_toArray, List.set_cons_zero, List.set_cons_succ]
          refine wpAnyH_take (i := 10) (v := ?v9) rfl (by kernel_rfl) (by kernel_rfl) (by kernel_rfl) (fun _ _ _ h => h) (Or.inl ⟨by rfl, ?y9⟩) (by assumption) ?_
          case y9 => (intro w hSw; (try dsimp only at hSw); go_simp <;> with_reducible rfl)
          try simp only [Act.put, List.getElem_toArray, List.getElem_cons_zero, List.getElem_cons_succ, List.setIfInBounds_toArray, List.set_cons_zero, List.set_cons_succ]
          refine wpAnyH_take (i := 11) (v := ?v10) rfl (by kernel_rfl) (by kernel_rfl) (by kernel_rfl) (fun _ _ _ h => h) (Or.inl ⟨by rfl, ?y10⟩) (by assumption) ?_
          case y10 => (intro w hSw; (try dsimp only at hSw); go_simp <;> with_reducible rfl)
          try simp only [Act.put, List.getElem_toArray, List.getElem_cons_zero, List.getElem_cons_succ, List.setIfInBounds_toArray, List.set_cons_zero, List.set_cons_succ]
          refine wpAnyH_ready (rs := [12]) (by kernel_rfl) (by simp) ?_
          refine (AllReadyH.cons rfl (fun K hK => ?_) AllReadyH.nil)
          · go_simp
            refine hK.out _ _ (HS9.out W6 hb6 _) (fun hHeld => ?_)
            clear hK K
            try simp only [Act.put, List.getElem_toArray, List.getElem_cons_zero, List.getElem_cons_succ, List.setIfInBounds_toArray, List.set_cons_zero, List.set_cons_succ]
            refine wpAnyH_done (by kernel_rfl) ?_ _
            have hvv : IntKind.i64.wrap ((qsum xs : Int) + IntKind.i64.wrap (IntKind.i64.wrap ((il : Int) + 2) + (bl : Int))) = ((qsum xs + tsz x.doc : Nat) : Int) := by rw [wr64 (x := (il : Int) + 2) (by omega) (by omega), wr64 (x := (il : Int) + 2 + (bl : Int)) (by omega) (by omega), wr64 (by omega) (by omega), HTS.out, HIL.out, HBL.out]; omega
            rw [hvv]
            clear hvv g0 g1 g2 g3
            have HFI : Hid _ := HFIN.out W6 hb6 _ rfl
            gi_wp2
            rw [s3]; exact HFI.out
      · go_simp
        refine (HIT.out _ HTB.out).mono ?_
        rintro e W6 ⟨rfl, hb6⟩
        obtain ⟨g0, g1, g2, g3⟩ := HAFT.out W6 hb6
        refine hK.out _ _ g0 (fun hHeld => ?_)
        clear hK K
        try simp only [Act.put, List.getElem_toArray, List.getElem_cons_zero, List.getElem_cons_succ, List.setIfInBounds_toArray, List.set_cons_zero, List.set_cons_succ]
        refine wpAnyH_take (i := 7) (v := ?v11) rfl (by kernel_rfl) (by kernel_rfl) (by kernel_rfl) (fun _ _ _ h => h) (Or.inl ⟨by rfl, ?y11⟩) (by assumption) ?_
        case y11 => (intro w hSw; (try dsimp only at hSw); go_simp <;> with_reducible rfl)
        try simp only [Act.put, List.getElem_toArray, List.getElem_cons_zero, List.getElem_cons_succ, List.setIfInBounds_toArray, List.set_cons_zero, List.set_cons_succ]
        refine wpAnyH_take (i := 8) (v := ?v12) rfl (by kernel_rfl) (by kernel_rfl) (by kernel_rfl) (fun _ _ _ h => h) (Or.inl ⟨by rfl, ?y12⟩) (by assumption) ?_
        case y12 => (intro w hSw; (try dsimp only at hSw); go_simp <;> with_reducible rfl)
        try simp only [Act.put, List.getElem_toArray, List.getElem_cons_zero, List.getElem_cons_succ, List.setIfInBounds_toArray, List.set_cons_zero, List.set_cons_succ]
        refine wpAnyH_take (i := 10) (v := ?v13) rfl (by kernel_rfl) (by kernel_rfl) (by kernel_rfl) (fun _ _ _ h => h) (Or.inl ⟨by rfl, ?y13⟩) (by assumption) ?_
        case y13 => (intro w hSw; (try dsimp only at hSw); go_simp <;> with_reducible rfl)
        try simp only [Act.put, List.getElem_toArray, List.getElem_cons_zero, List.getElem_cons_succ, List.setIfInBounds_toArray, List.set_cons_zero, List.set_cons_succ]
        refine wpAnyH_ready (rs := [0]) (by kernel_rfl) (by simp) ?_
        refine (AllReadyH.cons rfl (fun K hK => ?_) AllReadyH.nil)
        · go_simp
          refine hK.out _ _ (by assumption) (fun hHeld => ?_)
          clear hK K
          try simp only [Act.put, List.getElem_toArray, List.getElem_cons_zero, List.getElem_cons_succ, List.setIfInBounds_toArray, List.set_cons_zero, List.set_cons_succ]
          refine wpAnyH_take (i := 11) (v := ?v14) rfl (by kernel_rfl) (by kernel_rfl) (by kernel_rfl) (fun _ _ _ h => h) (Or.inl ⟨by rfl, ?y14⟩) (by assumption) ?_
          case y14 => (intro w hSw; (try dsimp only at hSw); go_simp <;> with_reducible rfl)
          try simp only [Act.put, List.getElem_toArray, List.getElem_cons_zero, List.getElem_cons_succ, List.setIfInBounds_toArray, List.set_cons_zero, List.set_cons_succ]
          refine wpAnyH_ready (rs := [12]) (by kernel_rfl) (by simp) ?_
          refine (AllReadyH.cons rfl (fun K hK => ?_) AllReadyH.nil)
          · go_simp
            refine hK.out _ _ (HS9.out W6 hb6 _) (fun hHeld => ?_)
            clear hK K
            try simp only [Act.put, List.getElem_toArray, List.getElem_cons_zero, List.getElem_cons_succ, List.setIfInBounds_toArray, List.set_cons_zero, List.set_cons_succ]
            refine wpAnyH_done (by kernel_rfl) ?_ _
            have hvv : IntKind.i64.wrap ((qsum xs : Int) + IntKind.i64.wrap (IntKind.i64.wrap ((il : Int) + 2) + (bl : Int))) = ((qsum xs + tsz x.doc : Nat) : Int) := by rw [wr64 (x := (il : Int) + 2) (by omega) (by omega), wr64 (x := (il : Int) + 2 + (bl : Int)) (by omega) (by omega), wr64 (by omega) (by omega), HTS.out, HIL.out, HBL.out]; omega
            rw [hvv]
            clear hvv g0 g1 g2 g3
            have HFI : Hid _ := HFIN.out W6 hb6 _ rfl
            gi_wp2
            rw [s3]; exact HFI.out
  case done =>
    rintro D A xs X hD ⟨hS, hT⟩ hI hK
    have hval : qsum xs = (txt d).length := (qsum_all hS).trans (tsum_pre d 1 hpl)
    have cL := hI.box.cell
    rw [hval] at cL
    have hkD : ∀ b, b ≠ D → (X.putObj D (.deferred none)).heap[b]? = X.heap[b]? := fun b hb => World.putObj_heap_other hb
    have HB : Hid (Below w.heap.size w (X.putObj D (.deferred none))) := ⟨hI.bel.os, hI.bel.tape, hI.bel.output, by simpa using hI.bel.size, fun b hb => (hkD b (by omega)).trans (hI.bel.block b hb)⟩
    clear hI hS hT hkD hd3 bL hval hall
    gi_wp2
    refine ⟨by simp, .inl ⟨_, _, rfl, run_takeDeferred hK, ?_⟩⟩
    exact ⟨_, by simp [results, Tryd.results53, go_sem], rfl, HB.out⟩
  case stop =>
    rintro D c A xs X hD ⟨hS, hT⟩ hX hK
    exact hX.elim
end Go.Proofs.YtlnlkbkmnkjbhaaDoor
