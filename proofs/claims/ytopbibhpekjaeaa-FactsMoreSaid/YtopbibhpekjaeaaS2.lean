/- The first bytes of each nonterminal. -/
import Derived.Test.YtopbibhpekjaeaaS0
import Derived.Test.YtopbibhpekjaeaaC2
namespace Go.Proofs.Ytopbibhpekjaeaa
open Go.RowKit

/-- Memory while first bytes are given on: H: where the sets lie; what is to be given on lies behind W1's end. -/
structure GM (w W1 : World) (H N : Nat) (sets : List St) (av : Value) (again : List Nat) (W : World) : Prop where
  bel : Below w.heap.size w W
  siz : W1.heap.size ≤ W.heap.size
  sets : W.ownsRow H 49 4 (.slice (some ⟨H, 0, none⟩) N N) N (setsV sets)
  fr : ∀ b, w.heap.size ≤ b → b < W1.heap.size → b ≠ H → W.heap[b]? = W1.heap[b]?
  ag : W.ownsRow W1.heap.size 3 1 av again.length (intsV again)
section
variable {w W1 W W' : World} {H N : Nat} {sets : List St} {av av' : Value} {again again' : List Nat}
theorem GM.lower (h : GM w W1 H N sets av again W) (h1 : w.heap.size ≤ W1.heap.size) (hH : H < W1.heap.size) (hb : Below W1.heap.size W W') (hag : W'.ownsRow W1.heap.size 3 1 av' again'.length (intsV again')) : GM w W1 H N sets av' again' W' := by
  refine ⟨h.bel.trans (hb.mono h1), Nat.le_trans h.siz hb.size, row_belowB h.sets hb (fun g hg => ?_), fun b hb1 hb2 hb3 => (hb.block b hb2).trans (h.fr b hb1 hb2 hb3), hag⟩
  have : H = g := by simpa [Value.ownBlock] using hg
  omega
theorem GM.below (h : GM w W1 H N sets av again W) (h1 : w.heap.size ≤ W1.heap.size) (hH : H < W1.heap.size) (hb : Below W.heap.size W W') : GM w W1 H N sets av again W' :=
  h.lower h1 hH (hb.mono h.siz) (row_below h.ag hb)
theorem GM.put (h : GM w W1 H N sets av again W) (hwH : w.heap.size ≤ H) {m : Nat} (hm : m < sets.length) (s : St) : GM w W1 H N (sets.set m s) av again (put4 W H (m * 4) s) := by
  have hag : (put4 W H (m * 4) s).ownsRow W1.heap.size 3 1 av again.length (intsV again) := by
    have k : ∀ {X : World} {o : Nat} {u : Value} {xs : List Value}, X.ownsRow W1.heap.size 3 1 av again.length (intsV again) → X.ownsRow H 49 4 (.slice (some ⟨H, 0, none⟩) N N) N xs → (X.setCell ⟨H, o, none⟩ u).ownsRow W1.heap.size 3 1 av again.length (intsV again) := fun h1 h2 => h1.kept (h2.stored _ _).2 (by have := row_ne h1 h2 (by decide); simpa [Value.ownBlock] using this)
    have s1 := h.sets.stored (m * 4) (.int .u64 (s.a : Int))
    have s2 := s1.1.stored (m * 4 + 1) (.int .u64 (s.b : Int))
    have s3 := s2.1.stored (m * 4 + 2) (.int .u64 (s.c : Int))
    exact k (k (k (k h.ag h.sets) s1.1) s2.1) s3.1
  refine ⟨?_, by rw [put4_size]; exact h.siz, put4_row h.sets hm s, fun b h1 h2 h3 => by rw [put4_block W s h3]; exact h.fr b h1 h2 h3, hag⟩
  exact (((h.bel.setCell (p := ⟨H, _, none⟩) hwH _).setCell (p := ⟨H, _, none⟩) hwH _).setCell (p := ⟨H, _, none⟩) hwH _).setCell (p := ⟨H, _, none⟩) hwH _
end
/-- The cells of two sets of a row. -/
structure Eight (H x y : Nat) (p q : St) (W : World) : Prop where
  z0 : W.cell? ⟨H, x * 4, none⟩ = some (.int .u64 (p.a : Int))
  z1 : W.cell? ⟨H, x * 4 + 1, none⟩ = some (.int .u64 (p.b : Int))
  z2 : W.cell? ⟨H, x * 4 + 2, none⟩ = some (.int .u64 (p.c : Int))
  z3 : W.cell? ⟨H, x * 4 + 3, none⟩ = some (.int .u64 (p.d : Int))
  q0 : W.cell? ⟨H, y * 4, none⟩ = some (.int .u64 (q.a : Int))
  q1 : W.cell? ⟨H, y * 4 + 1, none⟩ = some (.int .u64 (q.b : Int))
  q2 : W.cell? ⟨H, y * 4 + 2, none⟩ = some (.int .u64 (q.c : Int))
  q3 : W.cell? ⟨H, y * 4 + 3, none⟩ = some (.int .u64 (q.d : Int))
theorem Eight.below {H x y : Nat} {p q : St} {W W' : World} (h : Eight H x y p q W) (hH : H < W.heap.size) (hb : Below W.heap.size W W') : Eight H x y p q W' := by
  have k : ∀ o, W'.cell? ⟨H, o, none⟩ = W.cell? ⟨H, o, none⟩ := fun o => hb.cell (p := ⟨H, o, none⟩) hH
  exact ⟨(k _).trans h.z0, (k _).trans h.z1, (k _).trans h.z2, (k _).trans h.z3, (k _).trans h.q0, (k _).trans h.q1, (k _).trans h.q2, (k _).trans h.q3⟩
theorem Eight.cells {H x y : Nat} {p q : St} {W : World} (h : Eight H x y p q W) : W.cell? ⟨H, x * 4, none⟩ = some (.int .u64 (p.a : Int)) ∧ W.cell? ⟨H, x * 4 + 1, none⟩ = some (.int .u64 (p.b : Int)) ∧ W.cell? ⟨H, x * 4 + 2, none⟩ = some (.int .u64 (p.c : Int)) ∧ W.cell? ⟨H, x * 4 + 3, none⟩ = some (.int .u64 (p.d : Int)) ∧ W.cell? ⟨H, y * 4, none⟩ = some (.int .u64 (q.a : Int)) ∧ W.cell? ⟨H, y * 4 + 1, none⟩ = some (.int .u64 (q.b : Int)) ∧ W.cell? ⟨H, y * 4 + 2, none⟩ = some (.int .u64 (q.c : Int)) ∧ W.cell? ⟨H, y * 4 + 3, none⟩ = some (.int .u64 (q.d : Int)) := ⟨h.z0, h.z1, h.z2, h.z3, h.q0, h.q1, h.q2, h.q3⟩
theorem Eight.drew {H x y : Nat} {p q : St} {W : World} (h : Eight H x y p q W) : Eight H x y p q W.drew := ⟨h.z0, h.z1, h.z2, h.z3, h.q0, h.q1, h.q2, h.q3⟩
def Firsts (base N : Nat) (rs : List Rl) (v : Value) (W : World) : Prop := ∃ sets : List St, W.ownsRow base 49 4 v N (setsV sets) ∧ sets.length = N ∧ (∀ n, (sets.getD n St.zero).ok) ∧ ∀ n b, n < N → b < 256 → ((sets.getD n St.zero).has b = true ↔ Fst rs n b)
set_option maxRecDepth 100000 in
set_option maxHeartbeats 16000000 in
theorem first_of (N : Nat) (S : Int) (rs : List Rl) (a : Option Addr) (c : Nat) (w : World) (hok : Ok N rs) (hR : RAt w w.heap.size a rs)
    (H : ∀ w, RAt w w.heap.size a rs → Calls Try.prog 64 #[.agg #[.int .i64 (N : Int), .int .i64 S, .slice a rs.length c]] w fun e w' => ∃ W2 sets vs so, e = .returned (.tuple #[.slice (some ⟨W2.heap.size, 0, none⟩) N N, .slice (some ⟨W2.heap.size + 1, 0, none⟩) N N]) ∧ w.heap.size + 1 ≤ W2.heap.size ∧ OM W2 N sets (fun n => tkL rs so n rs.length) vs w' ∧ sets.length = N ∧ (∀ n, n < N → sets.getD n St.zero = ownL rs so n rs.length) ∧ (∀ m, so.getD m false = true ↔ Lf rs pN m) ∧ Below w.heap.size w w') :
    Calls Try.prog 49 #[.agg #[.int .i64 (N : Int), .int .i64 S, .slice a rs.length c]] w fun e w' => (∃ v, e = .returned v ∧ Firsts w.heap.size N rs v w') ∧ Below w.heap.size w w' := by
  obtain ⟨i0, hinf, hz0, hz1, hz2⟩ := info_parts info3
  have hn1 := hok.n1
  have hn2 := hok.n2
  have hlen := hok.len
  have hsets : ∀ r ∈ rs, ∀ s ∈ r.rhs, s.set.ok := by
    intro r hr s hs
    obtain ⟨i, hi⟩ := List.mem_iff_getElem?.1 hr
    obtain ⟨_, _, _, _, _, _, hK2, _⟩ := hR.cells i r hi
    obtain ⟨j, hj⟩ := List.mem_iff_getElem?.1 hs
    obtain ⟨_, _, _, _, h, _⟩ := hK2.cells j s hj
    exact h
  obtain ⟨W0, hW0⟩ : ∃ W0, w.alloc (.cells #[.int .i64 (N : Int), .int .i64 S, .slice a rs.length c] 24) = W0 := ⟨_, rfl⟩
  have hs0 : W0.heap.size = w.heap.size + 1 := by rw [← hW0]; simp
  have hB0 : Below w.heap.size w W0 := by rw [← hW0]; exact (Below.refl _ _).alloc (Nat.le_refl _) _
  have c0 : W0.cell? ⟨w.heap.size, 0, none⟩ = some (.int .i64 (N : Int)) := by rw [← hW0]; exact cell_new 0 rfl
  have c1 : W0.cell? ⟨w.heap.size, 1, none⟩ = some (.int .i64 S) := by rw [← hW0]; exact cell_new 1 rfl
  have c2 : W0.cell? ⟨w.heap.size, 2, none⟩ = some (.slice a rs.length c) := by rw [← hW0]; exact cell_new 2 rfl
  have H64 : Hid _ := fun (_ : Unit) => H W0 ((hR.keep hB0).mono (by omega))
  go_enter Try.func49, Try.ntmps49
  go_wp2_with (go_at_call 64; refine (H64.out ()).mono ?_)
  rintro e W1 ⟨W2, sets, vs, so, rfl, hs2, hM, hsl, hown, hL, hb1⟩
  have hs1 : w.heap.size + 1 ≤ W1.heap.size := by have := hb1.size; omega
  have hsz := hM.siz
  have d0 : W1.cell? ⟨w.heap.size, 0, none⟩ = some (.int .i64 (N : Int)) := (hb1.cell (p := ⟨w.heap.size, 0, none⟩) (by simp; omega)).trans c0
  have hBw1 := below_of hB0 hb1
  obtain ⟨HH, hHH⟩ : ∃ HH, W2.heap.size = HH := ⟨_, rfl⟩
  rw [hHH] at hs2 hsz ⊢
  have hwH : w.heap.size + 2 ≤ HH := by omega
  have hset := hM.sets
  have hT := hM.tab
  rw [hHH] at hset hT
  have hI0 := FI.start hL hsl hown hsets
  obtain ⟨f, hf⟩ : ∃ f : Nat → List Nat, f = fun n => tkL rs so n rs.length := ⟨_, rfl⟩
  have hfl : ∀ n, (f n).length ≤ 655360 := fun n => by have := tkL_len rs so n hok.rhs rs.length; rw [hf]; show (tkL rs so n rs.length).length ≤ _; omega
  have hfN : ∀ x y, y ∈ f x → y < N := fun x y h => by
    rw [hf] at h
    obtain ⟨i, _, r, hr, hlr, _⟩ := (tkL_mem rs so x y (fun r hr => (hok.lhs r hr).1) rs.length).1 h
    have := hok.lhs r (List.mem_of_getElem? hr)
    omega
  have hfF : ∀ x y b, y ∈ f x → Fst rs x b → Fst rs y b := fun x y b h hb => tk_fst hok hL (by rw [hf] at h; exact h) hb
  obtain ⟨ow, how⟩ : ∃ ow : Nat → St, ow = fun n => ownL rs so n rs.length := ⟨_, rfl⟩
  have HD : Hid (∀ {sets : List St} {again : List Nat}, FI N rs ow f sets again again.length 0 → ∀ n b, n < N → b < 256 → ((sets.getD n St.zero).has b = true ↔ Fst rs n b)) := fun h n b hn hb => by rw [hf, how] at h; exact FI.done hok hL h n b hn hb
  rw [← hf] at hT hI0
  rw [← how] at hI0
  clear hf how hM hown hL
  obtain ⟨vs, hT⟩ : ∃ vs, Tab W1 (HH + 1) (.slice (some ⟨HH + 1, 0, none⟩) N N) N f vs := ⟨_, hT⟩
  have hG0 : GM w W1 HH N sets (.slice none 0 0) [] W1 := ⟨hBw1, Nat.le_refl _, hset, fun _ _ _ _ => rfl, World.ownsRow_nil _ _ _ _⟩
  clear hset hHH hW0 hs0 hB0 c0 c1 c2 H64 hb1 hR hBw1
  go_wp2
  clear d0
  go_loopw [5, 18] (fun av kv W => ∃ k : Nat, k ≤ N ∧ kv = .int .i64 k ∧ GM w W1 HH N sets av (List.range k) W) (fun _ kv _ => N - (intOf kv).toNat)
  case atStart => exact ⟨0, by omega, rfl, hG0⟩
  case round =>
    clear hG0
    obtain ⟨k, hk, rfl, hG⟩ := hrel
    have hszG := hG.siz
    by_cases hlt : k < N
    · go_wp2_with (at_builtin; refine wpList_append_own _ rfl _ _ 41 rfl W1.heap.size 3 i0 (.int .i64 0) 1 8 Try.underlying41 hinf hz0 hz1 hz2 rfl (by decide) _ _ _ rfl (hG.ag.alloc _) ⟨wr.heap.size, 0, none⟩ 1 1 [.int .i64 ((k : Nat) : Int)] rfl rfl ?ca1 ?ca2 ?ca3 ?ca4 ?ca5 ?_)
      try case ca1 => exact cell_one_new _ _ _
      case ca2 => first | rfl | (intro u hu; simp at hu; subst hu; rfl)
      case ca3 => unfold maxLen; simp; omega
      case ca4 => simp; omega
      case ca5 => first | omega | (simp; omega)
      intro v' w2 hown' hgrow _
      have hb2 : Below W1.heap.size wr w2 := ((Below.refl _ wr).alloc hszG (.cells #[.int .i64 ((k : Nat) : Int)] 3)).grown hgrow (by simp; omega) (fun q hq => (hG.ag.lt q hq).1)
      obtain ⟨g', cap', rfl, _⟩ := row_at hown' (by omega)
      have hG2 : GM w W1 HH N sets (.slice (some ⟨g', 0, none⟩) (k + 1) cap') (List.range (k + 1)) w2 := hG.lower (by omega) (by omega) hb2 (by rw [List.range_succ, intsV_snoc, List.length_append, List.length_range]; exact hown')
      go_wp2
      go_roundw
      case rel => exact ⟨k + 1, by omega, by go_num, hG2⟩
      case measure => simp [intOf]; omega
    · obtain rfl : N = k := by omega
      clear hlt hk
      go_wp2
      go_loopw [5, 7] (fun av iv W => ∃ (sets : List St) (again : List Nat) (i : Nat), iv = .int .i64 i ∧ GM w W1 HH N sets av again W ∧ FI N rs ow f sets again i 0) (fun _ iv _ => 4096 + 256 * 4096 + 1 - (intOf iv).toNat)
      case atStart => exact ⟨_, _, 0, rfl, hG, hI0⟩
      case round =>
        clear hG hI0 hsl
        obtain ⟨sets, again, i, rfl, hG, hI⟩ := hrel
        have hszG := hG.siz
        have hbnd : again.length ≤ 4096 + 256 * 4096 := by
          have h1 := hI.bnd
          have h2 := cards_le sets
          rw [hI.len] at h2
          omega
        obtain ⟨aa, ac, rfl⟩ := row_slice hG.ag
        by_cases hlt : i < again.length
        · obtain ⟨x, hx⟩ : ∃ x, again[i]? = some x := ⟨again[i], by simp [hlt]⟩
          have hxN := hI.idx x (List.mem_of_getElem? hx)
          obtain ⟨ga, rfl, _, hgal, hcx⟩ := ints_cell hG.ag hx
          have hTi : Tab wr (HH + 1) (.slice (some ⟨HH + 1, 0, none⟩) N N) N f vs := hT.fr fun b h1 h2 => hG.fr b (by omega) h2 (by omega)
          obtain ⟨va, vc, hv1, hv2⟩ := tab_cell hTi hxN
          have hxI : (x : Int) < N := by omega
          have hiI : (i : Int) < again.length := by omega
          have hflx := hfl x
          obtain ⟨vc1, vrow⟩ : ∃ vc1 : Nat, W1.ownsRow (HH + 1) 3 1 (.slice va (f x).length vc) (f x).length (intsV (f x)) := ⟨0, by
            obtain ⟨va', vc', h1, h2⟩ := tab_cell hT hxN
            have e : wr.cell? ⟨HH + 1, x, none⟩ = W1.cell? ⟨HH + 1, x, none⟩ := World.cell?_of_block (hG.fr (HH + 1) (by omega) (by omega) (by omega))
            rw [e, h1] at hv1
            simp at hv1
            obtain ⟨rfl, rfl⟩ := hv1
            exact h2⟩
          go_wp2
          clear hv1 hv2 hcx hTi hiI hxI
          go_loopw [5, 41] (fun av jv W => ∃ (sets : List St) (again : List Nat) (j : Nat), j ≤ (f x).length ∧ jv = .int .i64 j ∧ GM w W1 HH N sets av again W ∧ FI N rs ow f sets again i j ∧ again[i]? = some x) (fun _ jv _ => (f x).length - (intOf jv).toNat)
          case atStart => exact ⟨sets, again, 0, by omega, rfl, hG, hI, hx⟩
          case round =>
            clear hG hI hx hbnd hlt hszG
            obtain ⟨sets, again, j, hj, rfl, hG, hI, hx⟩ := hrel
            have hszG := hG.siz
            have hbnd : again.length ≤ 4096 + 256 * 4096 := by
              have h1 := hI.bnd
              have h2 := cards_le sets
              rw [hI.len] at h2
              omega
            have hilt := (List.getElem?_eq_some_iff.1 hx).1
            obtain ⟨a5, c5, rfl⟩ := row_slice hG.ag
            by_cases hlt2 : j < (f x).length
            · obtain ⟨y, hy⟩ : ∃ y, (f x)[j]? = some y := ⟨(f x)[j], by simp [hlt2]⟩
              have hym := List.mem_of_getElem? hy
              have hyN := hfN x y hym
              have hrowi : wr.ownsRow (HH + 1) 3 1 (.slice va (f x).length vc) (f x).length (intsV (f x)) := by
                refine ⟨vrow.1, ?_⟩
                rcases vrow.2 with h0 | ⟨g, cap, cur, hv, hbg, hg, rest⟩
                · exact .inl h0
                · exact .inr ⟨g, cap, cur, hv, hbg, (hG.fr g (by omega) (heap_lt' hg) (by omega)).trans hg, rest⟩
              obtain ⟨gi, rfl, _, hgil, hcj⟩ := ints_cell hrowi hy
              obtain ⟨z0, z1, z2, z3⟩ := set_cells hG.sets hI.len hxN
              obtain ⟨q0, q1, q2, q3⟩ := set_cells hG.sets hI.len hyN
              have hxI : (x : Int) < N := by omega
              have hyI : (y : Int) < N := by omega
              have hHl : HH < wr.heap.size := by omega
              have okx := hI.ok x
              have oky := hI.ok y
              have HW : Hid _ := fun (W : World) => within_any (sets.getD x St.zero) (sets.getD y St.zero) W okx oky
              have HO : Hid _ := fun (W : World) => or_any (sets.getD y St.zero) (sets.getD x St.zero) W oky okx
              have HSUB : Hid (((sets.getD x St.zero).and (sets.getD y St.zero)).same (sets.getD x St.zero) = sub (sets.getD x St.zero) (sets.getD y St.zero)) := rfl
              rw [HSUB.out] at HW
              clear HSUB
              have T : Eight HH x y (sets.getD x St.zero) (sets.getD y St.zero) wr := ⟨z0, z1, z2, z3, q0, q1, q2, q3⟩
              clear z0 z1 z2 z3 q0 q1 q2 q3
              obtain ⟨p, hp⟩ : ∃ p, sets.getD x St.zero = p := ⟨_, rfl⟩
              obtain ⟨q, hq⟩ : ∃ q, sets.getD y St.zero = q := ⟨_, rfl⟩
              have HP : Hid _ := hp
              have HQ : Hid _ := hq
              rw [hp, hq] at T HW HO
              clear hp hq okx oky
              cases hsb : sub p q with
              | true =>
                have hI2 := hI.keep hx hy (by rw [HP.out, HQ.out]; exact hsb)
                rw [hsb] at HW
                clear hsb HO hI
                go_wp2
                go_region_held3 (fun W' => W'.cell? ⟨HH, x * 4, none⟩ = some (.int .u64 (p.a : Int)) ∧ W'.cell? ⟨HH, x * 4 + 1, none⟩ = some (.int .u64 (p.b : Int)) ∧ W'.cell? ⟨HH, x * 4 + 2, none⟩ = some (.int .u64 (p.c : Int)) ∧ W'.cell? ⟨HH, x * 4 + 3, none⟩ = some (.int .u64 (p.d : Int)) ∧ W'.cell? ⟨HH, y * 4, none⟩ = some (.int .u64 (q.a : Int)) ∧ W'.cell? ⟨HH, y * 4 + 1, none⟩ = some (.int .u64 (q.b : Int)) ∧ W'.cell? ⟨HH, y * 4 + 2, none⟩ = some (.int .u64 (q.c : Int)) ∧ W'.cell? ⟨HH, y * 4 + 3, none⟩ = some (.int .u64 (q.d : Int))) (exact T.cells) ((go_at_call 65; refine (HW.out _).mono ?_; rintro e w1 ⟨rfl, hb1⟩; replace T : Eight HH x y p q w1 := (by first | exact T.below hHl hb1 | exact T.drew.below hHl hb1)))
                have hb1' : Below wr.heap.size wr w1 := ⟨hb1.os, hb1.tape, hb1.output, hb1.size, hb1.block⟩
                have hG2 := hG.below (by omega) (by omega) hb1'
                go_wp2
                exact ⟨⟨sets, again, j + 1, by omega, by go_num, hG2, hI2, hx⟩, by simp [intOf]; omega⟩
              | false =>
                have hI2 := hI.give hx hy hyN (by rw [HP.out, HQ.out]; exact hsb) (fun b => hfF x y b hym)
                rw [HP.out, HQ.out] at hI2
                rw [hsb] at HW
                have hlen2 := hI.len
                have HX2 : Hid ((again ++ [y])[i]? = some x) := by show _ = _; rw [List.getElem?_append_left hilt]; exact hx
                clear hsb hI hx
                go_wp2
                go_region_held3 (fun W' => W'.cell? ⟨HH, x * 4, none⟩ = some (.int .u64 (p.a : Int)) ∧ W'.cell? ⟨HH, x * 4 + 1, none⟩ = some (.int .u64 (p.b : Int)) ∧ W'.cell? ⟨HH, x * 4 + 2, none⟩ = some (.int .u64 (p.c : Int)) ∧ W'.cell? ⟨HH, x * 4 + 3, none⟩ = some (.int .u64 (p.d : Int)) ∧ W'.cell? ⟨HH, y * 4, none⟩ = some (.int .u64 (q.a : Int)) ∧ W'.cell? ⟨HH, y * 4 + 1, none⟩ = some (.int .u64 (q.b : Int)) ∧ W'.cell? ⟨HH, y * 4 + 2, none⟩ = some (.int .u64 (q.c : Int)) ∧ W'.cell? ⟨HH, y * 4 + 3, none⟩ = some (.int .u64 (q.d : Int))) (exact T.cells) ((go_at_call 65; refine (HW.out _).mono ?_; rintro e w1 ⟨rfl, hb1⟩; replace T : Eight HH x y p q w1 := (by first | exact T.below hHl hb1 | exact T.drew.below hHl hb1)))
                have hb1' : Below wr.heap.size wr w1 := ⟨hb1.os, hb1.tape, hb1.output, hb1.size, hb1.block⟩
                have hG2 := hG.below (by omega) (by omega) hb1'
                have hHl1 : HH < w1.heap.size := Nat.lt_of_lt_of_le hHl hb1'.size
                have fz0 := hG2.sets.frozenAt (y * 4)
                have fz1 := hG2.sets.frozenAt (y * 4 + 1)
                have fz2 := hG2.sets.frozenAt (y * 4 + 2)
                have fz3 := hG2.sets.frozenAt (y * 4 + 3)
                obtain ⟨z0, z1, z2, z3, q0, q1, q2, q3⟩ := T.cells
                have HPUT : Hid (∀ {W : World}, Below w1.heap.size w1 W → GM w W1 HH N (sets.set y (q.or p)) (.slice a5 again.length c5) again (put4 W HH (y * 4) (q.or p))) := fun hb => (hG2.below (by omega) (by omega) hb).put (by omega) (by rw [hlen2]; exact hyN) _
                have HI2 : Hid _ := hI2
                clear hI2 hb1 hb1' HW T hG
                generalize sets.set y (q.or p) = sets2 at *
                obtain ⟨u, hu⟩ : ∃ u, q.or p = u := ⟨_, rfl⟩
                rw [hu] at HO HPUT
                clear hu
                go_wp2
                go_cut [41] from 41 to 71 (fun s41 wc => s41 = .int .i64 ((j : Nat) : Int) ∧ GM w W1 HH N sets2 (.slice a5 again.length c5) again wc)
                case first =>
                  go_region_with (go_at_call 66; refine (HO.out _).mono ?_; rintro e w3 ⟨rfl, hb3⟩; have p0 := (hb3.cell (p := ⟨HH, y * 4, none⟩) hHl1).trans q0; have p1 := (hb3.cell (p := ⟨HH, y * 4 + 1, none⟩) hHl1).trans q1; have p2 := (hb3.cell (p := ⟨HH, y * 4 + 2, none⟩) hHl1).trans q2; have p3 := (hb3.cell (p := ⟨HH, y * 4 + 3, none⟩) hHl1).trans q3; have r0 := (hb3.frozen (p := ⟨HH, y * 4, none⟩) hHl1).trans fz0; have r1 := (hb3.frozen (p := ⟨HH, y * 4 + 1, none⟩) hHl1).trans fz1; have r2 := (hb3.frozen (p := ⟨HH, y * 4 + 2, none⟩) hHl1).trans fz2; have r3 := (hb3.frozen (p := ⟨HH, y * 4 + 3, none⟩) hHl1).trans fz3)
                  all_goals go_wp2_with fail
                  all_goals go_meet
                  all_goals exact ⟨rfl, HPUT.out ⟨hb3.os, hb3.tape, hb3.output, hb3.size, hb3.block⟩⟩
                case rest =>
                  obtain ⟨rfl, hG3⟩ := hcut
                  have hszc := hG3.siz
                  go_wp2_with (at_builtin; refine wpList_append_own _ rfl _ _ 41 rfl W1.heap.size 3 i0 (.int .i64 0) 1 8 Try.underlying41 hinf hz0 hz1 hz2 rfl (by decide) _ _ _ rfl (hG3.ag.alloc _) ⟨wc.heap.size, 0, none⟩ 1 1 [.int .i64 ((y : Nat) : Int)] rfl rfl ?cb1 ?cb2 ?cb3 ?cb4 ?cb5 ?_)
                  try case cb1 => exact cell_one_new _ _ _
                  case cb2 => first | rfl | (intro u hu; simp at hu; subst hu; rfl)
                  case cb3 => unfold maxLen; omega
                  case cb4 => omega
                  case cb5 => first | omega | (simp; omega)
                  intro v' w5 hown' hgrow _
                  have hb5 : Below W1.heap.size wc w5 := ((Below.refl _ wc).alloc hszc (.cells #[.int .i64 ((y : Nat) : Int)] 3)).grown hgrow (by simp; omega) (fun q hq => (hG3.ag.lt q hq).1)
                  obtain ⟨g', cap', rfl, _⟩ := row_at hown' (by omega)
                  have hG4 : GM w W1 HH N sets2 (.slice (some ⟨g', 0, none⟩) (again.length + 1) cap') (again ++ [y]) w5 := hG3.lower (by omega) (by omega) hb5 (by rw [intsV_snoc, List.length_append]; exact hown')
                  go_wp2
                  exact ⟨⟨sets2, again ++ [y], j + 1, by omega, by go_num, hG4, HI2.out, HX2.out⟩, by simp [intOf]; omega⟩
            · obtain rfl : j = (f x).length := by omega
              have hI2 := hI.next hx (Nat.le_refl _)
              go_wp2
              exact ⟨⟨sets, again, i + 1, by go_num, hG, hI2⟩, by simp [intOf]; omega⟩
        · obtain rfl : again.length = i := by have := hI.le; omega
          have HDD : Hid _ := HD.out hI
          go_wp2
          go_ret
          exact ⟨⟨_, rfl, sets, row_mono hG.sets (by omega), hI.len, hI.ok, HDD.out⟩, hG.bel⟩
end Go.Proofs.Ytopbibhpekjaeaa
