/- A grammar that is copied: its rules lie in a row of their own, each one's symbols in another one. -/
import Derived.Test.YtopbibhpekjaeaaU1
import Derived.Deep.AppendSrc
namespace Go.Proofs.Ytopbibhpekjaeaa
open Go.RowKit

def ksL (s : Ks) : List Value := [.int .i64 s.nt, .int .u64 s.set.a, .int .u64 s.set.b, .int .u64 s.set.c, .int .u64 s.set.d]
def ksV (l : List Ks) : List Value := l.flatMap ksL
theorem ksV_len (l : List Ks) : (ksV l).length = l.length * 5 := by
  induction l with
  | nil => rfl
  | cons s l ih =>
    have : ksV (s :: l) = ksL s ++ ksV l := rfl
    rw [this, List.length_append, ih]; simp [ksL]; omega
theorem ksV_get : ∀ (l : List Ks) (m j : Nat) (s : Ks), l[m]? = some s → j < 5 → (ksV l)[m * 5 + j]? = (ksL s)[j]?
  | [], _, _, _, h, _ => by cases h
  | t :: l, 0, j, s, h, hj => by
    have e : ksV (t :: l) = ksL t ++ ksV l := rfl
    obtain rfl : t = s := by simpa using h
    rw [e, Nat.zero_mul, Nat.zero_add, List.getElem?_append_left (by simp [ksL]; omega)]
  | t :: l, m + 1, j, s, h, hj => by
    have e : ksV (t :: l) = ksL t ++ ksV l := rfl
    have hl : (ksL t).length = 5 := rfl
    rw [e, List.getElem?_append_right (by rw [hl]; omega), hl, show (m + 1) * 5 + j - 5 = m * 5 + j by omega]
    exact ksV_get l m j s (by simpa using h) hj
theorem ksV_mem {l : List Ks} {u : Value} (h : u ∈ ksV l) : u.oneCell' = true := by
  obtain ⟨s, _, hu⟩ := List.mem_flatMap.1 h
  simp only [ksL, List.mem_cons, List.not_mem_nil, or_false] at hu
  rcases hu with rfl | rfl | rfl | rfl | rfl <;> rfl
theorem ks_split {l : List Ks} {i : Nat} {u : Value} (h : (ksV l)[i]? = some u) : ∃ s, l[i / 5]? = some s ∧ (ksL s)[i % 5]? = some u := by
  have hi := (List.getElem?_eq_some_iff.1 h).1
  rw [ksV_len] at hi
  have hm : i / 5 < l.length := by omega
  refine ⟨l[i / 5], by simp [hm], ?_⟩
  have := ksV_get l (i / 5) (i % 5) l[i / 5] (by simp [hm]) (Nat.mod_lt _ (by omega))
  rw [show i / 5 * 5 + i % 5 = i by omega] at this
  rw [← this]; exact h
/-- Symbols in memory, one cell behind the other. -/
theorem KAt.news {w : World} {B b o : Nat} {l : List Ks} (h : KAt w B (some ⟨b, o, none⟩) l) : ∀ j u, (ksV l)[j]? = some u → w.cell? ((⟨b, o, none⟩ : Addr).add j) = some u := by
  intro j u hu
  obtain ⟨s, hs, hc⟩ := ks_split hu
  obtain ⟨b', o', e, _, _, c0, c1, c2, c3, c4⟩ := h.cells (j / 5) s hs
  cases e
  have e2 : (⟨b, o, none⟩ : Addr).add j = ⟨b, o + j, none⟩ := by simp [Addr.add]
  rw [e2]
  have hj : j = j / 5 * 5 + j % 5 := by omega
  have h5 : j % 5 < 5 := Nat.mod_lt _ (by omega)
  generalize j % 5 = m at *
  generalize j / 5 = k at *
  subst hj
  match m, h5 with
  | 0, _ => rw [Nat.add_zero, c0]; exact hc
  | 1, _ => rw [show o + (k * 5 + 1) = o + k * 5 + 1 by omega, c1]; exact hc
  | 2, _ => rw [show o + (k * 5 + 2) = o + k * 5 + 2 by omega, c2]; exact hc
  | 3, _ => rw [show o + (k * 5 + 3) = o + k * 5 + 3 by omega, c3]; exact hc
  | 4, _ => rw [show o + (k * 5 + 4) = o + k * 5 + 4 by omega, c4]; exact hc
theorem KAt.sets {w : World} {B : Nat} {a : Option Addr} {l : List Ks} (h : KAt w B a l) : ∀ s ∈ l, s.set.ok := fun s hs => by
  obtain ⟨j, hj⟩ := List.mem_iff_getElem?.1 hs
  obtain ⟨_, _, _, _, h3, _⟩ := h.cells j s hj
  exact h3
/-- A row of symbols is a rule's symbols. -/
theorem ks_kat {W : World} {base : Nat} {v : Value} {l : List Ks} (h : W.ownsRow base 56 5 v l.length (ksV l)) (hok : ∀ s ∈ l, s.set.ok) (hl : l.length * 40 ≤ 140737488355328) : ∃ a c, v = .slice a l.length c ∧ KAt W W.heap.size a l ∧ (0 < l.length → ∃ g, a = some ⟨g, 0, none⟩ ∧ base ≤ g) := by
  by_cases h0 : l.length = 0
  · obtain ⟨a, c, rfl⟩ := row_slice h
    exact ⟨a, c, rfl, ⟨hl, fun j r hj => by have := (List.getElem?_eq_some_iff.1 hj).1; omega⟩, fun h => by omega⟩
  · obtain ⟨g, c, rfl, hbg, hg⟩ := row_at h (by omega)
    refine ⟨_, c, rfl, ⟨hl, fun j s hj => ?_⟩, fun _ => ⟨g, rfl, hbg⟩⟩
    have hlt := (List.getElem?_eq_some_iff.1 hj).1
    have k : ∀ i, i < 5 → W.cell? ⟨g, j * 5 + i, none⟩ = (ksL s)[i]? := fun i hi => by
      rw [h.cellAt (j * 5 + i) (by omega), ksV_get l j i s hj hi]
    refine ⟨g, 0, rfl, hg, hok s (List.mem_of_getElem? hj), ?_, ?_, ?_, ?_, ?_⟩
    · rw [Nat.zero_add]; exact k 0 (by omega)
    · rw [Nat.zero_add]; exact k 1 (by omega)
    · rw [Nat.zero_add]; exact k 2 (by omega)
    · rw [Nat.zero_add]; exact k 3 (by omega)
    · rw [Nat.zero_add]; exact k 4 (by omega)
theorem info56 : (Try.prog.info? 56).map (fun i => (i.zero, i.size, i.bytes)) = some (some (.agg #[.int .i64 0, .int .u64 0, .int .u64 0, .int .u64 0, .int .u64 0]), 5, 40) := by kernel_rfl
theorem app_none (ty : TypeId) (sc : Nat) (w : World) : (Builtin.append_ #[50, 50] ty #[.slice none 0 0, .slice none 0 sc]).run Try.prog w = .ok (.slice none 0 0) w := by kernel_rfl
theorem app_some (ty : TypeId) (a : Addr) (sc : Nat) (w : World) : (Builtin.append_ #[50, 50] ty #[.slice none 0 0, .slice (some a) 0 sc]).run Try.prog w = .ok (.slice none 0 0) w := by kernel_rfl
/-- A rule's symbols put behind nothing, at a step of a region that draws its order. -/
theorem step_append_syms {ops : Array Oper} {o : Oper} {a : Act} {K : Act → World → Prop} {Q : Exit → Act → World → Prop} {E : Prop} {w : World} (hgd : o.guard = none) (s x : Operand)
    (ho : o.op = .call { callee := .builtin .append, args := #[s, x], argTypes := #[50, 50] }) (l : List Ks) (sa : Option Addr) (sc : Nat)
    (hs : a.eval s = .slice none 0 0) (hx : a.eval x = .slice sa l.length sc) (hK : KAt w w.heap.size sa l)
    (h : ∀ va vc w', w'.ownsRow w.heap.size 56 5 (.slice va l.length vc) l.length (ksV l) → Below w.heap.size w w' → K (a.put o.dst (.slice va l.length vc)) w') :
    if Region.wanted o (yielded ops a.tmps) = true then Oper.wp Try.prog o a w K Q else E := by
  obtain ⟨i0, hinf, hz0, hz1, hz2⟩ := info_parts info56
  have hw : Region.wanted o (yielded ops a.tmps) = true := by simp [Region.wanted, hgd]
  by_cases h0 : l.length = 0
  · rw [if_pos hw]
    rw [h0] at hx h
    obtain rfl := List.eq_nil_of_length_eq_zero h0
    have hrun : (Builtin.append_ #[50, 50] o.type #[.slice none 0 0, .slice sa 0 sc]).run Try.prog w = .ok (.slice none 0 0) w := by
      cases sa with
      | none => exact app_none _ _ _
      | some b => exact app_some _ _ _ _
    unfold Oper.wp execOp
    simp only [ho, resolve, invoke, builtin, Sem.run_bind, Sem.run_pure, Result.andThen_ok, List.map_toArray, List.map_cons, List.map_nil, hs, hx, hrun]
    exact h none 0 w (World.ownsRow_nil _ _ _ _) (Below.refl _ _)
  · obtain ⟨s0, hs0⟩ : ∃ s0, l[0]? = some s0 := ⟨l[0]'(by omega), by simp⟩
    obtain ⟨b, o', rfl, _⟩ := hK.cells 0 s0 hs0
    have hlen := hK.len
    refine step_append_lies w hgd s x 50 ho w.heap.size 56 i0 _ 5 40 Try.underlying50 hinf hz0 hz1 hz2 rfl (by decide) (.slice none 0 0) 0 [] hs (World.ownsRow_nil _ _ _ _) ⟨b, o', none⟩ l.length sc (ksV l) hx (ksV_len l) hK.news (fun u hu => ksV_mem hu) (by omega) (by unfold maxLen; omega) (by omega) (Nat.le_refl _) _ rfl fun g cap w' hown hgrow _ _ => ?_
    rw [Nat.zero_add, List.nil_append] at hown
    rw [Nat.zero_add]
    exact h _ _ w' hown ((Below.refl _ _).grown hgrow (Nat.le_refl _) (fun j hj => by simp [Value.ownBlock] at hj))

/-- The cells of a row of rules, whose symbols lie neither in that row nor in a block that xb bars. -/
structure Rx (W : World) (lv : Value) (xb : Nat → Prop) (ps : List Rl) (xs : List Value) : Prop where
  len : xs.length = ps.length * 2
  cells : ∀ j r, ps[j]? = some r → ∃ sa sc, KAt W W.heap.size sa r.rhs ∧ (∀ b o, sa = some ⟨b, o, none⟩ → 0 < r.rhs.length → lv.ownBlock ≠ some b ∧ ¬ xb b) ∧ xs[j * 2]? = some (.int .i64 r.lhs) ∧ xs[j * 2 + 1]? = some (.slice sa r.rhs.length sc)
theorem Rx.nil (W : World) (lv : Value) (xb : Nat → Prop) : Rx W lv xb [] [] := ⟨rfl, fun j r h => by cases h⟩
theorem KAt.move {W W' : World} {a : Option Addr} {l : List Ks} (h : KAt W W.heap.size a l) (hs : W.heap.size ≤ W'.heap.size) (hk : ∀ b o, a = some ⟨b, o, none⟩ → 0 < l.length → b < W.heap.size → ∀ q, W'.cell? ⟨b, q, none⟩ = W.cell? ⟨b, q, none⟩) : KAt W' W'.heap.size a l := by
  refine ⟨h.len, fun j s hj => ?_⟩
  obtain ⟨b, o, h1, h2, h3, c0, c1, c2, c3, c4⟩ := h.cells j s hj
  have k := hk b o h1 (by have := (List.getElem?_eq_some_iff.1 hj).1; omega) h2
  exact ⟨b, o, h1, by omega, h3, by rw [k]; exact c0, by rw [k]; exact c1, by rw [k]; exact c2, by rw [k]; exact c3, by rw [k]; exact c4⟩
theorem KAt.lt {W : World} {B b o : Nat} {l : List Ks} (h : KAt W B (some ⟨b, o, none⟩) l) (h0 : 0 < l.length) : b < B := by
  obtain ⟨b', o', e, h2, _⟩ := h.cells 0 (l[0]) (by simp)
  cases e; exact h2
theorem Rx.move {W W' : World} {lv lv' : Value} {xb : Nat → Prop} {ps : List Rl} {xs : List Value} (h : Rx W lv xb ps xs) (hs : W.heap.size ≤ W'.heap.size)
    (hk : ∀ b, b < W.heap.size → lv.ownBlock ≠ some b → ¬ xb b → ∀ q, W'.cell? ⟨b, q, none⟩ = W.cell? ⟨b, q, none⟩) (hl : ∀ b, b < W.heap.size → lv'.ownBlock = some b → lv.ownBlock = some b) : Rx W' lv' xb ps xs := by
  refine ⟨h.len, fun j r hj => ?_⟩
  obtain ⟨sa, sc, h1, h2, h3, h4⟩ := h.cells j r hj
  refine ⟨sa, sc, h1.move hs (fun b o e h0 hb => hk b hb (h2 b o e h0).1 (h2 b o e h0).2), fun b o e h0 => ⟨fun e' => (h2 b o e h0).1 (hl b ?_ e'), (h2 b o e h0).2⟩, h3, h4⟩
  subst e
  exact h1.lt h0
theorem Rx.below {W W' : World} {lv : Value} {xb : Nat → Prop} {ps : List Rl} {xs : List Value} (h : Rx W lv xb ps xs) (hb : Below W.heap.size W W') : Rx W' lv xb ps xs :=
  h.move hb.size (fun b hlt _ _ q => hb.cell (p := ⟨b, q, none⟩) hlt) (fun _ _ e => e)
theorem Rx.box {W : World} {lv : Value} {xb xb' : Nat → Prop} {ps : List Rl} {xs : List Value} (h : Rx W lv xb ps xs) (hx : ∀ b, xb' b → W.heap.size ≤ b) : Rx W lv xb' ps xs := by
  refine ⟨h.len, fun j r hj => ?_⟩
  obtain ⟨sa, sc, h1, h2, h3, h4⟩ := h.cells j r hj
  refine ⟨sa, sc, h1, fun b o e h0 => ⟨(h2 b o e h0).1, ?_⟩, h3, h4⟩
  subst e
  exact fun hb => by have := h1.lt h0; have := hx b hb; omega
theorem Rx.snoc {W : World} {lv : Value} {xb : Nat → Prop} {ps : List Rl} {xs : List Value} (h : Rx W lv xb ps xs) {r : Rl} {sa : Option Addr} (sc : Nat) (hK : KAt W W.heap.size sa r.rhs) (hb : ∀ b o, sa = some ⟨b, o, none⟩ → 0 < r.rhs.length → lv.ownBlock ≠ some b ∧ ¬ xb b) : Rx W lv xb (ps ++ [r]) (xs ++ [.int .i64 r.lhs, .slice sa r.rhs.length sc]) := by
  have hl := h.len
  refine ⟨by simp [hl]; omega, fun j q hj => ?_⟩
  by_cases hlt : j < ps.length
  · rw [List.getElem?_append_left hlt] at hj
    obtain ⟨sa, sc, h1, h2, h3, h4⟩ := h.cells j q hj
    exact ⟨sa, sc, h1, h2, by rw [List.getElem?_append_left (by omega)]; exact h3, by rw [List.getElem?_append_left (by omega)]; exact h4⟩
  · have := (List.getElem?_eq_some_iff.1 hj).1
    simp at this
    obtain rfl : j = ps.length := by omega
    simp at hj
    subst hj
    refine ⟨sa, sc, hK, hb, ?_, ?_⟩
    · rw [List.getElem?_append_right (by omega), hl, Nat.sub_self]; rfl
    · rw [List.getElem?_append_right (by omega), hl, show ps.length * 2 + 1 - ps.length * 2 = 1 by omega]; rfl
theorem Rx.rat {W : World} {lv : Value} {xb : Nat → Prop} {base : Nat} {ps : List Rl} {xs : List Value} (h : Rx W lv xb ps xs) (hr : W.ownsRow base 52 2 lv ps.length xs) (hl : ps.length * 32 ≤ 140737488355328) : ∃ a c, lv = .slice a ps.length c ∧ RAt W W.heap.size a ps := by
  by_cases h0 : ps.length = 0
  · obtain ⟨a, c, rfl⟩ := row_slice hr
    exact ⟨a, c, rfl, hl, fun j r hj => by have := (List.getElem?_eq_some_iff.1 hj).1; omega⟩
  · obtain ⟨g, c, rfl, _, hg⟩ := row_at hr (by omega)
    refine ⟨_, c, rfl, hl, fun j r hj => ?_⟩
    obtain ⟨sa, sc, h1, _, h2, h3⟩ := h.cells j r hj
    have hlt := (List.getElem?_eq_some_iff.1 hj).1
    have hxl := h.len
    refine ⟨g, 0, sa, sc, rfl, hg, h1, ?_, ?_⟩
    · have := hr.cellAt (j * 2) (by omega)
      rw [Nat.zero_add]; rw [this]; exact h2
    · have := hr.cellAt (j * 2 + 1) (by omega)
      rw [Nat.zero_add]; rw [this]; exact h3
/-- What is read while a rule's symbols are copied. -/
structure CS (gb rb b q : Nat) (rv u1 : Value) (sa : Option Addr) (l : List Ks) (W : World) : Prop where
  gr : W.cell? ⟨gb, 2, none⟩ = some rv
  r1 : W.cell? ⟨rb, 1, none⟩ = some (.slice none 0 0)
  fz : W.frozen? ⟨rb, 1, none⟩ = false
  e1 : W.cell? ⟨b, q + 1, none⟩ = some u1
  ka : KAt W W.heap.size sa l
  l0 : gb < W.heap.size
  l1 : rb < W.heap.size
  l2 : b < W.heap.size
theorem CS.below {gb rb b q : Nat} {rv u1 : Value} {sa : Option Addr} {l : List Ks} {W W' : World} (h : CS gb rb b q rv u1 sa l W) (hb : Below W.heap.size W W') : CS gb rb b q rv u1 sa l W' :=
  ⟨(hb.cell (p := ⟨gb, 2, none⟩) h.l0).trans h.gr, (hb.cell (p := ⟨rb, 1, none⟩) h.l1).trans h.r1, (hb.frozen (p := ⟨rb, 1, none⟩) h.l1).trans h.fz, (hb.cell (p := ⟨b, q + 1, none⟩) h.l2).trans h.e1, (h.ka.keep hb).mono hb.size, Nat.lt_of_lt_of_le h.l0 hb.size, Nat.lt_of_lt_of_le h.l1 hb.size, Nat.lt_of_lt_of_le h.l2 hb.size⟩
end Go.Proofs.Ytopbibhpekjaeaa
