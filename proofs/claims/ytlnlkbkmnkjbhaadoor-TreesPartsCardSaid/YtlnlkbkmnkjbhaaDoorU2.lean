/- The rows of trees that are still to come, in memory: the trees lie in a set of blocks. -/
import Derived.Test.YtlnlkbkmnkjbhaaDoorU0
import Derived.Test.YtlnlkbkmnkjbhaaDoorI3
import Derived.Test.YtlnlkbkmnkjbhaaDoorC0
namespace Go.Proofs.YtlnlkbkmnkjbhaaDoor
open Go.RowKit

/-- A tree at an address, all that it is made of in blocks of U. -/
def TreeIn (w : World) (U : Nat → Prop) (f b o : Nat) (d : Tr) : Prop := U b ∧ ∃ sa sc, w.cell? ⟨b, o, none⟩ = some (.int .i64 d.rule) ∧ w.cell? ⟨b, o + 1, none⟩ = some (.int .u8 (d.byte.toNat : Int)) ∧ w.cell? ⟨b, o + 2, none⟩ = some (.slice sa d.kids.length sc) ∧ d.kids.length ≤ sc ∧ TIn w U f sa d.kids
theorem TIn.up {w : World} {U : Nat → Prop} : ∀ {f : Nat} {a : Option Addr} {l : List Tr}, TIn w U f a l → TIn w U (f + 1) a l
  | 0, a, l, h => by
    have h' : l = [] := h
    subst h'
    exact ⟨by decide, fun j d hj => by cases hj⟩
  | f + 1, a, l, h => by
    refine ⟨h.1, fun j d hj => ?_⟩
    obtain ⟨b, o, e, hlt, sa, sc, c0, c1, c3, hc, hk⟩ := h.2 j d hj
    exact ⟨b, o, e, hlt, sa, sc, c0, c1, c3, hc, hk.up⟩
theorem TIn.ab {w w' : World} {U : Nat → Prop} (hb : Ab U w w') {f : Nat} {a : Option Addr} {l : List Tr} (h : TIn w U f a l) : TIn w' U f a l := h.keep (fun b hu q => hb.cell (p := ⟨b, q, none⟩) hu)
theorem TreeIn.keep {w w' : World} {U : Nat → Prop} {f b o : Nat} {d : Tr} (h : TreeIn w U f b o d) (hb : Ab U w w') : TreeIn w' U f b o d := by
  obtain ⟨hlt, sa, sc, c0, c1, c3, hc, hk⟩ := h
  have k : ∀ q, w'.cell? ⟨b, q, none⟩ = w.cell? ⟨b, q, none⟩ := fun q => hb.cell (p := ⟨b, q, none⟩) hlt
  exact ⟨hlt, sa, sc, (k _).trans c0, (k _).trans c1, (k _).trans c3, hc, hk.ab hb⟩
theorem TIn.one {w : World} {U : Nat → Prop} {f : Nat} {a : Option Addr} {l : List Tr} (h : TIn w U f a l) {j : Nat} {d : Tr} (hj : l[j]? = some d) : ∃ b o, a = some ⟨b, o, none⟩ ∧ TreeIn w U f b (o + j * 3) d := by
  match f, h with
  | 0, h =>
    have h' : l = [] := h
    subst h'; cases hj
  | f + 1, h =>
    obtain ⟨b, o, e, hlt, sa, sc, c0, c1, c3, hc, hk⟩ := h.2 j d hj
    exact ⟨b, o, e, hlt, sa, sc, c0, c1, c3, hc, hk.up⟩
theorem TIn.len {w : World} {U : Nat → Prop} {f : Nat} {a : Option Addr} {l : List Tr} (h : TIn w U f a l) : l.length * 40 ≤ 140737488355328 := by
  match f, h with
  | 0, h =>
    have h' : l = [] := h
    subst h'; decide
  | f + 1, h => exact h.1
theorem TIn.tail {w : World} {U : Nat → Prop} {f b o : Nat} {d : Tr} {l : List Tr} (h : TIn w U f (some ⟨b, o, none⟩) (d :: l)) : TIn w U f (some ⟨b, o + 3, none⟩) l := by
  match f, h with
  | 0, h => cases h
  | f + 1, h =>
    refine ⟨by have := h.1; simp at this; omega, fun j x hj => ?_⟩
    obtain ⟨b', o', e, hlt, sa, sc, c0, c1, c3, hc, hk⟩ := h.2 (j + 1) x (by simpa using hj)
    cases e
    have e4 : o + (j + 1) * 3 = o + 3 + j * 3 := by omega
    rw [e4] at c0 c1 c3
    exact ⟨b, o + 3, rfl, hlt, sa, sc, c0, c1, c3, hc, hk⟩
theorem TAt.tin {w : World} {B : Nat} {U : Nat → Prop} (hU : ∀ b, b < B → U b) : ∀ {f : Nat} {a : Option Addr} {l : List Tr}, TAt w B f a l → TIn w U f a l
  | 0, _, _, h => h
  | f + 1, a, l, h => by
    refine ⟨h.1, fun j d hj => ?_⟩
    obtain ⟨b, o, e, hlt, sa, sc, c0, c1, c3, hc, hk⟩ := h.2 j d hj
    exact ⟨b, o, e, hU b hlt, sa, sc, c0, c1, c3, hc, hk.tin hU⟩
/-- Rows in memory; the trees lie where they lay in W0. -/
structure RU (W0 W : World) (hi : Nat) (U : Nat → Prop) (f : Nat) (rv : Value) (rows : List (List Tr × Nat)) (cs : List Value) : Prop where
  row : W.ownsRow hi 127 2 rv rows.length cs
  at' : ∀ j l m, rows[j]? = some (l, m) → ∃ sa sc, l ≠ [] ∧ TIn W0 U f sa l ∧ l.length ≤ sc ∧ cs[j * 2]? = some (.slice sa l.length sc) ∧ cs[j * 2 + 1]? = some (.int .i64 (m : Int))
section
variable {W0 W W' : World} {hi f : Nat} {U : Nat → Prop} {rv : Value} {R : List (List Tr × Nat)} {cs : List Value}
theorem RU.nil (W0 W : World) (hi : Nat) (U : Nat → Prop) (f : Nat) : RU W0 W hi U f (.slice none 0 0) [] [] := ⟨World.ownsRow_nil _ _ _ _, fun j l m h => by cases h⟩
theorem RU.move (h : RU W0 W hi U f rv R cs) (hk : ∀ g, rv.ownBlock = some g → W'.heap[g]? = W.heap[g]?) : RU W0 W' hi U f rv R cs := by
  refine ⟨⟨h.row.1, ?_⟩, h.at'⟩
  rcases h.row.2 with h0 | ⟨g, cap, cur, rfl, hbg, hg, rest⟩
  · exact .inl h0
  · exact .inr ⟨g, cap, cur, rfl, hbg, (hk g rfl).trans hg, rest⟩
theorem RU.push (h : RU W0 W hi U f rv R cs) {v' : Value} {l : List Tr} {m : Nat} {sa : Option Addr} {sc : Nat} (hl : l ≠ []) (hd : TIn W0 U f sa l) (hc : l.length ≤ sc) (hr : W'.ownsRow hi 127 2 v' (R.length + 1) (cs ++ [.slice sa l.length sc, .int .i64 (m : Int)])) : RU W0 W' hi U f v' (R ++ [(l, m)]) (cs ++ [.slice sa l.length sc, .int .i64 (m : Int)]) := by
  have hcl := h.row.1
  refine ⟨by rw [List.length_append]; exact hr, fun j l' m' hj => ?_⟩
  by_cases hlt : j < R.length
  · rw [List.getElem?_append_left hlt] at hj
    obtain ⟨sa', sc', h1, h2, h3, h4, h5⟩ := h.at' j l' m' hj
    exact ⟨sa', sc', h1, h2, h3, by rw [List.getElem?_append_left (by omega)]; exact h4, by rw [List.getElem?_append_left (by omega)]; exact h5⟩
  · have := (List.getElem?_eq_some_iff.1 hj).1
    simp at this
    obtain rfl : j = R.length := by omega
    simp at hj
    obtain ⟨rfl, rfl⟩ := hj
    refine ⟨sa, sc, hl, hd, hc, ?_, ?_⟩
    · rw [List.getElem?_append_right (by omega), hcl, Nat.sub_self]; rfl
    · rw [List.getElem?_append_right (by omega), hcl, show R.length * 2 + 1 - R.length * 2 = 1 by omega]; rfl
theorem RU.ne (h : RU W0 W hi U f rv R cs) : ∀ p ∈ R, p.1 ≠ [] := fun p hp => by
  obtain ⟨j, hj⟩ := List.mem_iff_getElem?.1 hp
  obtain ⟨_, _, h1, _⟩ := h.at' j p.1 p.2 hj
  exact h1
/-- The last row, and what comes of it when its first tree is taken off. -/
theorem RU.top {l : List Tr} {m : Nat} (h : RU W0 W hi U f rv (R ++ [(l, m)]) cs) : ∃ g cap b o sc d0 l', rv = .slice (some ⟨g, 0, none⟩) (R.length + 1) cap ∧ hi ≤ g ∧ g < W.heap.size ∧ R.length + 1 ≤ cap ∧ l = d0 :: l' ∧ l'.length + 1 ≤ sc ∧ W.cell? ⟨g, R.length * 2, none⟩ = some (.slice (some ⟨b, o, none⟩) (l'.length + 1) sc) ∧ W.cell? ⟨g, R.length * 2 + 1, none⟩ = some (.int .i64 (m : Int)) ∧ W.frozen? ⟨g, R.length * 2, none⟩ = false ∧ TreeIn W0 U f b o d0 ∧ (l'.length + 1) * 40 ≤ 140737488355328 ∧
    ∀ V : World, V.heap[g]? = W.heap[g]? → (∀ u, V.grownBy (V.setCell ⟨g, R.length * 2, none⟩ u) (some g) ∧ ∃ cs', RU W0 (V.setCell ⟨g, R.length * 2, none⟩ u) hi U f (.slice (some ⟨g, 0, none⟩) R.length cap) R cs') ∧ (l' ≠ [] → ∃ cs', RU W0 (V.setCell ⟨g, R.length * 2, none⟩ (.slice (some ⟨b, o + 3, none⟩) l'.length (sc - 1))) hi U f (.slice (some ⟨g, 0, none⟩) (R.length + 1) cap) (R ++ [(l', m)]) cs') := by
  have hr := h.row
  rw [List.length_append] at hr
  have hr' : W.ownsRow hi 127 2 rv (R.length + 1) cs := hr
  obtain ⟨g, cap, rfl, hbg, hg, hcap⟩ := row_at hr' (by omega)
  have hcl : cs.length = (R.length + 1) * 2 := hr'.1
  obtain ⟨sa, sc, hne, hd, hsc, q0, q1⟩ := h.at' R.length l m (by simp)
  match l, hne with
  | d0 :: l', _ =>
    obtain ⟨b, o, rfl, hdoc⟩ := hd.one (j := 0) (d := d0) rfl
    have k0 := hr'.cellAt (R.length * 2) (by omega)
    have k1 := hr'.cellAt (R.length * 2 + 1) (by omega)
    have hst := fun (V : World) (hV : V.heap[g]? = W.heap[g]?) u => World.ownsRow.stored (w := V) (base := hi) (e := 127) (size := 2) (g := g) (n := R.length + 1) (cap := cap) (xs := cs) (by
      have := (h.move (W' := V) (fun g' hg' => by simp [Value.ownBlock] at hg'; subst hg'; exact hV)).row
      rw [List.length_append] at this; exact this) (R.length * 2) u
    have hdl := hd.len
    refine ⟨g, cap, b, o, sc, d0, l', rfl, hbg, hg, hcap, rfl, hsc, k0.trans q0, k1.trans q1, hr'.frozenAt _, by simpa using hdoc, hdl, fun V hV => ⟨fun u => ⟨(hst V hV u).2, _, row_init (hst V hV u).1, fun j lj mj hj => ?_⟩, fun hl' => ⟨_, by rw [List.length_append]; exact (hst V hV _).1, fun j lj mj hj => ?_⟩⟩⟩
    · have hlt := (List.getElem?_eq_some_iff.1 hj).1
      obtain ⟨sa', sc', h1, h2, h3, h4, h5⟩ := h.at' j lj mj (by rw [List.getElem?_append_left hlt]; exact hj)
      exact ⟨sa', sc', h1, h2, h3, by rw [List.getElem?_take_of_lt (by omega), List.getElem?_set_ne (by omega)]; exact h4, by rw [List.getElem?_take_of_lt (by omega), List.getElem?_set_ne (by omega)]; exact h5⟩
    · by_cases hlt : j < R.length
      · rw [List.getElem?_append_left hlt] at hj
        obtain ⟨sa', sc', h1, h2, h3, h4, h5⟩ := h.at' j lj mj (by rw [List.getElem?_append_left hlt]; exact hj)
        exact ⟨sa', sc', h1, h2, h3, by rw [List.getElem?_set_ne (by omega)]; exact h4, by rw [List.getElem?_set_ne (by omega)]; exact h5⟩
      · have := (List.getElem?_eq_some_iff.1 hj).1
        simp at this
        obtain rfl : j = R.length := by omega
        simp at hj
        obtain ⟨rfl, rfl⟩ := hj
        have hsc' : l'.length + 1 ≤ sc := hsc
        refine ⟨some ⟨b, o + 3, none⟩, sc - 1, hl', hd.tail, by omega, ?_, ?_⟩
        · rw [List.getElem?_set_self (by omega)]
        · rw [List.getElem?_set_ne (by omega)]; exact q1
end
end Go.Proofs.YtlnlkbkmnkjbhaaDoor
