/- The rows of terms that are still to come, in memory. -/
import Derived.Test.YtlkcadibjmfmcaaDoorI1
import Derived.Deep.OwnRows
import Derived.Maps.OwnIn
namespace Go.Proofs.YtlkcadibjmfmcaaDoor
open Go.RowKit

theorem row_init {W : World} {hi : Nat} {e : TypeId} {k g n cap : Nat} {xs : List Value} (h : W.ownsRow hi e k (.slice (some ⟨g, 0, none⟩) (n + 1) cap) (n + 1) xs) : W.ownsRow hi e k (.slice (some ⟨g, 0, none⟩) n cap) n (xs.take (n * k)) := by
  rcases h.2 with ⟨h0, _⟩ | ⟨g', cap', cur, hv, hb, hg, h1, h2, h3, h4⟩
  · cases h0
  · cases hv
    have hl := h.1
    have hle : n * k ≤ (n + 1) * k := Nat.mul_le_mul_right _ (by omega)
    refine ⟨by rw [List.length_take, hl]; omega, .inr ⟨g, cap, cur, rfl, hb, hg, by omega, h2, h3, ?_⟩⟩
    rw [← h4, List.take_take, Nat.min_eq_left hle]
/-- What is still to come, the last row first. -/
def restR (rows : List (List Tm × Nat)) : List (Tm × Nat) := rows.reverse.flatMap fun p => preL p.1 p.2
theorem restR_snoc (R : List (List Tm × Nat)) (l : List Tm) (m : Nat) : restR (R ++ [(l, m)]) = preL l m ++ restR R := by simp [restR]
theorem restR_nil : restR [] = [] := rfl
theorem row_slice {W : World} {B : Nat} {e : TypeId} {k n : Nat} {v : Value} {xs : List Value} (h : W.ownsRow B e k v n xs) : ∃ a c, v = .slice a n c := by
  rcases h.2 with ⟨rfl, rfl⟩ | ⟨g, cap, cur, rfl, _⟩
  · exact ⟨_, _, rfl⟩
  · exact ⟨_, _, rfl⟩
theorem row_at {W : World} {B : Nat} {e : TypeId} {k n : Nat} {v : Value} {xs : List Value} (h : W.ownsRow B e k v n xs) (hn : 0 < n) : ∃ g c, v = .slice (some ⟨g, 0, none⟩) n c ∧ B ≤ g ∧ g < W.heap.size ∧ n ≤ c := by
  rcases h.2 with ⟨_, h0⟩ | ⟨g, cap, cur, hv, hb, hg, hc, _⟩
  · omega
  · exact ⟨g, cap, hv, hb, (Array.getElem?_eq_some_iff.1 hg).1, hc⟩
/-- Rows in memory; the terms lie where they lay in W0. -/
structure RS (W0 W : World) (hi n₀ f : Nat) (rv : Value) (rows : List (List Tm × Nat)) (cs : List Value) : Prop where
  row : W.ownsRow hi 86 2 rv rows.length cs
  at' : ∀ j l m, rows[j]? = some (l, m) → ∃ sa sc, l ≠ [] ∧ MAt W0 n₀ f sa l ∧ l.length ≤ sc ∧ cs[j * 2]? = some (.slice sa l.length sc) ∧ cs[j * 2 + 1]? = some (.int .i64 (m : Int))
section
variable {W0 W W' : World} {hi n₀ f : Nat} {rv : Value} {R : List (List Tm × Nat)} {cs : List Value}
theorem RS.nil (W0 W : World) (hi n₀ f : Nat) : RS W0 W hi n₀ f (.slice none 0 0) [] [] := ⟨World.ownsRow_nil _ _ _ _, fun j l m h => by cases h⟩
theorem RS.move (h : RS W0 W hi n₀ f rv R cs) (hk : ∀ g, rv.ownBlock = some g → W'.heap[g]? = W.heap[g]?) : RS W0 W' hi n₀ f rv R cs := by
  refine ⟨⟨h.row.1, ?_⟩, h.at'⟩
  rcases h.row.2 with h0 | ⟨g, cap, cur, rfl, hbg, hg, rest⟩
  · exact .inl h0
  · exact .inr ⟨g, cap, cur, rfl, hbg, (hk g rfl).trans hg, rest⟩
theorem RS.push (h : RS W0 W hi n₀ f rv R cs) {v' : Value} {l : List Tm} {m : Nat} {sa : Option Addr} {sc : Nat} (hl : l ≠ []) (hd : MAt W0 n₀ f sa l) (hc : l.length ≤ sc) (hr : W'.ownsRow hi 86 2 v' (R.length + 1) (cs ++ [.slice sa l.length sc, .int .i64 (m : Int)])) : RS W0 W' hi n₀ f v' (R ++ [(l, m)]) (cs ++ [.slice sa l.length sc, .int .i64 (m : Int)]) := by
  have hcl := h.row.1
  refine ⟨by rw [List.length_append]; exact hr, fun j l' m' hj => ?_⟩
  by_cases hlt : j < R.length
  · rw [List.getElem?_append_left hlt] at hj
    obtain ⟨sa', sc', h1, h2, h3, h4, h5⟩ := h.at' j l' m' hj
    exact ⟨sa', sc', h1, h2, h3, by rw [List.getElem?_append_left (by omega)]; exact h4, by rw [List.getElem?_append_left (by omega)]; exact h5⟩
  · have := (List.getElem?_eq_some_iff.1 hj).1
    simp at this
    obtain rfl : j = R.length := by omega
    simp at hj
    obtain ⟨rfl, rfl⟩ := hj
    refine ⟨sa, sc, hl, hd, hc, ?_, ?_⟩
    · rw [List.getElem?_append_right (by omega), hcl, Nat.sub_self]; rfl
    · rw [List.getElem?_append_right (by omega), hcl, show R.length * 2 + 1 - R.length * 2 = 1 by omega]; rfl
theorem preL_pos {l : List Tm} (h : l ≠ []) (m : Nat) : 1 ≤ (preL l m).length := by
  cases l with
  | nil => exact absurd rfl h
  | cons d l => simp [preL, pre_eq]
theorem restR_len : ∀ R : List (List Tm × Nat), (∀ p ∈ R, p.1 ≠ []) → R.length ≤ (restR R).length := by
  have key : ∀ Q : List (List Tm × Nat), (∀ p ∈ Q, p.1 ≠ []) → Q.length ≤ (Q.flatMap fun p => preL p.1 p.2).length := by
    intro Q
    induction Q with
    | nil => intro _; simp
    | cons p Q ih =>
      intro h
      have h1 := ih fun q hq => h q (List.mem_cons_of_mem _ hq)
      have h2 := preL_pos (h p (by simp)) p.2
      rw [List.flatMap_cons, List.length_append, List.length_cons]; omega
  intro R h
  have := key R.reverse fun p hp => h p (List.mem_reverse.1 hp)
  rw [List.length_reverse] at this
  exact this
theorem RS.ne (h : RS W0 W hi n₀ f rv R cs) : ∀ p ∈ R, p.1 ≠ [] := fun p hp => by
  obtain ⟨j, hj⟩ := List.mem_iff_getElem?.1 hp
  obtain ⟨_, _, h1, _⟩ := h.at' j p.1 p.2 hj
  exact h1
/-- The last row, and what comes of it when its first term is taken off. -/
theorem RS.top {l : List Tm} {m : Nat} (h : RS W0 W hi n₀ f rv (R ++ [(l, m)]) cs) : ∃ g cap b o sc d0 l', rv = .slice (some ⟨g, 0, none⟩) (R.length + 1) cap ∧ hi ≤ g ∧ g < W.heap.size ∧ R.length + 1 ≤ cap ∧ l = d0 :: l' ∧ l'.length + 1 ≤ sc ∧ W.cell? ⟨g, R.length * 2, none⟩ = some (.slice (some ⟨b, o, none⟩) (l'.length + 1) sc) ∧ W.cell? ⟨g, R.length * 2 + 1, none⟩ = some (.int .i64 (m : Int)) ∧ W.frozen? ⟨g, R.length * 2, none⟩ = false ∧ TermAt W0 n₀ f b o d0 ∧ (l'.length + 1) * 72 ≤ 140737488355328 ∧
    ∀ V : World, V.heap[g]? = W.heap[g]? → (∀ u, V.grownBy (V.setCell ⟨g, R.length * 2, none⟩ u) (some g) ∧ ∃ cs', RS W0 (V.setCell ⟨g, R.length * 2, none⟩ u) hi n₀ f (.slice (some ⟨g, 0, none⟩) R.length cap) R cs') ∧ (l' ≠ [] → ∃ cs', RS W0 (V.setCell ⟨g, R.length * 2, none⟩ (.slice (some ⟨b, o + 4, none⟩) l'.length (sc - 1))) hi n₀ f (.slice (some ⟨g, 0, none⟩) (R.length + 1) cap) (R ++ [(l', m)]) cs') := by
  have hr := h.row
  rw [List.length_append] at hr
  have hr' : W.ownsRow hi 86 2 rv (R.length + 1) cs := hr
  obtain ⟨g, cap, rfl, hbg, hg, hcap⟩ := row_at hr' (by omega)
  have hcl : cs.length = (R.length + 1) * 2 := hr'.1
  obtain ⟨sa, sc, hne, hd, hsc, q0, q1⟩ := h.at' R.length l m (by simp)
  match l, hne with
  | d0 :: l', _ =>
    obtain ⟨b, o, rfl, hdoc⟩ := hd.one (j := 0) (d := d0) rfl
    have k0 := hr'.cellAt (R.length * 2) (by omega)
    have k1 := hr'.cellAt (R.length * 2 + 1) (by omega)
    have hst := fun (V : World) (hV : V.heap[g]? = W.heap[g]?) u => World.ownsRow.stored (w := V) (base := hi) (e := 86) (size := 2) (g := g) (n := R.length + 1) (cap := cap) (xs := cs) (by
      have := (h.move (W' := V) (fun g' hg' => by simp [Value.ownBlock] at hg'; subst hg'; exact hV)).row
      rw [List.length_append] at this; exact this) (R.length * 2) u
    have hdl := hd.len
    refine ⟨g, cap, b, o, sc, d0, l', rfl, hbg, hg, hcap, rfl, hsc, k0.trans q0, k1.trans q1, hr'.frozenAt _, by simpa using hdoc, hdl, fun V hV => ⟨fun u => ⟨(hst V hV u).2, _, row_init (hst V hV u).1, fun j lj mj hj => ?_⟩, fun hl' => ⟨_, by rw [List.length_append]; exact (hst V hV _).1, fun j lj mj hj => ?_⟩⟩⟩
    · have hlt := (List.getElem?_eq_some_iff.1 hj).1
      obtain ⟨sa', sc', h1, h2, h3, h4, h5⟩ := h.at' j lj mj (by rw [List.getElem?_append_left hlt]; exact hj)
      exact ⟨sa', sc', h1, h2, h3, by rw [List.getElem?_take_of_lt (by omega), List.getElem?_set_ne (by omega)]; exact h4, by rw [List.getElem?_take_of_lt (by omega), List.getElem?_set_ne (by omega)]; exact h5⟩
    · by_cases hlt : j < R.length
      · rw [List.getElem?_append_left hlt] at hj
        obtain ⟨sa', sc', h1, h2, h3, h4, h5⟩ := h.at' j lj mj (by rw [List.getElem?_append_left hlt]; exact hj)
        exact ⟨sa', sc', h1, h2, h3, by rw [List.getElem?_set_ne (by omega)]; exact h4, by rw [List.getElem?_set_ne (by omega)]; exact h5⟩
      · have := (List.getElem?_eq_some_iff.1 hj).1
        simp at this
        obtain rfl : j = R.length := by omega
        simp at hj
        obtain ⟨rfl, rfl⟩ := hj
        have hsc' : l'.length + 1 ≤ sc := hsc
        refine ⟨some ⟨b, o + 4, none⟩, sc - 1, hl', hd.tail, by omega, ?_, ?_⟩
        · rw [List.getElem?_set_self (by omega)]
        · rw [List.getElem?_set_ne (by omega)]; exact q1
end
end Go.Proofs.YtlkcadibjmfmcaaDoor
