/- Which trees are of a symbol: claims that wait. -/
import Derived.Test.YtlnlkbkmnkjbhaaDoorGd
namespace Go.Proofs.YtlnlkbkmnkjbhaaDoor
open Go.RowKit

/-- A claim: a symbol's five cells, a tree's three. -/
def clm (s : Ks) (d : Tr) (sa : Option Addr) (sc : Nat) : List Value := [.int .i64 s.nt, .int .u64 s.set.a, .int .u64 s.set.b, .int .u64 s.set.c, .int .u64 s.set.d, .int .i64 d.rule, .int .u8 (d.byte.toNat : Int), .slice sa d.kids.length sc]
structure Cwt (W0 W : World) (hi n₀ f : Nat) (wv : Value) (ps : List (Ks × Tr)) (cs : List Value) : Prop where
  row : W.ownsRow hi 100 8 wv ps.length cs
  at' : ∀ j p, ps[j]? = some p → p.1.set.ok ∧ ∃ sa sc, TAt W0 n₀ f sa p.2.kids ∧ ∀ r u, (clm p.1 p.2 sa sc)[r]? = some u → cs[j * 8 + r]? = some u
section
variable {W0 W W' : World} {hi n₀ f : Nat} {wv : Value} {ps : List (Ks × Tr)} {cs : List Value}
theorem Cwt.move (h : Cwt W0 W hi n₀ f wv ps cs) (hk : ∀ g, wv.ownBlock = some g → W'.heap[g]? = W.heap[g]?) : Cwt W0 W' hi n₀ f wv ps cs := by
  refine ⟨⟨h.row.1, ?_⟩, h.at'⟩
  rcases h.row.2 with h0 | ⟨g, cap, cur, rfl, hbg, hg, rest⟩
  · exact .inl h0
  · exact .inr ⟨g, cap, cur, rfl, hbg, (hk g rfl).trans hg, rest⟩
theorem Cwt.push (h : Cwt W0 W hi n₀ f wv ps cs) {v' : Value} {s : Ks} {d : Tr} {sa : Option Addr} {sc : Nat} (hs : s.set.ok) (hk : TAt W0 n₀ f sa d.kids) (hr : W'.ownsRow hi 100 8 v' (ps.length + 1) (cs ++ clm s d sa sc)) : Cwt W0 W' hi n₀ f v' (ps ++ [(s, d)]) (cs ++ clm s d sa sc) := by
  have hcl := h.row.1
  refine ⟨by rw [List.length_append]; exact hr, fun j q hj => ?_⟩
  by_cases hlt : j < ps.length
  · rw [List.getElem?_append_left hlt] at hj
    obtain ⟨t1, ta, tc, t2, t3⟩ := h.at' j q hj
    exact ⟨t1, ta, tc, t2, fun r u hu => by
      have h3 := t3 r u hu
      rw [List.getElem?_append_left (List.getElem?_eq_some_iff.1 h3).1]; exact h3⟩
  · have := (List.getElem?_eq_some_iff.1 hj).1
    simp at this
    obtain rfl : j = ps.length := by omega
    simp at hj
    subst hj
    exact ⟨hs, sa, sc, hk, fun r u hu => by rw [List.getElem?_append_right (by omega), hcl, show ps.length * 8 + r - ps.length * 8 = r by omega]; exact hu⟩
/-- The last claim, and the row without it. -/
theorem Cwt.top {p : Ks × Tr} (h : Cwt W0 W hi n₀ f wv (ps ++ [p]) cs) : ∃ g cap sa sc, wv = .slice (some ⟨g, 0, none⟩) (ps.length + 1) cap ∧ hi ≤ g ∧ g < W.heap.size ∧ ps.length + 1 ≤ cap ∧ (∀ r u, (clm p.1 p.2 sa sc)[r]? = some u → W.cell? ⟨g, ps.length * 8 + r, none⟩ = some u) ∧ p.1.set.ok ∧ TAt W0 n₀ f sa p.2.kids ∧ Cwt W0 W hi n₀ f (.slice (some ⟨g, 0, none⟩) ps.length cap) ps (cs.take (ps.length * 8)) := by
  have hr := h.row
  rw [List.length_append] at hr
  have hr' : W.ownsRow hi 100 8 wv (ps.length + 1) cs := hr
  obtain ⟨g, cap, rfl, hbg, hg, hcap⟩ := row_at hr' (by omega)
  have hcl : cs.length = (ps.length + 1) * 8 := hr'.1
  obtain ⟨t1, sa, sc, t2, t3⟩ := h.at' ps.length p (by simp)
  refine ⟨g, cap, sa, sc, rfl, hbg, hg, hcap, fun r u hu => (hr'.cellAt (ps.length * 8 + r) (by have := (List.getElem?_eq_some_iff.1 hu).1; simp [clm] at this; omega)).trans (t3 r u hu), t1, t2, row_init hr', fun j q hj => ?_⟩
  have hlt := (List.getElem?_eq_some_iff.1 hj).1
  obtain ⟨u1, ua, uc, u2, u3⟩ := h.at' j q (by rw [List.getElem?_append_left hlt]; exact hj)
  exact ⟨u1, ua, uc, u2, fun r u hu => by
    have hr8 := (List.getElem?_eq_some_iff.1 hu).1
    simp [clm] at hr8
    rw [List.getElem?_take_of_lt (by omega)]; exact u3 r u hu⟩
end
def ctot (ps : List (Ks × Tr)) : Nat := szL (ps.map Prod.snd)
theorem ctot_app (ps qs : List (Ks × Tr)) : ctot (ps ++ qs) = ctot ps + ctot qs := by unfold ctot; rw [List.map_append, szL_app]
theorem len_ctot (ps : List (Ks × Tr)) : ps.length ≤ ctot ps := by have := len_szL (ps.map Prod.snd); simpa [ctot] using this
/-- What is so when the next claim is looked at. -/
structure OI (W0 : World) (n₀ f : Nat) (G : Gm) (s : Ks) (d : Tr) (wv : Value) (wr : World) (ps : List (Ks × Tr)) (cs : List Value) (k : Nat) : Prop where
  ws : Cwt W0 wr n₀ n₀ f wv ps cs
  bel : Below n₀ W0 wr
  eq : isS G s d = ps.all (fun c => isS G c.1 c.2)
  le : ctot ps ≤ sz d
  num : ctot ps = k
def OE (W0 : World) (n₀ f : Nat) (G : Gm) (s : Ks) (d : Tr) (wv : Value) (wr : World) (k : Nat) : Prop := ∃ ps cs, OI W0 n₀ f G s d wv wr ps cs k
theorem OI.bad {W0 wr : World} {n₀ f : Nat} {G : Gm} {s : Ks} {d : Tr} {wv : Value} {P : List (Ks × Tr)} {p : Ks × Tr} {cs : List Value} {k : Nat} (h : OI W0 n₀ f G s d wv wr (P ++ [p]) cs k) (hp : isS G p.1 p.2 = false) : isS G s d = false := by
  rw [h.eq, List.all_append]; simp [hp]
theorem OI.step {W0 W wr0 : World} {n₀ f : Nat} {G : Gm} {s : Ks} {d : Tr} {wv0 wv : Value} {P qs : List (Ks × Tr)} {p : Ks × Tr} {cs0 cs' : List Value} {k : Nat} (h : OI W0 n₀ f G s d wv0 wr0 (P ++ [p]) cs0 k) (hws : Cwt W0 W n₀ n₀ f wv (P ++ qs) cs') (hq : isS G p.1 p.2 = qs.all (fun c => isS G c.1 c.2)) (hql : ctot qs < sz p.2) (hB : Below n₀ W0 W) : ∃ k', k' < k ∧ OE W0 n₀ f G s d wv W k' := by
  have h1 : ctot (P ++ [p]) = ctot P + sz p.2 := by rw [ctot_app]; simp [ctot, szL]
  have h2 := ctot_app P qs
  have h3 := h.num
  have h4 := h.le
  refine ⟨ctot (P ++ qs), by omega, P ++ qs, cs', hws, hB, ?_, by omega, rfl⟩
  rw [h.eq, List.all_append, List.all_append]
  simp [hq]
end Go.Proofs.YtlnlkbkmnkjbhaaDoor
