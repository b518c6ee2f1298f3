/- A term is cloned into one list, its texts where they were. -/
import Derived.Test.YtlkcadibjmfmcaaDoorWa
import Derived.Test.YtlkcadibjmfmcaaDoorS1
import Derived.Deep.DeepAppendRoom
namespace Go.Proofs.YtlkcadibjmfmcaaDoor
open Go.RowKit

/-- The parts below the parts of a list. -/
def ksum : List Tm → Nat
  | [] => 0
  | d :: l => szL d.kids + ksum l
theorem ksum_app : ∀ l m : List Tm, ksum (l ++ m) = ksum l + ksum m
  | [], m => by simp [ksum]
  | d :: l, m => by rw [List.cons_append, ksum, ksum, ksum_app l m]; omega
theorem szL_ksum : ∀ l : List Tm, szL l = l.length + ksum l
  | [] => by simp [szL, ksum]
  | d :: l => by rw [szL, ksum, sz_eq, szL_ksum l, List.length_cons]; omega
theorem ksum_drop {L : List Tm} {i : Nat} {d : Tm} (h : L[i]? = some d) : ksum (L.drop i) = szL d.kids + ksum (L.drop (i + 1)) := by
  have hlt : i < L.length := (List.getElem?_eq_some_iff.1 h).1
  rw [List.drop_eq_getElem_cons hlt, ksum, (List.getElem?_eq_some_iff.1 h).2]
/-- A part whose kids stand in the list. -/
def Done (g : Nat) (L : List Tm) (d : Tm) (s : Value) : Prop := (d.kids = [] ∧ s = .slice none 0 0) ∨ ∃ m, s = .slice (some ⟨g, m * 4, none⟩) d.kids.length d.kids.length ∧ ∀ t x, d.kids[t]? = some x → L[m + t]? = some x
/-- A part whose kids stand where they stood. -/
def Still (w : World) (B : Nat) (d : Tm) (s : Value) : Prop := ∃ f a c, s = .slice a d.kids.length c ∧ d.kids.length ≤ c ∧ MAt w B f a d.kids
theorem Done.more {g : Nat} {L : List Tm} {d : Tm} {s : Value} (h : Done g L d s) (M : List Tm) : Done g (L ++ M) d s := by
  rcases h with h | ⟨m, e, h⟩
  · exact .inl h
  · exact .inr ⟨m, e, fun t x hx => by have h' := h t x hx; rw [List.getElem?_append_left (List.getElem?_eq_some_iff.1 h').1]; exact h'⟩
structure CL (w : World) (B : Nat) (g : Nat) (L : List Tm) (i : Nat) (xs : List Value) : Prop where
  len : xs.length = L.length * 4
  c0 : ∀ j d, L[j]? = some d → xs[j * 4]? = some (.int .i64 d.kind)
  c1 : ∀ j d, L[j]? = some d → xs[j * 4 + 1]? = some (.string d.cons)
  ct : ∀ j d, L[j]? = some d → ∃ s, xs[j * 4 + 2]? = some s ∧ Txt w B s d.text
  c2 : ∀ j d, L[j]? = some d → ∃ s, xs[j * 4 + 3]? = some s ∧ (j < i → Done g L d s) ∧ (i ≤ j → Still w B d s)
theorem CL.first {w : World} {B : Nat} {g : Nat} {d : Tm} {tv s : Value} (ht : Txt w B tv d.text) (h : Still w B d s) : CL w B g [d] 0 [.int .i64 d.kind, .string d.cons, tv, s] := by
  refine ⟨rfl, fun j x hx => ?_, fun j x hx => ?_, fun j x hx => ?_, fun j x hx => ?_⟩ <;>
  · match j, hx with
    | 0, hx => cases hx; first | rfl | exact ⟨_, rfl, fun h => absurd h (by omega), fun _ => h⟩ | exact ⟨_, rfl, ht⟩
/-- A part's last cell is written. -/
theorem CL.put {w : World} {B : Nat} {g : Nat} {L : List Tm} {i : Nat} {xs : List Value} (h : CL w B g L i xs) {d : Tm} {s : Value} (hd : L[i]? = some d) (hs : Done g L d s) : CL w B g L (i + 1) (xs.set (i * 4 + 3) s) := by
  have hlt := (List.getElem?_eq_some_iff.1 hd).1
  refine ⟨by rw [List.length_set]; exact h.len, fun j x hx => ?_, fun j x hx => ?_, fun j x hx => ?_, fun j x hx => ?_⟩
  · rw [List.getElem?_set_ne (by omega)]; exact h.c0 j x hx
  · rw [List.getElem?_set_ne (by omega)]; exact h.c1 j x hx
  · rw [List.getElem?_set_ne (by omega)]; exact h.ct j x hx
  · by_cases e : j = i
    · subst e
      rw [hd] at hx
      cases hx
      refine ⟨s, ?_, fun _ => hs, fun h => absurd h (by omega)⟩
      rw [List.getElem?_set_self (by have := h.len; omega)]
    · obtain ⟨s', e1, h1, h2⟩ := h.c2 j x hx
      exact ⟨s', by rw [List.getElem?_set_ne (by omega)]; exact e1, fun hj => h1 (by omega), fun hj => h2 (by omega)⟩
/-- Kids are taken over behind. -/
theorem CL.more {w : World} {B : Nat} {g : Nat} {L : List Tm} {i : Nat} {xs : List Value} (h : CL w B g L i xs) (hi : i ≤ L.length) {M : List Tm} {news : List Value} (hl : news.length = M.length * 4) (hn : ∀ j x, M[j]? = some x → news[j * 4]? = some (.int .i64 x.kind) ∧ news[j * 4 + 1]? = some (.string x.cons) ∧ (∃ s, news[j * 4 + 2]? = some s ∧ Txt w B s x.text) ∧ ∃ s, news[j * 4 + 3]? = some s ∧ Still w B x s) : CL w B g (L ++ M) i (xs ++ news) := by
  have hx := h.len
  have key : ∀ j x, (L ++ M)[j]? = some x → (j < L.length ∧ L[j]? = some x) ∨ ∃ t, j = L.length + t ∧ M[t]? = some x := fun j x hj => by
    by_cases e : j < L.length
    · rw [List.getElem?_append_left e] at hj; exact .inl ⟨e, hj⟩
    · rw [List.getElem?_append_right (by omega)] at hj; exact .inr ⟨j - L.length, by omega, hj⟩
  have lo : ∀ q, q < L.length * 4 → (xs ++ news)[q]? = xs[q]? := fun q hq => List.getElem?_append_left (by omega)
  have up : ∀ t r, (xs ++ news)[(L.length + t) * 4 + r]? = news[t * 4 + r]? := fun t r => by rw [List.getElem?_append_right (by omega)]; congr 1; omega
  refine ⟨by rw [List.length_append, List.length_append, hl, hx]; omega, fun j x hj => ?_, fun j x hj => ?_, fun j x hj => ?_, fun j x hj => ?_⟩
  · rcases key j x hj with ⟨e, hq⟩ | ⟨t, rfl, hq⟩
    · rw [lo _ (by omega)]; exact h.c0 j x hq
    · exact (up t 0).trans (hn t x hq).1
  · rcases key j x hj with ⟨e, hq⟩ | ⟨t, rfl, hq⟩
    · rw [lo _ (by omega)]; exact h.c1 j x hq
    · exact (up t 1).trans (hn t x hq).2.1
  · rcases key j x hj with ⟨e, hq⟩ | ⟨t, rfl, hq⟩
    · rw [lo _ (by omega)]; exact h.ct j x hq
    · rw [up t 2]; exact (hn t x hq).2.2.1
  · rcases key j x hj with ⟨e, hq⟩ | ⟨t, rfl, hq⟩
    · obtain ⟨s, e1, h1, h2⟩ := h.c2 j x hq
      exact ⟨s, by rw [lo _ (by omega)]; exact e1, fun q => (h1 q).more M, h2⟩
    · obtain ⟨_, _, _, s, e1, h1⟩ := hn t x hq
      exact ⟨s, (up t 3).trans e1, fun q => absurd q (by omega), fun _ => h1⟩
/-- The cells of kids, as a list. -/
theorem kid_cells {w : World} {f B b o : Nat} {l : List Tm} (h : MAt w B f (some ⟨b, o, none⟩) l) : ∃ news : List Value, news.length = l.length * 4 ∧ (∀ j u, news[j]? = some u → w.cell? ⟨b, o + j, none⟩ = some u) ∧ (∀ u ∈ news, u.oneCell' = true) ∧ ∀ j x, l[j]? = some x → news[j * 4]? = some (.int .i64 x.kind) ∧ news[j * 4 + 1]? = some (.string x.cons) ∧ (∃ s, news[j * 4 + 2]? = some s ∧ Txt w B s x.text) ∧ ∃ f' a c, news[j * 4 + 3]? = some (.slice a x.kids.length c) ∧ x.kids.length ≤ c ∧ MAt w B f' a x.kids := by
  cases f with
  | zero => cases (show l = [] from h); exact ⟨[], rfl, fun j u hj => (by cases hj), fun u hu => (by cases hu), fun j x hx => (by cases hx)⟩
  | succ f =>
    have key : ∀ q, q < l.length → ∃ x, l[q]? = some x ∧ ∃ ta tc sa sc, w.cell? ⟨b, o + q * 4, none⟩ = some (.int .i64 x.kind) ∧ w.cell? ⟨b, o + q * 4 + 1, none⟩ = some (.string x.cons) ∧ w.cell? ⟨b, o + q * 4 + 2, none⟩ = some (.slice ta x.text.length tc) ∧ (x.text.length ≤ tc ∧ x.text.length ≤ 140737488355328 ∧ BAt w B ta x.text) ∧ w.cell? ⟨b, o + q * 4 + 3, none⟩ = some (.slice sa x.kids.length sc) ∧ x.kids.length ≤ sc ∧ MAt w B f sa x.kids := fun q hq => by
      obtain ⟨x, hx⟩ : ∃ x, l[q]? = some x := ⟨l[q], by simp⟩
      obtain ⟨b', o', e, hb, sa, sc, c0, c1, ⟨ta, tc, c2, ht⟩, c3, hc, hk⟩ := h.2 q x hx
      cases e
      exact ⟨x, hx, ta, tc, sa, sc, c0, c1, c2, ht, c3, hc, hk⟩
    have one : ∀ j, j < l.length * 4 → ∃ u, w.cell? ⟨b, o + j, none⟩ = some u ∧ u.oneCell' = true := fun j hj => by
      obtain ⟨x, hx, ta, tc, sa, sc, c0, c1, c2, _, c3, hc, hk⟩ := key (j / 4) (by omega)
      obtain e | e | e | e : j = j / 4 * 4 ∨ j = j / 4 * 4 + 1 ∨ j = j / 4 * 4 + 2 ∨ j = j / 4 * 4 + 3 := by omega
      · rw [e]; exact ⟨_, c0, rfl⟩
      · rw [e]; exact ⟨_, by rw [← Nat.add_assoc]; simpa using c1, rfl⟩
      · rw [e]; exact ⟨_, by rw [← Nat.add_assoc]; simpa using c2, rfl⟩
      · rw [e]; exact ⟨_, by rw [← Nat.add_assoc]; simpa using c3, rfl⟩
    let N := (List.range (l.length * 4)).map fun j => (w.cell? ⟨b, o + j, none⟩).getD (.bool false)
    have hN : ∀ j u, j < l.length * 4 → w.cell? ⟨b, o + j, none⟩ = some u → N[j]? = some u := fun j u hj hu => by
      show ((List.range (l.length * 4)).map _)[j]? = _
      rw [List.getElem?_map, List.getElem?_range hj]
      simp [hu]
    have hN' : ∀ j u, N[j]? = some u → j < l.length * 4 ∧ w.cell? ⟨b, o + j, none⟩ = some u := fun j u hu => by
      have hlt : j < l.length * 4 := by have := (List.getElem?_eq_some_iff.1 hu).1; simpa [N] using this
      obtain ⟨v, hv, _⟩ := one j hlt
      have := hN j v hlt hv
      rw [hu] at this
      cases this
      exact ⟨hlt, hv⟩
    refine ⟨N, by simp [N], fun j u hu => (hN' j u hu).2, fun u hu => ?_, fun j x hx => ?_⟩
    · obtain ⟨j, hj⟩ := List.mem_iff_getElem?.1 hu
      obtain ⟨h1, h2⟩ := hN' j u hj
      obtain ⟨v, hv, ho⟩ := one j h1
      rw [h2] at hv
      cases hv
      exact ho
    · have hlt := (List.getElem?_eq_some_iff.1 hx).1
      obtain ⟨x', hx', ta, tc, sa, sc, c0, c1, c2, ht, c3, hc, hk⟩ := key j hlt
      rw [hx] at hx'
      cases hx'
      exact ⟨hN _ _ (by omega) c0, hN _ _ (by omega) c1, ⟨_, hN _ _ (by omega) c2, ta, tc, rfl, ht.1, ht.2.1, ht.2.2⟩, f, sa, sc, hN _ _ (by omega) c3, hc, hk⟩
theorem dpL_mem : ∀ {l : List Tm} {j : Nat} {x : Tm}, l[j]? = some x → dp x ≤ dpL l
  | [], j, x, h => by cases h
  | d :: l, 0, x, h => by cases h; rw [dpL]; omega
  | d :: l, j + 1, x, h => by rw [dpL]; have := dpL_mem (l := l) (j := j) (x := x) h; omega
theorem MAt.deep {w : World} {B : Nat} : ∀ {f : Nat} {a : Option Addr} {l : List Tm}, MAt w B f a l → dpL l ≤ f
  | 0, _, l, h => by cases (show l = [] from h); simp [dpL]
  | f + 1, a, l, h => by
    have key : ∀ j d, l[j]? = some d → dp d ≤ f + 1 := fun j d hj => by
      obtain ⟨b, o, e, hlt, sa, sc, c0, c1, c2, c3, hc, hk⟩ := h.2 j d hj
      have := hk.deep
      rw [dp_eq]; omega
    clear h
    induction l with
    | nil => simp [dpL]
    | cons d l ih =>
      rw [dpL]
      have h1 := key 0 d rfl
      have h2 := ih (fun j x hj => key (j + 1) x hj)
      omega
/-- Terms in a row that was laid anew, their texts where they were. -/
def Mz (w : World) (S : Nat → Prop) (B : Nat) : Nat → Option Addr → List Tm → Prop
  | 0, _, l => l = []
  | f + 1, a, l => l.length * 72 ≤ 140737488355328 ∧ ∀ j d, l[j]? = some d → ∃ b o, a = some ⟨b, o, none⟩ ∧ S b ∧ (o % 4 = 0 ∧ Tag w b 25 ∧ ∀ q, w.frozen? ⟨b, q, none⟩ = false) ∧ ∃ tv sa sc, w.cell? ⟨b, o + j * 4, none⟩ = some (.int .i64 d.kind) ∧ w.cell? ⟨b, o + j * 4 + 1, none⟩ = some (.string d.cons) ∧ w.cell? ⟨b, o + j * 4 + 2, none⟩ = some tv ∧ w.cell? ⟨b, o + j * 4 + 3, none⟩ = some (.slice sa d.kids.length sc) ∧ Txt w B tv d.text ∧ d.kids.length ≤ sc ∧ Mz w S B f sa d.kids
theorem Mz.keep {w w' : World} {S : Nat → Prop} {B : Nat} (hk : ∀ b, S b → w'.heap[b]? = w.heap[b]?) (hb : Below B w w') : ∀ {f : Nat} {a : Option Addr} {l : List Tm}, Mz w S B f a l → Mz w' S B f a l
  | 0, _, _, h => h
  | f + 1, a, l, h => by
    refine ⟨h.1, fun j d hj => ?_⟩
    obtain ⟨b, o, e, hs, ⟨ho, hg, hf⟩, tv, sa, sc, c0, c1, c2, c3, ht, hc, hd⟩ := h.2 j d hj
    have k : ∀ q, w'.cell? ⟨b, q, none⟩ = w.cell? ⟨b, q, none⟩ := fun q => World.cell?_of_block (a := ⟨b, q, none⟩) (hk b hs)
    exact ⟨b, o, e, hs, ⟨ho, hg.keep (hk b hs), fun q => (frozen_of_block (hk b hs) q).trans (hf q)⟩, tv, sa, sc, (k _).trans c0, (k _).trans c1, (k _).trans c2, (k _).trans c3, ht.keep hb, hc, hd.keep hk hb⟩
theorem Mz.wide {w : World} {S S' : Nat → Prop} {B : Nat} (hk : ∀ b, S b → S' b) : ∀ {f : Nat} {a : Option Addr} {l : List Tm}, Mz w S B f a l → Mz w S' B f a l
  | 0, _, _, h => h
  | f + 1, a, l, h => by
    refine ⟨h.1, fun j d hj => ?_⟩
    obtain ⟨b, o, e, hs, hx, tv, sa, sc, c0, c1, c2, c3, ht, hc, hd⟩ := h.2 j d hj
    exact ⟨b, o, e, hk b hs, hx, tv, sa, sc, c0, c1, c2, c3, ht, hc, hd.wide hk⟩
theorem Done.mz {W : World} {U : Nat → Prop} {w : World} {B : Nat} {g : Nat} {L : List Tm} {xs : List Value} (h : CL w B g L L.length xs) (hL : L.length ≤ 1000000000000) (hU : U g) (hg : Tag W g 25 ∧ ∀ q, W.frozen? ⟨g, q, none⟩ = false) (hbw : Below B w W) (hc : ∀ j, j < L.length * 4 → W.cell? ⟨g, j, none⟩ = xs[j]?) : ∀ (F : Nat) (d : Tm) (s : Value), dpL d.kids ≤ F → Done g L d s → ∃ a c, s = .slice a d.kids.length c ∧ d.kids.length ≤ c ∧ Mz W U B F a d.kids := by
  intro F
  induction F with
  | zero =>
    intro d s hd hs
    have hk : d.kids = [] := by
      cases hq : d.kids with
      | nil => rfl
      | cons x l => rw [hq, dpL, dp_eq] at hd; omega
    rcases hs with ⟨_, e⟩ | ⟨m, e, _⟩
    · exact ⟨none, 0, by rw [hk]; exact e, by rw [hk]; exact Nat.le_refl _, hk⟩
    · exact ⟨_, _, e, Nat.le_refl _, hk⟩
  | succ F ih =>
    intro d s hd hs
    rcases hs with ⟨hk, e⟩ | ⟨m, e, hm⟩
    · exact ⟨none, 0, by rw [hk]; exact e, by rw [hk]; exact Nat.le_refl _, by rw [hk]; exact ⟨by decide, fun j x hj => by cases hj⟩⟩
    · refine ⟨_, _, e, Nat.le_refl _, ?_, fun t x hx => ?_⟩
      · by_cases h0 : d.kids.length = 0
        · omega
        · have := hm (d.kids.length - 1) d.kids[d.kids.length - 1] (by simp)
          have := (List.getElem?_eq_some_iff.1 this).1
          omega
      · have hx' := hm t x hx
        have hlt := (List.getElem?_eq_some_iff.1 hx').1
        obtain ⟨s', e', h1, _⟩ := h.c2 _ x hx'
        obtain ⟨tv, et, htx⟩ := h.ct _ x hx'
        have hdx := dpL_mem hx
        rw [dp_eq] at hdx
        obtain ⟨a, c, rfl, hcl, htin⟩ := ih x s' (by omega) (h1 hlt)
        have q : ∀ r, m * 4 + t * 4 + r = (m + t) * 4 + r := fun r => by omega
        exact ⟨g, m * 4, rfl, hU, ⟨by omega, hg⟩, tv, a, c, by rw [show m * 4 + t * 4 = (m + t) * 4 by omega, hc _ (by omega)]; exact h.c0 _ x hx', by rw [q, hc _ (by omega)]; exact h.c1 _ x hx', by rw [q, hc _ (by omega)]; exact et, by rw [q, hc _ (by omega)]; exact e', htx.keep hbw, hcl, htin⟩
structure CW (w : World) (B : Nat) (g : Nat) (w3 : World) (d : Tm) (cap : Nat) (L : List Tm) (k : Nat) (xs : List Value) (W : World) : Prop where
  le : k ≤ L.length
  sum : L.length + ksum (L.drop k) = cap
  hd : L[0]? = some d
  cl : CL w B g L k xs
  row : W.ownsRow g 25 4 (.slice (some ⟨g, 0, none⟩) L.length cap) L.length xs
  bel : Below g w3 W
theorem CW.cell {w : World} {B : Nat} {g : Nat} {w3 : World} {d : Tm} {cap : Nat} {L : List Tm} {k : Nat} {xs : List Value} {W : World} (h : CW w B g w3 d cap L k xs W) (q : Nat) (hq : q < L.length * 4) : W.cell? ⟨g, q, none⟩ = xs[q]? := h.row.cellAt q hq
theorem CW.fz {w : World} {B : Nat} {g : Nat} {w3 : World} {d : Tm} {cap : Nat} {L : List Tm} {k : Nat} {xs : List Value} {W : World} (h : CW w B g w3 d cap L k xs W) (q : Nat) : W.frozen? ⟨g, q, none⟩ = false := h.row.frozenAt q
set_option maxRecDepth 100000 in
set_option maxHeartbeats 4000000 in
theorem clone_any (d : Tm) (ta : Option Addr) (tc : Nat) (sa : Option Addr) (sc f : Nat) (w : World) (B : Nat) (hBw : B ≤ w.heap.size) (htv : Txt w B (.slice ta d.text.length tc) d.text) (hk : MAt w B f sa d.kids) (hsc : d.kids.length ≤ sc) (hlen : sz d ≤ 1000000000000) :
    Calls Tryd.prog 60 #[.agg #[.int .i64 d.kind, .string d.cons, .slice ta d.text.length tc, .slice sa d.kids.length sc], .func (.func 36) #[] #[]] w fun e w' => (∃ ua uc va vc, e = .returned (.agg #[.int .i64 d.kind, .string d.cons, .slice ua d.text.length uc, .slice va d.kids.length vc]) ∧ Txt w' B (.slice ua d.text.length uc) d.text ∧ d.kids.length ≤ vc ∧ Mz w' (fun b => w.heap.size ≤ b ∧ b < w'.heap.size) B f va d.kids) ∧ Below w.heap.size w w' := by
  obtain ⟨i0, hinf, hz0, hz1, hz2⟩ := info_parts infoTerm
  obtain ⟨w1, hw1⟩ : ∃ w1, w.alloc (.cells #[.int .i64 d.kind, .string d.cons, .slice ta d.text.length tc, .slice sa d.kids.length sc] 25) = w1 := ⟨_, rfl⟩
  obtain ⟨w2, hw2⟩ : ∃ w2, w1.alloc (.cells #[.int .i64 0, .string ⟨#[]⟩, .slice none 0 0, .slice none 0 0] 25) = w2 := ⟨_, rfl⟩
  have s1 : w1.heap.size = w.heap.size + 1 := by rw [← hw1]; simp
  have hB1 : Below w.heap.size w w1 := by rw [← hw1]; exact (Below.refl _ _).alloc (Nat.le_refl _) _
  have hB2' : Below w1.heap.size w1 w2 := by rw [← hw2]; exact (Below.refl _ _).alloc (Nat.le_refl _) _
  have s2 : w2.heap.size = w.heap.size + 2 := by rw [← hw2]; simp [s1]
  have hB2 : Below w.heap.size w w2 := hB1.trans (hB2'.mono (by omega))
  have c1 : ∀ j v, (#[.int .i64 d.kind, .string d.cons, .slice ta d.text.length tc, .slice sa d.kids.length sc] : Array Value)[j]? = some v → w2.cell? ⟨w.heap.size, j, none⟩ = some v := fun j v hv => (hB2'.cell (p := ⟨w.heap.size, j, none⟩) (by show w.heap.size < _; omega)).trans (by rw [← hw1]; exact cell_new j hv)
  have c2 : ∀ j v, (#[.int .i64 0, .string ⟨#[]⟩, .slice none 0 0, .slice none 0 0] : Array Value)[j]? = some v → w2.cell? ⟨w.heap.size + 1, j, none⟩ = some v := fun j v hv => by rw [← hw2, ← s1]; exact cell_new j hv
  have HS : Hid (Calls Tryd.prog 35 #[.agg #[.int .i64 d.kind, .string d.cons, .slice ta d.text.length tc, .slice sa d.kids.length sc], .func (.func 36) #[] #[]] w2 fun e w' => (∃ q : Int, e = .returned (.tuple #[.int .i64 (sz d : Int), .int .i64 q])) ∧ Below w2.heap.size w2 w') := by
    refine (kinSize_any d _ sa sc f w2 ((htv.keep (hB2.mono hBw)).mono (Nat.le_trans hBw hB2.size)) ((hk.keep (hB2.mono hBw)).mono (Nat.le_trans hBw hB2.size)) hsc (by rw [pre_len]; exact hlen)).mono ?_
    rintro e w' ⟨rfl, hb⟩
    rw [pre_len]
    exact ⟨⟨_, rfl⟩, hb⟩
  have HD : Hid (sz d = 1 + szL d.kids) := sz_eq d
  have HST : Hid (Still w B d (.slice sa d.kids.length sc)) := ⟨f, sa, sc, rfl, hsc, hk⟩
  have HDP : Hid _ := hk.deep
  have HTV : Hid _ := htv
  have HK : Hid (∀ W, Below w2.heap.size w2 W → (W.cell? ⟨w.heap.size, 0, none⟩ = some (.int .i64 d.kind) ∧ W.cell? ⟨w.heap.size, 1, none⟩ = some (.string d.cons) ∧ W.cell? ⟨w.heap.size, 2, none⟩ = some (.slice ta d.text.length tc) ∧ W.cell? ⟨w.heap.size, 3, none⟩ = some (.slice sa d.kids.length sc)) ∧ Below w.heap.size w W) := fun W h => by
    have k : ∀ q, W.cell? ⟨w.heap.size, q, none⟩ = w2.cell? ⟨w.heap.size, q, none⟩ := fun q => h.cell (p := ⟨w.heap.size, q, none⟩) (by show w.heap.size < _; omega)
    exact ⟨⟨(k 0).trans (c1 0 _ rfl), (k 1).trans (c1 1 _ rfl), (k 2).trans (c1 2 _ rfl), (k 3).trans (c1 3 _ rfl)⟩, hB2.trans (h.mono hB2.size)⟩
  have HR : Hid (∀ W, Below w2.heap.size w2 W → (W.cell? ⟨w.heap.size + 1, 0, none⟩ = some (.int .i64 0) ∧ W.cell? ⟨w.heap.size + 1, 1, none⟩ = some (.string ⟨#[]⟩) ∧ W.cell? ⟨w.heap.size + 1, 2, none⟩ = some (.slice none 0 0) ∧ W.cell? ⟨w.heap.size + 1, 3, none⟩ = some (.slice none 0 0)) ∧ ∀ q, W.frozen? ⟨w.heap.size + 1, q, none⟩ = false) := fun W h => by
    have hlt : w.heap.size + 1 < w2.heap.size := by omega
    have k : ∀ q, W.cell? ⟨w.heap.size + 1, q, none⟩ = w2.cell? ⟨w.heap.size + 1, q, none⟩ := fun q => h.cell (p := ⟨w.heap.size + 1, q, none⟩) hlt
    refine ⟨⟨(k 0).trans (c2 0 _ rfl), (k 1).trans (c2 1 _ rfl), (k 2).trans (c2 2 _ rfl), (k 3).trans (c2 3 _ rfl)⟩, fun q => ?_⟩
    refine (h.frozen (p := ⟨w.heap.size + 1, q, none⟩) hlt).trans ?_
    rw [← hw2, ← s1]
    exact World.frozen?_alloc_at _ _ _ _ rfl
  have e0 := c1 0 _ rfl
  have e1 := c1 1 _ rfl
  have e2 := c1 2 _ rfl
  have e3 := c1 3 _ rfl
  have HS2 : Hid _ := s2
  generalize hcap : sz d = cap at HS hlen HD
  clear c1 c2 hB1 hB2 hB2' hk s1 s2 hcap htv
  subst hw2
  subst hw1
  go_enter Tryd.func60, Tryd.ntmps60
  go_wp2_with (first
    | (go_at_call 35; refine HS.out.mono ?_; rintro e w3 ⟨⟨q, rfl⟩, hb3⟩; obtain ⟨⟨e0, e1, e2, e3⟩, hbw⟩ := HK.out _ hb3)
    | (at_make; refine wpList_make_own _ rfl _ _ 23 rfl w3.heap.size 25 i0 _ 4 Tryd.underlying23 hinf hz0 hz1 .i64 .i64 (cap : Int) cap rfl rfl rfl ?b2 ?b3 (Nat.le_refl _) ?_))
  case b2 => rw [hz2]; omega
  case b3 => unfold maxLen; omega
  intro w4 hrow4 hg4
  have hb4 : Below w3.heap.size w3 w4 := ⟨hg4.os, hg4.tape, hg4.output, hg4.size, fun b hb => hg4.block b hb (by simp)⟩
  have hb24 := below_of hb3 hb4
  obtain ⟨⟨e0, e1, e2, e3⟩, hbw⟩ := HK.out _ hb24
  go_wp2_with (at_builtin; refine wpList_append_own_spare _ rfl _ _ 23 rfl w3.heap.size 25 i0 4 Tryd.underlying23 hinf hz1 w3.heap.size 0 cap [] rfl (hrow4.alloc _) ⟨w4.heap.size, 0, none⟩ 1 1 [.int .i64 d.kind, .string d.cons, .slice ta d.text.length tc, .slice sa d.kids.length sc] rfl rfl (cells_new _ _ _) (by intro u hu; simp at hu; rcases hu with rfl | rfl | rfl | rfl <;> rfl) (by have := HD.out; omega) ?_)
  intro w5 hrow5 hg5
  have hX0 : CW w B w3.heap.size w3 d cap [d] 0 [.int .i64 d.kind, .string d.cons, .slice ta d.text.length tc, .slice sa d.kids.length sc] w5 := by
    refine ⟨by simp, ?_, rfl, CL.first HTV.out HST.out, hrow5, ?_⟩
    · have := HD.out; simp [ksum]; omega
    · have hbA : Below w3.heap.size w3 (w4.alloc (.cells #[.int .i64 d.kind, .string d.cons, .slice ta d.text.length tc, .slice sa d.kids.length sc] 25)) := hb4.alloc hb4.size _
      exact ⟨hg5.os.trans hbA.os, hg5.tape.trans hbA.tape, hg5.output.trans hbA.output, Nat.le_trans hbA.size hg5.size, fun b hb => (hg5.block b (Nat.lt_of_lt_of_le hb hbA.size) (by simp; omega)).trans (hbA.block b hb)⟩
  have H3 : Hid _ := hb3
  have HLN : Hid (cap ≤ 1000000000000) := hlen
  clear hrow5 hg5 hrow4 hg4 hb4 hb24 e0 e1 e2 e3 hbw hlen
  go_wp2
  go_loopw [7, 8] (fun v i W => ∃ (k : Nat) (L : List Tm) (xs : List Value), v = .slice (some ⟨w3.heap.size, 0, none⟩) L.length cap ∧ i = .int .i64 (k : Int) ∧ CW w B w3.heap.size w3 d cap L k xs W) (fun _ i _ => cap - (intOf i).toNat)
  case atStart => exact ⟨0, [d], _, rfl, rfl, hX0⟩
  case round =>
    clear hX0
    obtain ⟨k, L, xs, rfl, rfl, hX⟩ := hrel
    have HX : Hid _ := hX
    have hle := hX.le
    have hsum := hX.sum
    have hcap := HLN.out
    by_cases hlt : k < L.length
    · obtain ⟨x, hx⟩ : ∃ x, L[k]? = some x := ⟨L[k], by simp⟩
      obtain ⟨s, es, _, hst⟩ := hX.cl.c2 k x hx
      obtain ⟨f', a, c, rfl, hc, hat⟩ := hst (Nat.le_refl _)
      have t2 : wr.cell? ⟨w3.heap.size, k * 4 + 3, none⟩ = some (.slice a x.kids.length c) := (hX.cell _ (by omega)).trans es
      have tf : wr.frozen? ⟨w3.heap.size, k * 4 + 3, none⟩ = false := hX.fz (k * 4 + 3)
      have hkI : (k : Int) < (L.length : Int) := by omega
      have hkb : (k : Int) ≤ 1000000000000 := by omega
      have HO : Hid _ := fun (_ : Unit) => ofTerm_any w3.heap.size (k * 4) wr
      have HKS := ksum_drop hx
      have HXX : Hid _ := hx
      have HLE : Hid _ := hlt
      have HSUM : Hid _ := hsum
      by_cases hn : x.kids = []
      · have hl0 : x.kids.length = 0 := by rw [hn]; rfl
        rw [hl0] at t2
        have HSK : Hid (L.length + ksum (L.drop (k + 1)) = cap) := by show _ = _; rw [hn] at HKS; simp [szL] at HKS; omega
        have HN : Hid _ := hn
        clear hat hc hst es hx hX hsum HKS hl0 hn hle hlt hcap
        go_wp2_with (go_at_call 36; refine (HO.out ()).mono ?_; rintro e w' ⟨rfl, rfl⟩)
        refine ⟨⟨k + 1, L, xs.set (k * 4 + 3) (.slice none 0 0), rfl, by go_num, ?_⟩, by have := HLE.out; have := HSUM.out; simp [intOf]; omega⟩
        have hs := HX.out.row.stored (k * 4 + 3) (.slice none 0 0)
        exact ⟨HLE.out, HSK.out, HX.out.hd, HX.out.cl.put HXX.out (.inl ⟨HN.out, rfl⟩), hs.1, ⟨hs.2.os.trans HX.out.bel.os, hs.2.tape.trans HX.out.bel.tape, hs.2.output.trans HX.out.bel.output, Nat.le_trans HX.out.bel.size hs.2.size, fun b hb => (hs.2.block b (Nat.lt_of_lt_of_le hb HX.out.bel.size) (by simp; omega)).trans (HX.out.bel.block b hb)⟩⟩
      · obtain ⟨b, o, rfl, hbl⟩ : ∃ b o, a = some ⟨b, o, none⟩ ∧ b < w.heap.size := by
          cases f' with
          | zero => exact absurd hat hn
          | succ f' =>
            obtain ⟨x0, h0⟩ : ∃ x0, x.kids[0]? = some x0 := by
              cases hq : x.kids with
              | nil => exact absurd hq hn
              | cons x0 l => exact ⟨x0, rfl⟩
            obtain ⟨b, o, e, hb, _⟩ := hat.2 0 x0 h0
            exact ⟨b, o, e, Nat.lt_of_lt_of_le hb hBw⟩
        obtain ⟨news, hnl, hnc, hno, hnk⟩ := kid_cells hat
        have hpos : 0 < x.kids.length := List.length_pos_iff.2 hn
        have hne : ((x.kids.length : Int) == 0) = false := by simp; omega
        have hbwr : Below w.heap.size w wr := (HK.out _ H3.out).2.trans (hX.bel.mono (HK.out _ H3.out).2.size)
        have hnc' : ∀ j u, news[j]? = some u → wr.cell? ((⟨b, o, none⟩ : Addr).add j) = some u := fun j u hu => by
          have hadd : (⟨b, o, none⟩ : Addr).add j = ⟨b, o + j, none⟩ := by unfold Addr.add; split <;> simp_all
          rw [hadd]
          exact (hbwr.cell (p := ⟨b, o + j, none⟩) hbl).trans (hnc j u hu)
        have hks := szL_ksum x.kids
        have HSK : Hid ((L ++ x.kids).length + ksum ((L ++ x.kids).drop (k + 1)) = cap) := by
          show _ = _
          rw [List.length_append, List.drop_append_of_le_length (by omega), ksum_app]
          omega
        have hroom : L.length + x.kids.length ≤ cap := by omega
        have HCL := hX.cl.more (M := x.kids) hle hnl (fun j y hy => by
          obtain ⟨h0, h1, ht, f2, a2, c2, h2, h3, h4⟩ := hnk j y hy
          exact ⟨h0, h1, ht, _, h2, f2, a2, c2, rfl, h3, h4⟩)
        have HD2 : Done w3.heap.size (L ++ x.kids) x (.slice (some ⟨w3.heap.size, L.length * 4, none⟩) x.kids.length x.kids.length) := .inr ⟨L.length, rfl, fun t y hy => by rw [List.getElem?_append_right (by omega)]; simpa using hy⟩
        have hx2 : (L ++ x.kids)[k]? = some x := by rw [List.getElem?_append_left hlt]; exact hx
        have HCP := HCL.put hx2 HD2
        have hd2 : (L ++ x.kids)[0]? = some d := by rw [List.getElem?_append_left (by omega)]; exact hX.hd
        have hll : (L ++ x.kids).length = L.length + x.kids.length := List.length_append
        have HF : Hid _ := And.intro HCP (And.intro hd2 hll)
        have HCE : Hid _ := And.intro HCL hX.row
        generalize hnn : x.kids.length = n at *
        clear hat hst es hx hX hsum HKS hn hle hlt hcap HCL HCP HD2 hx2 hd2 hll hnc hnk hks hbwr
        go_wp2_with (first
          | (go_at_call 36; refine (HO.out ()).mono ?_; rintro e w' ⟨rfl, rfl⟩)
          | (at_builtin; refine wpList_append_own_spare _ rfl _ _ 23 rfl w3.heap.size 25 i0 4 Tryd.underlying23 hinf hz1 w3.heap.size L.length cap xs rfl HX.out.row ⟨b, o, none⟩ n c news rfl hnl hnc' hno hroom ?_))
        intro W6 hrow6 hg6
        have hl6 : k * 4 + 3 < (xs ++ news).length := by rw [hrow6.1]; have := HLE.out; omega
        have t6 : W6.cell? ⟨w3.heap.size, k * 4 + 3, none⟩ = some ((xs ++ news)[k * 4 + 3]) := (hrow6.cellAt _ (by rw [hrow6.1] at hl6; exact hl6)).trans (by simp)
        have f6 : W6.frozen? ⟨w3.heap.size, k * 4 + 3, none⟩ = false := hrow6.frozenAt _
        have hst := hrow6.stored (k * 4 + 3) (.slice (some ⟨w3.heap.size, L.length * 4, none⟩) n n)
        have HST6 : Hid _ := hst
        have HG6 : Hid _ := hg6
        generalize (xs ++ news)[k * 4 + 3] = old6 at t6
        have hmn : L.length ≤ L.length + n := by omega
        clear hst hg6 hrow6 hl6 t2 tf
        go_wp2
        obtain ⟨hcp, hd2, hll⟩ := HF.out
        refine ⟨⟨k + 1, L ++ x.kids, (xs ++ news).set (k * 4 + 3) (.slice (some ⟨w3.heap.size, L.length * 4, none⟩) n n), by rw [hll], by go_num, ?_⟩, by have := HLE.out; have := HSUM.out; simp [intOf]; omega⟩
        refine ⟨by rw [hll]; have := HLE.out; omega, HSK.out, hd2, hcp, by rw [hll]; exact HST6.out.1, ?_⟩
        have h1 := HG6.out
        have h2 := HST6.out.2
        have h0 := HX.out.bel
        exact ⟨(h2.os.trans h1.os).trans h0.os, (h2.tape.trans h1.tape).trans h0.tape, (h2.output.trans h1.output).trans h0.output, Nat.le_trans h0.size (Nat.le_trans h1.size h2.size), fun b hb => ((h2.block b (Nat.lt_of_lt_of_le hb (Nat.le_trans h0.size h1.size)) (by simp; omega)).trans (h1.block b (Nat.lt_of_lt_of_le hb h0.size) (by simp; omega))).trans (h0.block b hb)⟩
    · obtain rfl : k = L.length := by omega
      have hL0 : 0 < L.length := (List.getElem?_eq_some_iff.1 hX.hd).1
      obtain ⟨s, es, hdn, _⟩ := hX.cl.c2 0 d hX.hd
      have hgw : w3.heap.size < wr.heap.size := by
        rcases hX.row.2 with ⟨e, _⟩ | ⟨g', cap', cur, e, hb, hg, _⟩
        · cases e
        · cases e
          exact (Array.getElem?_eq_some_iff.1 hg).1
      have hbw := (HK.out _ H3.out).2
      have h23 := H3.out.size
      have hs2 := HS2.out
      have hbwr : Below w.heap.size w wr := hbw.trans (hX.bel.mono hbw.size)
      obtain ⟨a, c, rfl, hac, htin⟩ := Done.mz (W := wr) (U := fun b => w.heap.size ≤ b ∧ b < wr.heap.size ∧ b ≠ w.heap.size + 1) hX.cl (by omega) ⟨hbw.size, hgw, by omega⟩ ⟨row_tag hX.row, fun q => hX.fz q⟩ (hbwr.mono hBw) (fun j hj => hX.cell j hj) f d s HDP.out (hdn hL0)
      have t0 : wr.cell? ⟨w3.heap.size, 0, none⟩ = some (.int .i64 d.kind) := (hX.cell 0 (by omega)).trans (hX.cl.c0 0 d hX.hd)
      have t1 : wr.cell? ⟨w3.heap.size, 1, none⟩ = some (.string d.cons) := (hX.cell 1 (by omega)).trans (hX.cl.c1 0 d hX.hd)
      obtain ⟨tv0, et0, htx0⟩ := hX.cl.ct 0 d hX.hd
      obtain ⟨ua, uc, rfl, hux⟩ := htx0
      have t2 : wr.cell? ⟨w3.heap.size, 2, none⟩ = some (.slice ua d.text.length uc) := (hX.cell 2 (by omega)).trans et0
      have t3 : wr.cell? ⟨w3.heap.size, 3, none⟩ = some (.slice a d.kids.length c) := (hX.cell 3 (by omega)).trans es
      have hLI : (0 : Int) < (L.length : Int) := by omega
      obtain ⟨⟨r0, r1, r2, r3⟩, fr⟩ := HR.out wr (H3.out.trans (hX.bel.mono h23))
      have HT : Hid _ := And.intro htin (And.intro hbwr (And.intro hac hux))
      clear htin hbwr hac hux et0 hX hsum hle hcap hlt h23 hs2 hbw hgw hdn es
      go_wp2
      refine bodyPost_ret (v := .agg #[.int .i64 d.kind, .string d.cons, .slice ua d.text.length uc, .slice a d.kids.length c]) (by simp [results, Tryd.results60, go_sem, r0, r1, r2, r3]) rfl ?_
      obtain ⟨htin, hbwr, hac, hux⟩ := HT.out
      have hsB : w.heap.size ≤ w.heap.size + 1 := by omega
      have hsC : B ≤ w.heap.size + 1 := by omega
      refine ⟨⟨ua, uc, a, c, rfl, Txt.keep (w := w) ⟨_, _, rfl, hux⟩ (((((hbwr.mono hBw).setCell hsC _).setCell hsC _).setCell hsC _).setCell hsC _), hac, ?_⟩, (((hbwr.setCell hsB _).setCell hsB _).setCell hsB _).setCell hsB _⟩
      refine (htin.keep (fun b hb => ?_) ?_).wide (fun b hb => ⟨hb.1, by simp [World.setCell]; exact hb.2.1⟩)
      · have hne : b ≠ w.heap.size + 1 := hb.2.2
        exact (Below.heap_setCell _ _ _ b hne).trans ((Below.heap_setCell _ _ _ b hne).trans ((Below.heap_setCell _ _ _ b hne).trans (Below.heap_setCell _ _ _ b hne)))
      · exact ((((Below.refl _ _).setCell hsC _).setCell hsC _).setCell hsC _).setCell hsC _
end Go.Proofs.YtlkcadibjmfmcaaDoor
