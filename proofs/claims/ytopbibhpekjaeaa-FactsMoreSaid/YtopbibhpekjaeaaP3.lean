/- What is told of a grammar, in one form for right ones and others; told twice it is the same. -/
import Derived.Test.YtopbibhpekjaeaaP1
import Derived.Test.YtopbibhpekjaeaaP2
import Derived.Test.YtopbibhpekjaeaaU1
import Derived.Test.YtopbibhpekjaeaaN4
namespace Go.Proofs.Ytopbibhpekjaeaa
open Go.RowKit

def Gm.code (G : Gm) : Int := if G.okB then 0 else 3
def ShortIs (G : Gm) (l : List Int) : Prop := (G.okB = false ∧ l = []) ∨ (G.okB = true ∧ ShortOk G.nts.toNat G.rules l)
def FirstIs (G : Gm) (l : List St) : Prop := (G.okB = false ∧ l = []) ∨ (G.okB = true ∧ l.length = G.nts.toNat ∧ (∀ n, (l.getD n St.zero).ok) ∧ ∀ n b, n < G.nts.toNat → b < 256 → ((l.getD n St.zero).has b = true ↔ Fst G.rules n b))
def CycIs (G : Gm) (x : Bool) : Prop := (G.okB = false ∧ x = false) ∨ (G.okB = true ∧ (x = true ↔ Cyc G.nts.toNat G.rules))
def TrimIs (G : Gm) (l : List Nat) : Prop := (G.okB = false ∧ l = []) ∨ (G.okB = true ∧ ∃ so : List Bool, so.length = G.nts.toNat ∧ (∀ m, so.getD m false = true ↔ Lf G.rules pP m) ∧ l = trimL G.rules so G.rules.length)
def MarkIs (p : St → Bool) (G : Gm) (l : List Bool) : Prop := (G.okB = false ∧ l = []) ∨ (G.okB = true ∧ l.length = G.nts.toNat ∧ ∀ m, l.getD m false = true ↔ Lf G.rules p m)
theorem code_no {G : Gm} (h : G.okB = false) : (3 : Int) = G.code := by unfold Gm.code; rw [h]; rfl
theorem code_ok {G : Gm} (h : G.okB = true) : (0 : Int) = G.code := by unfold Gm.code; rw [h]; rfl
theorem okB_nts {G : Gm} (h : G.okB = true) : G.nts.toNat ≤ 4096 := by
  obtain ⟨N, S, hN, _, _, hOk⟩ := ok_of h
  have := hOk.n2; omega
theorem ShortIs.len {G : Gm} {l : List Int} (h : ShortIs G l) : l.length ≤ 4096 := by
  rcases h with ⟨_, rfl⟩ | ⟨h1, h2⟩
  · simp
  · rw [h2.1]; exact okB_nts h1
theorem FirstIs.len {G : Gm} {l : List St} (h : FirstIs G l) : l.length ≤ 4096 := by
  rcases h with ⟨_, rfl⟩ | ⟨h1, h2, _⟩
  · simp
  · rw [h2]; exact okB_nts h1
theorem MarkIs.len {p : St → Bool} {G : Gm} {l : List Bool} (h : MarkIs p G l) : l.length ≤ 4096 := by
  rcases h with ⟨_, rfl⟩ | ⟨h1, h2, _⟩
  · simp
  · rw [h2]; exact okB_nts h1
theorem TrimIs.len {G : Gm} {l : List Nat} (h : TrimIs G l) : l.length ≤ G.rules.length := by
  rcases h with ⟨_, rfl⟩ | ⟨_, so, _, _, rfl⟩
  · simp
  · exact trimL_len _ _ _
theorem ShortIs.one {G X : Gm} {a b : List Int} (hA : ShortIs G a) (hB : ShortIs X b) (h1 : X.okB = G.okB) (h2 : X.nts = G.nts) (h3 : ∀ n k, Ln G.rules n k ↔ Ln X.rules n k) : a = b := by
  rcases hA with ⟨a1, rfl⟩ | ⟨a1, a2⟩
  · rcases hB with ⟨b1, rfl⟩ | ⟨b1, b2⟩
    · rfl
    · rw [h1, a1] at b1; cases b1
  · rcases hB with ⟨b1, rfl⟩ | ⟨b1, b2⟩
    · rw [h1, a1] at b1; cases b1
    · rw [h2] at b2; exact short_one a2 b2 h3
theorem FirstIs.one {G X : Gm} {a b : List St} (hA : FirstIs G a) (hB : FirstIs X b) (h1 : X.okB = G.okB) (h2 : X.nts = G.nts) (h3 : ∀ n k, Fst G.rules n k ↔ Fst X.rules n k) : a = b := by
  rcases hA with ⟨a1, rfl⟩ | ⟨a1, a2, a3, a4⟩
  · rcases hB with ⟨b1, rfl⟩ | ⟨b1, b2⟩
    · rfl
    · rw [h1, a1] at b1; cases b1
  · rcases hB with ⟨b1, rfl⟩ | ⟨b1, b2, b3, b4⟩
    · rw [h1, a1] at b1; cases b1
    · rw [h2] at b2 b4
      refine List.ext_getElem? fun x => ?_
      by_cases hx : x < G.nts.toNat
      · have e1 : a[x]? = some (a.getD x St.zero) := by rw [List.getD_eq_getElem?_getD, List.getElem?_eq_getElem (by rw [a2]; exact hx)]; rfl
        have e2 : b[x]? = some (b.getD x St.zero) := by rw [List.getD_eq_getElem?_getD, List.getElem?_eq_getElem (by rw [b2]; exact hx)]; rfl
        rw [e1, e2]
        congr 1
        refine St.ext' (a3 x) (b3 x) fun i hi => ?_
        have p1 := a4 x i hx hi
        have p2 := b4 x i hx hi
        rw [h3, ← p2] at p1
        exact Bool.eq_iff_iff.2 p1
      · rw [List.getElem?_eq_none (by rw [a2]; omega), List.getElem?_eq_none (by rw [b2]; omega)]
theorem CycIs.one {G X : Gm} {a b : Bool} (hA : CycIs G a) (hB : CycIs X b) (h1 : X.okB = G.okB) (h2 : X.nts = G.nts) (h3 : Cyc G.nts.toNat G.rules ↔ Cyc G.nts.toNat X.rules) : a = b := by
  rcases hA with ⟨a1, rfl⟩ | ⟨a1, a2⟩
  · rcases hB with ⟨b1, rfl⟩ | ⟨b1, b2⟩
    · rfl
    · rw [h1, a1] at b1; cases b1
  · rcases hB with ⟨b1, rfl⟩ | ⟨b1, b2⟩
    · rw [h1, a1] at b1; cases b1
    · rw [h2] at b2
      rw [h3, ← b2] at a2
      exact Bool.eq_iff_iff.2 a2

theorem Shortest_row (G : Gm) (a : Option Addr) (c : Nat) (w : World) (hR : RAt w w.heap.size a G.rules) :
    Calls Try.prog 29 #[.agg #[.int .i64 G.nts, .int .i64 G.start, .slice a G.rules.length c]] w fun e w' => (∃ v l, e = .returned (.tuple #[v, .int .i64 G.code]) ∧ w'.ownsRow w.heap.size 3 1 v l.length (intsZ l) ∧ ShortIs G l) ∧ Below w.heap.size w w' := by
  refine (Shortest_any G a c w hR).mono ?_
  rintro e w' ⟨⟨h, rfl⟩ | ⟨h, v, rfl, l, hr, hs⟩, hb⟩
  · exact ⟨⟨.slice none 0 0, [], by rw [← code_no h], World.ownsRow_nil _ _ _ _, .inl ⟨h, rfl⟩⟩, hb⟩
  · exact ⟨⟨v, l, by rw [← code_ok h], by rw [hs.1]; exact hr, .inr ⟨h, hs⟩⟩, hb⟩
theorem First_row (G : Gm) (a : Option Addr) (c : Nat) (w : World) (hR : RAt w w.heap.size a G.rules) :
    Calls Try.prog 26 #[.agg #[.int .i64 G.nts, .int .i64 G.start, .slice a G.rules.length c]] w fun e w' => (∃ v l, e = .returned (.tuple #[v, .int .i64 G.code]) ∧ w'.ownsRow w.heap.size 49 4 v l.length (setsV l) ∧ FirstIs G l) ∧ Below w.heap.size w w' := by
  refine (First_any G a c w hR).mono ?_
  rintro e w' ⟨⟨h, rfl⟩ | ⟨h, v, rfl, l, hr, hs⟩, hb⟩
  · exact ⟨⟨.slice none 0 0, [], by rw [← code_no h], World.ownsRow_nil _ _ _ _, .inl ⟨h, rfl⟩⟩, hb⟩
  · exact ⟨⟨v, l, by rw [← code_ok h], by rw [hs.1]; exact hr, .inr ⟨h, hs⟩⟩, hb⟩
theorem Cyclic_row (G : Gm) (a : Option Addr) (c : Nat) (w : World) (hR : RAt w w.heap.size a G.rules) :
    Calls Try.prog 33 #[.agg #[.int .i64 G.nts, .int .i64 G.start, .slice a G.rules.length c]] w fun e w' => (∃ x, e = .returned (.tuple #[.bool x, .int .i64 G.code]) ∧ CycIs G x) ∧ Below w.heap.size w w' := by
  refine (Cyclic_any G a c w hR).mono ?_
  rintro e w' ⟨⟨h, rfl⟩ | ⟨h, v, rfl, x, rfl, hs⟩, hb⟩
  · exact ⟨⟨false, by rw [← code_no h], .inl ⟨h, rfl⟩⟩, hb⟩
  · exact ⟨⟨x, by rw [← code_ok h], .inr ⟨h, hs⟩⟩, hb⟩
theorem Trim_row (G : Gm) (a : Option Addr) (c : Nat) (w : World) (hR : RAt w w.heap.size a G.rules) :
    Calls Try.prog 31 #[.agg #[.int .i64 G.nts, .int .i64 G.start, .slice a G.rules.length c]] w fun e w' => (∃ v l, e = .returned (.tuple #[v, .int .i64 G.code]) ∧ w'.ownsRow w.heap.size 3 1 v l.length (intsV l) ∧ TrimIs G l) ∧ Below w.heap.size w w' := by
  refine (Trim_any G a c w hR).mono ?_
  rintro e w' ⟨⟨h, rfl⟩ | ⟨h, v, rfl, so, h1, h2, h3⟩, hb⟩
  · exact ⟨⟨.slice none 0 0, [], by rw [← code_no h], World.ownsRow_nil _ _ _ _, .inl ⟨h, rfl⟩⟩, hb⟩
  · exact ⟨⟨v, _, by rw [← code_ok h], h3, .inr ⟨h, so, h1, h2, rfl⟩⟩, hb⟩
theorem Nullable_row (G : Gm) (a : Option Addr) (c : Nat) (w : World) (hR : RAt w w.heap.size a G.rules) :
    Calls Try.prog 19 #[.agg #[.int .i64 G.nts, .int .i64 G.start, .slice a G.rules.length c]] w fun e w' => (∃ v l, e = .returned (.tuple #[v, .int .i64 G.code]) ∧ w'.ownsRow w.heap.size 4 1 v l.length (boolsV l) ∧ MarkIs pN G l) ∧ Below w.heap.size w w' := by
  refine (Nullable_any G a c w hR).mono ?_
  rintro e w' ⟨⟨h, rfl⟩ | ⟨h, v, rfl, l, hr, hs⟩, hb⟩
  · exact ⟨⟨.slice none 0 0, [], by rw [← code_no h], World.ownsRow_nil _ _ _ _, .inl ⟨h, rfl⟩⟩, hb⟩
  · exact ⟨⟨v, l, by rw [← code_ok h], by rw [hs.1]; exact hr, .inr ⟨h, hs⟩⟩, hb⟩
theorem Productive_row (G : Gm) (a : Option Addr) (c : Nat) (w : World) (hR : RAt w w.heap.size a G.rules) :
    Calls Try.prog 21 #[.agg #[.int .i64 G.nts, .int .i64 G.start, .slice a G.rules.length c]] w fun e w' => (∃ v l, e = .returned (.tuple #[v, .int .i64 G.code]) ∧ w'.ownsRow w.heap.size 4 1 v l.length (boolsV l) ∧ MarkIs pP G l) ∧ Below w.heap.size w w' := by
  refine (Productive_any G a c w hR).mono ?_
  rintro e w' ⟨⟨h, rfl⟩ | ⟨h, v, rfl, l, hr, hs⟩, hb⟩
  · exact ⟨⟨.slice none 0 0, [], by rw [← code_no h], World.ownsRow_nil _ _ _ _, .inl ⟨h, rfl⟩⟩, hb⟩
  · exact ⟨⟨v, l, by rw [← code_ok h], by rw [hs.1]; exact hr, .inr ⟨h, hs⟩⟩, hb⟩

theorem sameInts_rows {W : World} {b1 b2 : Nat} {v u : Value} {l : List Int} (h1 : W.ownsRow b1 3 1 v l.length (intsZ l)) (h2 : W.ownsRow b2 3 1 u l.length (intsZ l)) (hl : l.length ≤ 140737488355328) :
    Calls Try.prog 35 #[v, u] W fun e w' => e = .returned (.bool true) ∧ Below W.heap.size W w' := by
  by_cases h0 : l.length = 0
  · obtain ⟨a, c, rfl⟩ := row_slice h1
    obtain ⟨a', c', rfl⟩ := row_slice h2
    exact sameInts_any _ _ _ _ _ _ hl fun k hk => by omega
  · obtain ⟨g, c, rfl, _, hg⟩ := row_at h1 (by omega)
    obtain ⟨g', c', rfl, _, hg'⟩ := row_at h2 (by omega)
    exact sameInts_any _ _ _ _ _ _ hl fun k hk => ⟨g, 0, g', 0, l.getD k 0, rfl, rfl, hg, hg', by rw [Nat.zero_add]; exact z_cell h1 hk, by rw [Nat.zero_add]; exact z_cell h2 hk⟩
theorem sameSets_rows {W : World} {b1 b2 : Nat} {v u : Value} {l : List St} (h1 : W.ownsRow b1 49 4 v l.length (setsV l)) (h2 : W.ownsRow b2 49 4 u l.length (setsV l)) (hl : l.length * 32 ≤ 140737488355328) :
    Calls Try.prog 28 #[v, u] W fun e w' => e = .returned (.bool true) ∧ Below W.heap.size W w' := by
  by_cases h0 : l.length = 0
  · obtain ⟨a, c, rfl⟩ := row_slice h1
    obtain ⟨a', c', rfl⟩ := row_slice h2
    exact sameSets_any _ _ _ _ _ _ hl fun k hk => by omega
  · obtain ⟨g, c, rfl, _, hg⟩ := row_at h1 (by omega)
    obtain ⟨g', c', rfl, _, hg'⟩ := row_at h2 (by omega)
    refine sameSets_any _ _ _ _ _ _ hl fun k hk => ⟨g, 0, g', 0, l.getD k St.zero, rfl, rfl, hg, hg', ?_, ?_⟩
    · rw [Nat.zero_add]; exact set_cells h1 rfl hk
    · rw [Nat.zero_add]; exact set_cells h2 rfl hk
/-- A grammar in a box. -/
structure GB (gb : Nat) (G : Gm) (a : Option Addr) (c : Nat) (W : World) : Prop where
  c0 : W.cell? ⟨gb, 0, none⟩ = some (.int .i64 G.nts)
  c1 : W.cell? ⟨gb, 1, none⟩ = some (.int .i64 G.start)
  c2 : W.cell? ⟨gb, 2, none⟩ = some (.slice a G.rules.length c)
  rat : RAt W W.heap.size a G.rules
  lt : gb < W.heap.size
theorem GB.below {gb : Nat} {G : Gm} {a : Option Addr} {c : Nat} {W W' : World} (h : GB gb G a c W) (hb : Below W.heap.size W W') : GB gb G a c W' :=
  have k : ∀ q, W'.cell? ⟨gb, q, none⟩ = W.cell? ⟨gb, q, none⟩ := fun q => hb.cell (p := ⟨gb, q, none⟩) h.lt
  ⟨(k 0).trans h.c0, (k 1).trans h.c1, (k 2).trans h.c2, (h.rat.keep hb).mono hb.size, Nat.lt_of_lt_of_le h.lt hb.size⟩
end Go.Proofs.Ytopbibhpekjaeaa
