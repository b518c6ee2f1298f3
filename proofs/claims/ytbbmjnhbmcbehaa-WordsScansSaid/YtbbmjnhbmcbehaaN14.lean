/- Rows of words in memory; how many bytes a word has. -/
import Derived.Test.YtbbmjnhbmcbehaaN11
import Derived.Test.YtbbmjnhbmcbehaaN13
namespace Go.Proofs.Ytbbmjnhbmcbehaa
open Go.RowKit

def wcell (d : Wd) (v : Value) : List Value := [.int .i64 (d.kind : Int), .string ⟨d.text.toArray⟩, v, .int .u64 (d.set.a : Int), .int .u64 (d.set.b : Int), .int .u64 (d.set.c : Int), .int .u64 (d.set.d : Int), .int .i64 (d.n : Int), .int .i64 (d.fro : Int), .int .i64 (d.line : Int), .int .i64 (d.col : Int)]
def wcells (L : List (Wd × Value)) : List Value := L.flatMap fun q => wcell q.1 q.2
theorem wcells_snoc (L : List (Wd × Value)) (d : Wd) (v : Value) : wcells (L ++ [(d, v)]) = wcells L ++ wcell d v := by simp [wcells]
/-- A slice of words, each with its bytes. -/
structure Words (W : World) (base : Nat) (lv : Value) (L : List (Wd × Value)) : Prop where
  row : W.ownsRow base 35 11 lv L.length (wcells L)
  bytes : ∀ q ∈ L, W.ownsRow base 5 1 q.2 q.1.bytes.length (bytesV q.1.bytes)
theorem Words.nil (W : World) (base : Nat) : Words W base (.slice none 0 0) [] := ⟨World.ownsRow_nil _ _ _ _, fun _ h => by cases h⟩
section
variable {W W' : World} {base : Nat} {lv : Value} {L : List (Wd × Value)}
theorem Words.after (h : Words W base lv L) (hb : Below W.heap.size W W') : Words W' base lv L := ⟨row_below h.row hb, fun q hq => row_below (h.bytes q hq) hb⟩
theorem Words.alloc (h : Words W base lv L) (o : Obj) : Words (W.alloc o) base lv L := ⟨h.row.alloc o, fun q hq => (h.bytes q hq).alloc o⟩
theorem row_kept_lt {e : TypeId} {size : Nat} {v : Value} {n : Nat} {xs : List Value} {b : Nat} (h : W.ownsRow base e size v n xs) (hg : W.grownBy W' (some b)) (hb : b < base) : W'.ownsRow base e size v n xs := by
  refine h.kept hg ?_
  cases hv : v.ownBlock with
  | none => exact .inl rfl
  | some g => right; intro e; have := (h.lt g hv).1; simp at e; omega
theorem Words.kept {b : Nat} (h : Words W base lv L) (hg : W.grownBy W' (some b)) (hb : b < base) : Words W' base lv L := ⟨row_kept_lt h.row hg hb, fun q hq => row_kept_lt (h.bytes q hq) hg hb⟩
theorem Words.mono {base' : Nat} (h : Words W base lv L) (hb : base' ≤ base) : Words W base' lv L := ⟨row_mono h.row hb, fun q hq => row_mono (h.bytes q hq) hb⟩
theorem row_ne {b1 b2 : Nat} {e1 e2 : TypeId} {s1 s2 : Nat} {v1 v2 : Value} {n1 n2 : Nat} {x1 x2 : List Value} (h1 : W.ownsRow b1 e1 s1 v1 n1 x1) (h2 : W.ownsRow b2 e2 s2 v2 n2 x2) (hne : e1 ≠ e2) : v1.ownBlock = none ∨ v1.ownBlock ≠ v2.ownBlock := by
  rcases h1.2 with ⟨rfl, _⟩ | ⟨g, cap, cur, rfl, _, hg, _⟩
  · exact .inl rfl
  · right
    rcases h2.2 with ⟨rfl, _⟩ | ⟨g', cap', cur', rfl, _, hg', _⟩
    · simp [Value.ownBlock]
    · simp only [Value.ownBlock]
      intro e
      obtain rfl : g = g' := by simpa using e
      have := hg.symm.trans hg'
      simp at this
      exact hne this.2
theorem Words.push {d : Wd} {v lv' : Value} {tmp : Obj} (h : Words W base lv L) (hv : W.ownsRow base 5 1 v d.bytes.length (bytesV d.bytes)) (hrow : W'.ownsRow base 35 11 lv' (L.length + 1) (wcells L ++ wcell d v)) (hg : (W.alloc tmp).grownBy W' lv.ownBlock) : Words W' base lv' (L ++ [(d, v)]) := by
  refine ⟨?_, ?_⟩
  · rw [wcells_snoc, List.length_append]; exact hrow
  · intro q hq
    have hq' : W.ownsRow base 5 1 q.2 q.1.bytes.length (bytesV q.1.bytes) := by
      rcases List.mem_append.1 hq with hq | hq
      · exact h.bytes q hq
      · simp at hq; subst hq; exact hv
    exact (hq'.alloc tmp).kept hg (row_ne (hq'.alloc tmp) (h.row.alloc tmp) (by decide))
end
theorem lspan_pos (p : Nat → Bool) (c : UInt8) (l : List UInt8) (h : p c.toNat = true) : 1 ≤ lspan p (c :: l) := by simp [lspan, h]
theorem quo_pos : ∀ (f : Nat) (l : List UInt8) (k : Nat) (acc : List Nat), (quo f l k acc).code = 0 → k < (quo f l k acc).fin
  | 0, l, k, acc, h => by simp [quo] at h
  | f + 1, [], k, acc, h => by simp [quo] at h
  | f + 1, c :: l, k, acc, h => by
    unfold quo at h ⊢
    split at h
    · rename_i h1; rw [if_pos h1]; simp only; omega
    · rename_i h1
      rw [if_neg h1]
      split at h
      · rename_i h2
        rw [if_pos h2]
        split at h
        · simp at h
        · rename_i h3
          rw [if_neg h3]
          have h4 := quo_pos f _ _ _ h
          omega
      · rename_i h2
        rw [if_neg h2]
        split at h
        · rename_i h3
          rw [if_pos h3]
          have h4 := quo_pos f _ _ _ h
          omega
        · simp at h
theorem rdw_len (r : List UInt8) (h : (rdw r).code = 0) : (rdw r).len ≤ r.length ∧ ((rdw r).kind ≠ 7 → 1 ≤ (rdw r).len) ∧ ((rdw r).kind = 7 ↔ r = []) := by
  cases r with
  | nil => exact ⟨Nat.le_refl _, fun h => absurd rfl h, by simp [rdw, RW.plain]⟩
  | cons c l =>
    rw [rdw_cons] at h ⊢
    have key : ∀ q : RW, q.code = 0 → q.len ≤ (c :: l).length → 1 ≤ q.len → q.kind ≠ 7 → q.len ≤ (c :: l).length ∧ (q.kind ≠ 7 → 1 ≤ q.len) ∧ (q.kind = 7 ↔ c :: l = []) := fun q _ h1 h2 h3 => ⟨h1, fun _ => h2, ⟨fun e => absurd e h3, fun e => by cases e⟩⟩
    by_cases hg : great c.toNat = true
    · rw [if_pos hg] at h ⊢
      have ha : alnum c.toNat = true := by unfold alnum; rw [hg]; rfl
      unfold rdLet at h ⊢
      split at h
      · simp [RW.fault] at h
      · rename_i h1; rw [if_neg h1]; exact key _ rfl (lspan_le _ _) (lspan_pos _ _ _ ha) (by simp [RW.plain])
    rw [if_neg hg] at h ⊢
    by_cases hs : small c.toNat = true
    · rw [if_pos hs] at h ⊢
      have ha : alnum c.toNat = true := by unfold alnum; rw [hs]; simp
      unfold rdLet at h ⊢
      split at h
      · simp [RW.fault] at h
      · rename_i h1; rw [if_neg h1]; exact key _ rfl (lspan_le _ _) (lspan_pos _ _ _ ha) (by simp [RW.plain])
    rw [if_neg hs] at h ⊢
    by_cases hd : digB c.toNat = true
    · rw [if_pos hd] at h ⊢
      unfold rdNum at h ⊢
      split at h
      · simp [RW.fault] at h
      · rename_i h1; rw [if_neg h1]; exact key _ rfl (lspan_le _ _) (lspan_pos _ _ _ hd) (by simp)
    rw [if_neg hd] at h ⊢
    by_cases h34 : c.toNat = 34
    · rw [if_pos h34] at h ⊢
      unfold rdText at h ⊢
      split at h
      · rename_i h1
        rw [if_pos h1]
        have h2 := quo_fin _ _ _ _ h1
        have h3 := quo_pos _ _ _ _ h1
        refine key _ rfl ?_ ?_ (by simp)
        · show (quo _ _ _ _).fin ≤ _
          simp only [List.drop_succ_cons, List.drop_zero, List.length_cons] at *; omega
        · show 1 ≤ (quo _ _ _ _).fin
          simp only [List.drop_succ_cons, List.drop_zero, List.length_cons] at *; omega
      · rename_i h1; rw [if_neg h1]; exact absurd h h1
    rw [if_neg h34] at h ⊢
    by_cases h91 : c.toNat = 91
    · rw [if_pos h91] at h ⊢
      unfold rdSet at h ⊢
      split at h
      · simp [RW.fault] at h
      · rename_i h1
        rw [if_neg h1]
        split at h
        · rename_i h2
          rw [if_pos h2]
          have h3 := clo_le ((c :: l).drop 1) 1
          refine key _ rfl ?_ ?_ (by simp)
          · simp only [List.drop_succ_cons, List.drop_zero, List.length_cons] at *; omega
          · simp only; omega
        · rename_i h2; exact absurd h h2
    rw [if_neg h91] at h ⊢
    by_cases hsg : signB c.toNat = true
    · rw [if_pos hsg] at h ⊢
      exact key _ rfl (by simp [RW.plain]) (by simp [RW.plain]) (by simp [RW.plain])
    · rw [if_neg hsg] at h; simp [RW.fault] at h
end Go.Proofs.Ytbbmjnhbmcbehaa
