/- A term's text, read: plain; what reading comes to. -/
import Derived.Test.YtlkcadibjmfmcaaDoorQd
namespace Go.Proofs.YtlkcadibjmfmcaaDoor
open Go.RowKit

theorem lspan_drop (p : Nat → Bool) : ∀ l : List UInt8, lspan p (l.drop (lspan p l)) = 0
  | [] => rfl
  | c :: l => by
    rw [lspan]
    by_cases h : p c.toNat = true
    · rw [if_pos h]; exact lspan_drop p l
    · rw [if_neg h, List.drop_zero, lspan, if_neg h]
theorem skp_skp (s : ByteArray) (p : Nat) : skp s (skp s p) = skp s p := by
  unfold skp
  rw [← List.drop_drop, lspan_drop, Nat.add_zero]
/-- Bytes as they are read. -/
def unNums (t : List Nat) : List UInt8 := t.map UInt8.ofNat
mutual
/-- A term that lies so deep. -/
def rt (s : ByteArray) : Nat → Nat → Nat → PR Tm
  | 0, p, _ => .bad p 0
  | f + 1, p, m =>
    if s.size ≤ skp s p then .bad (skp s p) 14
    else if bt s (skp s p) = 34 then
      match rquo s (skp s p) m with
      | .bad q c => .bad q c
      | .ok t q => .ok (.mk 2 ⟨#[]⟩ (unNums t) []) q
    else if bt s (skp s p) = 91 then
      if 200 < m then .bad (skp s p) 2
      else if s.size ≤ skp s (skp s p + 1) then .bad (skp s (skp s p + 1)) 14
      else if bt s (skp s (skp s p + 1)) = 93 then .ok (.mk 3 ⟨#[]⟩ [] []) (skp s (skp s p + 1) + 1)
      else
        match rt s f (skp s (skp s p + 1)) (m + 1) with
        | .bad q c => .bad q c
        | .ok d q =>
          match rk s f q (m + 1) 93 [d] with
          | .bad q c => .bad q c
          | .ok l q => .ok (.mk 3 ⟨#[]⟩ [] l) q
    else if bt s (skp s p) = 45 then
      if 200 < m then .bad (skp s p) 2 else .ok (.mk 4 ⟨#[]⟩ [] []) (skp s p + 1)
    else if bt s (skp s p) = 63 then
      if 200 < m then .bad (skp s p) 2
      else
        match rt s f (skp s p + 1) (m + 1) with
        | .bad q c => .bad q c
        | .ok d q => .ok (.mk 5 ⟨#[]⟩ [] [d]) q
    else
      match rname s (skp s p) m with
      | .bad q c => .bad q c
      | .ok n q =>
        if skp s q < s.size ∧ bt s (skp s q) = 40 then
          match rt s f (skp s q + 1) (m + 1) with
          | .bad q c => .bad q c
          | .ok d q =>
            match rk s f q (m + 1) 41 [d] with
            | .bad q c => .bad q c
            | .ok l q => .ok (.mk 1 n [] l) q
        else .ok (.mk 1 n [] []) (skp s q)
/-- Kids behind those that were read, and the sign behind them. -/
def rk (s : ByteArray) : Nat → Nat → Nat → Nat → List Tm → PR (List Tm)
  | 0, p, _, _, _ => .bad p 0
  | f + 1, p, m, en, l =>
    if s.size ≤ skp s p then .bad (skp s p) 14
    else if bt s (skp s p) = en then .ok l (skp s p + 1)
    else if bt s (skp s p) ≠ 44 then .bad (skp s p) 11
    else
      match rt s f (skp s p + 1) m with
      | .bad q c => .bad q c
      | .ok d q => rk s f q m en (l ++ [d])
end
/-- Kids, one at least. -/
def rkids (s : ByteArray) (f p m en : Nat) : PR (List Tm) :=
  match rt s f p m with
  | .bad q c => .bad q c
  | .ok d q => rk s f q m en [d]
/-- A whole text, of at most so many bytes. -/
def rpar (s : ByteArray) : PR Tm :=
  if 65536 < s.size then .bad 0 2
  else
    match rt s (2 * s.size + 2) 0 1 with
    | .bad q c => .bad q c
    | .ok d q => if skp s q < s.size then .bad (skp s q) 15 else .ok d (skp s q)
theorem rname_pos {s : ByteArray} {q m q' : Nat} {n : ByteArray} (h : rname s q m = .ok n q') (hq : q < s.size) : q < q' ∧ q' ≤ s.size := by
  unfold rname at h
  split at h
  · cases h
  rename_i hg
  split at h
  · cases h
  split at h
  · cases h
  cases h
  have hle := lspan_le alnum (s.data.toList.drop q)
  rw [List.length_drop, list_len] at hle
  have h1 : 1 ≤ lspan alnum (s.data.toList.drop q) := by
    rw [drop_at s q hq, lspan]
    have ha : alnum (s[q]'hq).toNat = true := by
      rw [bt_eq s q hq]; unfold alnum
      have : great (bt s q) = true := by simpa using hg
      rw [this]; rfl
    rw [if_pos ha]; omega
  omega
theorem unq_ok {l : List UInt8} (h : (unq l).2.2 = 0) : 1 ≤ l.length := by
  unfold unq at h
  split at h
  · simp at h
  split at h
  · simp at h
  rename_i h2
  have := Classical.not_not.1 h2
  exact this.1
theorem quo_fin : ∀ (f : Nat) (l : List UInt8) (k : Nat) (acc : List Nat), (quo f l k acc).code = 0 → k < (quo f l k acc).fin := by
  intro f
  induction f with
  | zero => intro l k acc h; simp [quo] at h
  | succ f ih =>
    intro l k acc h
    cases l with
    | nil => simp [quo] at h
    | cons c l =>
      rw [quo] at h ⊢
      split
      · simp
      rename_i h1
      rw [if_neg h1] at h
      split
      · rename_i h2
        rw [if_pos h2] at h
        split
        · rename_i h3; rw [if_pos h3] at h; simp at h
        · rename_i h3; rw [if_neg h3] at h
          have := ih _ _ _ h; omega
      · rename_i h2
        rw [if_neg h2] at h
        split
        · rename_i h3; rw [if_pos h3] at h; have := ih _ _ _ h; omega
        · rename_i h3; rw [if_neg h3] at h; simp at h
theorem unq_rest {l : List UInt8} (h : (unq l).2.2 = 15) : 1 ≤ (unq l).2.1 := by
  unfold unq at h ⊢
  split
  · rename_i h1; rw [if_pos h1] at h; simp at h
  rename_i h1
  rw [if_neg h1] at h
  split
  · rename_i h2; rw [if_pos h2] at h; simp at h
  rename_i h2
  rw [if_neg h2] at h
  split
  · rename_i h3
    rw [if_pos h3] at h
    exfalso
    have hc : ∀ (f : Nat) (l : List UInt8) (k : Nat) (acc : List Nat), (quo f l k acc).code ≠ 15 := by
      intro f
      induction f with
      | zero => intro l k acc; simp [quo]
      | succ f ih =>
        intro l k acc
        cases l with
        | nil => simp [quo]
        | cons c l =>
          rw [quo]
          split
          · simp
          split
          · split
            · simp
            · exact ih _ _ _
          split
          · exact ih _ _ _
          · simp
    exact hc _ _ _ _ h
  rename_i h3
  rw [if_neg h3] at h
  have hq : (quoted l).code = 0 := Classical.not_not.1 h3
  have := quo_fin _ _ _ _ (show (quo l.length (l.drop 1) 1 []).code = 0 from hq)
  have h4 : 1 < (quoted l).fin := this
  split
  · simp only; omega
  · rename_i h5; rw [if_neg h5] at h; simp at h
theorem rquo_pos {s : ByteArray} {q m q' : Nat} {t : List Nat} (h : rquo s q m = .ok t q') (hq : q ≤ s.size) : q < q' ∧ q' ≤ s.size := by
  unfold rquo at h
  split at h
  · cases h
  split at h
  · cases h
  rename_i h0
  have h0' := Classical.not_not.1 h0
  cases h
  have hll : (s.data.toList.drop q).length = s.size - q := by rw [List.length_drop, list_len]
  have hp := unq_places (s.data.toList.drop q)
  unfold unq2 at h0' ⊢
  split
  · rename_i h15
    have h1 := hp.2 h15
    have h2 := unq_rest h15
    simp only
    omega
  · rename_i h15
    rw [if_neg h15] at h0'
    have := unq_ok h0'
    simp only
    omega
theorem rt_rk_pos (s : ByteArray) : ∀ f, (∀ p m d q, p ≤ s.size → rt s f p m = .ok d q → p < q ∧ q ≤ s.size) ∧ (∀ p m en l l' q, p ≤ s.size → rk s f p m en l = .ok l' q → p < q ∧ q ≤ s.size) := by
  intro f
  induction f with
  | zero => exact ⟨fun p m d q _ h => (by rw [rt] at h; cases h), fun p m en l l' q _ h => (by rw [rk] at h; cases h)⟩
  | succ f ih =>
    refine ⟨fun p m d q hp h => ?_, fun p m en l l' q hp h => ?_⟩
    · have g1 := skp_ge s p
      rw [rt] at h
      split at h
      · cases h
      rename_i hk
      split at h
      · split at h
        · cases h
        · rename_i hh; cases h; have := rquo_pos hh (by omega); omega
      split at h
      · split at h
        · cases h
        have g2 := skp_ge s (skp s p + 1)
        split at h
        · cases h
        rename_i hk2
        split at h
        · cases h; omega
        split at h
        · cases h
        rename_i hh
        split at h
        · cases h
        rename_i hh2
        cases h
        have a := ih.1 _ _ _ _ (by omega) hh
        have b := ih.2 _ _ _ _ _ _ a.2 hh2
        omega
      split at h
      · split at h
        · cases h
        · cases h; omega
      split at h
      · split at h
        · cases h
        split at h
        · cases h
        rename_i hh
        cases h
        have a := ih.1 _ _ _ _ (by omega) hh
        omega
      split at h
      · cases h
      rename_i hn
      have a := rname_pos hn (by omega)
      rename_i n q1
      have g3 := skp_ge s q1
      have g4 := skp_le s q1 a.2
      split at h
      · rename_i h40
        split at h
        · cases h
        rename_i hh
        split at h
        · cases h
        rename_i hh2
        cases h
        have b := ih.1 _ _ _ _ (by omega) hh
        have c := ih.2 _ _ _ _ _ _ b.2 hh2
        omega
      · cases h; omega
    · have g1 := skp_ge s p
      rw [rk] at h
      split at h
      · cases h
      rename_i hk
      split at h
      · cases h; omega
      split at h
      · cases h
      split at h
      · cases h
      rename_i hh
      have a := ih.1 _ _ _ _ (by omega) hh
      have b := ih.2 _ _ _ _ _ _ a.2 h
      omega
/-- What reading a term comes to. -/
def TPost (R : Nat) (s : ByteArray) (f : Nat) (w : World) : PR Tm → Ending → World → Prop
  | .ok d q, e, w' => (∃ ta tc va vc, e = .returned (.agg #[.int .i64 d.kind, .string d.cons, .slice ta d.text.length tc, .slice va d.kids.length vc]) ∧ d.kids.length ≤ vc ∧ MIx w' (fun b => w.heap.size ≤ b ∧ b < w'.heap.size) f va d.kids ∧ Txx w' (fun b => w.heap.size ≤ b ∧ b < w'.heap.size) (.slice ta d.text.length tc) d.text) ∧ RdAt w' R s q ∧ w.grownBy w' (some R)
  | .bad q c, e, w' => e = FE q c ∧ w.grownBy w' (some R)
/-- What reading kids comes to. -/
def KPost (R : Nat) (s : ByteArray) (f : Nat) (w : World) : PR (List Tm) → Ending → World → Prop
  | .ok l q, e, w' => (∃ v xs, e = .returned v ∧ w'.ownsRow w.heap.size 25 4 v l.length xs ∧ Cx f w.heap.size w' v l xs ∧ l.length ≤ 65536) ∧ RdAt w' R s q ∧ w.grownBy w' (some R)
  | .bad q c, e, w' => e = FE q c ∧ w.grownBy w' (some R)
def TCalls (R : Nat) (s : ByteArray) (f p m : Nat) (w : World) : Prop := Calls Tryd.prog 51 #[.pointer (some ⟨R, 0, none⟩), .int .i64 (m : Int)] w fun e w' => TPost R s f w (rt s f p m) e w'
theorem MIx.le {w : World} {U : Nat → Prop} {f : Nat} {a : Option Addr} {l : List Tm} (h : MIx w U f a l) : ∀ k, MIx w U (f + k) a l := by
  intro k
  induction k with
  | zero => exact h
  | succ k ih => exact ih.up
theorem row_ab' {X Y : World} {B : Nat} {e : TypeId} {k : Nat} {v : Value} {n : Nat} {xs : List Value} (h : X.ownsRow B e k v n xs) (hk : ∀ g, v.ownBlock = some g → Y.heap[g]? = X.heap[g]?) : Y.ownsRow B e k v n xs := by
  refine ⟨h.1, ?_⟩
  rcases h.2 with h0 | ⟨g, cap, cur, rfl, hbg, hg, rest⟩
  · exact .inl h0
  · exact .inr ⟨g, cap, cur, rfl, hbg, (hk g rfl).trans hg, rest⟩
theorem row_grown {W W' : World} {B R : Nat} {e : TypeId} {k : Nat} {v : Value} {n : Nat} {xs : List Value} (h : W.ownsRow B e k v n xs) (hg : W.grownBy W' (some R)) (hR : R < B) : W'.ownsRow B e k v n xs :=
  row_ab' h (fun g hg' => hg.block g (h.lt g hg').2 (fun e => by cases e; have := (h.lt _ hg').1; omega))
theorem cx_grown {W W' : World} {B R f : Nat} {v : Value} {l : List Tm} {xs : List Value} (h : Cx f B W v l xs) (hg : W.grownBy W' (some R)) (hR : R < B) : Cx f B W' v l xs :=
  h.move hg.size (fun b hb hlt _ => hg.block b hlt (fun e => by simp at e; omega)) (fun _ _ e => e)
/-- A row of one that was built. -/
theorem row_one (w : World) (a b c d : Value) (B : Nat) (hB : B ≤ w.heap.size) : (w.alloc (.cells #[a, b, c, d] 25)).ownsRow B 25 4 (.slice (some ⟨w.heap.size, 0, none⟩) 1 1) 1 [a, b, c, d] :=
  ⟨rfl, .inr ⟨w.heap.size, 1, #[a, b, c, d], rfl, hB, World.alloc_heap_new _ _, Nat.le_refl _, by decide, rfl, rfl⟩⟩
/-- Up to where a reader has read. -/
def pos (R : Nat) (W : World) : Nat := match W.cell? ⟨R, 1, none⟩ with | some (.int _ k) => k.toNat | _ => 0
theorem RdAt.pos {W : World} {R : Nat} {s : ByteArray} {k : Nat} (h : RdAt W R s k) : pos R W = k := by unfold Go.Proofs.YtlkcadibjmfmcaaDoor.pos; rw [h.at']; simp
theorem rdq_lt (x : ByteArray) : (rdq x).1 < 256 := by
  unfold rdq
  split
  · simp
  split
  · have h := shortq_bd (bt x 1)
    rename_i h0
    obtain ⟨i, he⟩ := Int.eq_ofNat_of_zero_le h0
    rw [he] at h ⊢
    simp only [Int.toNat_natCast]
    have : ∀ i : Fin 5, saidq i.val < 256 := by decide
    exact this ⟨i, by omega⟩
  split
  · simp
  split
  · simp
  · have a := dig_hi (bt x 2)
    have b := dig_hi (bt x 3)
    simp only; omega
theorem quo_lt : ∀ (f : Nat) (l : List UInt8) (k : Nat) (acc : List Nat), (∀ n ∈ acc, n < 256) → ∀ n ∈ (quo f l k acc).bytes, n < 256 := by
  intro f
  induction f with
  | zero => intro l k acc _ n h; simp [quo] at h
  | succ f ih =>
    intro l k acc ha n h
    have snoc : ∀ x, x < 256 → ∀ n ∈ acc ++ [x], n < 256 := fun x hx n hn => by
      rcases List.mem_append.1 hn with h | h
      · exact ha n h
      · simp at h; omega
    cases l with
    | nil => simp [quo] at h
    | cons c l =>
      rw [quo] at h
      split at h
      · exact ha n h
      split at h
      · split at h
        · simp at h
        · exact ih _ _ _ (snoc _ (rdq_lt _)) n h
      split at h
      · exact ih _ _ _ (snoc _ (UInt8.toNat_lt c)) n h
      · simp at h
theorem unq_lt (l : List UInt8) : ∀ n ∈ (unq l).1, n < 256 := by
  intro n h
  unfold unq at h
  split at h
  · simp at h
  split at h
  · simp at h
  split at h
  · simp at h
  split at h
  · simp at h
  · exact quo_lt _ _ _ [] (by simp) n h
theorem unq2_lt (l : List UInt8) : ∀ n ∈ (unq2 l).1.1, n < 256 := by
  unfold unq2
  split <;> exact unq_lt _
theorem rquo_lt {s : ByteArray} {q m q' : Nat} {t : List Nat} (h : rquo s q m = .ok t q') : ∀ n ∈ t, n < 256 := by
  unfold rquo at h
  split at h
  · cases h
  split at h
  · cases h
  cases h
  exact unq2_lt _
/-- A row of bytes, as a text. -/
theorem row_txx {w : World} {B : Nat} {ta : Option Addr} {tc : Nat} {t : List Nat} (h : w.ownsRow B 5 1 (.slice ta t.length tc) t.length (bytesV t)) (ht : ∀ n ∈ t, n < 256) (hl : t.length ≤ 140737488355328) : Txx w (fun b => B ≤ b ∧ b < w.heap.size) (.slice ta (unNums t).length tc) (unNums t) := by
  have hlen : (unNums t).length = t.length := by simp [unNums]
  rcases h.2 with ⟨h0, h1⟩ | ⟨g, cap, cur, hv, hbg, hg, hcap, _⟩
  · obtain ⟨rfl, _, rfl⟩ : ta = none ∧ t.length = 0 ∧ tc = 0 := by simpa using h0
    obtain rfl := List.eq_nil_of_length_eq_zero h1
    exact ⟨none, 0, rfl, Nat.le_refl _, by decide, fun i c hi => by cases hi⟩
  · obtain ⟨rfl, rfl⟩ : ta = some ⟨g, 0, none⟩ ∧ tc = cap := by simpa using hv
    refine ⟨_, tc, rfl, by rw [hlen]; exact hcap, by rw [hlen]; exact hl, fun i c hi => ⟨g, 0, rfl, ⟨hbg, (Array.getElem?_eq_some_iff.1 hg).1⟩, ⟨⟨_, _, hg⟩, fun q => h.frozenAt q⟩, ?_⟩⟩
    have hlt := (List.getElem?_eq_some_iff.1 hi).1
    rw [hlen] at hlt
    have hc : c = UInt8.ofNat t[i] := by
      unfold unNums at hi
      rw [List.getElem?_map, List.getElem?_eq_getElem hlt] at hi
      simpa using hi.symm
    have h2 : (bytesV t)[i]? = some (.int .u8 (t[i] : Int)) := by unfold bytesV; rw [List.getElem?_map, List.getElem?_eq_getElem hlt]; rfl
    have h3 := (own_cell h h2).1
    rw [Nat.zero_add, h3, hc, UInt8.toNat_ofNat']
    have := ht t[i] (List.getElem_mem hlt)
    rw [Nat.mod_eq_of_lt (by omega)]
end Go.Proofs.YtlkcadibjmfmcaaDoor
