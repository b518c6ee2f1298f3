/- A tree with another part in its place: plain; a tree in memory with a place that is to be written. -/
import Derived.Test.YtlnlkbkmnkjbhaaDoorKk
namespace Go.Proofs.YtlnlkbkmnkjbhaaDoor
open Go.RowKit

/-- A tree with another one where a path leads. -/
def putP : Tr → List Int → Tr → Option Tr
  | _, [], s => some s
  | d, v :: ps, s => (kidAt d v).bind (fun x => (putP x ps s).map (fun y => .mk d.rule d.byte (d.kids.set v.toNat y)))
theorem kidAt_some {d x : Tr} {v : Int} (h : kidAt d v = some x) : 0 ≤ v ∧ d.kids[v.toNat]? = some x := by
  unfold kidAt at h
  split at h
  · rename_i h0; exact ⟨h0, h⟩
  · cases h
theorem putP_none : ∀ {ps : List Int} {d : Tr} (s : Tr), atP d ps = none → putP d ps s = none
  | [], d, s, h => by rw [atP] at h; cases h
  | v :: ps, d, s, h => by
    rw [atP] at h
    rw [putP]
    cases hk : kidAt d v with
    | none => rfl
    | some x =>
      rw [hk] at h
      simp only [Option.bind_some] at h ⊢
      rw [putP_none s h]; rfl
theorem putP_some : ∀ {ps : List Int} {d x : Tr} (s : Tr), atP d ps = some x → ∃ d', putP d ps s = some d'
  | [], d, x, s, h => ⟨s, rfl⟩
  | v :: ps, d, x, s, h => by
    rw [atP] at h
    rw [putP]
    cases hk : kidAt d v with
    | none => rw [hk] at h; cases h
    | some y =>
      rw [hk] at h
      simp only [Option.bind_some] at h ⊢
      obtain ⟨d', hd'⟩ := putP_some s h
      rw [hd']; exact ⟨_, rfl⟩
theorem put_cons {v : Int} {ps : List Int} {d s d' : Tr} (h : putP d (v :: ps) s = some d') : ∃ x y, kidAt d v = some x ∧ putP x ps s = some y ∧ d' = .mk d.rule d.byte (d.kids.set v.toNat y) := by
  rw [putP] at h
  cases hk : kidAt d v with
  | none => rw [hk] at h; cases h
  | some x =>
    rw [hk] at h
    simp only [Option.bind_some] at h
    cases hp : putP x ps s with
    | none => rw [hp] at h; cases h
    | some y => rw [hp] at h; cases h; exact ⟨x, y, rfl, hp, rfl⟩
theorem kid_set {d x y : Tr} {v : Int} (h : kidAt d v = some x) : kidAt (.mk d.rule d.byte (d.kids.set v.toNat y)) v = some y := by
  obtain ⟨h0, h1⟩ := kidAt_some h
  have hlt := (List.getElem?_eq_some_iff.1 h1).1
  unfold kidAt
  rw [if_pos h0]
  show (d.kids.set v.toNat y)[v.toNat]? = some y
  rw [List.getElem?_set_self hlt]
/-- What is put is there. -/
theorem put_at : ∀ {ps : List Int} {d s d' : Tr}, putP d ps s = some d' → atP d' ps = some s
  | [], d, s, d', h => by rw [putP] at h; cases h; rfl
  | v :: ps, d, s, d', h => by
    obtain ⟨x, y, h1, h2, rfl⟩ := put_cons h
    rw [atP, kid_set h1]
    exact put_at h2
/-- What is put back leaves all as it was. -/
theorem put_back : ∀ {ps : List Int} {d s d' old : Tr}, atP d ps = some old → putP d ps s = some d' → putP d' ps old = some d
  | [], d, s, d', old, h, h' => by rw [atP] at h; cases h; rfl
  | v :: ps, d, s, d', old, h, h' => by
    obtain ⟨x, y, h1, h2, rfl⟩ := put_cons h'
    rw [atP, h1] at h
    rw [putP, kid_set h1]
    simp only [Option.bind_some] at h ⊢
    rw [put_back h h2]
    obtain ⟨h0, h3⟩ := kidAt_some h1
    obtain ⟨r, b, l⟩ := d
    simp only [Option.map_some, Tr.rule, Tr.byte, Tr.kids, List.set_set] at h3 ⊢
    obtain ⟨hlt, e⟩ := List.getElem?_eq_some_iff.1 h3
    rw [← e, List.set_getElem_self]
theorem put_same {ps : List Int} {d old : Tr} (h : atP d ps = some old) : putP d ps old = some d := by
  obtain ⟨d', h'⟩ := putP_some old h
  have h2 := put_back h h'
  have h3 := put_back (put_at h') h2
  have : d' = d := by
    clear h2 h3
    induction ps generalizing d d' with
    | nil => rw [atP] at h; rw [putP] at h'; cases h; cases h'; rfl
    | cons v ps ih =>
      obtain ⟨x, y, h1, h2, rfl⟩ := put_cons h'
      rw [atP, h1] at h
      simp only [Option.bind_some] at h
      have e := ih h y h2
      subst e
      obtain ⟨h0, h3⟩ := kidAt_some h1
      obtain ⟨r, b, l⟩ := d
      simp only [Tr.rule, Tr.byte, Tr.kids] at h3 ⊢
      obtain ⟨hlt, e⟩ := List.getElem?_eq_some_iff.1 h3
      rw [← e, List.set_getElem_self]
  rw [h', this]
theorem szL_set : ∀ {l : List Tr} {i : Nat} {x : Tr} (y : Tr), l[i]? = some x → szL (l.set i y) + sz x = szL l + sz y
  | [], i, x, y, h => by cases h
  | d :: l, 0, x, y, h => by cases h; rw [List.set_cons_zero, szL, szL]; omega
  | d :: l, i + 1, x, y, h => by
    have := szL_set (l := l) (i := i) y h
    rw [List.set_cons_succ, szL, szL]; omega
theorem put_sz : ∀ {ps : List Int} {d s d' : Tr}, putP d ps s = some d' → sz d' ≤ sz d + sz s
  | [], d, s, d', h => by rw [putP] at h; cases h; omega
  | v :: ps, d, s, d', h => by
    obtain ⟨x, y, h1, h2, rfl⟩ := put_cons h
    have h3 := put_sz h2
    have h4 := szL_set y (kidAt_some h1).2
    rw [sz, sz_eq d]; omega
theorem at_sz : ∀ {ps : List Int} {d x : Tr}, atP d ps = some x → sz x ≤ sz d
  | [], d, x, h => by rw [atP] at h; cases h; omega
  | v :: ps, d, x, h => by
    rw [atP] at h
    cases hk : kidAt d v with
    | none => rw [hk] at h; cases h
    | some y =>
      rw [hk] at h
      have h1 := at_sz (ps := ps) h
      have h2 := szL_mem (kidAt_some hk).2
      rw [sz_eq d]; omega
/-- A tree's three cells. -/
def TCell (W : World) (b o : Nat) (d : Tr) (sa : Option Addr) (sc : Nat) : Prop := W.cell? ⟨b, o, none⟩ = some (.int .i64 d.rule) ∧ W.cell? ⟨b, o + 1, none⟩ = some (.int .u8 (d.byte.toNat : Int)) ∧ W.cell? ⟨b, o + 2, none⟩ = some (.slice sa d.kids.length sc)
/-- A tree in new memory along a path, up to a place that holds a part; all that lies beside is where it was. -/
def Hole (w : World) (f : Nat) (W : World) (pb po : Nat) (x : Tr) : List Int → Nat → Nat → Tr → Prop
  | [], b, o, d => b = pb ∧ o = po ∧ d = x ∧ w.heap.size ≤ b ∧ b < W.heap.size ∧ (∀ q, W.frozen? ⟨b, q, none⟩ = false) ∧ ∃ sa sc, TCell W b o d sa sc ∧ d.kids.length ≤ sc ∧ TAt w w.heap.size f sa d.kids
  | v :: vs, b, o, d => w.heap.size ≤ b ∧ b < W.heap.size ∧ ∃ g c y, TCell W b o d (some ⟨g, 0, none⟩) c ∧ b < g ∧ d.kids.length ≤ c ∧ d.kids.length * 40 ≤ 140737488355328 ∧ kidAt d v = some y ∧ (∀ j z, j ≠ v.toNat → d.kids[j]? = some z → ∃ za zc, TCell W g (j * 3) z za zc ∧ z.kids.length ≤ zc ∧ TAt w w.heap.size f za z.kids) ∧ Hole w f W pb po x vs g (v.toNat * 3) y
section
variable {w : World} {f : Nat} {W W' : World} {pb po : Nat} {x : Tr}
theorem Hole.lo : ∀ {vs : List Int} {b o : Nat} {d : Tr}, Hole w f W pb po x vs b o d → (b < pb ∨ (b = pb ∧ o = po ∧ vs = [])) ∧ w.heap.size ≤ b ∧ b < W.heap.size ∧ pb < W.heap.size
  | [], b, o, d, h => by
    obtain ⟨h1, h2, _, h3, h4, _⟩ := h
    exact ⟨.inr ⟨h1, h2, rfl⟩, h3, h4, by omega⟩
  | v :: vs, b, o, d, h => by
    obtain ⟨h1, h2, g, c, y, _, h3, _, _, _, _, h4⟩ := h
    obtain ⟨h5, _, _, h6⟩ := h4.lo
    exact ⟨.inl (by rcases h5 with h5 | h5 <;> omega), h1, h2, h6⟩
theorem Hole.here : ∀ {vs : List Int} {b o : Nat} {d : Tr}, Hole w f W pb po x vs b o d → (∃ xa xc, TCell W pb po x xa xc ∧ x.kids.length ≤ xc ∧ TAt w w.heap.size f xa x.kids) ∧ (∀ q, W.frozen? ⟨pb, q, none⟩ = false)
  | [], b, o, d, h => by
    obtain ⟨rfl, rfl, rfl, _, _, h1, h2⟩ := h
    exact ⟨h2, h1⟩
  | v :: vs, b, o, d, h => by
    obtain ⟨_, _, g, c, y, _, _, _, _, _, _, h4⟩ := h
    exact h4.here
/-- What is written there is the tree with it in the place. -/
theorem TAt.more {w : World} {B : Nat} {f : Nat} {a : Option Addr} {l : List Tr} (h : TAt w B f a l) : ∀ k, TAt w B (f + k) a l
  | 0 => h
  | k + 1 => (h.more k).up
theorem Hole.fill {s : Tr} {sa : Option Addr} {sc : Nat} (hk : ∀ b q, b < W.heap.size → ¬ (b = pb ∧ po ≤ q ∧ q < po + 3) → W'.cell? ⟨b, q, none⟩ = W.cell? ⟨b, q, none⟩) (hz : W.heap.size ≤ W'.heap.size) (hs : TCell W' pb po s sa sc) (hsc : s.kids.length ≤ sc) (hsk : TAt W' W'.heap.size f sa s.kids) (hb : Below w.heap.size w W') :
    ∀ {vs : List Int} {b o : Nat} {d : Tr}, Hole w f W pb po x vs b o d → ∃ d', putP d vs s = some d' ∧ TreeAt W' W'.heap.size (f + vs.length) b o d'
  | [], b, o, d, h => by
    obtain ⟨rfl, rfl, rfl, _, h1, _⟩ := h
    exact ⟨s, rfl, by omega, sa, sc, hs.1, hs.2.1, hs.2.2, hsc, hsk⟩
  | v :: vs, b, o, d, h => by
    obtain ⟨h1, h2, g, c, y, ⟨t0, t1, t2⟩, h3, h4, h5, h6, h7, h8⟩ := h
    obtain ⟨y', e1, hgl, ya, yc, y0, y1, y2, hyc, hyk⟩ := Hole.fill hk hz hs hsc hsk hb h8
    obtain ⟨l1, l2, l3, l4⟩ := h8.lo
    have hbp : b ≠ pb := by rcases l1 with l1 | l1 <;> omega
    obtain ⟨hv0, hv1⟩ := kidAt_some h6
    refine ⟨.mk d.rule d.byte (d.kids.set v.toNat y'), by rw [putP, h6]; simp only [Option.bind_some]; rw [e1]; rfl, by omega, some ⟨g, 0, none⟩, c, (hk b _ h2 (fun e => hbp e.1)).trans t0, (hk b _ h2 (fun e => hbp e.1)).trans t1, ?_, ?_, ?_⟩
    · show W'.cell? ⟨b, o + 2, none⟩ = some (Value.slice (some ⟨g, 0, none⟩) (d.kids.set v.toNat y').length c)
      rw [List.length_set]; exact (hk b _ h2 (fun e => hbp e.1)).trans t2
    · show (d.kids.set v.toNat y').length ≤ c
      rw [List.length_set]; exact h4
    · show TAt W' W'.heap.size (f + vs.length + 1) _ (d.kids.set v.toNat y')
      refine ⟨by rw [List.length_set]; exact h5, fun j z hj => ⟨g, 0, rfl, hgl, ?_⟩⟩
      by_cases hjv : j = v.toNat
      · subst hjv
        have hlt := (List.getElem?_eq_some_iff.1 hv1).1
        rw [List.getElem?_set_self hlt] at hj
        cases hj
        rw [Nat.zero_add]
        exact ⟨ya, yc, y0, y1, y2, hyc, hyk⟩
      · rw [List.getElem?_set_ne (fun e => hjv e.symm)] at hj
        obtain ⟨za, zc, ⟨z0, z1, z2⟩, hzc, hzk⟩ := h7 j z hjv hj
        have far : ∀ r, r < 3 → W'.cell? ⟨g, j * 3 + r, none⟩ = W.cell? ⟨g, j * 3 + r, none⟩ := fun r hr => hk g _ l3 (fun e => by
          rcases l1 with l1 | ⟨_, l1, _⟩
          · omega
          · omega)
        rw [Nat.zero_add]
        exact ⟨za, zc, (far 0 (by omega)).trans z0, (far 1 (by omega)).trans z1, (far 2 (by omega)).trans z2, hzc, ((hzk.keep hb).mono hb.size).more vs.length⟩
/-- One step further down. -/
theorem Hole.down {v : Int} {y : Tr} (hy : kidAt x v = some y) {g c : Nat} (hg : W.heap.size ≤ g) (hgl : g < W'.heap.size) (hk : ∀ b q, b < W.heap.size → ¬ (b = pb ∧ q = po + 2) → W'.cell? ⟨b, q, none⟩ = W.cell? ⟨b, q, none⟩) (hf : ∀ q, W'.frozen? ⟨g, q, none⟩ = false) (hn : W'.cell? ⟨pb, po + 2, none⟩ = some (.slice (some ⟨g, 0, none⟩) x.kids.length c)) (hc : x.kids.length ≤ c) (hl : x.kids.length * 40 ≤ 140737488355328) (hz : ∀ j z, x.kids[j]? = some z → ∃ za zc, TCell W' g (j * 3) z za zc ∧ z.kids.length ≤ zc ∧ TAt w w.heap.size f za z.kids) :
    ∀ {vs : List Int} {b o : Nat} {d : Tr}, Hole w f W pb po x vs b o d → Hole w f W' g (v.toNat * 3) y (vs ++ [v]) b o d
  | [], b, o, d, h => by
    obtain ⟨rfl, rfl, rfl, h1, h2, _, sa, sc, ⟨t0, t1, _⟩, _, _⟩ := h
    refine ⟨h1, by omega, g, c, y, ⟨(hk b _ h2 (by omega)).trans t0, (hk b _ h2 (by omega)).trans t1, hn⟩, by omega, hc, hl, hy, fun j z _ hj => hz j z hj, ?_⟩
    exact ⟨rfl, rfl, rfl, by omega, hgl, hf, hz _ _ (kidAt_some hy).2⟩
  | u :: vs, b, o, d, h => by
    obtain ⟨h1, h2, g', c', y', ⟨t0, t1, t2⟩, h3, h4, h5, h6, h7, h8⟩ := h
    obtain ⟨l1, l2, l3, l4⟩ := h8.lo
    have hbp : b ≠ pb := by rcases l1 with l1 | l1 <;> omega
    refine ⟨h1, by omega, g', c', y', ⟨(hk b _ h2 (fun e => hbp e.1)).trans t0, (hk b _ h2 (fun e => hbp e.1)).trans t1, (hk b _ h2 (fun e => hbp e.1)).trans t2⟩, h3, h4, h5, h6, fun j z hj hjz => ?_, Hole.down hy hg hgl hk hf hn hc hl hz h8⟩
    obtain ⟨za, zc, ⟨z0, z1, z2⟩, hzc, hzk⟩ := h7 j z hj hjz
    have far : ∀ r, r < 3 → W'.cell? ⟨g', j * 3 + r, none⟩ = W.cell? ⟨g', j * 3 + r, none⟩ := fun r hr => hk g' _ l3 (fun e => by
      rcases l1 with l1 | ⟨_, l1, _⟩
      · omega
      · omega)
    exact ⟨za, zc, ⟨(far 0 (by omega)).trans z0, (far 1 (by omega)).trans z1, (far 2 (by omega)).trans z2⟩, hzc, hzk⟩
end
end Go.Proofs.YtlnlkbkmnkjbhaaDoor
