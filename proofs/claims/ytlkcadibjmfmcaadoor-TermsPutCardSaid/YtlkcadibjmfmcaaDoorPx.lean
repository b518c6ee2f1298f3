/- Pu, Pv, Pw, Px in one. -/
import Derived.Test.YtlkcadibjmfmcaaDoorKf
/- A term with another part in its place: plain; a term in memory with a place that is to be written. -/
namespace Go.Proofs.YtlkcadibjmfmcaaDoor
open Go.RowKit

/-- A tree with another one where a path leads. -/
def putP : Tm → List Int → Tm → Option Tm
  | _, [], s => some s
  | d, v :: ps, s => (kidAt d v).bind (fun x => (putP x ps s).map (fun y => .mk d.kind d.cons d.text (d.kids.set v.toNat y)))
theorem kidAt_some {d x : Tm} {v : Int} (h : kidAt d v = some x) : 0 ≤ v ∧ d.kids[v.toNat]? = some x := by
  unfold kidAt at h
  split at h
  · rename_i h0; exact ⟨h0, h⟩
  · cases h
theorem putP_none : ∀ {ps : List Int} {d : Tm} (s : Tm), atP d ps = none → putP d ps s = none
  | [], d, s, h => by rw [atP] at h; cases h
  | v :: ps, d, s, h => by
    rw [atP] at h
    rw [putP]
    cases hk : kidAt d v with
    | none => rfl
    | some x =>
      rw [hk] at h
      simp only [Option.bind_some] at h ⊢
      rw [putP_none s h]; rfl
theorem putP_some : ∀ {ps : List Int} {d x : Tm} (s : Tm), atP d ps = some x → ∃ d', putP d ps s = some d'
  | [], d, x, s, h => ⟨s, rfl⟩
  | v :: ps, d, x, s, h => by
    rw [atP] at h
    rw [putP]
    cases hk : kidAt d v with
    | none => rw [hk] at h; cases h
    | some y =>
      rw [hk] at h
      simp only [Option.bind_some] at h ⊢
      obtain ⟨d', hd'⟩ := putP_some s h
      rw [hd']; exact ⟨_, rfl⟩
theorem put_cons {v : Int} {ps : List Int} {d s d' : Tm} (h : putP d (v :: ps) s = some d') : ∃ x y, kidAt d v = some x ∧ putP x ps s = some y ∧ d' = .mk d.kind d.cons d.text (d.kids.set v.toNat y) := by
  rw [putP] at h
  cases hk : kidAt d v with
  | none => rw [hk] at h; cases h
  | some x =>
    rw [hk] at h
    simp only [Option.bind_some] at h
    cases hp : putP x ps s with
    | none => rw [hp] at h; cases h
    | some y => rw [hp] at h; cases h; exact ⟨x, y, rfl, hp, rfl⟩
theorem kid_set {d x y : Tm} {v : Int} (h : kidAt d v = some x) : kidAt (.mk d.kind d.cons d.text (d.kids.set v.toNat y)) v = some y := by
  obtain ⟨h0, h1⟩ := kidAt_some h
  have hlt := (List.getElem?_eq_some_iff.1 h1).1
  unfold kidAt
  rw [if_pos h0]
  show (d.kids.set v.toNat y)[v.toNat]? = some y
  rw [List.getElem?_set_self hlt]
/-- What is put is there. -/
theorem put_at : ∀ {ps : List Int} {d s d' : Tm}, putP d ps s = some d' → atP d' ps = some s
  | [], d, s, d', h => by rw [putP] at h; cases h; rfl
  | v :: ps, d, s, d', h => by
    obtain ⟨x, y, h1, h2, rfl⟩ := put_cons h
    rw [atP, kid_set h1]
    exact put_at h2
/-- What is put back leaves all as it was. -/
theorem put_back : ∀ {ps : List Int} {d s d' old : Tm}, atP d ps = some old → putP d ps s = some d' → putP d' ps old = some d
  | [], d, s, d', old, h, h' => by rw [atP] at h; cases h; rfl
  | v :: ps, d, s, d', old, h, h' => by
    obtain ⟨x, y, h1, h2, rfl⟩ := put_cons h'
    rw [atP, h1] at h
    rw [putP, kid_set h1]
    simp only [Option.bind_some] at h ⊢
    rw [put_back h h2]
    obtain ⟨h0, h3⟩ := kidAt_some h1
    obtain ⟨r, b, tt, l⟩ := d
    simp only [Option.map_some, Tm.kind, Tm.cons, Tm.text, Tm.kids, List.set_set] at h3 ⊢
    obtain ⟨hlt, e⟩ := List.getElem?_eq_some_iff.1 h3
    rw [← e, List.set_getElem_self]
theorem put_same {ps : List Int} {d old : Tm} (h : atP d ps = some old) : putP d ps old = some d := by
  obtain ⟨d', h'⟩ := putP_some old h
  have h2 := put_back h h'
  have h3 := put_back (put_at h') h2
  have : d' = d := by
    clear h2 h3
    induction ps generalizing d d' with
    | nil => rw [atP] at h; rw [putP] at h'; cases h; cases h'; rfl
    | cons v ps ih =>
      obtain ⟨x, y, h1, h2, rfl⟩ := put_cons h'
      rw [atP, h1] at h
      simp only [Option.bind_some] at h
      have e := ih h y h2
      subst e
      obtain ⟨h0, h3⟩ := kidAt_some h1
      obtain ⟨r, b, tt, l⟩ := d
      simp only [Tm.kind, Tm.cons, Tm.text, Tm.kids] at h3 ⊢
      obtain ⟨hlt, e⟩ := List.getElem?_eq_some_iff.1 h3
      rw [← e, List.set_getElem_self]
  rw [h', this]
theorem szL_set : ∀ {l : List Tm} {i : Nat} {x : Tm} (y : Tm), l[i]? = some x → szL (l.set i y) + sz x = szL l + sz y
  | [], i, x, y, h => by cases h
  | d :: l, 0, x, y, h => by cases h; rw [List.set_cons_zero, szL, szL]; omega
  | d :: l, i + 1, x, y, h => by
    have := szL_set (l := l) (i := i) y h
    rw [List.set_cons_succ, szL, szL]; omega
theorem put_sz : ∀ {ps : List Int} {d s d' : Tm}, putP d ps s = some d' → sz d' ≤ sz d + sz s
  | [], d, s, d', h => by rw [putP] at h; cases h; omega
  | v :: ps, d, s, d', h => by
    obtain ⟨x, y, h1, h2, rfl⟩ := put_cons h
    have h3 := put_sz h2
    have h4 := szL_set y (kidAt_some h1).2
    rw [sz, sz_eq d]; omega
theorem at_sz : ∀ {ps : List Int} {d x : Tm}, atP d ps = some x → sz x ≤ sz d
  | [], d, x, h => by rw [atP] at h; cases h; omega
  | v :: ps, d, x, h => by
    rw [atP] at h
    cases hk : kidAt d v with
    | none => rw [hk] at h; cases h
    | some y =>
      rw [hk] at h
      have h1 := at_sz (ps := ps) h
      have h2 := szL_mem (kidAt_some hk).2
      rw [sz_eq d]; omega
/-- A term's four cells, its text where it was. -/
def TCell (w W : World) (b o : Nat) (d : Tm) (sa : Option Addr) (sc : Nat) : Prop := W.cell? ⟨b, o, none⟩ = some (.int .i64 d.kind) ∧ W.cell? ⟨b, o + 1, none⟩ = some (.string d.cons) ∧ (∃ tv, W.cell? ⟨b, o + 2, none⟩ = some tv ∧ Txt w w.heap.size tv d.text) ∧ W.cell? ⟨b, o + 3, none⟩ = some (.slice sa d.kids.length sc)
/-- A tree in new memory along a path, up to a place that holds a part; all that lies beside is where it was. -/
def Hole (w : World) (f : Nat) (W : World) (pb po : Nat) (x : Tm) : List Int → Nat → Nat → Tm → Prop
  | [], b, o, d => b = pb ∧ o = po ∧ d = x ∧ w.heap.size ≤ b ∧ b < W.heap.size ∧ (∀ q, W.frozen? ⟨b, q, none⟩ = false) ∧ ∃ sa sc, TCell w W b o d sa sc ∧ d.kids.length ≤ sc ∧ MAt w w.heap.size f sa d.kids
  | v :: vs, b, o, d => w.heap.size ≤ b ∧ b < W.heap.size ∧ ∃ g c y, TCell w W b o d (some ⟨g, 0, none⟩) c ∧ b < g ∧ d.kids.length ≤ c ∧ d.kids.length * 72 ≤ 140737488355328 ∧ kidAt d v = some y ∧ (∀ j z, j ≠ v.toNat → d.kids[j]? = some z → ∃ za zc, TCell w W g (j * 4) z za zc ∧ z.kids.length ≤ zc ∧ MAt w w.heap.size f za z.kids) ∧ Hole w f W pb po x vs g (v.toNat * 4) y
section
variable {w : World} {f : Nat} {W W' : World} {pb po : Nat} {x : Tm}
theorem Hole.lo : ∀ {vs : List Int} {b o : Nat} {d : Tm}, Hole w f W pb po x vs b o d → (b < pb ∨ (b = pb ∧ o = po ∧ vs = [])) ∧ w.heap.size ≤ b ∧ b < W.heap.size ∧ pb < W.heap.size
  | [], b, o, d, h => by
    obtain ⟨h1, h2, _, h3, h4, _⟩ := h
    exact ⟨.inr ⟨h1, h2, rfl⟩, h3, h4, by omega⟩
  | v :: vs, b, o, d, h => by
    obtain ⟨h1, h2, g, c, y, _, h3, _, _, _, _, h4⟩ := h
    obtain ⟨h5, _, _, h6⟩ := h4.lo
    exact ⟨.inl (by rcases h5 with h5 | h5 <;> omega), h1, h2, h6⟩
theorem Hole.here : ∀ {vs : List Int} {b o : Nat} {d : Tm}, Hole w f W pb po x vs b o d → (∃ xa xc, TCell w W pb po x xa xc ∧ x.kids.length ≤ xc ∧ MAt w w.heap.size f xa x.kids) ∧ (∀ q, W.frozen? ⟨pb, q, none⟩ = false)
  | [], b, o, d, h => by
    obtain ⟨rfl, rfl, rfl, _, _, h1, h2⟩ := h
    exact ⟨h2, h1⟩
  | v :: vs, b, o, d, h => by
    obtain ⟨_, _, g, c, y, _, _, _, _, _, _, h4⟩ := h
    exact h4.here
/-- What is written there is the tree with it in the place. -/
theorem MAt.more {w : World} {B : Nat} {f : Nat} {a : Option Addr} {l : List Tm} (h : MAt w B f a l) : ∀ k, MAt w B (f + k) a l
  | 0 => h
  | k + 1 => (h.more k).up
theorem Hole.fill {s : Tm} {sa : Option Addr} {sc : Nat} (hk : ∀ b q, b < W.heap.size → ¬ (b = pb ∧ po ≤ q ∧ q < po + 4) → W'.cell? ⟨b, q, none⟩ = W.cell? ⟨b, q, none⟩) (hz : W.heap.size ≤ W'.heap.size) (hs : TCell w W' pb po s sa sc) (hsc : s.kids.length ≤ sc) (hsk : MAt W' W'.heap.size f sa s.kids) (hb : Below w.heap.size w W') :
    ∀ {vs : List Int} {b o : Nat} {d : Tm}, Hole w f W pb po x vs b o d → ∃ d', putP d vs s = some d' ∧ TermAt W' W'.heap.size (f + vs.length) b o d'
  | [], b, o, d, h => by
    obtain ⟨rfl, rfl, rfl, _, h1, _⟩ := h
    obtain ⟨s0, s1, ⟨tv, s2, st⟩, s3⟩ := hs
    exact ⟨s, rfl, by omega, sa, sc, s0, s1, (st.keep hb).cell hb.size s2, s3, hsc, hsk⟩
  | v :: vs, b, o, d, h => by
    obtain ⟨h1, h2, g, c, y, ⟨t0, t1, ⟨tv, t2, tt⟩, t3⟩, h3, h4, h5, h6, h7, h8⟩ := h
    obtain ⟨y', e1, hgl, ya, yc, y0, y1, y2, y3, hyc, hyk⟩ := Hole.fill hk hz hs hsc hsk hb h8
    obtain ⟨l1, l2, l3, l4⟩ := h8.lo
    have hbp : b ≠ pb := by rcases l1 with l1 | l1 <;> omega
    obtain ⟨hv0, hv1⟩ := kidAt_some h6
    refine ⟨.mk d.kind d.cons d.text (d.kids.set v.toNat y'), by rw [putP, h6]; simp only [Option.bind_some]; rw [e1]; rfl, by omega, some ⟨g, 0, none⟩, c, (hk b _ h2 (fun e => hbp e.1)).trans t0, (hk b _ h2 (fun e => hbp e.1)).trans t1, (tt.keep hb).cell hb.size ((hk b _ h2 (fun e => hbp e.1)).trans t2), ?_, ?_, ?_⟩
    · show W'.cell? ⟨b, o + 3, none⟩ = some (Value.slice (some ⟨g, 0, none⟩) (d.kids.set v.toNat y').length c)
      rw [List.length_set]; exact (hk b _ h2 (fun e => hbp e.1)).trans t3
    · show (d.kids.set v.toNat y').length ≤ c
      rw [List.length_set]; exact h4
    · show MAt W' W'.heap.size (f + vs.length + 1) _ (d.kids.set v.toNat y')
      refine ⟨by rw [List.length_set]; exact h5, fun j z hj => ⟨g, 0, rfl, hgl, ?_⟩⟩
      by_cases hjv : j = v.toNat
      · subst hjv
        have hlt := (List.getElem?_eq_some_iff.1 hv1).1
        rw [List.getElem?_set_self hlt] at hj
        cases hj
        rw [Nat.zero_add]
        exact ⟨ya, yc, y0, y1, y2, y3, hyc, hyk⟩
      · rw [List.getElem?_set_ne (fun e => hjv e.symm)] at hj
        obtain ⟨za, zc, ⟨z0, z1, ⟨zt, z2, ztt⟩, z3⟩, hzc, hzk⟩ := h7 j z hjv hj
        have far : ∀ r, r < 4 → W'.cell? ⟨g, j * 4 + r, none⟩ = W.cell? ⟨g, j * 4 + r, none⟩ := fun r hr => hk g _ l3 (fun e => by
          rcases l1 with l1 | ⟨_, l1, _⟩
          · omega
          · omega)
        rw [Nat.zero_add]
        exact ⟨za, zc, (far 0 (by omega)).trans z0, (far 1 (by omega)).trans z1, (ztt.keep hb).cell hb.size ((far 2 (by omega)).trans z2), (far 3 (by omega)).trans z3, hzc, ((hzk.keep hb).mono hb.size).more vs.length⟩
/-- One step further down. -/
theorem Hole.down {v : Int} {y : Tm} (hy : kidAt x v = some y) {g c : Nat} (hg : W.heap.size ≤ g) (hgl : g < W'.heap.size) (hk : ∀ b q, b < W.heap.size → ¬ (b = pb ∧ q = po + 3) → W'.cell? ⟨b, q, none⟩ = W.cell? ⟨b, q, none⟩) (hf : ∀ q, W'.frozen? ⟨g, q, none⟩ = false) (hn : W'.cell? ⟨pb, po + 3, none⟩ = some (.slice (some ⟨g, 0, none⟩) x.kids.length c)) (hc : x.kids.length ≤ c) (hl : x.kids.length * 72 ≤ 140737488355328) (hz : ∀ j z, x.kids[j]? = some z → ∃ za zc, TCell w W' g (j * 4) z za zc ∧ z.kids.length ≤ zc ∧ MAt w w.heap.size f za z.kids) :
    ∀ {vs : List Int} {b o : Nat} {d : Tm}, Hole w f W pb po x vs b o d → Hole w f W' g (v.toNat * 4) y (vs ++ [v]) b o d
  | [], b, o, d, h => by
    obtain ⟨rfl, rfl, rfl, h1, h2, _, sa, sc, ⟨t0, t1, ⟨tv, t2, tt⟩, _⟩, _, _⟩ := h
    refine ⟨h1, by omega, g, c, y, ⟨(hk b _ h2 (by omega)).trans t0, (hk b _ h2 (by omega)).trans t1, ⟨tv, (hk b _ h2 (by omega)).trans t2, tt⟩, hn⟩, by omega, hc, hl, hy, fun j z _ hj => hz j z hj, ?_⟩
    exact ⟨rfl, rfl, rfl, by omega, hgl, hf, hz _ _ (kidAt_some hy).2⟩
  | u :: vs, b, o, d, h => by
    obtain ⟨h1, h2, g', c', y', ⟨t0, t1, ⟨tv, t2, tt⟩, t3⟩, h3, h4, h5, h6, h7, h8⟩ := h
    obtain ⟨l1, l2, l3, l4⟩ := h8.lo
    have hbp : b ≠ pb := by rcases l1 with l1 | l1 <;> omega
    refine ⟨h1, by omega, g', c', y', ⟨(hk b _ h2 (fun e => hbp e.1)).trans t0, (hk b _ h2 (fun e => hbp e.1)).trans t1, ⟨tv, (hk b _ h2 (fun e => hbp e.1)).trans t2, tt⟩, (hk b _ h2 (fun e => hbp e.1)).trans t3⟩, h3, h4, h5, h6, fun j z hj hjz => ?_, Hole.down hy hg hgl hk hf hn hc hl hz h8⟩
    obtain ⟨za, zc, ⟨z0, z1, ⟨zt, z2, ztt⟩, z3⟩, hzc, hzk⟩ := h7 j z hj hjz
    have far : ∀ r, r < 4 → W'.cell? ⟨g', j * 4 + r, none⟩ = W.cell? ⟨g', j * 4 + r, none⟩ := fun r hr => hk g' _ l3 (fun e => by
      rcases l1 with l1 | ⟨_, l1, _⟩
      · omega
      · omega)
    exact ⟨za, zc, ⟨(far 0 (by omega)).trans z0, (far 1 (by omega)).trans z1, ⟨zt, (far 2 (by omega)).trans z2, ztt⟩, (far 3 (by omega)).trans z3⟩, hzc, hzk⟩
end
end Go.Proofs.YtlkcadibjmfmcaaDoor

/- A term with another part in its place: slices.Clone; while a path is followed. -/
namespace Go.Proofs.YtlkcadibjmfmcaaDoor
open Go.RowKit

theorem cell_new_out (w : World) (cs : Array Value) (t : TypeId) (q : Nat) (h : cs.size ≤ q) : (w.alloc (.cells cs t)).cell? ⟨w.heap.size, q, none⟩ = none := by
  have e : (w.alloc (.cells cs t)).heap[w.heap.size]? = some (.cells cs t) := World.alloc_heap_new _ _
  unfold World.cell?
  show (match (w.alloc (.cells cs t)).heap[w.heap.size]? with | some (.cells c _ _) => _ | _ => none) = none
  rw [e]
  exact Array.getElem?_eq_none h

theorem nil_eq (ad : Addr) (n c : Nat) (w : World) : (Go.binOp .eql 23 (.slice (some ad) n c) (.slice none 0 0)).run Tryd.prog w = .ok (.bool false) w := by kernel_rfl
set_option maxRecDepth 100000 in
set_option maxHeartbeats 4000000 in
theorem lclone_any (w0 : World) (l : List Tm) (a : Option Addr) (c f : Nat) (w : World) (hk : MAt w0 w0.heap.size f a l) (hb : Below w0.heap.size w0 w) (hpos : 0 < l.length) :
    Calls Tryd.prog 61 #[.slice a l.length c] w fun e w' => (∃ g cap, e = .returned (.slice (some ⟨g, 0, none⟩) l.length cap) ∧ l.length ≤ cap ∧ w.heap.size ≤ g ∧ g < w'.heap.size ∧ (∀ q, w'.frozen? ⟨g, q, none⟩ = false) ∧ ∀ j z, l[j]? = some z → ∃ za zc, TCell w0 w' g (j * 4) z za zc ∧ z.kids.length ≤ zc ∧ MAt w0 w0.heap.size f za z.kids) ∧ Below w.heap.size w w' := by
  obtain ⟨i0, hinf, hz0, hz1, hz2⟩ := info_parts infoTerm
  cases f with
  | zero => cases (show l = [] from hk); simp at hpos
  | succ f =>
  obtain ⟨x0, hx0⟩ : ∃ x, l[0]? = some x := ⟨l[0], by simp⟩
  obtain ⟨b, o, rfl, hlt, _⟩ := hk.2 0 x0 hx0
  obtain ⟨news, hnl, hnc, hno, hnk⟩ := kid_cells hk
  have hl72 := hk.1
  have key : ∀ j z, l[j]? = some z → news[j * 4]? = some (.int .i64 z.kind) ∧ news[j * 4 + 1]? = some (.string z.cons) ∧ (∃ s, news[j * 4 + 2]? = some s ∧ Txt w0 w0.heap.size s z.text) ∧ ∃ za zc, news[j * 4 + 3]? = some (.slice za z.kids.length zc) ∧ z.kids.length ≤ zc ∧ MAt w0 w0.heap.size (f + 1) za z.kids := fun j z hj => by
    obtain ⟨h0, h1, ht, f', a', c', h2, h3, h4⟩ := hnk j z hj
    obtain ⟨b', o', e, _, sa, sc, c0, c1, c2, c3, hsc, hsk⟩ := hk.2 j z hj
    cases e
    have h5 := hnc _ _ h2
    rw [show b = b from rfl, show o + (j * 4 + 3) = o + j * 4 + 3 by omega, c3] at h5
    cases h5
    exact ⟨h0, h1, ht, _, _, h2, hsc, hsk.up⟩
  have hnc' : ∀ j u, news[j]? = some u → (w.alloc (.cells #[] 25)).cell? ((⟨b, o, none⟩ : Addr).add j) = some u := fun j u hu => by
    have hadd : (⟨b, o, none⟩ : Addr).add j = ⟨b, o + j, none⟩ := by unfold Addr.add; split <;> simp_all
    rw [hadd]
    exact ((((Below.refl _ w).alloc (Nat.le_refl _) (.cells #[] 25)).cell (p := ⟨b, o + j, none⟩) (Nat.lt_of_lt_of_le hlt hb.size)).trans (hb.cell (p := ⟨b, o + j, none⟩) hlt)).trans (hnc j u hu)
  have hrow : (w.alloc (.cells #[] 25)).ownsRow w.heap.size 25 4 (.slice (some ⟨w.heap.size, 0, none⟩) 0 0) 0 [] := World.ownsRow_made w #[] 0 (Nat.le_refl _) (by unfold maxLen; omega) rfl
  have HKY : Hid _ := key
  obtain ⟨n, hn⟩ : ∃ n, l.length = n := ⟨_, rfl⟩
  rw [hn] at hpos hl72 hnl ⊢
  have hne := fun W => nil_eq ⟨b, o, none⟩ n c W
  clear hnk hnc hk key hx0 hn
  go_enter Tryd.func61, Tryd.ntmps61
  go_wp2_with (at_builtin; refine wpList_append_lies _ rfl _ _ 23 rfl w.heap.size 25 i0 _ 4 72 Tryd.underlying23 hinf hz0 hz1 hz2 rfl (by decide) _ _ _ rfl hrow ⟨b, o, none⟩ n c news rfl hnl hnc' hno hpos ?ca3 ?ca4 ?ca5 (w.heap.size + 1) (by simp) ?_)
  case ca3 => unfold maxLen; omega
  case ca4 => omega
  case ca5 => simp
  intro g cap w7 hown hgrow hat hg7
  go_wp2
  go_ret
  have hgw : w.heap.size ≤ g := by
    rcases hat with h | h
    · simp [Value.ownBlock] at h; omega
    · omega
  have hcap : n ≤ cap ∧ ∃ cur, w7.heap[g]? = some (.cells cur 25 (0, 0)) := by
    rcases hown.2 with ⟨h, _⟩ | ⟨g', cap', cur, h, _, h2, h3, _⟩
    · cases h
    · cases h; exact ⟨h3, cur, h2⟩
  obtain ⟨hcap, cur, hcur⟩ := hcap
  have hs7 := hgrow.size
  have hsa : (w.alloc (.cells #[] 25)).heap.size = w.heap.size + 1 := by simp
  refine ⟨⟨g, cap, rfl, hcap, hgw, hg7, fun q => by simp [World.frozen?, hcur], fun j z hj => ?_⟩, ⟨hgrow.os, hgrow.tape, hgrow.output, by omega, fun b hb => (hgrow.block b (by omega) (by simp [Value.ownBlock]; omega)).trans (((Below.refl _ w).alloc (Nat.le_refl _) (.cells #[] 25)).block b hb)⟩⟩
  obtain ⟨k0, k1, ⟨zt, k2, ztt⟩, za, zc, k3, hzc, hzk⟩ := HKY.out j z hj
  have hlt0 := (List.getElem?_eq_some_iff.1 k3).1
  have kk : ∀ r u, r < 4 → news[j * 4 + r]? = some u → w7.cell? ⟨g, j * 4 + r, none⟩ = some u := fun r u hr hu => by
    have h := hown.cellAt (j * 4 + r) (by omega)
    rw [h]
    simpa using hu
  exact ⟨za, zc, ⟨kk 0 _ (by omega) k0, kk 1 _ (by omega) k1, ⟨zt, kk 2 _ (by omega) k2, ztt⟩, kk 3 _ (by omega) k3⟩, hzc, hzk⟩

/-- While a path is followed. -/
structure PtI (w : World) (d : Tm) (ps : List Int) (s : Tm) (st : Option Addr) (stc : Nat) (ta : Option Addr) (tc f k : Nat) (x : Tm) (pb po : Nat) (W : World) : Prop where
  le : k ≤ ps.length
  goes : atP x (ps.drop k) = atP d ps
  bel : Below w.heap.size w W
  hole : Hole w f W pb po x (ps.take k) w.heap.size 0 d
  far : pb = w.heap.size ∨ w.heap.size + 1 + 1 < pb
  s0 : W.cell? ⟨w.heap.size + 1, 0, none⟩ = some (.int .i64 s.kind)
  s1 : W.cell? ⟨w.heap.size + 1, 1, none⟩ = some (.string s.cons)
  s2 : W.cell? ⟨w.heap.size + 1, 2, none⟩ = some (.slice st s.text.length stc)
  s3 : W.cell? ⟨w.heap.size + 1, 3, none⟩ = some (.slice ta s.kids.length tc)
  r0 : W.cell? ⟨w.heap.size + 1 + 1, 0, none⟩ = some (.int .i64 0)
  r1 : W.cell? ⟨w.heap.size + 1 + 1, 1, none⟩ = some (.string ⟨#[]⟩)
  r2 : W.cell? ⟨w.heap.size + 1 + 1, 2, none⟩ = some (.slice none 0 0)
  r3 : W.cell? ⟨w.heap.size + 1 + 1, 3, none⟩ = some (.slice none 0 0)
  rb : ∀ q v, W.cell? ⟨w.heap.size + 1 + 1, q, none⟩ ≠ some (.int .u8 v)
  rf : ∀ q, W.frozen? ⟨w.heap.size + 1 + 1, q, none⟩ = false
  lt : w.heap.size + 1 + 1 < W.heap.size
theorem PtI.start (w : World) (d : Tm) (ps : List Int) (s : Tm) (dt st : Option Addr) (dtc stc : Nat) (sa ta : Option Addr) (sc tc f : Nat) (hdt : Txt w w.heap.size (.slice dt d.text.length dtc) d.text) (hk : MAt w w.heap.size f sa d.kids) (hsc : d.kids.length ≤ sc) : PtI w d ps s st stc ta tc f 0 d w.heap.size 0 (((w.alloc (.cells #[.int .i64 d.kind, .string d.cons, .slice dt d.text.length dtc, .slice sa d.kids.length sc] 25)).alloc (.cells #[.int .i64 s.kind, .string s.cons, .slice st s.text.length stc, .slice ta s.kids.length tc] 25)).alloc (.cells #[.int .i64 0, .string ⟨#[]⟩, .slice none 0 0, .slice none 0 0] 25)) := by
  obtain ⟨w1, hw1⟩ : ∃ w1, w.alloc (.cells #[.int .i64 d.kind, .string d.cons, .slice dt d.text.length dtc, .slice sa d.kids.length sc] 25) = w1 := ⟨_, rfl⟩
  obtain ⟨w2, hw2⟩ : ∃ w2, w1.alloc (.cells #[.int .i64 s.kind, .string s.cons, .slice st s.text.length stc, .slice ta s.kids.length tc] 25) = w2 := ⟨_, rfl⟩
  obtain ⟨w3, hw3⟩ : ∃ w3, w2.alloc (.cells #[.int .i64 0, .string ⟨#[]⟩, .slice none 0 0, .slice none 0 0] 25) = w3 := ⟨_, rfl⟩
  rw [hw1, hw2, hw3]
  have s1 : w1.heap.size = w.heap.size + 1 := by rw [← hw1]; simp
  have s2 : w2.heap.size = w.heap.size + 1 + 1 := by rw [← hw2]; simp [s1]
  have s3 : w3.heap.size = w.heap.size + 1 + 1 + 1 := by rw [← hw3]; simp [s2]
  have hB1 : Below w.heap.size w w1 := by rw [← hw1]; exact (Below.refl _ _).alloc (Nat.le_refl _) _
  have hB2 : Below w1.heap.size w1 w2 := by rw [← hw2]; exact (Below.refl _ _).alloc (Nat.le_refl _) _
  have hB3 : Below w2.heap.size w2 w3 := by rw [← hw3]; exact (Below.refl _ _).alloc (Nat.le_refl _) _
  have hB13 : Below w1.heap.size w1 w3 := hB2.trans (hB3.mono hB2.size)
  have c1 : ∀ j v, (#[.int .i64 d.kind, .string d.cons, .slice dt d.text.length dtc, .slice sa d.kids.length sc] : Array Value)[j]? = some v → w3.cell? ⟨w.heap.size, j, none⟩ = some v := fun j v hv => (hB13.cell (p := ⟨w.heap.size, j, none⟩) (by show w.heap.size < _; omega)).trans (by rw [← hw1]; exact cell_new j hv)
  have c2 : ∀ j v, (#[.int .i64 s.kind, .string s.cons, .slice st s.text.length stc, .slice ta s.kids.length tc] : Array Value)[j]? = some v → w3.cell? ⟨w.heap.size + 1, j, none⟩ = some v := fun j v hv => (hB3.cell (p := ⟨w.heap.size + 1, j, none⟩) (by show w.heap.size + 1 < _; omega)).trans (by rw [← hw2, ← s1]; exact cell_new j hv)
  have c3 : ∀ j v, (#[.int .i64 0, .string ⟨#[]⟩, .slice none 0 0, .slice none 0 0] : Array Value)[j]? = some v → w3.cell? ⟨w.heap.size + 1 + 1, j, none⟩ = some v := fun j v hv => by rw [← hw3, ← s2]; exact cell_new j hv
  have hf : ∀ q, w3.frozen? ⟨w.heap.size, q, none⟩ = false := fun q => (hB13.frozen (p := ⟨w.heap.size, q, none⟩) (by show w.heap.size < _; omega)).trans (by rw [← hw1]; exact World.frozen?_alloc_at _ _ _ _ rfl)
  have hrb : ∀ q v, w3.cell? ⟨w.heap.size + 1 + 1, q, none⟩ ≠ some (.int .u8 v) := fun q v h => by
    match q, h with
    | 0, h => rw [c3 0 _ rfl] at h; cases h
    | 1, h => rw [c3 1 _ rfl] at h; cases h
    | 2, h => rw [c3 2 _ rfl] at h; cases h
    | 3, h => rw [c3 3 _ rfl] at h; cases h
    | q + 4, h =>
      rw [← hw3, ← s2, cell_new_out _ _ _ _ (by simp)] at h
      cases h
  exact ⟨Nat.zero_le _, rfl, hB1.trans (hB13.mono (by omega)), ⟨rfl, rfl, rfl, Nat.le_refl _, by omega, hf, sa, sc, ⟨c1 0 _ rfl, c1 1 _ rfl, ⟨_, c1 2 _ rfl, hdt⟩, c1 3 _ rfl⟩, hsc, hk⟩, .inl rfl, c2 0 _ rfl, c2 1 _ rfl, c2 2 _ rfl, c2 3 _ rfl, c3 0 _ rfl, c3 1 _ rfl, c3 2 _ rfl, c3 3 _ rfl, hrb, fun q => by rw [← hw3, ← s2]; exact World.frozen?_alloc_at _ _ _ _ rfl, by omega⟩
theorem PtI.step {w : World} {d : Tm} {ps : List Int} {s : Tm} {st : Option Addr} {stc : Nat} {ta : Option Addr} {tc f k : Nat} {x : Tm} {pb po : Nat} {W : World} (h : PtI w d ps s st stc ta tc f k x pb po W) {v : Int} (hv : ps[k]? = some v) {y : Tm} (hy : kidAt x v = some y) {w5 : World} {g cap : Nat} (hb : Below W.heap.size W w5) (hcap : x.kids.length ≤ cap) (hg : W.heap.size ≤ g) (hgl : g < w5.heap.size) (hf : ∀ q, w5.frozen? ⟨g, q, none⟩ = false) (hl : x.kids.length * 72 ≤ 140737488355328) (hz : ∀ j z, x.kids[j]? = some z → ∃ za zc, TCell w w5 g (j * 4) z za zc ∧ z.kids.length ≤ zc ∧ MAt w w.heap.size f za z.kids) :
    PtI w d ps s st stc ta tc f (k + 1) y g (v.toNat * 4) (w5.setCell ⟨pb, po + 3, none⟩ (.slice (some ⟨g, 0, none⟩) x.kids.length cap)) := by
  have hlt : k < ps.length := (List.getElem?_eq_some_iff.1 hv).1
  obtain ⟨l1, l2, l3, l4⟩ := h.hole.lo
  obtain ⟨⟨xa, xc, ⟨x0, x1, ⟨xt, x2, xtt⟩, x3⟩, hxc, hxk⟩, hxf⟩ := h.hole.here
  have hpb : w.heap.size ≤ pb := by rcases h.far with e | e <;> omega
  have hW := h.lt
  obtain ⟨X, hX⟩ : ∃ X, w5.setCell ⟨pb, po + 3, none⟩ (.slice (some ⟨g, 0, none⟩) x.kids.length cap) = X := ⟨_, rfl⟩
  rw [hX]
  have hXs : X.heap.size = w5.heap.size := by rw [← hX]; simp [World.setCell]
  have far : ∀ b q, ¬ (b = pb ∧ q = po + 3) → X.cell? ⟨b, q, none⟩ = w5.cell? ⟨b, q, none⟩ := fun b q hne => by
    rw [← hX]; exact World.cell?_setCell_other _ _ _ _ (fun e => by cases e; exact hne ⟨rfl, rfl⟩)
  have same : X.cell? ⟨pb, po + 3, none⟩ = some (.slice (some ⟨g, 0, none⟩) x.kids.length cap) := by
    rw [← hX]; exact World.cell?_setCell_same' _ _ _ (by rw [hb.cell (p := ⟨pb, po + 3, none⟩) l4, x3]; rfl)
  have fz : ∀ b q, X.frozen? ⟨b, q, none⟩ = w5.frozen? ⟨b, q, none⟩ := fun b q => by rw [← hX, World.frozen?_setCell]
  have c5 : ∀ b q, b < W.heap.size → w5.cell? ⟨b, q, none⟩ = W.cell? ⟨b, q, none⟩ := fun b q hlt => hb.cell (p := ⟨b, q, none⟩) hlt
  have bX : Below w.heap.size w X := by rw [← hX]; exact (below_of h.bel hb).setCell hpb _
  have s1' : ∀ q, X.cell? ⟨w.heap.size + 1, q, none⟩ = W.cell? ⟨w.heap.size + 1, q, none⟩ := fun q => (far _ _ (fun e => by rcases h.far with e' | e' <;> omega)).trans (c5 _ _ (by omega))
  have s2' : ∀ q, X.cell? ⟨w.heap.size + 1 + 1, q, none⟩ = W.cell? ⟨w.heap.size + 1 + 1, q, none⟩ := fun q => (far _ _ (fun e => by rcases h.far with e' | e' <;> omega)).trans (c5 _ _ (by omega))
  refine ⟨hlt, ?_, bX, ?_, .inr (by omega), (s1' 0).trans h.s0, (s1' 1).trans h.s1, (s1' 2).trans h.s2, (s1' 3).trans h.s3, (s2' 0).trans h.r0, (s2' 1).trans h.r1, (s2' 2).trans h.r2, (s2' 3).trans h.r3, fun q v hq => h.rb q v ((s2' q).symm.trans hq), fun q => (fz _ _).trans ((hb.frozen (p := ⟨w.heap.size + 1 + 1, q, none⟩) hW).trans (h.rf q)), by have := hb.size; omega⟩
  · rw [← h.goes, atP_drop hv, hy]; rfl
  · have e : ps.take (k + 1) = ps.take k ++ [v] := by
      rw [List.take_add_one, hv]; rfl
    rw [e]
    refine Hole.down hy hg (by omega) (fun b q hlt hne => (far b q hne).trans (c5 b q hlt)) (fun q => (fz _ _).trans (hf q)) same hcap hl (fun j z hj => ?_) h.hole
    obtain ⟨za, zc, ⟨z0, z1, ⟨zt, z2, ztt⟩, z3⟩, hzc, hzk⟩ := hz j z hj
    exact ⟨za, zc, ⟨(far _ _ (by omega)).trans z0, (far _ _ (by omega)).trans z1, ⟨zt, (far _ _ (by omega)).trans z2, ztt⟩, (far _ _ (by omega)).trans z3⟩, hzc, hzk⟩
/-- The part is written. -/
theorem PtI.fill {w : World} {d : Tm} {ps : List Int} {s : Tm} {st : Option Addr} {stc : Nat} {ta : Option Addr} {tc f : Nat} {x : Tm} {pb po : Nat} {W X : World} (h : PtI w d ps s st stc ta tc f ps.length x pb po W) (hst : Txt w w.heap.size (.slice st s.text.length stc) s.text) (hsc : s.kids.length ≤ tc) (hsk : MAt w w.heap.size f ta s.kids) (hX : X = (((W.setCell ⟨pb, po, none⟩ (.int .i64 s.kind)).setCell ⟨pb, po + 1, none⟩ (.string s.cons)).setCell ⟨pb, po + 2, none⟩ (.slice st s.text.length stc)).setCell ⟨pb, po + 3, none⟩ (.slice ta s.kids.length tc)) :
    (∃ d', putP d ps s = some d' ∧ ∃ va vc da dc, (X.cell? ⟨w.heap.size, 0, none⟩ = some (.int .i64 d'.kind) ∧ X.cell? ⟨w.heap.size, 1, none⟩ = some (.string d'.cons) ∧ X.cell? ⟨w.heap.size, 2, none⟩ = some (.slice va d'.text.length vc) ∧ X.cell? ⟨w.heap.size, 3, none⟩ = some (.slice da d'.kids.length dc)) ∧ Txt X X.heap.size (.slice va d'.text.length vc) d'.text ∧ d'.kids.length ≤ dc ∧ MAt X X.heap.size (f + ps.length) da d'.kids) ∧ Below w.heap.size w X ∧ X.heap.size = W.heap.size ∧ (∀ q, X.cell? ⟨w.heap.size + 1 + 1, q, none⟩ = W.cell? ⟨w.heap.size + 1 + 1, q, none⟩) ∧ (∀ q, X.frozen? ⟨w.heap.size + 1 + 1, q, none⟩ = false) := by
  obtain ⟨⟨xa, xc, ⟨x0, x1, ⟨xt, x2, xtt⟩, x3⟩, hxc, hxk⟩, hxf⟩ := h.hole.here
  obtain ⟨l1, l2, l3, l4⟩ := h.hole.lo
  have hpb : w.heap.size ≤ pb := by rcases h.far with e | e <;> omega
  obtain ⟨A1, e1⟩ : ∃ A, W.setCell ⟨pb, po, none⟩ (.int .i64 s.kind) = A := ⟨_, rfl⟩
  obtain ⟨A2, e2⟩ : ∃ A, A1.setCell ⟨pb, po + 1, none⟩ (.string s.cons) = A := ⟨_, rfl⟩
  obtain ⟨A3, e3⟩ : ∃ A, A2.setCell ⟨pb, po + 2, none⟩ (.slice st s.text.length stc) = A := ⟨_, rfl⟩
  obtain ⟨A4, e4⟩ : ∃ A, A3.setCell ⟨pb, po + 3, none⟩ (.slice ta s.kids.length tc) = A := ⟨_, rfl⟩
  have hBX : Below w.heap.size w X := by rw [hX]; exact (((h.bel.setCell hpb _).setCell hpb _).setCell hpb _).setCell hpb _
  rw [e1, e2, e3, e4] at hX
  subst hX
  have z3 : X.heap.size = W.heap.size := by rw [← e4, ← e3, ← e2, ← e1]; simp [World.setCell]
  have fz : ∀ a, X.frozen? a = W.frozen? a := fun a => by rw [← e4, ← e3, ← e2, ← e1, World.frozen?_setCell, World.frozen?_setCell, World.frozen?_setCell, World.frozen?_setCell]
  have f1 : ∀ b q, ¬ (b = pb ∧ q = po) → A1.cell? ⟨b, q, none⟩ = W.cell? ⟨b, q, none⟩ := fun b q hne => by rw [← e1]; exact World.cell?_setCell_other _ _ _ _ (fun e => by cases e; exact hne ⟨rfl, rfl⟩)
  have f2 : ∀ b q, ¬ (b = pb ∧ q = po + 1) → A2.cell? ⟨b, q, none⟩ = A1.cell? ⟨b, q, none⟩ := fun b q hne => by rw [← e2]; exact World.cell?_setCell_other _ _ _ _ (fun e => by cases e; exact hne ⟨rfl, rfl⟩)
  have f3 : ∀ b q, ¬ (b = pb ∧ q = po + 2) → A3.cell? ⟨b, q, none⟩ = A2.cell? ⟨b, q, none⟩ := fun b q hne => by rw [← e3]; exact World.cell?_setCell_other _ _ _ _ (fun e => by cases e; exact hne ⟨rfl, rfl⟩)
  have f4 : ∀ b q, ¬ (b = pb ∧ q = po + 3) → X.cell? ⟨b, q, none⟩ = A3.cell? ⟨b, q, none⟩ := fun b q hne => by rw [← e4]; exact World.cell?_setCell_other _ _ _ _ (fun e => by cases e; exact hne ⟨rfl, rfl⟩)
  have k0 : A1.cell? ⟨pb, po, none⟩ = some (.int .i64 s.kind) := by rw [← e1]; exact World.cell?_setCell_same' _ _ _ (by rw [x0]; rfl)
  have k1 : A2.cell? ⟨pb, po + 1, none⟩ = some (.string s.cons) := by rw [← e2]; exact World.cell?_setCell_same' _ _ _ (by rw [f1 _ _ (by omega), x1]; rfl)
  have k2 : A3.cell? ⟨pb, po + 2, none⟩ = some (.slice st s.text.length stc) := by rw [← e3]; exact World.cell?_setCell_same' _ _ _ (by rw [f2 _ _ (by omega), f1 _ _ (by omega), x2]; rfl)
  have k3 : X.cell? ⟨pb, po + 3, none⟩ = some (.slice ta s.kids.length tc) := by rw [← e4]; exact World.cell?_setCell_same' _ _ _ (by rw [f3 _ _ (by omega), f2 _ _ (by omega), f1 _ _ (by omega), x3]; rfl)
  have hT : TCell w X pb po s ta tc := ⟨(f4 _ _ (by omega)).trans ((f3 _ _ (by omega)).trans ((f2 _ _ (by omega)).trans k0)), (f4 _ _ (by omega)).trans ((f3 _ _ (by omega)).trans k1), ⟨_, (f4 _ _ (by omega)).trans k2, hst⟩, k3⟩
  have keep : ∀ b q, ¬ (b = pb ∧ po ≤ q ∧ q < po + 4) → X.cell? ⟨b, q, none⟩ = W.cell? ⟨b, q, none⟩ := fun b q hne => (f4 b q (by omega)).trans <| (f3 b q (by omega)).trans ((f2 b q (by omega)).trans (f1 b q (by omega)))
  obtain ⟨d', hp, _, da, dc, d0, d1, ⟨va, vc, d2, d4⟩, d3, hdc, hdk⟩ := Hole.fill (W' := X) (fun b q _ hne => keep b q hne) (by omega) hT hsc ((hsk.keep hBX).mono hBX.size) hBX h.hole
  rw [List.take_length] at hp hdk
  refine ⟨⟨d', hp, va, vc, da, dc, ⟨d0, d1, d2, d3⟩, ⟨_, _, rfl, d4⟩, hdc, hdk⟩, hBX, z3, fun q => keep _ _ (fun e => by rcases h.far with e' | e' <;> omega), fun q => (fz _).trans (h.rf q)⟩
end Go.Proofs.YtlkcadibjmfmcaaDoor

/- A term with another part in its place: kin.Put, terms.Put, walked. -/
namespace Go.Proofs.YtlkcadibjmfmcaaDoor
open Go.RowKit

/-- A box without bytes may be written: no text lies there. -/
theorem Txt.box {W W' : World} {n B : Nat} {v : Value} {t : List UInt8} (h : Txt W B v t) (hn : ∀ q u, W.cell? ⟨n, q, none⟩ ≠ some (.int .u8 u)) (hk : ∀ b, b ≠ n → W'.heap[b]? = W.heap[b]?) : Txt W' B v t := by
  obtain ⟨ta, tc, e, h1, h2, h3⟩ := h
  refine ⟨ta, tc, e, h1, h2, fun i c hi => ?_⟩
  obtain ⟨b, o, e, hb, hc⟩ := h3 i c hi
  refine ⟨b, o, e, hb, (World.cell?_of_block (a := ⟨b, o + i, none⟩) (hk b (fun e => ?_))).trans hc⟩
  subst e
  exact hn _ _ hc
theorem Mz.box {W W' : World} {S : Nat → Prop} {n B : Nat} : ∀ {f : Nat} {a : Option Addr} {l : List Tm}, Mz W S B f a l → (∀ q u, W.cell? ⟨n, q, none⟩ ≠ some (.int .u8 u)) → (∀ b, b ≠ n → W'.heap[b]? = W.heap[b]?) → (∀ b, S b → b ≠ n) → Mz W' S B f a l
  | 0, _, _, h, _, _, _ => h
  | f + 1, a, l, h, hn, hk, hS => by
    refine ⟨h.1, fun j d hj => ?_⟩
    obtain ⟨b, o, e, hs, ⟨ho, hg, hf⟩, tv, sa, sc, c0, c1, c2, c3, ht, hc, hd⟩ := h.2 j d hj
    have hb := hk b (hS b hs)
    have k : ∀ q, W'.cell? ⟨b, q, none⟩ = W.cell? ⟨b, q, none⟩ := fun q => World.cell?_of_block (a := ⟨b, q, none⟩) hb
    exact ⟨b, o, e, hs, ⟨ho, hg.keep hb, fun q => (frozen_of_block hb q).trans (hf q)⟩, tv, sa, sc, (k _).trans c0, (k _).trans c1, (k _).trans c2, (k _).trans c3, ht.box hn hk, hc, hd.box hn hk hS⟩

set_option maxRecDepth 100000 in
set_option maxHeartbeats 8000000 in
theorem kinPut_any (d s : Tm) (dt st : Option Addr) (dtc stc : Nat) (sa ta : Option Addr) (sc tc f : Nat) (ps : List Int) (pa : Option Addr) (pc : Nat) (w : World) (hdt : Txt w w.heap.size (.slice dt d.text.length dtc) d.text) (hst : Txt w w.heap.size (.slice st s.text.length stc) s.text) (hk : MAt w w.heap.size f sa d.kids) (hsc : d.kids.length ≤ sc) (hsk : MAt w w.heap.size f ta s.kids) (htc : s.kids.length ≤ tc) (hlen : sz d + sz s ≤ 1000000000000) (hp : IAt w w.heap.size pa ps) (hpl : ps.length ≤ 1000000000000) :
    Calls Tryd.prog 46 #[.agg #[.int .i64 d.kind, .string d.cons, .slice dt d.text.length dtc, .slice sa d.kids.length sc], .slice pa ps.length pc, .agg #[.int .i64 s.kind, .string s.cons, .slice st s.text.length stc, .slice ta s.kids.length tc], .func (.func 36) #[] #[]] w fun e w' => ∃ x F ua uc va vc er, e = .returned (.tuple #[.agg #[.int .i64 x.kind, .string x.cons, .slice ua x.text.length uc, .slice va x.kids.length vc], .int .i64 er]) ∧ Zr w (putP d ps s) x F ua uc va vc er w' := by
  have hX0 := PtI.start w d ps s dt st dtc stc sa ta sc tc f hdt hk hsc
  have HP : Hid _ := hp
  have HSK : Hid _ := And.intro hsk (And.intro htc hst)
  have HLN : Hid _ := hlen
  obtain ⟨n, hn⟩ : ∃ n, ps.length = n := ⟨_, rfl⟩
  rw [hn] at hpl ⊢
  have HNN : Hid _ := hn
  clear hk hsc hlen hp hsk htc hn hst hdt
  go_enter Tryd.func46, Tryd.ntmps46
  go_wp2
  go_loopw [10, 17] (fun pv i W => ∃ (k : Nat) (x : Tm) (pb po : Nat), pv = .pointer (some ⟨pb, po, none⟩) ∧ i = .int .i64 (k : Int) ∧ PtI w d ps s st stc ta tc f k x pb po W) (fun _ i _ => n - (intOf i).toNat)
  case atStart => exact ⟨0, d, w.heap.size, 0, rfl, rfl, hX0⟩
  case round =>
    clear hX0
    obtain ⟨k, x, pb, po, rfl, rfl, hX⟩ := hrel
    have HX : Hid _ := hX
    have hle : k ≤ n := by have := hX.le; have := HNN.out; omega
    obtain ⟨⟨xa, xc, ⟨x0, x1, ⟨_, x2, ⟨xta, xtc, rfl, _⟩⟩, x3⟩, hxc, hxk⟩, hxf⟩ := hX.hole.here
    obtain ⟨_, _, _, hpl4⟩ := hX.hole.lo
    have s0 := hX.s0
    have s1 := hX.s1
    have s2 := hX.s2
    have s3 := hX.s3
    have r0 := hX.r0
    have r1 := hX.r1
    have r2 := hX.r2
    have r3 := hX.r3
    have rf := hX.rf
    have hlt2 := hX.lt
    by_cases hlt : k < n
    · obtain ⟨v, hv⟩ : ∃ v, ps[k]? = some v := ⟨ps[k]'(by have := HNN.out; omega), by simp⟩
      obtain ⟨b, o, rfl, hb, hc⟩ := HP.out k v hv
      have hc' := (hX.bel.cell (p := ⟨b, o + k, none⟩) hb).trans hc
      have hkI : (k : Int) < (n : Int) := by omega
      have hkb : (k : Int) ≤ 1000000000000 := by omega
      have HO : Hid _ := fun (_ : Unit) => ofTerm_any pb po wr
      have HH : Hid _ := fun (_ : Unit) => has_any xa x.kids.length xc v wr
      have HV : Hid _ := hv
      by_cases hin : 0 ≤ v ∧ v < x.kids.length
      · obtain ⟨hv0, hv1⟩ := hin
        have hq : (decide (0 ≤ v) && decide (v < (x.kids.length : Int))) = true := by simp [hv0, hv1]
        rw [hq] at HH
        obtain ⟨y, hy⟩ : ∃ y, x.kids[v.toNat]? = some y := ⟨x.kids[v.toNat]'(by omega), by simp⟩
        have hky : kidAt x v = some y := by unfold kidAt; rw [if_pos hv0]; exact hy
        have HKY : Hid _ := hky
        have HXL : Hid _ := hxk.len
        have HC : Hid _ := fun (_ : Unit) => lclone_any w x.kids xa xc f wr hxk hX.bel (by omega)
        obtain ⟨m, rfl⟩ : ∃ m : Nat, v = (m : Int) := ⟨v.toNat, by omega⟩
        have hmn : (m : Int) < (x.kids.length : Int) := hv1
        clear hX hv hc hq hky hy hv0 hv1 hxk hxc s0 s1 s2 s3 r0 r1 r2 r3 rf x0 x1 x2
        obtain ⟨xl, hxl⟩ : ∃ xl, x.kids.length = xl := ⟨_, rfl⟩
        rw [hxl] at HC HH x3 hmn
        have HXLL : Hid _ := hxl
        clear hxl
        go_wp2_with (first
          | (go_at_call 36; refine (HO.out ()).mono ?_; rintro e w' ⟨rfl, rfl⟩)
          | (go_at_call 59; refine (HH.out ()).mono ?_; rintro e w' ⟨rfl, rfl⟩)
          | (go_at_call 61; refine (HC.out ()).mono ?_; rintro e w5 ⟨⟨g, cap, rfl, hcap, hgw, hg5, hgf, hgz⟩, hb5⟩; have p2 := (hb5.cell (p := ⟨pb, po + 3, none⟩) hpl4).trans x3; have pf := (hb5.frozen (p := ⟨pb, po + 3, none⟩) hpl4).trans (hxf (po + 3)); have HST : Hid _ := And.intro hb5 (And.intro hcap (And.intro hgw (And.intro hg5 (And.intro hgf hgz)))); clear hb5 hcap hgw hg5 hgf hgz))
        have hST := HX.out.step HV.out HKY.out HST.out.1 (by rw [HXLL.out]; exact HST.out.2.1) HST.out.2.2.1 HST.out.2.2.2.1 HST.out.2.2.2.2.1 HXL.out HST.out.2.2.2.2.2
        rw [HXLL.out] at hST
        refine ⟨⟨k + 1, y, g, m * 4, by simp, by go_num, ?_⟩, by simp [intOf]; omega⟩
        simpa using hST
      · have hq : (decide (0 ≤ v) && decide (v < (x.kids.length : Int))) = false := by simp; omega
        rw [hq] at HH
        have HN : Hid (putP d ps s = none) := by
          refine putP_none s ?_
          rw [← hX.goes, atP_drop hv]
          have : kidAt x v = none := by
            unfold kidAt
            split
            · exact List.getElem?_eq_none (by omega)
            · rfl
          rw [this]; rfl
        clear hX hv hc hq hin hxk hxc
        go_wp2_with (first
          | (go_at_call 36; refine (HO.out ()).mono ?_; rintro e w' ⟨rfl, rfl⟩)
          | (go_at_call 59; refine (HH.out ()).mono ?_; rintro e w' ⟨rfl, rfl⟩))
        refine bodyPost_ret (v := .tuple #[.agg #[.int .i64 0, .string ⟨#[]⟩, .slice none 0 0, .slice none 0 0], .int .i64 4]) (by simp [results, Tryd.results46, go_sem, r0, r1, r2, r3, hlt2]) rfl ?_
        rw [HN.out]
        have hsB : w.heap.size ≤ w.heap.size + 1 + 1 := by omega
        exact ⟨nilT, 0, none, 0, none, 0, 4, rfl, ((((HX.out.bel.setCell hsB _).setCell hsB _).setCell hsB _).setCell hsB _).alloc (by simp [World.setCell]; omega) _, ⟨none, 0, rfl, Nat.le_refl _, by decide, fun i c hi => by cases hi⟩, Nat.le_refl _, rfl, by decide, .inr ⟨rfl, rfl, rfl, rfl, rfl⟩⟩
    · obtain rfl : k = n := by omega
      have hXn : PtI w d ps s st stc ta tc f ps.length x pb po wr := by rw [HNN.out]; exact hX
      obtain ⟨X, hXX⟩ : ∃ X, (((wr.setCell ⟨pb, po, none⟩ (.int .i64 s.kind)).setCell ⟨pb, po + 1, none⟩ (.string s.cons)).setCell ⟨pb, po + 2, none⟩ (.slice st s.text.length stc)).setCell ⟨pb, po + 3, none⟩ (.slice ta s.kids.length tc) = X := ⟨_, rfl⟩
      obtain ⟨⟨d', hp', dta, dtc', da, dc, ⟨d0, d1, d2, d3⟩, hdt', hdc, hdk⟩, hBX, hXs, hX2, hXf⟩ := hXn.fill HSK.out.2.2 HSK.out.2.1 HSK.out.1 hXX.symm
      have HX2 : Hid _ := hX2
      have HXF : Hid _ := hXf
      have HBX : Hid _ := hBX
      have HNB : Hid (∀ q v, X.cell? ⟨w.heap.size + 1 + 1, q, none⟩ ≠ some (.int .u8 v)) := fun q v hq => hX.rb q v ((hX2 q).symm.trans hq)
      have HX2L : Hid (w.heap.size + 1 + 1 < X.heap.size) := by show _ < _; omega
      obtain ⟨l1, _, _, _⟩ := hXn.hole.lo
      rcases hX.far with e | e
      · have e2 : po = 0 ∧ ps = [] := by
          rcases l1 with l1 | ⟨_, l1, l2⟩
          · omega
          · exact ⟨l1.symm, by rw [List.take_length] at l2; exact l2⟩
        obtain ⟨e2, e3⟩ := e2
        have HG : Hid (putP d ps s = some s) := by show _ = _; rw [e3]; rfl
        have HC : Hid _ := fun (_ : Unit) => clone_any s st stc ta tc f X X.heap.size (Nat.le_refl _) ((HSK.out.2.2.keep hBX).mono hBX.size) ((HSK.out.1.keep hBX).mono hBX.size) HSK.out.2.1 (by have := HLN.out; omega)
        subst e e2
        have HXX : Hid _ := hXX
        rw [← hXX] at HC
        obtain ⟨D, hD⟩ : ∃ D, s = D := ⟨_, rfl⟩
        subst hD
        clear hX hXn hp' d0 d1 d2 d3 hdt' hdc hdk hX2 hXf hBX hXs l1 e3 hXX hxk hxc
        go_wp2_with (go_at_call 60; refine (HC.out ()).mono ?_; rintro e w7 ⟨⟨ua, uc, va, vc, rfl, hut, hvc, htin⟩, hb7⟩; rw [HXX.out] at hb7 htin hut; have k7 : ∀ q, w7.cell? ⟨w.heap.size + 1 + 1, q, none⟩ = X.cell? ⟨w.heap.size + 1 + 1, q, none⟩ := fun q => hb7.cell (p := ⟨w.heap.size + 1 + 1, q, none⟩) HX2L.out; have f7 : ∀ q, w7.frozen? ⟨w.heap.size + 1 + 1, q, none⟩ = false := fun q => (hb7.frozen (p := ⟨w.heap.size + 1 + 1, q, none⟩) HX2L.out).trans (HXF.out q); have r0' := (k7 0).trans ((HX2.out 0).trans r0); have r1' := (k7 1).trans ((HX2.out 1).trans r1); have r2' := (k7 2).trans ((HX2.out 2).trans r2); have r3' := (k7 3).trans ((HX2.out 3).trans r3); have HT7 : Hid _ := And.intro htin (And.intro hb7 hut); clear htin hb7 k7 hut)
        refine bodyPost_ret (v := .tuple #[.agg #[.int .i64 s.kind, .string s.cons, .slice ua s.text.length uc, .slice va s.kids.length vc], .int .i64 0]) (by simp [results, Tryd.results46, go_sem, r0', r1', r2', r3']) rfl ?_
        rw [HG.out]
        have hsB : w.heap.size ≤ w.heap.size + 1 + 1 := by omega
        obtain ⟨htin, hb7, hut⟩ := HT7.out
        have hbb : Below w.heap.size w w7 := below_of HBX.out hb7
        have h27 := HX2L.out
        have h77 := hb7.size
        have hnb : ∀ q v, w7.cell? ⟨w.heap.size + 1 + 1, q, none⟩ ≠ some (.int .u8 v) := fun q v hq => HNB.out q v ((hb7.cell (p := ⟨w.heap.size + 1 + 1, q, none⟩) HX2L.out).symm.trans hq)
        have hbe : Below w.heap.size w _ := (((hbb.setCell (p := ⟨w.heap.size + 1 + 1, 0, none⟩) hsB (.int .i64 s.kind)).setCell (p := ⟨w.heap.size + 1 + 1, 1, none⟩) hsB (.string s.cons)).setCell (p := ⟨w.heap.size + 1 + 1, 2, none⟩) hsB (.slice ua s.text.length uc)).setCell (p := ⟨w.heap.size + 1 + 1, 3, none⟩) hsB (.slice va s.kids.length vc)
        have hke : ∀ b, b ≠ w.heap.size + 1 + 1 → ((((w7.setCell ⟨w.heap.size + 1 + 1, 0, none⟩ (.int .i64 s.kind)).setCell ⟨w.heap.size + 1 + 1, 1, none⟩ (.string s.cons)).setCell ⟨w.heap.size + 1 + 1, 2, none⟩ (.slice ua s.text.length uc)).setCell ⟨w.heap.size + 1 + 1, 3, none⟩ (.slice va s.kids.length vc)).heap[b]? = w7.heap[b]? := fun b hb => (Below.heap_setCell _ _ _ b hb).trans ((Below.heap_setCell _ _ _ b hb).trans ((Below.heap_setCell _ _ _ b hb).trans (Below.heap_setCell _ _ _ b hb)))
        obtain ⟨X8, h8⟩ : ∃ X8, (((w7.setCell ⟨w.heap.size + 1 + 1, 0, none⟩ (.int .i64 s.kind)).setCell ⟨w.heap.size + 1 + 1, 1, none⟩ (.string s.cons)).setCell ⟨w.heap.size + 1 + 1, 2, none⟩ (.slice ua s.text.length uc)).setCell ⟨w.heap.size + 1 + 1, 3, none⟩ (.slice va s.kids.length vc) = X8 := ⟨_, rfl⟩
        have s8 : X8.heap.size = w7.heap.size := by rw [← h8]; simp [World.setCell]
        rw [h8] at hbe hke ⊢
        refine ⟨s, f, ua, uc, va, vc, 0, rfl, hbe, (hut.box hnb hke).mono (by omega), hvc, ?_, by first | (have := HLN.out; omega) | (have := put_sz HG.out; have := HLN.out; omega), .inl ⟨rfl, rfl⟩⟩
        exact ((htin.box hnb hke (fun b hb => by have := hb.1; omega)).wide (fun b hb => ⟨Nat.le_trans HBX.out.size hb.1, by have := hb.2; omega⟩)).mono (by omega)
      · have hne : w.heap.size ≠ pb := by omega
        have hne' : ¬ pb = w.heap.size := by omega
        have hne1 : ¬ pb = w.heap.size + 1 := by omega
        have hne2 : ¬ pb = w.heap.size + 1 + 1 := by omega
        have HG : Hid (putP d ps s = some d') := hp'
        have HC : Hid _ := fun (_ : Unit) => clone_any d' dta dtc' da dc (f + ps.length) X X.heap.size (Nat.le_refl _) hdt' hdk hdc (by have := put_sz hp'; have := HLN.out; omega)
        have kx : ∀ q, X.cell? ⟨w.heap.size, q, none⟩ = wr.cell? ⟨w.heap.size, q, none⟩ := fun q => by
          rw [← hXX, World.cell?_setCell_far _ _ _ _ hne.symm, World.cell?_setCell_far _ _ _ _ hne.symm, World.cell?_setCell_far _ _ _ _ hne.symm, World.cell?_setCell_far _ _ _ _ hne.symm]
        have d0' := (kx 0).symm.trans d0
        have d1' := (kx 1).symm.trans d1
        have d2' := (kx 2).symm.trans d2
        have d3' := (kx 3).symm.trans d3
        have HXX : Hid _ := hXX
        rw [← hXX] at HC
        clear hX hXn hp' d0 d1 d2 d3 hdt' hdc hdk hX2 hXf hBX hXs l1 hXX hxk hxc kx e
        go_wp2_with (go_at_call 60; refine (HC.out ()).mono ?_; rintro e w7 ⟨⟨ua, uc, va, vc, rfl, hut, hvc, htin⟩, hb7⟩; rw [HXX.out] at hb7 htin hut; have k7 : ∀ q, w7.cell? ⟨w.heap.size + 1 + 1, q, none⟩ = X.cell? ⟨w.heap.size + 1 + 1, q, none⟩ := fun q => hb7.cell (p := ⟨w.heap.size + 1 + 1, q, none⟩) HX2L.out; have f7 : ∀ q, w7.frozen? ⟨w.heap.size + 1 + 1, q, none⟩ = false := fun q => (hb7.frozen (p := ⟨w.heap.size + 1 + 1, q, none⟩) HX2L.out).trans (HXF.out q); have r0' := (k7 0).trans ((HX2.out 0).trans r0); have r1' := (k7 1).trans ((HX2.out 1).trans r1); have r2' := (k7 2).trans ((HX2.out 2).trans r2); have r3' := (k7 3).trans ((HX2.out 3).trans r3); have HT7 : Hid _ := And.intro htin (And.intro hb7 hut); clear htin hb7 k7 hut)
        refine bodyPost_ret (v := .tuple #[.agg #[.int .i64 d'.kind, .string d'.cons, .slice ua d'.text.length uc, .slice va d'.kids.length vc], .int .i64 0]) (by simp [results, Tryd.results46, go_sem, r0', r1', r2', r3']) rfl ?_
        rw [HG.out]
        have hsB : w.heap.size ≤ w.heap.size + 1 + 1 := by omega
        obtain ⟨htin, hb7, hut⟩ := HT7.out
        have hbb : Below w.heap.size w w7 := below_of HBX.out hb7
        have h27 := HX2L.out
        have h77 := hb7.size
        have hnb : ∀ q v, w7.cell? ⟨w.heap.size + 1 + 1, q, none⟩ ≠ some (.int .u8 v) := fun q v hq => HNB.out q v ((hb7.cell (p := ⟨w.heap.size + 1 + 1, q, none⟩) HX2L.out).symm.trans hq)
        have hbe : Below w.heap.size w _ := (((hbb.setCell (p := ⟨w.heap.size + 1 + 1, 0, none⟩) hsB (.int .i64 d'.kind)).setCell (p := ⟨w.heap.size + 1 + 1, 1, none⟩) hsB (.string d'.cons)).setCell (p := ⟨w.heap.size + 1 + 1, 2, none⟩) hsB (.slice ua d'.text.length uc)).setCell (p := ⟨w.heap.size + 1 + 1, 3, none⟩) hsB (.slice va d'.kids.length vc)
        have hke : ∀ b, b ≠ w.heap.size + 1 + 1 → ((((w7.setCell ⟨w.heap.size + 1 + 1, 0, none⟩ (.int .i64 d'.kind)).setCell ⟨w.heap.size + 1 + 1, 1, none⟩ (.string d'.cons)).setCell ⟨w.heap.size + 1 + 1, 2, none⟩ (.slice ua d'.text.length uc)).setCell ⟨w.heap.size + 1 + 1, 3, none⟩ (.slice va d'.kids.length vc)).heap[b]? = w7.heap[b]? := fun b hb => (Below.heap_setCell _ _ _ b hb).trans ((Below.heap_setCell _ _ _ b hb).trans ((Below.heap_setCell _ _ _ b hb).trans (Below.heap_setCell _ _ _ b hb)))
        obtain ⟨X8, h8⟩ : ∃ X8, (((w7.setCell ⟨w.heap.size + 1 + 1, 0, none⟩ (.int .i64 d'.kind)).setCell ⟨w.heap.size + 1 + 1, 1, none⟩ (.string d'.cons)).setCell ⟨w.heap.size + 1 + 1, 2, none⟩ (.slice ua d'.text.length uc)).setCell ⟨w.heap.size + 1 + 1, 3, none⟩ (.slice va d'.kids.length vc) = X8 := ⟨_, rfl⟩
        have s8 : X8.heap.size = w7.heap.size := by rw [← h8]; simp [World.setCell]
        rw [h8] at hbe hke ⊢
        refine ⟨d', f + ps.length, ua, uc, va, vc, 0, rfl, hbe, (hut.box hnb hke).mono (by omega), hvc, ?_, by first | (have := HLN.out; omega) | (have := put_sz HG.out; have := HLN.out; omega), .inl ⟨rfl, rfl⟩⟩
        exact ((htin.box hnb hke (fun b hb => by have := hb.1; omega)).wide (fun b hb => ⟨Nat.le_trans HBX.out.size hb.1, by have := hb.2; omega⟩)).mono (by omega)
end Go.Proofs.YtlkcadibjmfmcaaDoor

/- Put: every path. -/
namespace Go.Proofs.YtlkcadibjmfmcaaDoor
open Go.RowKit

set_option maxRecDepth 100000 in
set_option maxHeartbeats 4000000 in
theorem put_any (d s : Tm) (dt st : Option Addr) (dtc stc : Nat) (sa ta : Option Addr) (sc tc f : Nat) (ps : List Int) (pa : Option Addr) (pc : Nat) (w : World) (hdt : Txt w w.heap.size (.slice dt d.text.length dtc) d.text) (hst : Txt w w.heap.size (.slice st s.text.length stc) s.text) (hk : MAt w w.heap.size f sa d.kids) (hsc : d.kids.length ≤ sc) (hsk : MAt w w.heap.size f ta s.kids) (htc : s.kids.length ≤ tc) (hlen : sz d + sz s ≤ 1000000000000) (hp : IAt w w.heap.size pa ps) (hpl : ps.length ≤ 1000000000000) :
    Calls Tryd.prog 25 #[.agg #[.int .i64 d.kind, .string d.cons, .slice dt d.text.length dtc, .slice sa d.kids.length sc], .slice pa ps.length pc, .agg #[.int .i64 s.kind, .string s.cons, .slice st s.text.length stc, .slice ta s.kids.length tc]] w fun e w' => OPost w (putP d ps s) e w' := by
  have hX0 := PtI.start w d [] s dt st dtc stc sa ta sc tc f hdt hk hsc
  obtain ⟨w2, hw2⟩ : ∃ w2, ((w.alloc (.cells #[.int .i64 d.kind, .string d.cons, .slice dt d.text.length dtc, .slice sa d.kids.length sc] 25)).alloc (.cells #[.int .i64 s.kind, .string s.cons, .slice st s.text.length stc, .slice ta s.kids.length tc] 25)).alloc (.cells #[.int .i64 0, .string ⟨#[]⟩, .slice none 0 0, .slice none 0 0] 25) = w2 := ⟨_, rfl⟩
  rw [hw2] at hX0
  have hB := hX0.bel
  have HC : Hid _ := fun (_ : Unit) => kinPut_any d s dt st dtc stc sa ta sc tc f ps pa pc w2 ((hdt.keep hB).mono hB.size) ((hst.keep hB).mono hB.size) ((hk.keep hB).mono hB.size) hsc ((hsk.keep hB).mono hB.size) htc hlen ((hp.keepB hB).monoB hB.size) hpl
  have s0 := hX0.s0
  have s1 := hX0.s1
  have s2 := hX0.s2
  have s3 := hX0.s3
  have hlt2 := hX0.lt
  have HB : Hid _ := hB
  have HR : Hid (∀ W, Below w2.heap.size w2 W → (W.cell? ⟨w.heap.size + 1 + 1, 0, none⟩ = some (.int .i64 0) ∧ W.cell? ⟨w.heap.size + 1 + 1, 1, none⟩ = some (.string ⟨#[]⟩) ∧ W.cell? ⟨w.heap.size + 1 + 1, 2, none⟩ = some (.slice none 0 0) ∧ W.cell? ⟨w.heap.size + 1 + 1, 3, none⟩ = some (.slice none 0 0)) ∧ ∀ q, W.frozen? ⟨w.heap.size + 1 + 1, q, none⟩ = false) := fun W h => by
    have k : ∀ q, W.cell? ⟨w.heap.size + 1 + 1, q, none⟩ = w2.cell? ⟨w.heap.size + 1 + 1, q, none⟩ := fun q => h.cell (p := ⟨w.heap.size + 1 + 1, q, none⟩) hlt2
    exact ⟨⟨(k 0).trans hX0.r0, (k 1).trans hX0.r1, (k 2).trans hX0.r2, (k 3).trans hX0.r3⟩, fun q => (h.frozen (p := ⟨w.heap.size + 1 + 1, q, none⟩) hlt2).trans (hX0.rf q)⟩
  generalize ps.length = n at *
  have HL : Hid _ := hlt2
  clear hX0 hk hp hB hdt hst hsk hlt2 hlen hpl
  subst hw2
  go_enter Tryd.func25, Tryd.ntmps25
  go_wp2_with (first
    | (go_at_call 46; refine (HC.out ()).mono ?_; intro e w7 h7; obtain ⟨x, F, ua, uc, va, vc, er, rfl, hz⟩ := h7; have HW : Hid _ := hz; clear hz)
    | (go_at_call 45; refine (HW.out.own).mono ?_; rintro e w9 ⟨rfl, ua', uc', ho⟩; have HO : Hid _ := ho; have c0 := ho.c0; have c1 := ho.c1; have c2 := ho.c2; have c3 := ho.c3; have cf := ho.fz; obtain ⟨⟨r0, r1, r2, r3⟩, rf⟩ := HR.out w9 (HW.out.bel9 ho); clear ho))
  refine bodyPost_ret (v := .tuple #[.agg #[.int .i64 x.kind, .string x.cons, .slice ua' x.text.length uc', .slice va x.kids.length vc], .int .i64 er]) (by simp [results, Tryd.results25, go_sem, r0, r1, r2, r3]) rfl ?_
  exact HW.out.post HB.out (by omega) HL.out HO.out
end Go.Proofs.YtlkcadibjmfmcaaDoor

