/- A term's copy in memory, while it is made: texts and rows of terms in blocks of a set, how they lie; the row that grows. -/
import Derived.Test.YtlkcadibjmfmcaaDoorTf
import Derived.Deep.RegionHeld
import Derived.OwnWalk
namespace Go.Proofs.YtlkcadibjmfmcaaDoor
open Go.RowKit

/-- A block holds cells of a type. -/
def Tag (w : World) (b : Nat) (t : TypeId) : Prop := ∃ cs fz, w.heap[b]? = some (.cells cs t fz)
theorem Tag.keep {w w' : World} {b : Nat} {t : TypeId} (h : Tag w b t) (hk : w'.heap[b]? = w.heap[b]?) : Tag w' b t := by
  obtain ⟨cs, fz, h⟩ := h
  exact ⟨cs, fz, hk.trans h⟩
theorem frozen_of_block {w w' : World} {b : Nat} (h : w'.heap[b]? = w.heap[b]?) (q : Nat) : w'.frozen? ⟨b, q, none⟩ = w.frozen? ⟨b, q, none⟩ := by simp [World.frozen?, h]
/-- Bytes in blocks of S that may be written. -/
def BIx (w : World) (S : Nat → Prop) (ta : Option Addr) (t : List UInt8) : Prop := ∀ i c, t[i]? = some c → ∃ b o, ta = some ⟨b, o, none⟩ ∧ S b ∧ (Tag w b 5 ∧ ∀ q, w.frozen? ⟨b, q, none⟩ = false) ∧ w.cell? ⟨b, o + i, none⟩ = some (.int .u8 (c.toNat : Int))
theorem BIx.keep {w w' : World} {S : Nat → Prop} {ta : Option Addr} {t : List UInt8} (hk : ∀ b, S b → w'.heap[b]? = w.heap[b]?) (h : BIx w S ta t) : BIx w' S ta t := fun i c hi => by
  obtain ⟨b, o, e, hs, ⟨hg, hf⟩, hc⟩ := h i c hi
  exact ⟨b, o, e, hs, ⟨hg.keep (hk b hs), fun q => (frozen_of_block (hk b hs) q).trans (hf q)⟩, (World.cell?_of_block (a := ⟨b, o + i, none⟩) (hk b hs)).trans hc⟩
theorem BIx.wide {w : World} {S S' : Nat → Prop} {ta : Option Addr} {t : List UInt8} (hk : ∀ b, S b → S' b) (h : BIx w S ta t) : BIx w S' ta t := fun i c hi => by
  obtain ⟨b, o, e, hs, hx, hc⟩ := h i c hi
  exact ⟨b, o, e, hk b hs, hx, hc⟩
theorem BIx.bat {w : World} {S : Nat → Prop} {B : Nat} {ta : Option Addr} {t : List UInt8} (hk : ∀ b, S b → b < B) (h : BIx w S ta t) : BAt w B ta t := fun i c hi => by
  obtain ⟨b, o, e, hs, _, hc⟩ := h i c hi
  exact ⟨b, o, e, hk b hs, hc⟩
/-- A value that is such a text. -/
def Txx (w : World) (S : Nat → Prop) (v : Value) (t : List UInt8) : Prop := ∃ ta tc, v = .slice ta t.length tc ∧ t.length ≤ tc ∧ t.length ≤ 140737488355328 ∧ BIx w S ta t
theorem Txx.keep {w w' : World} {S : Nat → Prop} {v : Value} {t : List UInt8} (hk : ∀ b, S b → w'.heap[b]? = w.heap[b]?) (h : Txx w S v t) : Txx w' S v t := by
  obtain ⟨ta, tc, h1, h2, h3, h4⟩ := h
  exact ⟨ta, tc, h1, h2, h3, h4.keep hk⟩
theorem Txx.wide {w : World} {S S' : Nat → Prop} {v : Value} {t : List UInt8} (hk : ∀ b, S b → S' b) (h : Txx w S v t) : Txx w S' v t := by
  obtain ⟨ta, tc, h1, h2, h3, h4⟩ := h
  exact ⟨ta, tc, h1, h2, h3, h4.wide hk⟩
theorem Txx.txt {w : World} {S : Nat → Prop} {B : Nat} {v : Value} {t : List UInt8} (hk : ∀ b, S b → b < B) (h : Txx w S v t) : Txt w B v t := by
  obtain ⟨ta, tc, h1, h2, h3, h4⟩ := h
  exact ⟨ta, tc, h1, h2, h3, h4.bat hk⟩
/-- Terms in a row, all that they are made of in blocks of S that may be written, each at a place by fours. -/
def MIx (w : World) (S : Nat → Prop) : Nat → Option Addr → List Tm → Prop
  | 0, _, l => l = []
  | f + 1, a, l => l.length * 72 ≤ 140737488355328 ∧ ∀ j d, l[j]? = some d → ∃ b o, a = some ⟨b, o, none⟩ ∧ S b ∧ (o % 4 = 0 ∧ Tag w b 25 ∧ ∀ q, w.frozen? ⟨b, q, none⟩ = false) ∧ ∃ tv sa sc, w.cell? ⟨b, o + j * 4, none⟩ = some (.int .i64 d.kind) ∧ w.cell? ⟨b, o + j * 4 + 1, none⟩ = some (.string d.cons) ∧ w.cell? ⟨b, o + j * 4 + 2, none⟩ = some tv ∧ w.cell? ⟨b, o + j * 4 + 3, none⟩ = some (.slice sa d.kids.length sc) ∧ Txx w S tv d.text ∧ d.kids.length ≤ sc ∧ MIx w S f sa d.kids
theorem MIx.keep {w w' : World} {S : Nat → Prop} (hk : ∀ b, S b → w'.heap[b]? = w.heap[b]?) : ∀ {f : Nat} {a : Option Addr} {l : List Tm}, MIx w S f a l → MIx w' S f a l
  | 0, _, _, h => h
  | f + 1, a, l, h => by
    refine ⟨h.1, fun j d hj => ?_⟩
    obtain ⟨b, o, e, hs, ⟨ho, hg, hf⟩, tv, sa, sc, c0, c1, c2, c3, ht, hc, hd⟩ := h.2 j d hj
    have k : ∀ q, w'.cell? ⟨b, q, none⟩ = w.cell? ⟨b, q, none⟩ := fun q => World.cell?_of_block (a := ⟨b, q, none⟩) (hk b hs)
    exact ⟨b, o, e, hs, ⟨ho, hg.keep (hk b hs), fun q => (frozen_of_block (hk b hs) q).trans (hf q)⟩, tv, sa, sc, (k _).trans c0, (k _).trans c1, (k _).trans c2, (k _).trans c3, ht.keep hk, hc, hd.keep hk⟩
theorem MIx.wide {w : World} {S S' : Nat → Prop} (hk : ∀ b, S b → S' b) : ∀ {f : Nat} {a : Option Addr} {l : List Tm}, MIx w S f a l → MIx w S' f a l
  | 0, _, _, h => h
  | f + 1, a, l, h => by
    refine ⟨h.1, fun j d hj => ?_⟩
    obtain ⟨b, o, e, hs, hx, tv, sa, sc, c0, c1, c2, c3, ht, hc, hd⟩ := h.2 j d hj
    exact ⟨b, o, e, hk b hs, hx, tv, sa, sc, c0, c1, c2, c3, ht.wide hk, hc, hd.wide hk⟩
theorem MIx.mat {w : World} {S : Nat → Prop} {B : Nat} (hk : ∀ b, S b → b < B) : ∀ {f : Nat} {a : Option Addr} {l : List Tm}, MIx w S f a l → MAt w B f a l
  | 0, _, _, h => h
  | f + 1, a, l, h => by
    refine ⟨h.1, fun j d hj => ?_⟩
    obtain ⟨b, o, e, hs, _, tv, sa, sc, c0, c1, c2, c3, ht, hc, hd⟩ := h.2 j d hj
    exact ⟨b, o, e, hk b hs, sa, sc, c0, c1, (ht.txt hk).cell (Nat.le_refl _) c2, c3, hc, hd.mat hk⟩
theorem MIx.up {w : World} {S : Nat → Prop} : ∀ {f : Nat} {a : Option Addr} {l : List Tm}, MIx w S f a l → MIx w S (f + 1) a l
  | 0, a, l, h => by
    have h' : l = [] := h
    subst h'
    exact ⟨by decide, fun j d hj => by cases hj⟩
  | f + 1, a, l, h => by
    refine ⟨h.1, fun j d hj => ?_⟩
    obtain ⟨b, o, e, hs, hx, tv, sa, sc, c0, c1, c2, c3, ht, hc, hd⟩ := h.2 j d hj
    exact ⟨b, o, e, hs, hx, tv, sa, sc, c0, c1, c2, c3, ht, hc, hd.up⟩
theorem row_below {W W' : World} {B : Nat} {e : TypeId} {k : Nat} {v : Value} {n : Nat} {xs : List Value} (h : W.ownsRow B e k v n xs) (hb : Below W.heap.size W W') : W'.ownsRow B e k v n xs := by
  refine ⟨h.1, ?_⟩
  rcases h.2 with h0 | ⟨g, cap, cur, hv, hbg, hg, rest⟩
  · exact .inl h0
  · exact .inr ⟨g, cap, cur, hv, hbg, (hb.block g (Array.getElem?_eq_some_iff.1 hg).1).trans hg, rest⟩
theorem row_set {W : World} {B : Nat} {e : TypeId} {k : Nat} {v : Value} {n : Nat} {xs : List Value} (h : W.ownsRow B e k v n xs) {a : Addr} (ha : a.block < B) (u : Value) : (W.setCell a u).ownsRow B e k v n xs := by
  refine ⟨h.1, ?_⟩
  rcases h.2 with h0 | ⟨g, cap, cur, hv, hbg, hg, rest⟩
  · exact .inl h0
  · exact .inr ⟨g, cap, cur, hv, hbg, (Below.heap_setCell W a u g (by omega)).trans hg, rest⟩
theorem row_tag {W : World} {B g n c : Nat} {e : TypeId} {k : Nat} {xs : List Value} (h : W.ownsRow B e k (.slice (some ⟨g, 0, none⟩) n c) n xs) : Tag W g e := by
  rcases h.2 with ⟨h0, _⟩ | ⟨g', cap, cur, hv, _, hg, _⟩
  · cases h0
  · cases hv; exact ⟨_, _, hg⟩
theorem below_of {w W w2 : World} (h : Below w.heap.size w W) (hb : Below W.heap.size W w2) : Below w.heap.size w w2 := h.trans (hb.mono h.size)
theorem set4_block {W : World} {c b : Nat} (h : c ≠ b) (i j k l : Nat) (u v x y : Value) : ((((W.setCell ⟨c, i, none⟩ u).setCell ⟨c, j, none⟩ v).setCell ⟨c, k, none⟩ x).setCell ⟨c, l, none⟩ y).heap[b]? = W.heap[b]? :=
  (((Below.heap_setCell _ ⟨c, l, none⟩ y b (fun e => h e.symm)).trans (Below.heap_setCell _ ⟨c, k, none⟩ x b (fun e => h e.symm))).trans (Below.heap_setCell _ ⟨c, j, none⟩ v b (fun e => h e.symm))).trans (Below.heap_setCell W ⟨c, i, none⟩ u b (fun e => h e.symm))
theorem info5 : (Tryd.prog.info? 5).map (fun i => (i.zero, i.size, i.bytes)) = some (some (.int .u8 0), 1, 1) := by kernel_rfl
theorem app_none (ty : TypeId) (sc : Nat) (w : World) : (Builtin.append_ #[22, 22] ty #[.slice none 0 0, .slice none 0 sc]).run Tryd.prog w = .ok (.slice none 0 0) w := by kernel_rfl
theorem app_some (ty : TypeId) (a : Addr) (sc : Nat) (w : World) : (Builtin.append_ #[22, 22] ty #[.slice none 0 0, .slice (some a) 0 sc]).run Tryd.prog w = .ok (.slice none 0 0) w := by kernel_rfl
/-- A text put behind nothing. -/
theorem wpList_append_bytes {ops : Array Oper} {rest : List Oper} {o : Oper} {a : Act} {Q : Exit → Act → World → Prop} {w : World} (hgd : o.guard = none) (s x : Operand)
    (ho : o.op = .call { callee := .builtin .append, args := #[s, x], argTypes := #[22, 22] }) (t : List UInt8) (ta : Option Addr) (tc B : Nat)
    (hs : a.eval s = .slice none 0 0) (hx : a.eval x = .slice ta t.length tc) (hT : BAt w B ta t) (hn : t.length ≤ 140737488355328)
    (h : ∀ uv w', Txx w' (fun b => w.heap.size ≤ b ∧ b < w'.heap.size) uv t → Below w.heap.size w w' → wpList Tryd.prog ops Q rest (a.put o.dst uv) w') :
    wpList Tryd.prog ops Q (o :: rest) a w := by
  obtain ⟨i0, hinf, hz0, hz1, hz2⟩ := info_parts info5
  by_cases h0 : t.length = 0
  · have ht := List.eq_nil_of_length_eq_zero h0
    refine wpList_plain hgd fun K hK => ?_
    have hrun : (Builtin.append_ #[22, 22] o.type #[.slice none 0 0, .slice ta 0 tc]).run Tryd.prog w = .ok (.slice none 0 0) w := by
      cases ta with
      | none => exact app_none _ _ _
      | some b => exact app_some _ _ _ _
    unfold Oper.wp execOp
    simp only [ho, resolve, invoke, builtin, Sem.run_bind, Sem.run_pure, Result.andThen_ok, List.map_toArray, List.map_cons, List.map_nil, hs, hx, h0, hrun]
    exact hK _ _ (h _ _ ⟨none, 0, by rw [h0], by omega, hn, fun i c hi => by rw [ht] at hi; cases hi⟩ (Below.refl _ _))
  · obtain ⟨b, o', rfl, _⟩ := hT 0 (t[0]'(by omega)) (by simp)
    refine wpList_append_lies w hgd s x 22 ho w.heap.size 5 i0 (.int .u8 0) 1 1 Tryd.underlying22 hinf hz0 hz1 hz2 rfl (by decide) _ _ _ hs (World.ownsRow_nil _ _ _ _) ⟨b, o', none⟩ t.length tc (t.map fun c => .int .u8 (c.toNat : Int)) hx (by simp) (fun j u hu => ?_) (fun u hu => ?_) (by omega) (by unfold maxLen; omega) (by omega) (Nat.le_refl _) _ rfl fun g cap w' hown hgrow _ _ => ?_
    · rw [List.getElem?_map] at hu
      obtain ⟨c, hc, rfl⟩ := Option.map_eq_some_iff.1 hu
      obtain ⟨b', o'', e, _, hcell⟩ := hT j c hc
      cases e
      have e2 : (⟨b, o', none⟩ : Addr).add j = ⟨b, o' + j, none⟩ := by simp [Addr.add]
      rw [e2]; exact hcell
    · obtain ⟨c, _, rfl⟩ := List.mem_map.1 hu
      rfl
    · rw [Nat.zero_add, List.nil_append] at hown
      rw [Nat.zero_add]
      have hcap : t.length ≤ cap := by
        rcases hown.2 with ⟨e, _⟩ | ⟨g', cap', cur, e, _, _, hc, _⟩
        · cases e
        · cases e; exact hc
      refine h _ w' ⟨_, cap, rfl, hcap, hn, fun i c hi => ⟨g, 0, rfl, hown.lt g rfl, ⟨row_tag hown, fun q => hown.frozenAt q⟩, ?_⟩⟩ ((Below.refl _ _).grown hgrow (Nat.le_refl _) (fun j hj => by simp [Value.ownBlock] at hj))
      have hlt := (List.getElem?_eq_some_iff.1 hi).1
      rw [Nat.zero_add, hown.cellAt i (by simpa using hlt), List.getElem?_map, hi]; rfl
/-- The cells of a row of copies; what they lead to lies from lo on, and not in the row's own block. -/
structure Cx (f lo : Nat) (W : World) (lv : Value) (ps : List Tm) (xs : List Value) : Prop where
  len : xs.length = ps.length * 4
  cells : ∀ j d, ps[j]? = some d → ∃ (tv : Value) (sa : Option Addr) (sc : Nat) (S : Nat → Prop), (MIx W S f sa d.kids ∧ Txx W S tv d.text) ∧ (∀ b, S b → lo ≤ b ∧ b < W.heap.size ∧ lv.ownBlock ≠ some b) ∧ d.kids.length ≤ sc ∧ xs[j * 4]? = some (.int .i64 d.kind) ∧ xs[j * 4 + 1]? = some (.string d.cons) ∧ xs[j * 4 + 2]? = some tv ∧ xs[j * 4 + 3]? = some (.slice sa d.kids.length sc)
section
variable {f lo : Nat} {W W' : World} {lv lv' : Value} {ps : List Tm} {xs : List Value}
theorem Cx.nil (f lo : Nat) (W : World) (lv : Value) : Cx f lo W lv [] [] := ⟨rfl, fun j d h => by cases h⟩
theorem Cx.move (h : Cx f lo W lv ps xs) (hs : W.heap.size ≤ W'.heap.size) (hk : ∀ b, lo ≤ b → b < W.heap.size → lv.ownBlock ≠ some b → W'.heap[b]? = W.heap[b]?) (hl : ∀ b, b < W.heap.size → lv'.ownBlock = some b → lv.ownBlock = some b) : Cx f lo W' lv' ps xs := by
  refine ⟨h.len, fun j d hj => ?_⟩
  obtain ⟨tv, sa, sc, S, h1, h2, h3, h4⟩ := h.cells j d hj
  have hkk : ∀ b, S b → W'.heap[b]? = W.heap[b]? := fun b hb => hk b (h2 b hb).1 (h2 b hb).2.1 (h2 b hb).2.2
  refine ⟨tv, sa, sc, S, ⟨h1.1.keep hkk, h1.2.keep hkk⟩, fun b hb => ⟨(h2 b hb).1, by have := (h2 b hb).2.1; omega, fun e => (h2 b hb).2.2 (hl b (h2 b hb).2.1 e)⟩, h3, h4⟩
theorem Cx.below (h : Cx f lo W lv ps xs) (hb : Below W.heap.size W W') : Cx f lo W' lv ps xs :=
  h.move hb.size (fun b _ hlt _ => hb.block b hlt) (fun _ _ e => e)
theorem Cx.snoc (h : Cx f lo W lv ps xs) {d : Tm} {tv : Value} {sa : Option Addr} {sc : Nat} {S : Nat → Prop} (h1 : MIx W S f sa d.kids ∧ Txx W S tv d.text) (h2 : ∀ b, S b → lo ≤ b ∧ b < W.heap.size ∧ lv.ownBlock ≠ some b) (h3 : d.kids.length ≤ sc) : Cx f lo W lv (ps ++ [d]) (xs ++ [.int .i64 d.kind, .string d.cons, tv, .slice sa d.kids.length sc]) := by
  have hl := h.len
  refine ⟨by simp [hl]; omega, fun j q hj => ?_⟩
  by_cases hlt : j < ps.length
  · rw [List.getElem?_append_left hlt] at hj
    obtain ⟨tv, sa, sc, S, t1, t2, t3, t4, t5, t6, t7⟩ := h.cells j q hj
    exact ⟨tv, sa, sc, S, t1, t2, t3, by rw [List.getElem?_append_left (by omega)]; exact t4, by rw [List.getElem?_append_left (by omega)]; exact t5, by rw [List.getElem?_append_left (by omega)]; exact t6, by rw [List.getElem?_append_left (by omega)]; exact t7⟩
  · have := (List.getElem?_eq_some_iff.1 hj).1
    simp at this
    obtain rfl : j = ps.length := by omega
    simp at hj
    subst hj
    refine ⟨tv, sa, sc, S, h1, h2, h3, ?_, ?_, ?_, ?_⟩
    · rw [List.getElem?_append_right (by omega), hl, Nat.sub_self]; rfl
    · rw [List.getElem?_append_right (by omega), hl, show ps.length * 4 + 1 - ps.length * 4 = 1 by omega]; rfl
    · rw [List.getElem?_append_right (by omega), hl, show ps.length * 4 + 2 - ps.length * 4 = 2 by omega]; rfl
    · rw [List.getElem?_append_right (by omega), hl, show ps.length * 4 + 3 - ps.length * 4 = 3 by omega]; rfl
theorem Cx.tin (h : Cx f lo W lv ps xs) (hr : W.ownsRow lo 25 4 lv ps.length xs) (hl : ps.length * 72 ≤ 140737488355328) : ∃ a c, lv = .slice a ps.length c ∧ ps.length ≤ c ∧ MIx W (fun b => lo ≤ b ∧ b < W.heap.size) (f + 1) a ps := by
  by_cases h0 : ps.length = 0
  · rcases hr.2 with ⟨e, _⟩ | ⟨g, cap, cur, e, _, _, hc, _⟩
    · exact ⟨none, 0, by rw [e, h0], by omega, hl, fun j d hj => by have := (List.getElem?_eq_some_iff.1 hj).1; omega⟩
    · exact ⟨_, _, e, hc, hl, fun j d hj => by have := (List.getElem?_eq_some_iff.1 hj).1; omega⟩
  · obtain ⟨g, c, rfl, hg, hgs, hc⟩ := row_at hr (by omega)
    refine ⟨_, c, rfl, hc, hl, fun j d hj => ?_⟩
    obtain ⟨tv, sa, sc, S, t1, t2, t3, t4, t5, t6, t7⟩ := h.cells j d hj
    have hlt := (List.getElem?_eq_some_iff.1 hj).1
    have hxl := h.len
    have hwd : ∀ b, S b → lo ≤ b ∧ b < W.heap.size := fun b hb => ⟨(t2 b hb).1, (t2 b hb).2.1⟩
    refine ⟨g, 0, rfl, ⟨hg, hgs⟩, ⟨rfl, row_tag hr, fun q => hr.frozenAt q⟩, tv, sa, sc, ?_, ?_, ?_, ?_, t1.2.wide hwd, t3, t1.1.wide hwd⟩
    · have := hr.cellAt (j * 4) (by omega)
      rw [Nat.zero_add]; rw [this]; exact t4
    · have := hr.cellAt (j * 4 + 1) (by omega)
      rw [Nat.zero_add]; rw [this]; exact t5
    · have := hr.cellAt (j * 4 + 2) (by omega)
      rw [Nat.zero_add]; rw [this]; exact t6
    · have := hr.cellAt (j * 4 + 3) (by omega)
      rw [Nat.zero_add]; rw [this]; exact t7
end
end Go.Proofs.YtlkcadibjmfmcaaDoor
