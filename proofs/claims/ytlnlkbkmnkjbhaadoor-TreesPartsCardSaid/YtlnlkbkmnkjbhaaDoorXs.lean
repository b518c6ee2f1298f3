/- What is written over when a tree is spoiled. -/
import Derived.Test.YtlnlkbkmnkjbhaaDoorXa
import Derived.Test.YtlnlkbkmnkjbhaaDoorU0
namespace Go.Proofs.YtlnlkbkmnkjbhaaDoor
open Go.RowKit

/-- Places by threes that hold trees whose kids lie at places of lower rank; all of them may be written. -/
structure Spl (U : Nat → Nat → Nat → Prop) (w : World) : Prop where
  al : ∀ R b o, U R b o → o % 3 = 0
  one : ∀ R b o, U R b o → (∀ q, w.frozen? ⟨b, q, none⟩ = false) ∧ b < w.heap.size ∧ ∃ (r : Int) (y : UInt8) (sa : Option Addr) (n sc : Nat), w.cell? ⟨b, o, none⟩ = some (.int .i64 r) ∧ w.cell? ⟨b, o + 1, none⟩ = some (.int .u8 (y.toNat : Int)) ∧ w.cell? ⟨b, o + 2, none⟩ = some (.slice sa n sc) ∧ n ≤ sc ∧ n * 40 ≤ 140737488355328 ∧ ∀ j, j < n → ∃ b' o', sa = some ⟨b', o', none⟩ ∧ ∃ R', R' < R ∧ U R' b' (o' + j * 3)
/-- The blocks of places. -/
def SplB (U : Nat → Nat → Nat → Prop) (b : Nat) : Prop := ∃ R o, U R b o
theorem Spl.keep {U : Nat → Nat → Nat → Prop} {w w' : World} (h : Spl U w) (hs : w.heap.size ≤ w'.heap.size) (hk : ∀ b, SplB U b → w'.heap[b]? = w.heap[b]?) : Spl U w' := by
  refine ⟨h.al, fun R b o hU => ?_⟩
  obtain ⟨hf, hlt, r, y, sa, n, sc, c0, c1, c2, hn, hb, hk'⟩ := h.one R b o hU
  have hB := hk b ⟨R, o, hU⟩
  have k : ∀ q, w'.cell? ⟨b, q, none⟩ = w.cell? ⟨b, q, none⟩ := fun q => World.cell?_of_block (a := ⟨b, q, none⟩) hB
  exact ⟨fun q => (frozen_of_block hB q).trans (hf q), by omega, r, y, sa, n, sc, (k _).trans c0, (k _).trans c1, (k _).trans c2, hn, hb, hk'⟩
/-- A place is written over. -/
theorem Spl.put {U : Nat → Nat → Nat → Prop} {w : World} (h : Spl U w) {R b o : Nat} (hU : U R b o) (r : Int) (y : UInt8) : Spl U (((w.setCell ⟨b, o, none⟩ (.int .i64 r)).setCell ⟨b, o + 1, none⟩ (.int .u8 (y.toNat : Int))).setCell ⟨b, o + 2, none⟩ (.slice none 0 0)) := by
  obtain ⟨A1, e1⟩ : ∃ A, w.setCell ⟨b, o, none⟩ (.int .i64 r) = A := ⟨_, rfl⟩
  obtain ⟨A2, e2⟩ : ∃ A, A1.setCell ⟨b, o + 1, none⟩ (.int .u8 (y.toNat : Int)) = A := ⟨_, rfl⟩
  obtain ⟨A3, e3⟩ : ∃ A, A2.setCell ⟨b, o + 2, none⟩ (.slice none 0 0) = A := ⟨_, rfl⟩
  rw [e1, e2, e3]
  have hz : A3.heap.size = w.heap.size := by rw [← e3, ← e2, ← e1]; simp [World.setCell]
  have hfz : ∀ a, A3.frozen? a = w.frozen? a := fun a => by rw [← e3, ← e2, ← e1, World.frozen?_setCell, World.frozen?_setCell, World.frozen?_setCell]
  have hfar : ∀ b' q, b ≠ b' → A3.cell? ⟨b', q, none⟩ = w.cell? ⟨b', q, none⟩ := fun b' q hne => by rw [← e3, ← e2, ← e1, World.cell?_setCell_far _ _ _ _ hne, World.cell?_setCell_far _ _ _ _ hne, World.cell?_setCell_far _ _ _ _ hne]
  have hoth : ∀ q, q ≠ o → q ≠ o + 1 → q ≠ o + 2 → A3.cell? ⟨b, q, none⟩ = w.cell? ⟨b, q, none⟩ := fun q h0 h1 h2 => by
    rw [← e3, ← e2, ← e1, World.cell?_setCell_other _ _ _ _ (by simp), World.cell?_setCell_other _ _ _ _ (by simp), World.cell?_setCell_other _ _ _ _ (by simp)]
  obtain ⟨_, _, r0, y0, sa0, n0, sc0, x0, x1, x2, _⟩ := h.one R b o hU
  have p0 : A1.cell? ⟨b, o, none⟩ = some (.int .i64 r) := by rw [← e1]; exact World.cell?_setCell_same' _ _ _ (by rw [x0]; rfl)
  have p1' : A1.cell? ⟨b, o + 1, none⟩ = w.cell? ⟨b, o + 1, none⟩ := by rw [← e1]; exact World.cell?_setCell_other _ _ _ _ (by simp)
  have p2' : A1.cell? ⟨b, o + 2, none⟩ = w.cell? ⟨b, o + 2, none⟩ := by rw [← e1]; exact World.cell?_setCell_other _ _ _ _ (by simp)
  have q0 : A2.cell? ⟨b, o, none⟩ = A1.cell? ⟨b, o, none⟩ := by rw [← e2]; exact World.cell?_setCell_other _ _ _ _ (by simp)
  have q1 : A2.cell? ⟨b, o + 1, none⟩ = some (.int .u8 (y.toNat : Int)) := by rw [← e2]; exact World.cell?_setCell_same' _ _ _ (by rw [p1', x1]; rfl)
  have q2 : A2.cell? ⟨b, o + 2, none⟩ = A1.cell? ⟨b, o + 2, none⟩ := by rw [← e2]; exact World.cell?_setCell_other _ _ _ _ (by simp)
  have u0 : A3.cell? ⟨b, o, none⟩ = A2.cell? ⟨b, o, none⟩ := by rw [← e3]; exact World.cell?_setCell_other _ _ _ _ (by simp)
  have u1 : A3.cell? ⟨b, o + 1, none⟩ = A2.cell? ⟨b, o + 1, none⟩ := by rw [← e3]; exact World.cell?_setCell_other _ _ _ _ (by simp)
  have u2 : A3.cell? ⟨b, o + 2, none⟩ = some (.slice none 0 0) := by rw [← e3]; exact World.cell?_setCell_same' _ _ _ (by rw [q2, p2', x2]; rfl)
  have ao := h.al R b o hU
  refine ⟨h.al, fun R' b' o' hU' => ?_⟩
  obtain ⟨hf, hlt, r', y', sa, n, sc, c0, c1, c2, hn, hb, hk'⟩ := h.one R' b' o' hU'
  have ao' := h.al R' b' o' hU'
  by_cases hb' : b = b'
  · subst hb'
    by_cases ho : o' = o
    · subst ho
      exact ⟨fun q => (hfz _).trans (hf q), by omega, r, y, none, 0, 0, u0.trans (q0.trans p0), u1.trans q1, u2, Nat.le_refl _, by decide, fun j hj => by omega⟩
    · exact ⟨fun q => (hfz _).trans (hf q), by omega, r', y', sa, n, sc, (hoth _ (by omega) (by omega) (by omega)).trans c0, (hoth _ (by omega) (by omega) (by omega)).trans c1, (hoth _ (by omega) (by omega) (by omega)).trans c2, hn, hb, hk'⟩
  · exact ⟨fun q => (hfz _).trans (hf q), by omega, r', y', sa, n, sc, (hfar _ _ hb').trans c0, (hfar _ _ hb').trans c1, (hfar _ _ hb').trans c2, hn, hb, hk'⟩
/-- The places of a tree that lies so. -/
def placesOf (w : World) (S : Nat → Prop) (R b o : Nat) : Prop := S b ∧ b < w.heap.size ∧ o % 3 = 0 ∧ (∀ q, w.frozen? ⟨b, q, none⟩ = false) ∧ ∃ (d : Tr) (f : Nat) (sa : Option Addr) (sc : Nat), dp d ≤ R ∧ w.cell? ⟨b, o, none⟩ = some (.int .i64 d.rule) ∧ w.cell? ⟨b, o + 1, none⟩ = some (.int .u8 (d.byte.toNat : Int)) ∧ w.cell? ⟨b, o + 2, none⟩ = some (.slice sa d.kids.length sc) ∧ d.kids.length ≤ sc ∧ TIx w S f sa d.kids
theorem TIx.place {w : World} {S : Nat → Prop} (hS : ∀ b, S b → b < w.heap.size) {f : Nat} {a : Option Addr} {l : List Tr} (h : TIx w S f a l) {j : Nat} {d : Tr} (hj : l[j]? = some d) : ∃ b o, a = some ⟨b, o, none⟩ ∧ placesOf w S (dp d) b (o + j * 3) := by
  match f, h with
  | 0, h =>
    have h' : l = [] := h
    subst h'; cases hj
  | f + 1, h =>
    obtain ⟨b, o, e, hs, ⟨ho, hf⟩, sa, sc, c0, c1, c2, hc, hk⟩ := h.2 j d hj
    exact ⟨b, o, e, hs, hS b hs, by omega, hf, d, f, sa, sc, Nat.le_refl _, c0, c1, c2, hc, hk⟩
theorem TIx.len {w : World} {S : Nat → Prop} {f : Nat} {a : Option Addr} {l : List Tr} (h : TIx w S f a l) : l.length * 40 ≤ 140737488355328 := by
  match f, h with
  | 0, h =>
    have h' : l = [] := h
    subst h'; decide
  | f + 1, h => exact h.1
theorem spl_places {w : World} {S : Nat → Prop} (hS : ∀ b, S b → b < w.heap.size) : Spl (placesOf w S) w := by
  refine ⟨fun R b o h => h.2.2.1, fun R b o h => ?_⟩
  obtain ⟨hs, hlt, ho, hf, d, f, sa, sc, hd, c0, c1, c2, hc, hk⟩ := h
  refine ⟨hf, hlt, d.rule, d.byte, sa, d.kids.length, sc, c0, c1, c2, hc, hk.len, fun j hj => ?_⟩
  obtain ⟨x, hx⟩ : ∃ x, d.kids[j]? = some x := ⟨d.kids[j], by simp⟩
  obtain ⟨b', o', e, hp⟩ := hk.place hS hx
  refine ⟨b', o', e, dp x, ?_, hp⟩
  have := dpL_mem hx
  rw [dp_eq] at hd
  omega
/-- A list that leads to places below a rank. -/
def Kd (U : Nat → Nat → Nat → Prop) (R : Nat) (sa : Option Addr) (n : Nat) : Prop := n * 40 ≤ 140737488355328 ∧ ∀ j, j < n → ∃ b' o', sa = some ⟨b', o', none⟩ ∧ ∃ R', R' < R ∧ U R' b' (o' + j * 3)
theorem TIx.kd {w : World} {S : Nat → Prop} (hS : ∀ b, S b → b < w.heap.size) {f : Nat} {a : Option Addr} {l : List Tr} (h : TIx w S f a l) : Kd (placesOf w S) (dpL l + 1) a l.length := by
  refine ⟨h.len, fun j hj => ?_⟩
  obtain ⟨x, hx⟩ : ∃ x, l[j]? = some x := ⟨l[j], by simp⟩
  obtain ⟨b', o', e, hp⟩ := h.place hS hx
  have := dpL_mem hx
  exact ⟨b', o', e, dp x, by omega, hp⟩
set_option maxRecDepth 100000 in
set_option maxHeartbeats 4000000 in
theorem spoil_any (U : Nat → Nat → Nat → Prop) : ∀ (R : Nat) (r : Int) (y : UInt8) (sa : Option Addr) (n sc : Nat) (w : World), Spl U w → Kd U R sa n →
    Calls Tryd.prog 32 #[.agg #[.int .i64 r, .int .u8 (y.toNat : Int), .slice sa n sc]] w fun e w' => (∃ v, e = .returned v) ∧ Spl U w' ∧ Ab (fun b => b < w.heap.size ∧ ¬ SplB U b) w w' := by
  intro R
  induction R using Nat.strongRecOn with
  | ind R ih =>
  intro r y sa n sc w hS hK
  have hlow : ∀ b, SplB U b → b < w.heap.size := fun b ⟨R, o, hU⟩ => (hS.one R b o hU).2.1
  obtain ⟨w1, hw1⟩ : ∃ w1, w.alloc (.cells #[.int .i64 r, .int .u8 (y.toNat : Int), .slice sa n sc] 27) = w1 := ⟨_, rfl⟩
  have hB1 : Below w.heap.size w w1 := by rw [← hw1]; exact (Below.refl _ _).alloc (Nat.le_refl _) _
  have s1 : w1.heap.size = w.heap.size + 1 := by rw [← hw1]; simp
  have a2 : w1.cell? ⟨w.heap.size, 2, none⟩ = some (.slice sa n sc) := by rw [← hw1]; exact cell_new 2 rfl
  have hS1 : Spl U w1 := hS.keep hB1.size (fun b hb => hB1.block b (hlow b hb))
  have hnb : ¬ SplB U w.heap.size := fun h => by have := hlow _ h; omega
  have hn40 := hK.1
  have HS1 : Hid _ := hS1
  have HSZ : Hid _ := s1
  have HI : Hid _ := ih
  have HKD : Hid _ := hK.2
  have HB1 : Hid _ := hB1
  have HA2 : Hid _ := a2
  clear ih hK hS hS1 hB1 s1 hlow
  go_enter Tryd.func32, Tryd.ntmps32
  go_wp2
  go_loopw [2] (fun i W => ∃ k : Nat, k ≤ n ∧ i = .int .i64 (k : Int) ∧ Spl U W ∧ Ab (fun b => b < w1.heap.size ∧ ¬ SplB U b) w1 W) (fun i _ => n - (intOf i).toNat)
  case atStart => exact ⟨0, by omega, rfl, HS1.out, Ab.refl _ _⟩
  case round =>
    obtain ⟨k, hk, rfl, hS, hA⟩ := hrel
    have b2 := (hA.cell (p := ⟨w.heap.size, 2, none⟩) ⟨by have := HSZ.out; show w.heap.size < _; omega, hnb⟩).trans HA2.out
    have HA : Hid _ := hA
    have hkI : (k : Int) ≤ 4000000000000 := by omega
    clear hA a2
    by_cases hlt : k < n
    · obtain ⟨b', o', hsa, R', hR', hU⟩ := HKD.out k hlt
      obtain ⟨hf, hbl, r', y', sa', n', sc', c0, c1, c2, hn', hb', hk'⟩ := hS.one R' b' _ hU
      have HC : Hid _ := fun (_ : Unit) => HI.out R' hR' r' y' sa' n' sc' wr hS ⟨hb', hk'⟩
      have HU : Hid _ := hU
      subst hsa
      clear hf hn' hb' hk' hU hS
      go_wp2_with (go_at_call 32; refine (HC.out ()).mono ?_)
      rintro e w2 ⟨⟨v, rfl⟩, hS2, hA2⟩
      have HA3 : Hid (Ab (fun b => b < w1.heap.size ∧ ¬ SplB U b) w1 w2) := HA.out.trans (hA2.mono (fun b hb => ⟨Nat.lt_of_lt_of_le hb.1 HA.out.size, hb.2⟩))
      have d2 := (HA3.out.cell (p := ⟨w.heap.size, 2, none⟩) ⟨by have := HSZ.out; show w.heap.size < _; omega, hnb⟩).trans HA2.out
      obtain ⟨hf, hbl2, r3, y3, sa3, n3, sc3, g0, g1, g2, _⟩ := hS2.one R' b' _ HU.out
      have f0 := hf (o' + k * 3)
      have f1 := hf (o' + k * 3 + 1)
      have f2 := hf (o' + k * 3 + 2)
      have HP : Hid _ := hS2.put HU.out (-9) 9
      have HNB : Hid (∀ b, ¬ SplB U b → b ≠ b') := fun b hb e => hb (by rw [e]; exact ⟨_, _, HU.out⟩)
      clear hS2 hA2 hf c0 c1 c2 b2
      go_wp2
      refine ⟨⟨k + 1, by omega, by go_num, HP.out, ?_⟩, by simp [intOf]; omega⟩
      exact HA3.out.trans ⟨rfl, rfl, rfl, by simp [World.setCell], fun b hb => set3_block (fun e => HNB.out b hb.2 e.symm) _ _ _ _ _ _⟩
    · obtain rfl : k = n := by omega
      have HF : Hid (Spl U wr ∧ Ab (fun b => b < w.heap.size ∧ ¬ SplB U b) w wr) := ⟨hS, ⟨HA.out.os.trans HB1.out.os, HA.out.tape.trans HB1.out.tape, HA.out.output.trans HB1.out.output, Nat.le_trans HB1.out.size HA.out.size, fun b hb => (HA.out.block b ⟨by have := HSZ.out; omega, hb.2⟩).trans (HB1.out.block b hb.1)⟩⟩
      clear hS
      go_wp2
      go_end0
      exact ⟨⟨_, rfl⟩, HF.out⟩
end Go.Proofs.YtlnlkbkmnkjbhaaDoor
